/- The contracts of the laws' own looks: a code that is too long, numbers that are alike. -/
-- UNF Gen
import Derived.Test.YtmfopbkhlekhkaaDoorNumBase
import Derived.BigQuiet
namespace Go.Proofs.YtmfopbkhlekhkaaDoor
open Go.RowKit
set_option maxHeartbeats 400000 in
set_option maxRecDepth 100000 in
theorem bigL_any (v : Value) (bs : List UInt8) (w : World) (hr : Rd w v bs) :
    Calls Tryd.prog 7 #[v] w fun e w' => e = .returned (.bool (decide (4096 < (bs.length : Int)))) ∧ w' = w := by
  obtain ⟨a, cap, rfl, hl, hm, _⟩ := hr
  unfold maxLen at hm
  go_enter Tryd.func7, Tryd.ntmps7
  go_wp2
  go_ret
  exact ⟨rfl, rfl⟩
set_option maxHeartbeats 400000 in
set_option maxRecDepth 100000 in
theorem likeIntsL_same (va vb : Value) (bs : List Int) (w : World) (ha : RdI w va bs) (hb : RdI w vb bs) :
    Calls Tryd.prog 19 #[va, vb] w fun e w' => e = .returned (.bool true) ∧ ∃ q, w' = w.drewN q := by
  obtain ⟨aa, ca, rfl, hla, hma, -, hA⟩ := ha
  obtain ⟨ab, cb, rfl, hlb, hmb, -, hB⟩ := hb
  unfold maxLen at hma hmb
  have hne : ((bs.length : Int) != (bs.length : Int)) = false := by simp
  rcases hA with rfl | ⟨ba, offa, rfl, hA⟩
  · go_enter Tryd.func19, Tryd.ntmps19
    go_wp2
    refine wp_loop_rounds 1 ?_
    rw [rounds_succ]
    go_wp2
    go_ret
    exact ⟨rfl, 0, rfl⟩
  · rcases hB with rfl | ⟨bb, offb, rfl, hB⟩
    · go_enter Tryd.func19, Tryd.ntmps19
      go_wp2
      refine wp_loop_rounds 1 ?_
      rw [rounds_succ]
      go_wp2
      go_ret
      exact ⟨rfl, 0, rfl⟩
    · go_enter Tryd.func19, Tryd.ntmps19
      go_wp2
      go_loopw [5] (fun i wr => ∃ k : Nat, k ≤ bs.length ∧ i = .int .i64 k ∧ ∃ q, wr = w.drewN q) (fun i _ => bs.length - (intOf i).toNat)
      case atStart => exact ⟨0, Nat.zero_le _, rfl, 0, rfl⟩
      case round =>
        obtain ⟨k, hk, rfl, q, rfl⟩ := hrel
        by_cases hlt : k < bs.length
        · have h1 := hA k hlt
          have h2 := hB k hlt
          have h3 : (bs[k] != bs[k]) = false := by simp
          clear hA hB
          go_wp2
          go_quiet (fail)
          go_wp2
          go_roundw
          case rel => exact ⟨k + 1, by omega, by go_num, _, rfl⟩
          case measure => simp [intOf]; omega
        · go_wp2
          go_ret
          exact ⟨rfl, q, rfl⟩
theorem likeIZ (va vb : Value) (bs : List Int) (w : World) (ha : RdI w va bs) (hb : RdI w vb bs) :
    Calls Tryd.prog 19 #[va, vb] w fun e w' => e = .returned (.bool true) ∧ Below w.heap.size w w' :=
  (likeIntsL_same va vb bs w ha hb).mono fun e w' ⟨a, q, b⟩ => ⟨a, by rw [b]; exact below_drewN (Below.refl _ _) q⟩
end Go.Proofs.YtmfopbkhlekhkaaDoor
