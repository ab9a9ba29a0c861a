/- The contracts of the law of texts' own helpers: likeTexts at like lists, pick, big. -/
import Derived.Test.YtbldoeadmnepkaaStrBase
import Derived.BigQuiet
namespace Go.Proofs.Ytbldoeadmnepkaa
open Go.RowKit
set_option maxHeartbeats 400000 in
set_option maxRecDepth 100000 in
theorem like_same (va vb : Value) (bs : List ByteArray) (w : World) (ha : RdS w va bs) (hb : RdS w vb bs) :
    Calls Try.prog 23 #[va, vb] w fun e w' => e = .returned (.bool true) ∧ ∃ q, w' = w.drewN q := by
  obtain ⟨aa, ca, rfl, hla, hma, hA⟩ := ha
  obtain ⟨ab, cb, rfl, hlb, hmb, hB⟩ := hb
  unfold maxLen at hma hmb
  have hne : ((bs.length : Int) != (bs.length : Int)) = false := by simp
  rcases hA with rfl | ⟨ba, offa, rfl, hA⟩
  · go_enter Try.func23, Try.ntmps23
    go_wp2
    refine wp_loop_rounds 1 ?_
    rw [rounds_succ]
    go_wp2
    go_ret
    exact ⟨rfl, 0, rfl⟩
  · rcases hB with rfl | ⟨bb, offb, rfl, hB⟩
    · go_enter Try.func23, Try.ntmps23
      go_wp2
      refine wp_loop_rounds 1 ?_
      rw [rounds_succ]
      go_wp2
      go_ret
      exact ⟨rfl, 0, rfl⟩
    · go_enter Try.func23, Try.ntmps23
      go_wp2
      go_loopw [5] (fun i wr => ∃ k : Nat, k ≤ bs.length ∧ i = .int .i64 k ∧ ∃ q, wr = w.drewN q) (fun i _ => bs.length - (intOf i).toNat)
      case atStart => exact ⟨0, Nat.zero_le _, rfl, 0, rfl⟩
      case round =>
        obtain ⟨k, hk, rfl, q, rfl⟩ := hrel
        by_cases hlt : k < bs.length
        · have h1 := hA k hlt
          have h2 := hB k hlt
          clear hA hB
          go_wp2
          go_quiet (fail)
          go_wp2
          go_roundw
          case rel => exact ⟨k + 1, by omega, by go_num, _, rfl⟩
          case measure => simp [intOf]; omega
        · go_wp2
          go_ret
          exact ⟨rfl, q, rfl⟩
set_option maxHeartbeats 400000 in
set_option maxRecDepth 100000 in
theorem big_any (v : Value) (bs : List UInt8) (w : World) (hr : Rd w v bs) :
    Calls Try.prog 5 #[v] w fun e w' => e = .returned (.bool (decide (4096 < (bs.length : Int)))) ∧ w' = w := by
  obtain ⟨a, cap, rfl, hl, hm, _⟩ := hr
  unfold maxLen at hm
  go_enter Try.func5, Try.ntmps5
  go_wp2
  go_ret
  exact ⟨rfl, rfl⟩
/-- What pick leaves: a number below n. -/
def PickPost (w : World) (n : Int) (e : Ending) (w' : World) : Prop := w' = w ∧ ∃ x : Int, e = .returned (.int .i64 x) ∧ 0 ≤ x ∧ x < n
set_option maxHeartbeats 400000 in
set_option maxRecDepth 100000 in
theorem pick_any (v : Value) (bs : List UInt8) (n : Int) (w : World) (hr : Rd w v bs) (hb : bs.length ≤ 4096) (hn : 0 < n) (hn2 : n ≤ 1099511627776) :
    Calls Try.prog 25 #[v, .int .i64 1, .int .i64 n] w fun e w' => PickPost w n e w' := by
  obtain ⟨a, cap, rfl, hl, hm, hA⟩ := hr
  unfold maxLen at hm
  go_enter Try.func25, Try.ntmps25
  go_wp2
  go_loop [7, 8] (fun kk ii => ∃ (k : Nat) (y : Int), k ≤ bs.length ∧ ii = .int .i64 k ∧ kk = .int .i64 y ∧ 0 ≤ y ∧ y ≤ 1000003) (fun _ ii => bs.length - (intOf ii).toNat)
  case atStart => exact ⟨0, _, Nat.zero_le _, rfl, rfl, by omega, by omega⟩
  case round =>
    obtain ⟨k, y, hk, rfl, rfl, hy0, hy1⟩ := hrel
    by_cases hlt : k < bs.length
    · obtain ⟨b, off, ha, hc⟩ : ∃ b off, a = some ⟨b, off, none⟩ ∧ w.cell? ⟨b, off + k, none⟩ = some (.int .u8 (bs[k].toNat : Int)) := by
        rcases hA with h | ⟨b, off, ha, hc⟩
        · subst h; simp at hlt
        · exact ⟨b, off, ha, hc k hlt⟩
      rw [ha]
      obtain ⟨d, hd⟩ : ∃ d : Nat, d = bs[k].toNat := ⟨_, rfl⟩
      have hd8 : d < 256 := by rw [hd]; exact UInt8.toNat_lt _
      rw [← hd] at hc
      clear hA hd
      go_wp2
      go_round
      case rel => exact ⟨k + 1, _, by omega, by go_num, rfl, by omega, by omega⟩
      case measure => simp [intOf]; omega
    · clear hA
      have hm0 := Int.emod_nonneg y (show n ≠ 0 by omega)
      have hm1 := Int.emod_lt_of_pos y hn
      go_wp2
      go_ret
      exact ⟨rfl, _, rfl, hm0, hm1⟩
end Go.Proofs.Ytbldoeadmnepkaa
