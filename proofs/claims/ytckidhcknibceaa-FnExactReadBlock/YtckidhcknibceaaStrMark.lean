/- The contracts of the laws' own helpers over slices of texts, over MarkText: alike, marked, held. -/
import Derived.Test.YtckidhcknibceaaMarkText
import Derived.Test.YtckidhcknibceaaRdText
import Derived.BigQuiet
import Derived.Deep.RegionWith
namespace Go.Proofs.Ytckidhcknibceaa
open Go.RowKit
set_option maxHeartbeats 400000 in
set_option maxRecDepth 100000 in
theorem eqTexts_same (va vb : Value) (bs : List ByteArray) (w : World) (ha : RdS w va bs) (hb : RdS w vb bs) :
    Calls Try.prog 29 #[va, vb] w fun e w' => e = .returned (.bool true) ∧ ∃ q, w' = w.drewN q := by
  obtain ⟨aa, ca, rfl, hla, hma, hA⟩ := ha
  obtain ⟨ab, cb, rfl, hlb, hmb, hB⟩ := hb
  unfold maxLen at hma hmb
  have hne : ((bs.length : Int) != (bs.length : Int)) = false := by simp
  rcases hA with rfl | ⟨ba, offa, rfl, hA⟩
  · go_enter Try.func29, Try.ntmps29
    go_wp2
    refine wp_loop_rounds 1 ?_
    rw [rounds_succ]
    go_wp2
    go_ret
    exact ⟨rfl, 0, rfl⟩
  · rcases hB with rfl | ⟨bb, offb, rfl, hB⟩
    · go_enter Try.func29, Try.ntmps29
      go_wp2
      refine wp_loop_rounds 1 ?_
      rw [rounds_succ]
      go_wp2
      go_ret
      exact ⟨rfl, 0, rfl⟩
    · go_enter Try.func29, Try.ntmps29
      go_wp2
      go_loopw [5] (fun i wr => ∃ k : Nat, k ≤ bs.length ∧ i = .int .i64 k ∧ ∃ q, wr = w.drewN q) (fun i _ => bs.length - (intOf i).toNat)
      case atStart => exact ⟨0, Nat.zero_le _, rfl, 0, rfl⟩
      case round =>
        obtain ⟨k, hk, rfl, q, rfl⟩ := hrel
        by_cases hlt : k < bs.length
        · have h1 := hA k hlt
          have h2 := hB k hlt
          clear hA hB
          go_wp2
          go_quiet (fail)
          go_wp2
          go_roundw
          case rel => exact ⟨k + 1, by omega, by go_num, _, rfl⟩
          case measure => simp [intOf]; omega
        · go_wp2
          go_ret
          exact ⟨rfl, q, rfl⟩

def smarks (k n : Nat) : List ByteArray := (List.range n).map fun i => mk (k + i)
theorem smarks_length (k n : Nat) : (smarks k n).length = n := by simp [smarks]
theorem smarks_succ (k n : Nat) : smarks k (n + 1) = smarks k n ++ [mk (k + n)] := by simp [smarks, List.range_succ]
theorem smarks_get (k n i : Nat) (h : i < (smarks k n).length) : (smarks k n)[i] = mk (k + i) := by simp [smarks]
theorem smark_step (k i : Nat) (bs : List ByteArray) (h : i < bs.length) : (smarks k i ++ bs.drop i).set i (mk (k + i)) = smarks k (i + 1) ++ bs.drop (i + 1) := by
  rw [smarks_succ, List.set_append_right _ _ (by rw [smarks_length]; omega), smarks_length, Nat.sub_self, List.drop_eq_getElem_cons h, List.set_cons_zero]
  simp
/-- What the marking leaves: nothing below the row's base has turned but for new blocks and the row itself. -/
theorem smark_frame {w wr w1 : World} {g : Nat} {u : Value} {j : Nat} (hg : w.grownBy wr (some g)) (hb : Below wr.heap.size wr w1) : w.grownBy (w1.setCell ⟨g, j, none⟩ u) (some g) :=
  ⟨hb.os.trans hg.os, hb.tape.trans hg.tape, hb.output.trans hg.output, by have := hg.size; have := hb.size; simp; omega, fun k hk hr => by
    rw [heap_setCell_other w1 ⟨g, j, none⟩ k u (fun e => hr (by simp [e])), hb.block k (by have := hg.size; omega)]
    exact hg.block k hk hr⟩
theorem grownBy_one (a : World) (row : Option Nat) : a.grownBy a row := ⟨rfl, rfl, rfl, Nat.le_refl _, fun _ _ _ => rfl⟩

set_option maxHeartbeats 400000 in
set_option maxRecDepth 100000 in
theorem smark_any (v : Value) (bs : List ByteArray) (base k : Nat) (w : World) (hk0 : 0 < k) (hk : k + bs.length ≤ 4194304) (hown : OwnS w base v bs) :
    Calls Try.prog 35 #[v, .int .i64 k] w fun e w' => e = .returned (.int .i64 ((k + bs.length : Nat) : Int)) ∧ OwnS w' base v (smarks k bs.length) ∧ w.grownBy w' v.ownBlock := by
  obtain ⟨g, cap, hv⟩ | ⟨hv, h0⟩ : (∃ g cap, v = .slice (some ⟨g, 0, none⟩) bs.length cap) ∨ (v = .slice none 0 0 ∧ bs = []) := by
    rcases hown.2 with ⟨rfl, h0⟩ | ⟨g, cap, cur, rfl, _⟩
    · exact .inr ⟨rfl, List.length_eq_zero_iff.1 h0⟩
    · exact .inl ⟨g, cap, rfl⟩
  · subst hv
    go_enter Try.func35, Try.ntmps35
    go_wp2
    go_loopw [1, 5] (fun kk i wr => ∃ j : Nat, j ≤ bs.length ∧ i = .int .i64 j ∧ kk = .int .i64 ((k : Int) + (j : Int)) ∧ OwnS wr base (.slice (some ⟨g, 0, none⟩) bs.length cap) (smarks k j ++ bs.drop j) ∧ w.grownBy wr (some g)) (fun _ i _ => bs.length - (intOf i).toNat)
    case atStart => exact ⟨0, Nat.zero_le _, rfl, by simp, by simpa [smarks] using hown, grownBy_one _ _⟩
    case round =>
      obtain ⟨j, hj, rfl, rfl, ho, hg⟩ := hrel
      have hlen : (smarks k j ++ bs.drop j).length = bs.length := by simp [smarks_length]; omega
      by_cases hlt : j < bs.length
      · go_wp2_with fail
        refine (markText_at _ (k + j) _ (by omega) (by omega) (by omega)).mono ?_
        rintro e1 w1 ⟨rfl, hb1⟩
        have ho1 := ho.below hb1
        have ho' : w1.ownsRow base 9 1 (.slice (some ⟨g, 0, none⟩) bs.length cap) bs.length (SV (smarks k j ++ bs.drop j)) := by have h := ho1; unfold OwnS at h; rwa [hlen] at h
        have hc := (ho'.cellAt j (by omega)).trans (SV_get _ j (by omega))
        have hf := ho'.frozenAt j
        have R1 : OwnS (w1.setCell ⟨g, j, none⟩ (.string (mk (k + j)))) base (.slice (some ⟨g, 0, none⟩) bs.length cap) (smarks k (j + 1) ++ bs.drop (j + 1)) := by
          have h := (ho'.stored j (.string (mk (k + j)))).1
          rw [← SV_set, smark_step k j bs hlt] at h
          have hl : (smarks k (j + 1) ++ bs.drop (j + 1)).length = bs.length := by simp [smarks_length]; omega
          unfold OwnS
          rw [hl]
          exact h
        have R2 : w.grownBy (w1.setCell ⟨g, j, none⟩ (.string (mk (k + j)))) (some g) := smark_frame hg hb1
        clear ho ho' ho1 hg hb1
        go_wp2
        go_roundw
        case rel => exact ⟨j + 1, by omega, by go_num, by go_num, R1, R2⟩
        case measure => simp [intOf]; omega
      · have hje : j = bs.length := by omega
        subst hje
        go_wp2
        go_ret
        exact ⟨by simp, by simpa using ho, hg⟩
  · subst hv
    subst h0
    go_enter Try.func35, Try.ntmps35
    go_wp2
    refine wp_loop_rounds 1 ?_
    rw [rounds_succ]
    go_wp2
    go_ret
    exact ⟨rfl, hown, grownBy_one _ _⟩

set_option maxHeartbeats 400000 in
set_option maxRecDepth 100000 in
theorem sheld_any (v : Value) (n k : Nat) (w : World) (hk0 : 0 < k) (hk : k + n ≤ 4194304) (hr : RdS w v (smarks k n)) :
    Calls Try.prog 37 #[v, .int .i64 k] w fun e w' => e = .returned (.int .i64 ((k + n : Nat) : Int)) ∧ Below w.heap.size w w' := by
  obtain ⟨a, cap, hv, hl, hm, hA⟩ := hr
  rw [smarks_length] at hv hl
  subst hv
  by_cases h0 : n = 0
  · subst h0
    go_enter Try.func37, Try.ntmps37
    go_wp2
    refine wp_loop_rounds 1 ?_
    rw [rounds_succ]
    go_wp2
    go_ret
    exact ⟨rfl, Below.refl _ _⟩
  · obtain ⟨b, off, rfl, hc⟩ : ∃ b off, a = some ⟨b, off, none⟩ ∧ ∀ i, i < n → w.cell? ⟨b, off + i, none⟩ = some (.string (mk (k + i))) := by
      rcases hA with h | ⟨b, off, ha, hc⟩
      · have := congrArg List.length h; rw [smarks_length] at this; exact absurd this h0
      · refine ⟨b, off, ha, fun i hi => ?_⟩
        have h := hc i (by rw [smarks_length]; exact hi)
        rw [smarks_get] at h
        exact h
    clear hA
    go_enter Try.func37, Try.ntmps37
    go_wp2
    go_loopw [1, 5] (fun kk i wr => ∃ j : Nat, j ≤ n ∧ i = .int .i64 j ∧ kk = .int .i64 ((k : Int) + (j : Int)) ∧ Below w.heap.size w wr) (fun _ i _ => n - (intOf i).toNat)
    case atStart => exact ⟨0, Nat.zero_le _, rfl, by simp, Below.refl _ _⟩
    case round =>
      obtain ⟨j, hj, rfl, rfl, hb⟩ := hrel
      by_cases hlt : j < n
      · have h1 : wr.cell? ⟨b, off + j, none⟩ = some (.string (mk (k + j))) := by rw [hb.cell (World.block_lt_of_cell? w _ (hc j hlt))]; exact hc j hlt
        have hlt2 := World.block_lt_of_cell? wr _ h1
        clear hc
        go_wp2
        go_region_with (go_at_call 53; refine (markText_at _ (k + j) _ (by omega) (by omega) (by omega)).mono ?_; rintro e w' ⟨rfl, hb'⟩; have h2 : w'.cell? ⟨b, off + j, none⟩ = some (.string (mk (k + j))) := (hb'.cell (by simpa using hlt2)).trans (by simpa using h1); have hbw : Below w.heap.size w w' := (Below.drew hb).trans (hb'.mono (by simpa using hb.size)))
        all_goals
          clear hb h1
          go_wp2
          go_roundw
          case rel => exact ⟨j + 1, by omega, by go_num, by go_num, by assumption⟩
          case measure => simp [intOf]; omega
      · have hje : j = n := by omega
        subst hje
        go_wp2
        go_ret
        exact ⟨by simp, hb⟩
theorem smark_one (v : Value) (bs : List ByteArray) (base : Nat) (w : World) (hk : bs.length ≤ 2097152) (hown : OwnS w base v bs) :
    Calls Try.prog 35 #[v, .int .i64 1] w fun e w' => e = .returned (.int .i64 (1 + (bs.length : Int))) ∧ OwnS w' base v (smarks 1 bs.length) ∧ w.grownBy w' v.ownBlock := by
  have h := smark_any v bs base 1 w (by omega) (by omega) hown
  rw [Int.natCast_add] at h
  exact h
theorem sheld_one (v : Value) (n : Nat) (w : World) (hk : n ≤ 2097152) (hr : RdS w v (smarks 1 n)) :
    Calls Try.prog 37 #[v, .int .i64 1] w fun e w' => e = .returned (.int .i64 (1 + (n : Int))) ∧ Below w.heap.size w w' := by
  have h := sheld_any v n 1 w (by omega) (by omega) hr
  rw [Int.natCast_add] at h
  exact h
end Go.Proofs.Ytckidhcknibceaa
