/- Marks of Offers in a slice with less room than its row has. -/
-- UNF Gen
import Derived.Test.YteohiicaiilicaaOffMark
import Derived.Test.YteohiicaiilicaaOffHeap
namespace Go.Proofs.Yteohiicaiilicaa
open Go.RowKit
set_option maxHeartbeats 4000000 in
set_option maxRecDepth 100000 in
theorem omark_cap (a : Option Addr) (n cp c0 : Nat) (bs : List Off) (base k : Nat) (w : World) (hk0 : 0 < k) (hk : k + 2 * bs.length ≤ 4194304) (hown : OwnO w base (.slice a n c0) bs) (h1 : n ≤ cp) (_h2 : cp ≤ c0) :
    Calls Try.prog 27 #[.slice a n cp, .int .i64 (k : Int)] w fun e w' => e = .returned (.int .i64 ((k + 2 * bs.length : Nat) : Int)) ∧ OwnO w' base (.slice a n c0) (omarks k bs.length) ∧ w.grownBy w' (Value.slice a n c0).ownBlock := by
  obtain ⟨hn, -, hcm, -⟩ := ownO_shape hown
  unfold maxLen at hcm
  obtain ⟨g, ha⟩ | ⟨ha, h0⟩ : (∃ g, a = some ⟨g, 0, none⟩) ∨ (a = none ∧ bs = []) := by
    rcases hown.2 with ⟨hv, h0⟩ | ⟨g, cap, cur, hv, _⟩
    · simp only [Value.slice.injEq] at hv
      exact .inr ⟨hv.1, List.length_eq_zero_iff.1 h0⟩
    · simp only [Value.slice.injEq] at hv
      exact .inl ⟨g, hv.1⟩
  · subst ha
    subst hn
    have hcl : bs.length ≤ cp := h1
    go_enter Try.func27, Try.ntmps27
    go_wp2
    go_loopw [1, 5] (fun kk i wr => ∃ j : Nat, j ≤ bs.length ∧ i = .int .i64 j ∧ kk = .int .i64 ((k : Int) + 2 * (j : Int)) ∧ OwnO wr base (.slice (some ⟨g, 0, none⟩) bs.length c0) (omarks k j ++ bs.drop j) ∧ w.grownBy wr (some g)) (fun _ i _ => bs.length - (intOf i).toNat)
    case atStart => exact ⟨0, Nat.zero_le _, rfl, by simp, by simpa [omarks] using hown, grownBy_one _ _⟩
    case round =>
      obtain ⟨j, hj, rfl, rfl, ho, hg⟩ := hrel
      have hlen : (omarks k j ++ bs.drop j).length = bs.length := by simp [omarks_length]; omega
      by_cases hlt : j < bs.length
      · have ho1 : wr.ownsRow base 26 2 (.slice (some ⟨g, 0, none⟩) bs.length c0) bs.length (OV (omarks k j ++ bs.drop j)) := by have h := ho; unfold OwnO at h; rwa [hlen] at h
        have d0 := (ownO_cell ho1 hlen.symm j hlt).1
        have f0 := ho1.frozenAt (j * 2)
        have R1 := ownO_store ho1 (k := j) (j := 0) (by omega) (by omega) (u := .int .i64 ((k : Int) + 2 * (j : Int))) (e' := { nthO (omarks k j ++ bs.drop j) j with fee := (k : Int) + 2 * (j : Int) }) rfl
        have G1 : w.grownBy (wr.setCell ⟨g, j * 2, none⟩ (.int .i64 ((k : Int) + 2 * (j : Int)))) (some g) := smark_frame hg (Below.refl _ _)
        obtain ⟨x, hx⟩ : ∃ x, x = nthO (omarks k j ++ bs.drop j) j := ⟨_, rfl⟩
        rw [← hx] at R1
        have H1 : Hid (World.ownsRow _ _ _ _ _ _ _) := R1
        clear ho ho1 hg R1 hx
        have hjc : j < cp := by omega
        go_wp2_with fail
        refine (markText_at _ (k + 2 * j + 1) _ (by omega) (by omega) (by omega)).mono ?_
        rintro e2 w2 ⟨rfl, hb2⟩
        have ho2 := own_below H1.out hb2
        have l2 : ((omarks k j ++ bs.drop j).set j { x with fee := (k : Int) + 2 * (j : Int) }).length = bs.length := by rw [List.length_set]; exact hlen
        have d1 := (ownO_cell ho2 l2.symm j hlt).2
        have f1 := ho2.frozenAt (j * 2 + 1)
        have R2 := ownO_store ho2 (k := j) (j := 1) (by omega) (by omega) (u := .string (mk (k + 2 * j + 1))) (e' := omk (k + 2 * j)) (by
          rw [nthO_set_same (by omega)]
          show [Value.int .i64 ((k : Int) + 2 * (j : Int)), Value.string (mk (k + 2 * j + 1))] = OC (omk (k + 2 * j))
          have e1 : (k : Int) + 2 * (j : Int) = ((k + 2 * j : Nat) : Int) := by omega
          rw [e1]
          rfl)
        rw [List.set_set, omark_step k j bs hlt] at R2
        have G2 : w.grownBy (w2.setCell ⟨g, j * 2 + 1, none⟩ (.string (mk (k + 2 * j + 1)))) (some g) := smark_frame G1 hb2
        have H2 : Hid (World.ownsRow _ _ _ _ _ _ _) := R2
        clear ho2 R2 H1 G1 hb2 d0 f0
        go_wp2
        go_roundw
        case rel =>
          have hl5 : (omarks k (j + 1) ++ bs.drop (j + 1)).length = bs.length := by simp [omarks_length]; omega
          exact ⟨j + 1, by omega, by go_num, by go_num, by unfold OwnO; rw [hl5]; exact H2.out, G2⟩
        case measure => simp [intOf]; omega
      · have hje : j = bs.length := by omega
        subst hje
        go_wp2
        go_ret
        exact ⟨ret_intE (by omega), by simpa using ho, hg⟩
  · subst ha
    subst h0
    subst hn
    go_enter Try.func27, Try.ntmps27
    go_wp2
    refine wp_loop_rounds 1 ?_
    rw [rounds_succ]
    go_wp2
    go_ret
    exact ⟨rfl, hown, grownBy_one _ _⟩
theorem omarkC (a : Option Addr) (n cp c0 : Nat) (bs : List Off) (base k : Nat) (z : Int) (w : World) (hz : z = (k : Int)) (hk : 0 < k ∧ k + 2 * bs.length ≤ 4194304) (hown : OwnO w base (.slice a n c0) bs) (h1 : n ≤ cp) (h2 : cp ≤ c0) :
    Calls Try.prog 27 #[.slice a n cp, .int .i64 z] w fun e w' => e = .returned (.int .i64 (z + 2 * (bs.length : Int))) ∧ OwnO w' base (.slice a n c0) (omarks k bs.length) ∧ w.grownBy w' (Value.slice a n c0).ownBlock := by
  subst hz
  have h := omark_cap a n cp c0 bs base k w hk.1 hk.2 hown h1 h2
  rwa [show ((k + 2 * bs.length : Nat) : Int) = (k : Int) + 2 * (bs.length : Int) by omega] at h
end Go.Proofs.Yteohiicaiilicaa
