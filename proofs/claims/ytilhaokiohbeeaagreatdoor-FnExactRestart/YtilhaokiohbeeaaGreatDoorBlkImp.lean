/- The contracts of the program's Quorum, ballot and Voted. -/
import Derived.Test.YtilhaokiohbeeaaGreatDoorG25
-- UNF Gen
namespace Go.Proofs.YtilhaokiohbeeaaGreatDoor
open Go.RowKit
set_option maxHeartbeats 1000000 in
set_option maxRecDepth 100000 in
theorem implBallot_any (v n : Int) (w : World) (hv0 : -9223372036854775808 ≤ v) (hv1 : v ≤ 9223372036854775807) (hn0 : -9223372036854775808 ≤ n) (hn1 : n ≤ 9223372036854775807) (ht : Tab w) :
    Calls Tryz.prog 234 #[.int .i64 v, .int .i64 n] w fun e w' => e = .returned (.string (balS v n)) ∧ Below w.heap.size w w' := by
  have hsv := itoaS_size v hv0 hv1
  have hsn := itoaS_size n hn0 hn1
  go_enter Tryz.func234, Tryz.ntmps234
  go_wp2_with fail
  refine (fmt_any v _ hv0 hv1 ht).mono ?_
  rintro e w1 ⟨rfl, hw1⟩
  go_wp2_with fail
  refine (fmt_any n _ hn0 hn1 (ht.on hw1)).mono ?_
  rintro e w2 ⟨rfl, hw2⟩
  have hw := hw1.trans (hw2.mono hw1.size)
  clear hw1 hw2 ht
  go_wp2
  go_ret
  exact ⟨rfl, hw⟩
set_option maxHeartbeats 1000000 in
theorem viewOk_any (b : Bool) (v : Int) (h : inV v = b) (w : World) :
    Calls Tryz.prog 192 #[.int .i64 v] w fun e w' => e = .returned (.bool b) ∧ w' = w := by
  subst h
  by_cases h : 1 ≤ v
  · go_enter Tryz.func192, Tryz.ntmps192
    go_wp2
    go_ret
    exact ⟨ret_bool (by unfold inV; simp [h]), rfl⟩
  · go_enter Tryz.func192, Tryz.ntmps192
    go_wp2
    go_ret
    exact ⟨ret_bool (by unfold inV; simp; omega), rfl⟩
set_option maxHeartbeats 1000000 in
theorem nameOk_any (b : Bool) (n : Int) (h : inN n = b) (w : World) :
    Calls Tryz.prog 235 #[.int .i64 n] w fun e w' => e = .returned (.bool b) ∧ w' = w := by
  subst h
  by_cases h : 0 ≤ n
  · go_enter Tryz.func235, Tryz.ntmps235
    go_wp2
    go_ret
    exact ⟨ret_bool (by unfold inN; simp [h]), rfl⟩
  · go_enter Tryz.func235, Tryz.ntmps235
    go_wp2
    go_ret
    exact ⟨ret_bool (by unfold inN; simp; omega), rfl⟩
set_option maxHeartbeats 1000000 in
set_option maxRecDepth 100000 in
theorem implVoted_any (s v n : Int) (w : World) (hv0 : -9223372036854775808 ≤ v) (hv1 : v ≤ 9223372036854775807) (hn0 : -9223372036854775808 ≤ n) (hn1 : n ≤ 9223372036854775807) (ht : Tab w) :
    Calls Tryz.prog 212 #[.int .i64 s, .int .i64 v, .int .i64 n] w fun e w' => e = .returned (.agg (VC (votR s v n))) ∧ Below w.heap.size w w' := by
  have hsz := balS_size v n hv0 hv1 hn0 hn1
  have B0 : Below w.heap.size w (w.alloc (.cells (VC votZ) 36)) := below1 w (.cells (VC votZ) 36)
  have X0 : BoxV (w.alloc (.cells (VC votZ) 36)) w.heap.size votZ := boxV_new w votZ
  have HV : Hid (∀ b, inV v = b → ∀ W, Calls Tryz.prog 192 #[.int .i64 v] W fun e w' => e = .returned (.bool b) ∧ w' = W) := fun b h W => viewOk_any b v h W
  have HN : Hid (∀ b, inN n = b → ∀ W, Calls Tryz.prog 235 #[.int .i64 n] W fun e w' => e = .returned (.bool b) ∧ w' = W) := fun b h W => nameOk_any b n h W
  have HB : Hid (∀ W, Tab W → Calls Tryz.prog 234 #[.int .i64 v, .int .i64 n] W fun e w' => e = .returned (.string (balS v n)) ∧ Below W.heap.size W w') := fun W t => implBallot_any v n W hv0 hv1 hn0 hn1 t
  have HT : Hid (∀ W, Tab W → Calls Tryz.prog 233 #[.int .i64 s, .string (balS v n)] W fun e w' => e = .returned (.int .i64 (tag s (balS v n))) ∧ Below W.heap.size W w') := fun W _ => implTag_any s (balS v n) W (by omega)
  have HB0 : Hid (Tab w) := ht
  clear hv0 hv1 hn0 hn1 hsz ht
  go_enter Tryz.func212, Tryz.ntmps212
  go_wp2_with fail
  refine (HB.out _ (HB0.out.on B0)).mono ?_
  rintro e w1 ⟨rfl, hb1⟩
  have b1 : Below w.heap.size w w1 := B0.trans (Below.mono hb1 B0.size)
  have x1 : BoxV w1 w.heap.size votZ := X0.below hb1
  clear hb1 B0 X0
  go_wp2_with fail
  refine (HT.out _ (HB0.out.on b1)).mono ?_
  rintro e w2 ⟨rfl, hb2⟩
  have b2 := b1.trans (hb2.mono b1.size)
  have x2 := x1.below hb2
  clear hb2 b1 x1
  obtain ⟨t, htt⟩ : ∃ t, t = tag s (balS v n) := ⟨_, rfl⟩
  rw [← htt]
  obtain ⟨c0, c1, c2, c3⟩ := x2.facts
  obtain ⟨f0, f1, f2, f3⟩ := x2.fz
  have fin : ∀ y, votR s v n = y → ∀ V, V = putV w2 w.heap.size y → (Ending.returned (.agg (VC y)) = .returned (.agg (VC (votR s v n)))) ∧ Below w.heap.size w V := fun y hy V hV => ⟨by rw [hy], by rw [hV]; exact putV_below b2 (Nat.le_refl _)⟩
  have FIN : Hid (∀ y, votR s v n = y → ∀ V, V = putV w2 w.heap.size y → (Ending.returned (.agg (VC y)) = .returned (.agg (VC (votR s v n)))) ∧ Below w.heap.size w V) := fin
  obtain ⟨z0, z1, z2, z3⟩ := (x2.put votZ).facts
  obtain ⟨k0, k1, k2, k3⟩ := (x2.put ⟨v, n, s, t⟩).facts
  unfold putV at k0 k1 k2 k3 z0 z1 z2 z3
  unfold votZ at c0 c1 c2 c3 z0 z1 z2 z3
  simp only at c0 c1 c2 c3 k0 k1 k2 k3 z0 z1 z2 z3
  clear x2 b2 fin
  by_cases hs : 0 ≤ s ∧ s ≤ 6
  · have ht1 : Hid (t = (tagD s (balS v n) : Int)) := by unfold Hid; rw [htt]; exact tag_in _ hs.1 hs.2
    have htn : (t == -1) = false := beq_false_of_ne (by have := ht1.out; omega)
    have HS : Hid (decide ((0 : Int) ≤ s ∧ s ≤ 6) = true) := decide_eq_true hs
    clear htt hs
    cases hV : inV v with
    | false =>
      have HVf : Hid (inV v = false) := hV
      have RES : Hid (votR s v n = votZ) := by unfold Hid votR; rw [HS.out, hV]; rfl
      clear hV
      go_wp2_with fail
      refine (HV.out false HVf.out _).mono ?_
      rintro e w3 ⟨rfl, rfl⟩
      go_wp2
      exact bodyPost_ret (v := .agg #[.int .i64 0, .int .i64 0, .int .i64 0, .int .i64 0]) (by simp [results, Tryz.results212, go_sem, z0, z1, z2, z3]) rfl (FIN.out votZ RES.out _ rfl)
    | true =>
      have HVf : Hid (inV v = true) := hV
      cases hN : inN n with
      | false =>
        have HNf : Hid (inN n = false) := hN
        have RES : Hid (votR s v n = votZ) := by unfold Hid votR; rw [HS.out, hV, hN]; rfl
        clear hV hN
        go_wp2_with fail
        refine (HV.out true HVf.out _).mono ?_
        rintro e w3 ⟨rfl, rfl⟩
        go_wp2_with fail
        refine (HN.out false HNf.out _).mono ?_
        rintro e w3 ⟨rfl, rfl⟩
        go_wp2
        exact bodyPost_ret (v := .agg #[.int .i64 0, .int .i64 0, .int .i64 0, .int .i64 0]) (by simp [results, Tryz.results212, go_sem, z0, z1, z2, z3]) rfl (FIN.out votZ RES.out _ rfl)
      | true =>
        have HNf : Hid (inN n = true) := hN
        have RES : Hid (votR s v n = ⟨v, n, s, t⟩) := by unfold Hid votR; rw [HS.out, hV, hN]; unfold vtd; rw [← ht1.out]; rfl
        clear hV hN
        go_wp2_with fail
        refine (HV.out true HVf.out _).mono ?_
        rintro e w3 ⟨rfl, rfl⟩
        go_wp2_with fail
        refine (HN.out true HNf.out _).mono ?_
        rintro e w3 ⟨rfl, rfl⟩
        go_wp2
        exact bodyPost_ret (v := .agg #[.int .i64 v, .int .i64 n, .int .i64 s, .int .i64 t]) (by simp [results, Tryz.results212, go_sem, k0, k1, k2, k3]) rfl (FIN.out _ RES.out _ rfl)
  · have ht1 : t = -1 := by rw [htt]; exact tag_out _ (by omega)
    have RES : Hid (votR s v n = votZ) := by unfold Hid votR; rw [decide_eq_false hs]; rfl
    clear htt hs k0 k1 k2 k3
    subst ht1
    go_wp2
    exact bodyPost_ret (v := .agg #[.int .i64 0, .int .i64 0, .int .i64 0, .int .i64 0]) (by simp [results, Tryz.results212, go_sem, z0, z1, z2, z3]) rfl (FIN.out votZ RES.out _ rfl)
end Go.Proofs.YtilhaokiohbeeaaGreatDoor
