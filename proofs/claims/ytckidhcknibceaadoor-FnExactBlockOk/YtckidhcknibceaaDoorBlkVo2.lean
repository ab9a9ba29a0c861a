/- The contract of the model's Voted. -/
-- UNF Gen
import Derived.Test.YtckidhcknibceaaDoorBlkVot
namespace Go.Proofs.YtckidhcknibceaaDoor
open Go.RowKit
theorem l1InB_any (b : Bool) (n lo hi : Int) (h : decide (lo ≤ n ∧ n ≤ hi) = b) (w : World) :
    Calls Tryd.prog 56 #[.int .i64 n, .int .i64 lo, .int .i64 hi] w fun e w' => e = .returned (.bool b) ∧ w' = w := by
  rw [← h]
  refine (l1InT_any n lo hi w).mono ?_
  rintro e w1 ⟨rfl, rfl⟩
  exact ⟨ret_bool (by simp), rfl⟩
theorem l15NameB_any (b : Bool) (n : Int) (h : inN n = b) (w : World) :
    Calls Tryd.prog 57 #[.int .i64 n] w fun e w' => e = .returned (.bool b) ∧ w' = w := by rw [← h]; exact l15Name_any n w
theorem BoxV.load {W : World} {b : Nat} {x : Vot} (h : BoxV W b x) : W.cell? ⟨b, 0, none⟩ = some (.int .i64 x.vw) := h.facts.1
set_option maxHeartbeats 1000000 in
set_option maxRecDepth 100000 in
theorem specVoted_any (s v n : Int) (w : World) (hs0 : -9223372036854775808 ≤ s) (hs1 : s ≤ 9223372036854775807) (hv0 : -9223372036854775808 ≤ v) (hv1 : v ≤ 9223372036854775807) (hn0 : -9223372036854775808 ≤ n) (hn1 : n ≤ 9223372036854775807) :
    Calls Tryd.prog 19 #[.int .i64 s, .int .i64 v, .int .i64 n] w fun e w' => e = .returned (.agg (VC (votR s v n))) ∧ Below w.heap.size w w' := by
  have B0 : Hid (Below w.heap.size w (w.alloc (.cells (VC votZ) 35))) := below1 w (.cells (VC votZ) 35)
  have X0 : Hid (BoxV (w.alloc (.cells (VC votZ) 35)) w.heap.size votZ) := boxV_new w votZ
  have HI : Hid (∀ b x lo hi, decide (lo ≤ x ∧ x ≤ hi) = b → ∀ W, Calls Tryd.prog 56 #[.int .i64 x, .int .i64 lo, .int .i64 hi] W fun e w' => e = .returned (.bool b) ∧ w' = W) := fun b x lo hi h W => l1InB_any b x lo hi h W
  have HN : Hid (∀ b, inN n = b → ∀ W, Calls Tryd.prog 57 #[.int .i64 n] W fun e w' => e = .returned (.bool b) ∧ w' = W) := fun b h W => l15NameB_any b n h W
  have HV : Hid (∀ W, Calls Tryd.prog 58 #[.int .i64 s, .int .i64 v, .int .i64 n] W fun e w' => e = .returned (.agg (VC (vtd s v n))) ∧ Below W.heap.size W w') := fun W => l15Voted_any s v n W hs0 hs1 hv0 hv1 hn0 hn1
  clear hs0 hs1 hv0 hv1 hn0 hn1
  cases hS : decide ((0 : Int) ≤ s ∧ s ≤ 6) with
  | false =>
    have HS : Hid (decide ((0 : Int) ≤ s ∧ s ≤ 6) = false) := hS
    have RES : Hid (votR s v n = votZ) := by unfold Hid votR; rw [hS]; rfl
    clear hS HN HV X0
    go_enter Tryd.func19, Tryd.ntmps19
    go_wp2_with fail
    refine (HI.out false _ _ _ HS.out _).mono ?_
    rintro e w1 ⟨rfl, rfl⟩
    go_wp2
    exact bodyPost_ret (v := .agg #[.int .i64 0, .int .i64 0, .int .i64 0, .int .i64 0]) (by simp [results, Tryd.results19, go_sem]) rfl ⟨by rw [RES.out]; rfl, B0.out⟩
  | true =>
   have HS : Hid (decide ((0 : Int) ≤ s ∧ s ≤ 6) = true) := hS
   cases hV : inV v with
   | false =>
    have HW : Hid (decide ((1 : Int) ≤ v ∧ v ≤ 100000) = false) := hV
    have RES : Hid (votR s v n = votZ) := by unfold Hid votR; rw [hS, hV]; rfl
    clear hS hV HN HV X0
    go_enter Tryd.func19, Tryd.ntmps19
    go_wp2_with fail
    refine (HI.out true _ _ _ HS.out _).mono ?_
    rintro e w1 ⟨rfl, rfl⟩
    go_wp2_with fail
    refine (HI.out false _ _ _ HW.out _).mono ?_
    rintro e w1 ⟨rfl, rfl⟩
    go_wp2
    exact bodyPost_ret (v := .agg #[.int .i64 0, .int .i64 0, .int .i64 0, .int .i64 0]) (by simp [results, Tryd.results19, go_sem]) rfl ⟨by rw [RES.out]; rfl, B0.out⟩
   | true =>
   have HW : Hid (decide ((1 : Int) ≤ v ∧ v ≤ 100000) = true) := hV
   cases hN : inN n with
   | false =>
    have HM : Hid (inN n = false) := hN
    have RES : Hid (votR s v n = votZ) := by unfold Hid votR; rw [hS, hV, hN]; rfl
    clear hS hV hN HV X0
    go_enter Tryd.func19, Tryd.ntmps19
    go_wp2_with fail
    refine (HI.out true _ _ _ HS.out _).mono ?_
    rintro e w1 ⟨rfl, rfl⟩
    go_wp2_with fail
    refine (HI.out true _ _ _ HW.out _).mono ?_
    rintro e w1 ⟨rfl, rfl⟩
    go_wp2_with fail
    refine (HN.out false HM.out _).mono ?_
    rintro e w1 ⟨rfl, rfl⟩
    go_wp2
    exact bodyPost_ret (v := .agg #[.int .i64 0, .int .i64 0, .int .i64 0, .int .i64 0]) (by simp [results, Tryd.results19, go_sem]) rfl ⟨by rw [RES.out]; rfl, B0.out⟩
   | true =>
    have HM : Hid (inN n = true) := hN
    have RES : Hid (votR s v n = vtd s v n) := by unfold Hid votR; rw [hS, hV, hN]; rfl
    clear hS hV hN
    obtain ⟨t, htt⟩ : ∃ t : Int, t = (vtd s v n).tg := ⟨_, rfl⟩
    have HE : Hid (vtd s v n = ⟨v, n, s, t⟩) := by unfold Hid; rw [htt]; rfl
    clear htt
    go_enter Tryd.func19, Tryd.ntmps19
    go_wp2_with fail
    refine (HI.out true _ _ _ HS.out _).mono ?_
    rintro e w1 ⟨rfl, rfl⟩
    go_wp2_with fail
    refine (HI.out true _ _ _ HW.out _).mono ?_
    rintro e w1 ⟨rfl, rfl⟩
    go_wp2_with fail
    refine (HN.out true HM.out _).mono ?_
    rintro e w1 ⟨rfl, rfl⟩
    go_wp2_with fail
    refine (HV.out _).mono ?_
    rw [HE.out]
    rintro e w2 ⟨rfl, hb⟩
    have b2 : Below w.heap.size w w2 := B0.out.trans (Below.mono hb B0.out.size)
    have x2 : BoxV w2 w.heap.size votZ := X0.out.below hb
    obtain ⟨c0, c1, c2, c3⟩ := x2.facts
    obtain ⟨f0, f1, f2, f3⟩ := x2.fz
    obtain ⟨k0, k1, k2, k3⟩ := (x2.put ⟨v, n, s, t⟩).facts
    have HP : Hid (Below w.heap.size w (putV w2 w.heap.size ⟨v, n, s, t⟩)) := putV_below b2 (Nat.le_refl _)
    unfold putV at k0 k1 k2 k3 HP
    simp only at k0 k1 k2 k3 HP
    unfold votZ at c0 c1 c2 c3
    simp only at c0 c1 c2 c3
    clear x2 b2 hb X0 B0
    unfold VC
    go_wp2
    exact bodyPost_ret (v := .agg #[.int .i64 v, .int .i64 n, .int .i64 s, .int .i64 t]) (by simp [results, Tryd.results19, go_sem, k0, k1, k2, k3]) rfl ⟨by rw [RES.out, HE.out]; rfl, HP.out⟩
end Go.Proofs.YtckidhcknibceaaDoor
