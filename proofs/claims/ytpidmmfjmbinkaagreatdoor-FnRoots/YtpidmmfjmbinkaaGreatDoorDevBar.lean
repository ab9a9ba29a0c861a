/- The contracts of both Barrier, of the program's Cut, and of both Lies. -/
import Derived.Test.YtpidmmfjmbinkaaGreatDoorDevSet
-- UNF Gen
namespace Go.Proofs.YtpidmmfjmbinkaaGreatDoor
open Go.RowKit
set_option maxHeartbeats 400000 in
theorem bar1_any (x : Value) (w : World) : Calls Tryz.prog 56 #[x] w fun e w' => e = .returned (.bool true) ∧ w' = w := by
  go_enter Tryz.func56, Tryz.ntmps56
  go_wp2
  go_ret
  exact ⟨rfl, rfl⟩
set_option maxHeartbeats 4000000 in
set_option maxRecDepth 100000 in
theorem implBarrier_any (X : DvX) (w : World) (hx : RdDv w X) :
    Calls Tryz.prog 28 #[.agg #[X.vs, X.vl]] w fun e w' => ToDv w (cutL X.secs X.late (fun _ => true)) [] e w' := by
  have HSE : Hid (∀ W, RdDv W X → Calls Tryz.prog 55 #[.agg #[X.vs, X.vl], .func (.func 56) #[] #[]] W fun e w' => ToDv W (cutL X.secs X.late (fun _ => true)) [] e w') := fun W h => settledB_any X (fun _ => true) W h (fun i V _ _ => (bar1_any _ V).mono fun e w' ⟨h1, h2⟩ => ⟨h1, by rw [h2]; exact Below.refl _ _⟩)
  have t0 := dvAt_new w X 27
  have b0 := below1 w (.cells #[X.vs, X.vl] 27)
  obtain ⟨W0, hW0⟩ : ∃ W0, W0 = w.alloc (.cells #[X.vs, X.vl] 27) := ⟨_, rfl⟩
  have s0 : W0.heap.size = w.heap.size + 1 := by rw [hW0]; simp
  rw [← hW0] at t0 b0
  have r1 := boxDv_new W0 (.slice none 0 0) (.slice none 0 0)
  have bb1 := below1 W0 (.cells #[.slice none 0 0, .slice none 0 0] 27)
  obtain ⟨W1, hW1⟩ : ∃ W1, W1 = W0.alloc (.cells #[.slice none 0 0, .slice none 0 0] 27) := ⟨_, rfl⟩
  have s1 : W1.heap.size = w.heap.size + 2 := by rw [hW1]; simp [s0]
  rw [← hW1] at r1 bb1
  rw [s0] at r1
  have t1 := t0.below bb1
  have b1 := b0.trans (bb1.mono b0.size)
  have HW : Hid ((w.alloc (.cells #[X.vs, X.vl] 27)).alloc (.cells #[.slice none 0 0, .slice none 0 0] 27) = W1) := by unfold Hid; rw [hW1, hW0]
  obtain ⟨d0, d1⟩ := id t1
  rw [← HW.out] at d0 d1
  generalize cutL X.secs X.late (fun _ => true) = R at HSE ⊢
  clear t0 b0 bb1 hW0 hW1 s0
  go_enter Tryz.func28, Tryz.ntmps28
  go_wp2_with fail
  rw [HW.out]
  refine (HSE.out _ (hx.below b1)).mono ?_
  rintro e w2 ⟨Y, rfl, hYs, hYl, hoY, hb2⟩
  have r2 := r1.below hb2
  have b2 := b1.trans (hb2.mono b1.size)
  rw [s1] at hoY
  obtain ⟨ya, yc, hy0⟩ := own_slice hoY.secs
  obtain ⟨za, zc, hz0⟩ := own_slice hoY.late
  obtain ⟨yvs, yvl, ysecs, ylate⟩ := Y
  simp only at hYs hYl hy0 hz0
  subst hYs
  subst hYl
  obtain ⟨oS, oL⟩ := hoY
  simp only at oS oL
  generalize ysecs.length = yn at hy0
  generalize ([] : List Pat).length = zn at hz0
  subst hy0
  subst hz0
  obtain ⟨f0, f1, f2, f3⟩ := r2.facts
  have z := (r2.set0 (u := .slice ya yn yc)).set1 (u := .slice za zn zc)
  obtain ⟨k0, k1, -, -⟩ := z.facts
  have oL8 : OwnPt ((w2.setCell ⟨w.heap.size + 1, 0, none⟩ (.slice ya yn yc)).setCell ⟨w.heap.size + 1, 1, none⟩ (.slice za zn zc)) (w.heap.size + 2) (.slice za zn zc) [] := row_base (row_base oL (by omega)) (by omega)
  have HF : Hid (ToDv w ysecs [] (.returned (.agg #[.slice ya yn yc, .slice za zn zc])) ((w2.setCell ⟨w.heap.size + 1, 0, none⟩ (.slice ya yn yc)).setCell ⟨w.heap.size + 1, 1, none⟩ (.slice za zn zc))) :=
    ⟨⟨.slice ya yn yc, .slice za zn zc, ysecs, []⟩, rfl, rfl, rfl, ⟨OwnS.mono (row_base (row_base oS (by omega)) (by omega)) (by omega), OwnPt.mono oL8 (by omega)⟩, (b2.setCell (p := ⟨w.heap.size + 1, 0, none⟩) (by simp) _).setCell (p := ⟨w.heap.size + 1, 1, none⟩) (by simp) _⟩
  clear z r2 r1 b1 b2 oS oL oL8 hb2 d0 d1 t1 HW s1 HSE
  go_wp2
  exact bodyPost_ret (v := .agg #[.slice ya yn yc, .slice za zn zc]) (by simp [results, Tryz.results28, go_sem, k0, k1]) rfl HF.out
set_option maxHeartbeats 1000000 in
set_option maxRecDepth 100000 in
theorem cut1_any (i bK : Nat) (vk : Value) (kp : List Bool) (w : World) (hk : RdB w vk kp) (hb : w.cell? ⟨bK, 0, none⟩ = some vk) :
    Calls Tryz.prog 59 #[.int .i64 (i : Int), .pointer (some ⟨bK, 0, none⟩)] w fun e w' => e = .returned (.bool (keepOf kp i)) ∧ w' = w := by
  obtain ⟨ka, kc, hvk, hk1, hk2, -⟩ := id hk
  unfold maxLen at hk2
  obtain ⟨kn, hkn⟩ : ∃ kn, kn = kp.length := ⟨_, rfl⟩
  rw [← hkn] at hvk hk1
  subst hvk
  by_cases hlt : i < kn
  · obtain ⟨b, off, rfl, hc⟩ := hk.at i (by rw [← hkn]; exact hlt)
    rw [← keepOf_at (by rw [← hkn]; exact hlt)] at hc
    have hic : i < kc := by omega
    generalize keepOf kp i = kv at hc ⊢
    clear hk hkn
    go_enter Tryz.func59, Tryz.ntmps59
    go_wp2
    go_ret
    exact ⟨rfl, rfl⟩
  · rw [keepOf_past (by rw [← hkn]; omega)]
    clear hk hkn
    go_enter Tryz.func59, Tryz.ntmps59
    go_wp2
    go_ret
    exact ⟨rfl, rfl⟩
set_option maxHeartbeats 4000000 in
set_option maxRecDepth 100000 in
theorem implCut_any (X : DvX) (vk : Value) (kp : List Bool) (w : World) (hx : RdDv w X) (hk : RdB w vk kp) :
    Calls Tryz.prog 30 #[.agg #[X.vs, X.vl], vk] w fun e w' => ToDv w (cutL X.secs X.late (keepOf kp)) [] e w' := by
  obtain ⟨ka, kc, hvk, -⟩ := id hk
  generalize kp.length = kn at hvk
  subst hvk
  have HSE : Hid (∀ bK W, RdDv W X → RdB W (.slice ka kn kc) kp → W.cell? ⟨bK, 0, none⟩ = some (.slice ka kn kc) → Calls Tryz.prog 55 #[.agg #[X.vs, X.vl], .func (.func 59) #[] #[.pointer (some ⟨bK, 0, none⟩)]] W fun e w' => ToDv W (cutL X.secs X.late (keepOf kp)) [] e w') := fun bK W h hr hc => settledC_any X bK (keepOf kp) W h (fun i V _ hb => (cut1_any i bK _ kp V (hr.below hb) ((hb.cell (World.block_lt_of_cell? W _ hc)).trans hc)).mono fun e w' ⟨h1, h2⟩ => ⟨h1, by rw [h2]; exact Below.refl _ _⟩)
  have t0 := dvAt_new w X 27
  have b0 := below1 w (.cells #[X.vs, X.vl] 27)
  obtain ⟨W0, hW0⟩ : ∃ W0, W0 = w.alloc (.cells #[X.vs, X.vl] 27) := ⟨_, rfl⟩
  have s0 : W0.heap.size = w.heap.size + 1 := by rw [hW0]; simp
  rw [← hW0] at t0 b0
  have bbk := below1 W0 (.cells #[.slice ka kn kc] 55)
  obtain ⟨Wk, hWk⟩ : ∃ Wk, Wk = W0.alloc (.cells #[.slice ka kn kc] 55) := ⟨_, rfl⟩
  have sk : Wk.heap.size = w.heap.size + 2 := by rw [hWk]; simp [s0]
  have ck : Wk.cell? ⟨w.heap.size + 1, 0, none⟩ = some (.slice ka kn kc) := by rw [hWk, ← s0]; simp [World.cell?_alloc_at]
  rw [← hWk] at bbk
  have tk := t0.below bbk
  have bk := b0.trans (bbk.mono b0.size)
  have r1 := boxDv_new Wk (.slice none 0 0) (.slice none 0 0)
  have bb1 := below1 Wk (.cells #[.slice none 0 0, .slice none 0 0] 27)
  obtain ⟨W1, hW1⟩ : ∃ W1, W1 = Wk.alloc (.cells #[.slice none 0 0, .slice none 0 0] 27) := ⟨_, rfl⟩
  have s1 : W1.heap.size = w.heap.size + 3 := by rw [hW1]; simp [sk]
  rw [← hW1] at r1 bb1
  rw [sk] at r1
  have t1 := tk.below bb1
  have b1 := bk.trans (bb1.mono bk.size)
  have c1 : W1.cell? ⟨w.heap.size + 1, 0, none⟩ = some (.slice ka kn kc) := (bb1.cell (World.block_lt_of_cell? Wk _ ck)).trans ck
  have HW : Hid (((w.alloc (.cells #[X.vs, X.vl] 27)).alloc (.cells #[.slice ka kn kc] 55)).alloc (.cells #[.slice none 0 0, .slice none 0 0] 27) = W1) := by unfold Hid; rw [hW1, hWk, hW0]
  have hmf : ∀ (fn : Fn) (first cap : Array Value) (w : World), (Instr.makeFunc fn first cap).run Tryz.prog w = .ok (.func fn first cap) w := fun _ _ _ _ => rfl
  obtain ⟨d0, d1⟩ := id t1
  rw [← HW.out] at d0 d1
  generalize cutL X.secs X.late (keepOf kp) = R at HSE ⊢
  have HC1 : Hid (W1.cell? ⟨w.heap.size + 1, 0, none⟩ = some (.slice ka kn kc)) := c1
  clear t0 b0 bb1 hW0 hW1 s0 hWk sk ck tk bk bbk c1
  go_enter Tryz.func30, Tryz.ntmps30
  go_wp2_with fail
  rw [HW.out]
  refine (HSE.out _ _ (hx.below b1) (hk.below b1) HC1.out).mono ?_
  rintro e w2 ⟨Y, rfl, hYs, hYl, hoY, hb2⟩
  have r2 := r1.below hb2
  have b2 := b1.trans (hb2.mono b1.size)
  rw [s1] at hoY
  obtain ⟨ya, yc, hy0⟩ := own_slice hoY.secs
  obtain ⟨za, zc, hz0⟩ := own_slice hoY.late
  obtain ⟨yvs, yvl, ysecs, ylate⟩ := Y
  simp only at hYs hYl hy0 hz0
  subst hYs
  subst hYl
  obtain ⟨oS, oL⟩ := hoY
  simp only at oS oL
  generalize ysecs.length = yn at hy0
  generalize ([] : List Pat).length = zn at hz0
  subst hy0
  subst hz0
  obtain ⟨f0, f1, f2, f3⟩ := r2.facts
  have z := (r2.set0 (u := .slice ya yn yc)).set1 (u := .slice za zn zc)
  obtain ⟨k0, k1, -, -⟩ := z.facts
  have oL8 : OwnPt ((w2.setCell ⟨w.heap.size + 2, 0, none⟩ (.slice ya yn yc)).setCell ⟨w.heap.size + 2, 1, none⟩ (.slice za zn zc)) (w.heap.size + 3) (.slice za zn zc) [] := row_base (row_base oL (by omega)) (by omega)
  have HF : Hid (ToDv w ysecs [] (.returned (.agg #[.slice ya yn yc, .slice za zn zc])) ((w2.setCell ⟨w.heap.size + 2, 0, none⟩ (.slice ya yn yc)).setCell ⟨w.heap.size + 2, 1, none⟩ (.slice za zn zc))) :=
    ⟨⟨.slice ya yn yc, .slice za zn zc, ysecs, []⟩, rfl, rfl, rfl, ⟨OwnS.mono (row_base (row_base oS (by omega)) (by omega)) (by omega), OwnPt.mono oL8 (by omega)⟩, (b2.setCell (p := ⟨w.heap.size + 2, 0, none⟩) (by simp) _).setCell (p := ⟨w.heap.size + 2, 1, none⟩) (by simp) _⟩
  clear z hmf r2 r1 b1 b2 oS oL oL8 hb2 d0 d1 t1 HW s1 HSE
  go_wp2
  exact bodyPost_ret (v := .agg #[.slice ya yn yc, .slice za zn zc]) (by simp [results, Tryz.results30, go_sem, k0, k1]) rfl HF.out
theorem lies_of {s : List ByteArray} {l : List Pat} {p : Int} {R : List ByteArray} (hR : R = cutL s l (fun _ => true)) : (¬ (0 ≤ p ∧ p < (R.length : Int)) → liesL s l p = ⟨#[]⟩) ∧ ∀ (q : Nat) (h : q < R.length), p = (q : Int) → liesL s l p = R[q] := by
  cases hok : devOk s l with
  | false =>
    rw [cutL_no hok] at hR
    subst hR
    refine ⟨fun _ => by unfold liesL; rw [hok]; rfl, fun q h => by simp at h⟩
  | true =>
    rw [cutL_yes hok] at hR
    have hlen : R.length = s.length := by rw [hR, cutTo_len]
    have hpo := ((devOk_iff s l).1 hok).2.2.2.2
    refine ⟨fun hn => ?_, fun q h hp => ?_⟩
    · unfold liesL
      rw [hlen] at hn
      rw [if_neg]
      simp
      omega
    · have hq : q < s.length := by rw [← hlen]; exact h
      unfold liesL
      rw [if_pos (by simp [hok]; omega)]
      subst hR
      subst hp
      rw [lies_cut hq l.length (Nat.le_refl _) hpo h]
      simp [List.getD, List.getElem?_eq_getElem hq]
set_option maxHeartbeats 4000000 in
set_option maxRecDepth 100000 in
theorem implLies_any (X : DvX) (p : Int) (w : World) (hx : RdDv w X) :
    Calls Tryz.prog 75 #[.agg #[X.vs, X.vl], .int .i64 p] w fun e w' => e = .returned (.string (liesL X.secs X.late p)) ∧ Below w.heap.size w w' := by
  have HBA : Hid (∀ W, RdDv W X → Calls Tryz.prog 28 #[.agg #[X.vs, X.vl]] W fun e w' => ToDv W (cutL X.secs X.late (fun _ => true)) [] e w') := fun W h => implBarrier_any X W h
  have HLI : Hid (∀ R, R = cutL X.secs X.late (fun _ => true) → (¬ (0 ≤ p ∧ p < (R.length : Int)) → liesL X.secs X.late p = ⟨#[]⟩) ∧ ∀ (q : Nat) (h : q < R.length), p = (q : Int) → liesL X.secs X.late p = R[q]) := fun R hR => lies_of hR
  have t0 := dvAt_new w X 27
  have b0 := below1 w (.cells #[X.vs, X.vl] 27)
  obtain ⟨d0, d1⟩ := id t0
  generalize cutL X.secs X.late (fun _ => true) = R at HBA HLI
  obtain ⟨HNO, HYES⟩ := HLI.out R rfl
  have HN : Hid _ := HNO
  have HY : Hid (∀ (q : Nat) (h : q < R.length), p = (q : Int) → liesL X.secs X.late p = R[q]) := HYES
  generalize liesL X.secs X.late p = L at HN HY ⊢
  clear HLI HNO HYES
  go_enter Tryz.func75, Tryz.ntmps75
  go_wp2_with fail
  refine (HBA.out _ (hx.below b0)).mono ?_
  rintro e w2 ⟨Y, rfl, hYs, hYl, hoY, hb2⟩
  have b2 := b0.trans (hb2.mono b0.size)
  obtain ⟨ya, yc, hy0⟩ := own_slice hoY.secs
  obtain ⟨za, zc, hz0⟩ := own_slice hoY.late
  obtain ⟨yvs, yvl, ysecs, ylate⟩ := Y
  simp only at hYs hYl hy0 hz0
  subst hYs
  subst hYl
  have hr := hoY.secs.rd
  simp only at hr
  obtain ⟨yn, hyn⟩ : ∃ yn, yn = ysecs.length := ⟨_, rfl⟩
  rw [← hyn] at hy0
  generalize ([] : List Pat).length = zn at hz0
  subst hy0
  subst hz0
  have HYN : Hid (yn = ysecs.length) := hyn
  have o3 := dvAt_new w2 ⟨.slice ya yn yc, .slice za zn zc, ysecs, []⟩ 27
  have bb3 := below1 w2 (.cells #[.slice ya yn yc, .slice za zn zc] 27)
  have b3 := b2.trans (bb3.mono b2.size)
  have hr3 := hr.below bb3
  simp only at o3
  obtain ⟨q0, q1⟩ := id o3
  simp only at q0 q1
  have HHS : Hid (∀ W, RdS W (.slice ya yn yc) ysecs → Calls Tryz.prog 69 #[.agg #[.slice ya yn yc, .slice za zn zc], .int .i64 p] W fun e w' => e = .returned (.bool (decide (0 ≤ p) && decide (p < (yn : Int)))) ∧ Below W.heap.size W w') := fun W h => by
    have := hasSector_any (.slice ya yn yc) (.slice za zn zc) ysecs p W h
    rw [← hyn] at this
    exact this
  have hyc : yn ≤ yc := by
    obtain ⟨a', c', e', h', -⟩ := id hr
    injection e' with e1 e2 e3
    omega
  clear hyn hr hoY b0 hb2 b2 bb3 d0 d1 t0 HBA
  go_wp2_with fail
  generalize w2.alloc (.cells #[.slice ya yn yc, .slice za zn zc] 27) = W3 at o3 b3 hr3 q0 q1 ⊢
  refine (HHS.out _ hr3).mono ?_
  rintro e w4 ⟨rfl, hb4⟩
  have o4 := o3.below hb4
  have b4 := b3.trans (hb4.mono b3.size)
  have hr4 := hr3.below hb4
  obtain ⟨q0, q1⟩ := id o4
  simp only at q0 q1
  clear o3 b3 hr3 hb4 HHS o4
  by_cases hp : 0 ≤ p ∧ p < (yn : Int)
  · obtain ⟨hp0, hp1⟩ := hp
    have e1 : (decide (0 ≤ p) && decide (p < (yn : Int))) = true := by simp; omega
    obtain ⟨q, hq⟩ : ∃ q : Nat, p = (q : Int) := ⟨p.toNat, by omega⟩
    have hqs : q < ysecs.length := by rw [← HYN.out]; omega
    have hL := HY.out q hqs hq
    obtain ⟨b, off, rfl, hc⟩ := txt_at hr4 q hqs
    rw [← hL] at hc
    subst hq
    have hqy : q < yn := by omega
    have hqc : q < yc := by omega
    rw [e1]
    clear hL hqs hr4 HY HN e1 hp0 hp1
    go_wp2
    go_ret
    exact ⟨rfl, b4⟩
  · have e1 : (decide (0 ≤ p) && decide (p < (yn : Int))) = false := by rw [Bool.eq_false_iff]; simp; omega
    have hL : L = ⟨#[]⟩ := HN.out (by rw [← HYN.out]; exact hp)
    subst hL
    rw [e1]
    clear hp e1 hr4 HY HN
    go_wp2
    go_ret
    exact ⟨rfl, b4⟩
end Go.Proofs.YtpidmmfjmbinkaaGreatDoor
