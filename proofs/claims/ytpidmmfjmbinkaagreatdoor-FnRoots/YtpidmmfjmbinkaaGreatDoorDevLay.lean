/- The contracts of both Lay. -/
import Derived.Test.YtpidmmfjmbinkaaGreatDoorDevCopy
import Derived.Test.YtpidmmfjmbinkaaGreatDoorG05
import Derived.Test.YtpidmmfjmbinkaaGreatDoorDevImp
namespace Go.Proofs.YtpidmmfjmbinkaaGreatDoor
open Go.RowKit
theorem rdPt_one (w : World) (x : Pat) : RdPt (w.alloc (.cells #[.int .i64 x.pos, .string x.text] 70)) (.slice (some ⟨w.heap.size, 0, none⟩) 1 1) [x] := by
  refine ⟨some ⟨w.heap.size, 0, none⟩, 1, rfl, Nat.le_refl _, by unfold maxLen; omega, (fun h => by cases h), .inr ⟨w.heap.size, 0, rfl, fun i hi => ?_⟩⟩
  have : i = 0 := by simp at hi; omega
  subst this
  constructor <;> simp [World.cell?_alloc_at, nthP]
theorem layO_no {s : List ByteArray} {l : List Pat} {p : Int} {t : ByteArray} (h : devOk s l = true) (hn : layO s l p t = false) : layS s l = s ∧ layL s l p t = l := by
  unfold layS layL
  rw [h, hn]
  exact ⟨rfl, rfl⟩
theorem layO_yes {s : List ByteArray} {l : List Pat} {p : Int} {t : ByteArray} (h : devOk s l = true) (hn : layO s l p t = true) : layS s l = s ∧ layL s l p t = l ++ [⟨p, t⟩] := by
  unfold layS layL
  rw [h, hn]
  exact ⟨rfl, rfl⟩
theorem layO_off {s : List ByteArray} {l : List Pat} {p : Int} {t : ByteArray} (h : devOk s l = false) : layS s l = [] ∧ layL s l p t = [] ∧ layO s l p t = false := by
  unfold layS layL layO
  rw [h]
  exact ⟨rfl, rfl, rfl⟩
theorem layO_iff {s : List ByteArray} {l : List Pat} {p : Int} {t : ByteArray} (h : devOk s l = true) : layO s l p t = true ↔ pOk s.length ⟨p, t⟩ = true ∧ l.length ≠ 30 := by
  unfold layO
  rw [h]
  simp
set_option maxHeartbeats 8000000 in
set_option maxRecDepth 100000 in
theorem specLay_any (X : DvX) (p : Int) (t : ByteArray) (w : World) (hx : RdDv w X) :
    Calls Tryz.prog 67 #[.agg #[X.vs, X.vl], .int .i64 p, .string t] w fun e w' => DvRes w (layS X.secs X.late) (layL X.secs X.late p t) (layO X.secs X.late p t) e w' := by
  have HDO : Hid (∀ W, RdDv W X → Calls Tryz.prog 37 #[.agg #[X.vs, X.vl]] W fun e w' => e = .returned (.bool (devOk X.secs X.late)) ∧ Below W.heap.size W w') := fun W h => specDeviceOk_any X W h
  have HCP : Hid (devOk X.secs X.late = true → ∀ W, RdDv W X → Calls Tryz.prog 39 #[.agg #[X.vs, X.vl]] W fun e w' => ToDv W X.secs X.late e w') := fun ho W h => l8Copy_any X W h (by have := (devOk_iff _ _).1 ho; omega) (by have := (devOk_iff _ _).1 ho; omega)
  have HX : Hid (RdDv w X) := hx
  have HT0 : Hid (∀ (w : World) t, DvAt (w.alloc (.cells #[X.vs, X.vl] t)) w.heap.size X) := fun w t => dvAt_new w X t
  obtain ⟨sa, la, cs, cl, hvs, hvl, h1, h2, h3, h4⟩ := hx.slices
  have HDV : Hid (∀ W, DvAt W w.heap.size X → W.cell? ⟨w.heap.size, 0, none⟩ = some X.vs ∧ W.cell? ⟨w.heap.size, 1, none⟩ = some X.vl) := fun W h => h
  obtain ⟨sn, hsn⟩ : ∃ sn, sn = X.secs.length := ⟨_, rfl⟩
  obtain ⟨ln, hln⟩ : ∃ ln, ln = X.late.length := ⟨_, rfl⟩
  rw [← hsn] at hvs h1
  rw [← hln] at hvl h3
  have HLNE : Hid (ln = X.late.length) := hln
  have HB : Hid (devOk X.secs X.late = true → 1 ≤ sn ∧ sn ≤ 16 ∧ ln ≤ 30) := fun h => by have := (devOk_iff _ _).1 h; omega
  have HL : Hid (devOk X.secs X.late = true → (layO X.secs X.late p t = true ↔ (0 ≤ p ∧ p < (sn : Int) ∧ t.size ≤ 400) ∧ ln ≠ 30)) := fun h => by rw [layO_iff h, pOk_iff, hsn, hln]
  have HOFF : Hid (devOk X.secs X.late = false → layS X.secs X.late = [] ∧ layL X.secs X.late p t = [] ∧ layO X.secs X.late p t = false) := fun h => layO_off h
  have HNO : Hid (devOk X.secs X.late = true → layO X.secs X.late p t = false → layS X.secs X.late = X.secs ∧ layL X.secs X.late p t = X.late) := layO_no
  have HYES : Hid (devOk X.secs X.late = true → layO X.secs X.late p t = true → layS X.secs X.late = X.secs ∧ layL X.secs X.late p t = X.late ++ [⟨p, t⟩]) := layO_yes
  generalize layO X.secs X.late p t = lo at HOFF HNO HYES HL ⊢
  generalize layS X.secs X.late = ls at HOFF HNO HYES ⊢
  generalize layL X.secs X.late p t = ll at HOFF HNO HYES ⊢
  rw [hvs, hvl] at HDO HCP HT0 HDV ⊢
  clear hx hvs hvl
  have t0 := HT0.out w 27
  have b0 := below1 w (.cells #[.slice sa sn cs, .slice la ln cl] 27)
  obtain ⟨W0, hW0⟩ : ∃ W0, W0 = w.alloc (.cells #[.slice sa sn cs, .slice la ln cl] 27) := ⟨_, rfl⟩
  have s0 : W0.heap.size = w.heap.size + 1 := by rw [hW0]; simp
  rw [← hW0] at t0 b0
  have r1 := boxDv_new W0 (.slice none 0 0) (.slice none 0 0)
  have bb1 := below1 W0 (.cells #[.slice none 0 0, .slice none 0 0] 27)
  obtain ⟨W1, hW1⟩ : ∃ W1, W1 = W0.alloc (.cells #[.slice none 0 0, .slice none 0 0] 27) := ⟨_, rfl⟩
  have s1 : W1.heap.size = w.heap.size + 2 := by rw [hW1]; simp [s0]
  rw [← hW1] at r1 bb1
  rw [s0] at r1
  have t1 := t0.below bb1
  have b1 := b0.trans (bb1.mono b0.size)
  have HW : Hid ((w.alloc (.cells #[.slice sa sn cs, .slice la ln cl] 27)).alloc (.cells #[.slice none 0 0, .slice none 0 0] 27) = W1) := by unfold Hid; rw [hW1, hW0]
  obtain ⟨d0, d1⟩ := HDV.out _ t1
  rw [← HW.out] at d0 d1
  clear t0 b0 bb1 hW0 hW1 s0 hsn hln
  go_enter Tryz.func67, Tryz.ntmps67
  go_wp2_with fail
  rw [HW.out]
  refine (HDO.out _ (HX.out.below b1)).mono ?_
  rintro e w2 ⟨rfl, hb2⟩
  have t2 := t1.below hb2
  have r2 := r1.below hb2
  have b2 := b1.trans (hb2.mono b1.size)
  have s2 := hb2.size
  rw [s1] at s2
  clear t1 r1 b1 hb2 d0 d1 HW HDO s1
  obtain ⟨f0, f1, f2, f3⟩ := r2.facts
  cases hok : devOk X.secs X.late with
  | false =>
    obtain ⟨rfl, rfl, rfl⟩ := HOFF.out hok
    have z := (r2.set0 (u := .slice none 0 0)).set1 (u := .slice none 0 0)
    obtain ⟨k0, k1, -, -⟩ := z.facts
    have HF : Hid (DvRes w [] [] false (.returned (.tuple #[.agg #[.slice none 0 0, .slice none 0 0], .bool false])) ((w2.setCell ⟨w.heap.size + 1, 0, none⟩ (.slice none 0 0)).setCell ⟨w.heap.size + 1, 1, none⟩ (.slice none 0 0))) := ⟨⟨.slice none 0 0, .slice none 0 0, [], []⟩, rfl, rfl, rfl, ownDv_zero _ _, (b2.setCell (p := ⟨w.heap.size + 1, 0, none⟩) (by simp) _).setCell (p := ⟨w.heap.size + 1, 1, none⟩) (by simp) _⟩
    clear z hok r2 t2
    go_wp2
    exact bodyPost_ret (v := .tuple #[.agg #[.slice none 0 0, .slice none 0 0], .bool false]) (by simp [results, Tryz.results67, go_sem, k0, k1]) rfl HF.out
  | true =>
    obtain ⟨hn1, hn2, hn3⟩ := HB.out hok
    have HCP' := HCP.out hok
    have HCQ : Hid (∀ W, RdDv W X → Calls Tryz.prog 39 #[.agg #[.slice sa sn cs, .slice la ln cl]] W fun e w' => ToDv W X.secs X.late e w') := HCP'
    have HLO2 : Hid _ := HL.out hok
    have HNO2 : Hid _ := HNO.out hok
    have HYES2 : Hid _ := HYES.out hok
    obtain ⟨d0, d1⟩ := HDV.out _ t2
    clear HCP HCP' HL HNO HYES HOFF hok f0 f1 f2 f3
    go_wp2_with fail
    refine (HCQ.out _ (HX.out.below b2)).mono ?_
    rintro e w3 ⟨Y, rfl, hYs, hYl, hoY, hb3⟩
    have t3 := t2.below hb3
    have r3 := r2.below hb3
    have b3 := b2.trans (hb3.mono b2.size)
    have s3 := hb3.size
    obtain ⟨ya, yc, hy0⟩ := own_slice hoY.secs
    obtain ⟨za, zc, hz0⟩ := own_slice hoY.late
    obtain ⟨yvs, yvl, ysecs, ylate⟩ := Y
    simp only at hYs hYl hy0 hz0
    subst hYs
    subst hYl
    generalize X.secs.length = yn at hy0
    generalize X.late.length = zn at hz0
    subst hy0
    subst hz0
    have oS := hoY.secs
    have oL := hoY.late
    simp only at oS oL
    have o4 := boxDv_new w3 (.slice ya yn yc) (.slice za zn zc)
    have bb4 := below1 w3 (.cells #[.slice ya yn yc, .slice za zn zc] 27)
    have s4 : (w3.alloc (.cells #[.slice ya yn yc, .slice za zn zc] 27)).heap.size = w3.heap.size + 1 := by simp
    have t4 := t3.below bb4
    have r4 := r3.below bb4
    have b4 := b3.trans (bb4.mono b3.size)
    have oS4 := oS.below bb4
    have oL4 := oL.below bb4
    have LL : Hid (∀ k, (Value.slice za zn zc).ownBlock = some k → w2.heap.size ≤ k ∧ k < w3.heap.size) := fun k hk => World.ownsRow.lt oL k hk
    have LS : Hid (∀ k, (Value.slice ya yn yc).ownBlock = some k → w2.heap.size ≤ k ∧ k < w3.heap.size) := fun k hk => World.ownsRow.lt oS k hk
    clear t2 r2 b2 t3 r3 b3 hb3 hoY oS oL bb4 d0 d1 HCQ
    obtain ⟨d0, d1⟩ := HDV.out _ t4
    obtain ⟨f0, f1, f2, f3⟩ := r4.facts
    obtain ⟨g0, g1, g2, g3⟩ := o4.facts
    by_cases hyes : (0 ≤ p ∧ p < (sn : Int) ∧ t.size ≤ 400) ∧ ln ≠ 30
    · obtain ⟨⟨hp0, hp1, hp2⟩, hp3⟩ := hyes
      have hlo : lo = true := HLO2.out.2 ⟨⟨hp0, hp1, hp2⟩, hp3⟩
      obtain ⟨rfl, rfl⟩ := HYES2.out hlo
      subst hlo
      have q1 : (decide (0 ≤ p) && decide (p ≤ (sn : Int) - 1)) = true := by simp; omega
      have q2 : decide (400 < (t.size : Int)) = false := by simp; omega
      have q3 : ((ln : Int) == 30) = false := by simp; omega
      obtain ⟨W4, hW4⟩ : ∃ W4, W4 = w3.alloc (.cells #[.slice ya yn yc, .slice za zn zc] 27) := ⟨_, rfl⟩
      have bb5 := below1 W4 (.cells #[.int .i64 p, .string t] 70)
      rw [← hW4] at t4 r4 o4 b4 oS4 oL4 s4
      have r5 := r4.below bb5
      have o5 := o4.below bb5
      have b5 := b4.trans (bb5.mono b4.size)
      have oS5 := oS4.below bb5
      have oL5 := oL4.below bb5
      have hr5 := rdPt_one W4 ⟨p, t⟩
      have s5 : (W4.alloc (.cells #[.int .i64 p, .string t] 70)).heap.size = w3.heap.size + 2 := by simp [s4]
      have HLN : Hid (X.late.length + 1 ≤ 1000000000) := by unfold Hid; rw [← HLNE.out]; omega
      rw [s4] at hr5
      rw [hW4] at hr5 oL5 bb5
      rw [hW4] at s5
      clear t4 r4 o4 b4 oS4 oL4 HNO2 HYES2 HLO2 hp3
      go_wp2_with first | (go_at_call 43; refine (in64_any _ _ _ _).mono ?_; rintro e w' ⟨rfl, rfl⟩) | (at_builtin; (refine wpList_append_pats rfl _ _ rfl w2.heap.size _ _ X.late [⟨p, t⟩] rfl rfl oL5 hr5 (by simpa using HLN.out) (by rw [s5]; omega) ?_))
      intro vL w6 hoL hg
      rw [← hW4] at hg
      have r6 : BoxDv w6 (w.heap.size + 1) _ _ := r5.of_block (hg.block _ r5.lt (fun e => by have := LL.out _ e.symm; omega))
      have o6 : BoxDv w6 w3.heap.size _ _ := o5.of_block (hg.block _ o5.lt (fun e => by have := LL.out _ e.symm; omega))
      have oS6 : OwnS w6 w2.heap.size (.slice ya yn yc) X.secs := row_kept oS5 hg (fun k hk e => rows_apart oS5 (by rw [← hW4] at oL5; exact oL5) (by decide) k hk e)
      have b6 := b5.grown hg (by rw [hW4, s5]; omega) (fun k hk => by have := LL.out k hk; omega)
      obtain ⟨va, vc, hvL⟩ := own_slice hoL
      generalize (X.late ++ [(⟨p, t⟩ : Pat)]).length = vn at hvL
      clear f0 f1 f2 f3 g0 g1 g2 g3 d0 d1 hr5 oL5 bb5 s5 r5 o5 b5 oS5 hg
      subst hvL
      have GE6 : w3.heap.size < w6.heap.size := o6.lt
      obtain ⟨g0, g1, g2, g3⟩ := o6.facts
      have o7 := o6.set1 (u := .slice va vn vc)
      have r7 : BoxDv (w6.setCell ⟨w3.heap.size, 1, none⟩ (.slice va vn vc)) (w.heap.size + 1) _ _ := r6.of_block (block_set (by omega))
      have oS7 : OwnS (w6.setCell ⟨w3.heap.size, 1, none⟩ (.slice va vn vc)) w2.heap.size (.slice ya yn yc) X.secs := row_set oS6 (fun k hk e => by have := LS.out k hk; omega)
      have NB : Hid (∀ k, (Value.slice va vn vc).ownBlock = some k → w3.heap.size ≠ k) := fun k hk e => by
        subst e
        exact boxDv_row o6 hoL (by decide) _ hk rfl
      have oL7 : OwnPt (w6.setCell ⟨w3.heap.size, 1, none⟩ (.slice va vn vc)) w2.heap.size (.slice va vn vc) (X.late ++ [⟨p, t⟩]) := row_set hoL NB.out
      have b7 := b6.setCell (p := ⟨w3.heap.size, 1, none⟩) (by simp; omega) (.slice va vn vc)
      obtain ⟨f0, f1, f2, f3⟩ := r7.facts
      obtain ⟨l0, l1, -, -⟩ := o7.facts
      have z := (r7.set0 (u := .slice ya yn yc)).set1 (u := .slice va vn vc)
      obtain ⟨k0, k1, -, -⟩ := z.facts
      have oL8 : OwnPt (((w6.setCell ⟨w3.heap.size, 1, none⟩ (.slice va vn vc)).setCell ⟨w.heap.size + 1, 0, none⟩ (.slice ya yn yc)).setCell ⟨w.heap.size + 1, 1, none⟩ (.slice va vn vc)) w2.heap.size (.slice va vn vc) (X.late ++ [⟨p, t⟩]) := row_base (row_base oL7 (by omega)) (by omega)
      have HF : Hid (DvRes w X.secs (X.late ++ [⟨p, t⟩]) true (.returned (.tuple #[.agg #[.slice ya yn yc, .slice va vn vc], .bool true])) (((w6.setCell ⟨w3.heap.size, 1, none⟩ (.slice va vn vc)).setCell ⟨w.heap.size + 1, 0, none⟩ (.slice ya yn yc)).setCell ⟨w.heap.size + 1, 1, none⟩ (.slice va vn vc))) :=
        ⟨⟨.slice ya yn yc, .slice va vn vc, X.secs, X.late ++ [⟨p, t⟩]⟩, rfl, rfl, rfl, ⟨OwnS.mono (row_base (row_base oS7 (by omega)) (by omega)) (by omega), OwnPt.mono oL8 (by omega)⟩, (b7.setCell (p := ⟨w.heap.size + 1, 0, none⟩) (by simp) _).setCell (p := ⟨w.heap.size + 1, 1, none⟩) (by simp) _⟩
      clear z o6 r6 o7 r7 oS6 oS7 hoL oL7 oL8 b6 b7 NB
      go_wp2
      exact bodyPost_ret (v := .tuple #[.agg #[.slice ya yn yc, .slice va vn vc], .bool true]) (by simp [results, Tryz.results67, go_sem, k0, k1]) rfl HF.out
    · have hlo : lo = false := by
        cases lo with
        | false => rfl
        | true => exact absurd (HLO2.out.1 rfl) hyes
      obtain ⟨rfl, rfl⟩ := HNO2.out hlo
      subst hlo
      have z := (r4.set0 (u := .slice ya yn yc)).set1 (u := .slice za zn zc)
      obtain ⟨k0, k1, -, -⟩ := z.facts
      have HF : Hid (DvRes w X.secs X.late false (.returned (.tuple #[.agg #[.slice ya yn yc, .slice za zn zc], .bool false])) (((w3.alloc (.cells #[.slice ya yn yc, .slice za zn zc] 27)).setCell ⟨w.heap.size + 1, 0, none⟩ (.slice ya yn yc)).setCell ⟨w.heap.size + 1, 1, none⟩ (.slice za zn zc))) :=
        ⟨⟨.slice ya yn yc, .slice za zn zc, X.secs, X.late⟩, rfl, rfl, rfl, ⟨OwnS.mono (row_base (row_base oS4 (by omega)) (by omega)) (by omega), OwnPt.mono (row_base (row_base oL4 (by omega)) (by omega)) (by omega)⟩, (b4.setCell (p := ⟨w.heap.size + 1, 0, none⟩) (by simp) _).setCell (p := ⟨w.heap.size + 1, 1, none⟩) (by simp) _⟩
      clear z t4 r4 o4 oS4 oL4 b4 HNO2 HYES2 HLO2
      by_cases hp : 0 ≤ p ∧ p < (sn : Int)
      · obtain ⟨hp0, hp1⟩ := hp
        have q1 : (decide (0 ≤ p) && decide (p ≤ (sn : Int) - 1)) = true := by simp; omega
        by_cases hbig : 400 < t.size
        · have q2 : decide (400 < (t.size : Int)) = true := by simp; omega
          clear hyes
          go_wp2_with (go_at_call 43; refine (in64_any _ _ _ _).mono ?_; rintro e w' ⟨rfl, rfl⟩)
          exact bodyPost_ret (v := .tuple #[.agg #[.slice ya yn yc, .slice za zn zc], .bool false]) (by simp [results, Tryz.results67, go_sem, k0, k1]) rfl HF.out
        · have hl30 : ln = 30 := by omega
          have q2 : decide (400 < (t.size : Int)) = false := by simp; omega
          have q3 : ((ln : Int) == 30) = true := by simp; omega
          clear hyes hl30
          go_wp2_with (go_at_call 43; refine (in64_any _ _ _ _).mono ?_; rintro e w' ⟨rfl, rfl⟩)
          exact bodyPost_ret (v := .tuple #[.agg #[.slice ya yn yc, .slice za zn zc], .bool false]) (by simp [results, Tryz.results67, go_sem, k0, k1]) rfl HF.out
      · have q1 : (decide (0 ≤ p) && decide (p ≤ (sn : Int) - 1)) = false := by rw [Bool.eq_false_iff]; simp; omega
        clear hyes hp
        go_wp2_with (go_at_call 43; refine (in64_any _ _ _ _).mono ?_; rintro e w' ⟨rfl, rfl⟩)
        exact bodyPost_ret (v := .tuple #[.agg #[.slice ya yn yc, .slice za zn zc], .bool false]) (by simp [results, Tryz.results67, go_sem, k0, k1]) rfl HF.out
end Go.Proofs.YtpidmmfjmbinkaaGreatDoor
