/- The contract of the program's Lay. -/
import Derived.Test.YtpidmmfjmbinkaaGreatDoorDevLay
namespace Go.Proofs.YtpidmmfjmbinkaaGreatDoor
open Go.RowKit
set_option maxHeartbeats 8000000 in
set_option maxRecDepth 100000 in
theorem implLay_any (X : DvX) (p : Int) (t : ByteArray) (w : World) (hx : RdDv w X) :
    Calls Tryz.prog 53 #[.agg #[X.vs, X.vl], .int .i64 p, .string t] w fun e w' => DvRes w (layS X.secs X.late) (layL X.secs X.late p t) (layO X.secs X.late p t) e w' := by
  have HDO : Hid (∀ W, RdDv W X → Calls Tryz.prog 21 #[.agg #[X.vs, X.vl]] W fun e w' => e = .returned (.bool (devOk X.secs X.late)) ∧ Below W.heap.size W w') := fun W h => implDeviceOk_any X W h
  have HCP : Hid (devOk X.secs X.late = true → ∀ W, RdDv W X → Calls Tryz.prog 29 #[.agg #[X.vs, X.vl]] W fun e w' => ToDv W X.secs X.late e w') := fun ho W h => copiedDv_any X W h (by have := (devOk_iff _ _).1 ho; omega) (by have := (devOk_iff _ _).1 ho; omega)
  have HX : Hid (RdDv w X) := hx
  have HPO : Hid (∀ W, RdDv W X → Calls Tryz.prog 49 #[.agg #[X.vs, X.vl], .agg #[.int .i64 p, .string t]] W fun e w' => e = .returned (.bool (pOk X.secs.length ⟨p, t⟩)) ∧ Below W.heap.size W w') := fun W h => patchOk_any X.vs X.vl X.secs ⟨p, t⟩ W h.secs
  have HT0 : Hid (∀ (w : World) t, DvAt (w.alloc (.cells #[X.vs, X.vl] t)) w.heap.size X) := fun w t => dvAt_new w X t
  obtain ⟨sa, la, cs, cl, hvs, hvl, h1, h2, h3, h4⟩ := hx.slices
  have HDV : Hid (∀ W, DvAt W w.heap.size X → W.cell? ⟨w.heap.size, 0, none⟩ = some X.vs ∧ W.cell? ⟨w.heap.size, 1, none⟩ = some X.vl) := fun W h => h
  obtain ⟨sn, hsn⟩ : ∃ sn, sn = X.secs.length := ⟨_, rfl⟩
  obtain ⟨ln, hln⟩ : ∃ ln, ln = X.late.length := ⟨_, rfl⟩
  rw [← hsn] at hvs h1
  rw [← hln] at hvl h3
  have HLNE : Hid (ln = X.late.length) := hln
  have HB : Hid (devOk X.secs X.late = true → 1 ≤ sn ∧ sn ≤ 16 ∧ ln ≤ 30) := fun h => by have := (devOk_iff _ _).1 h; omega
  have HL : Hid (devOk X.secs X.late = true → (layO X.secs X.late p t = true ↔ pOk X.secs.length ⟨p, t⟩ = true ∧ ln ≠ 30)) := fun h => by rw [layO_iff h, hln]
  have HOFF : Hid (devOk X.secs X.late = false → layS X.secs X.late = [] ∧ layL X.secs X.late p t = [] ∧ layO X.secs X.late p t = false) := fun h => layO_off h
  have HNO : Hid (devOk X.secs X.late = true → layO X.secs X.late p t = false → layS X.secs X.late = X.secs ∧ layL X.secs X.late p t = X.late) := layO_no
  have HYES : Hid (devOk X.secs X.late = true → layO X.secs X.late p t = true → layS X.secs X.late = X.secs ∧ layL X.secs X.late p t = X.late ++ [⟨p, t⟩]) := layO_yes
  generalize layO X.secs X.late p t = lo at HOFF HNO HYES HL ⊢
  generalize layS X.secs X.late = ls at HOFF HNO HYES ⊢
  generalize layL X.secs X.late p t = ll at HOFF HNO HYES ⊢
  generalize pOk X.secs.length ⟨p, t⟩ = po at HPO HL
  rw [hvs, hvl] at HDO HCP HT0 HDV HPO ⊢
  clear hx hvs hvl
  have t0 := HT0.out w 27
  have b0 := below1 w (.cells #[.slice sa sn cs, .slice la ln cl] 27)
  obtain ⟨W0, hW0⟩ : ∃ W0, W0 = w.alloc (.cells #[.slice sa sn cs, .slice la ln cl] 27) := ⟨_, rfl⟩
  have s0 : W0.heap.size = w.heap.size + 1 := by rw [hW0]; simp
  rw [← hW0] at t0 b0
  have r1 := boxDv_new W0 (.slice none 0 0) (.slice none 0 0)
  have bb1 := below1 W0 (.cells #[.slice none 0 0, .slice none 0 0] 27)
  obtain ⟨W1, hW1⟩ : ∃ W1, W1 = W0.alloc (.cells #[.slice none 0 0, .slice none 0 0] 27) := ⟨_, rfl⟩
  have s1 : W1.heap.size = w.heap.size + 2 := by rw [hW1]; simp [s0]
  rw [← hW1] at r1 bb1
  rw [s0] at r1
  have t1 := t0.below bb1
  have b1 := b0.trans (bb1.mono b0.size)
  have HW : Hid ((w.alloc (.cells #[.slice sa sn cs, .slice la ln cl] 27)).alloc (.cells #[.slice none 0 0, .slice none 0 0] 27) = W1) := by unfold Hid; rw [hW1, hW0]
  obtain ⟨d0, d1⟩ := HDV.out _ t1
  rw [← HW.out] at d0 d1
  clear t0 b0 bb1 hW0 hW1 s0 hsn hln
  go_enter Tryz.func53, Tryz.ntmps53
  go_wp2_with fail
  rw [HW.out]
  refine (HDO.out _ (HX.out.below b1)).mono ?_
  rintro e w2 ⟨rfl, hb2⟩
  have t2 := t1.below hb2
  have r2 := r1.below hb2
  have b2 := b1.trans (hb2.mono b1.size)
  have s2 := hb2.size
  rw [s1] at s2
  clear t1 r1 b1 hb2 d0 d1 HW HDO s1
  obtain ⟨f0, f1, f2, f3⟩ := r2.facts
  cases hok : devOk X.secs X.late with
  | false =>
    obtain ⟨rfl, rfl, rfl⟩ := HOFF.out hok
    have z := (r2.set0 (u := .slice none 0 0)).set1 (u := .slice none 0 0)
    obtain ⟨k0, k1, -, -⟩ := z.facts
    have HF : Hid (DvRes w [] [] false (.returned (.tuple #[.agg #[.slice none 0 0, .slice none 0 0], .bool false])) ((w2.setCell ⟨w.heap.size + 1, 0, none⟩ (.slice none 0 0)).setCell ⟨w.heap.size + 1, 1, none⟩ (.slice none 0 0))) := ⟨⟨.slice none 0 0, .slice none 0 0, [], []⟩, rfl, rfl, rfl, ownDv_zero _ _, (b2.setCell (p := ⟨w.heap.size + 1, 0, none⟩) (by simp) _).setCell (p := ⟨w.heap.size + 1, 1, none⟩) (by simp) _⟩
    clear z hok r2 t2
    go_wp2
    exact bodyPost_ret (v := .tuple #[.agg #[.slice none 0 0, .slice none 0 0], .bool false]) (by simp [results, Tryz.results53, go_sem, k0, k1]) rfl HF.out
  | true =>
    obtain ⟨hn1, hn2, hn3⟩ := HB.out hok
    have HCP' := HCP.out hok
    have HCQ : Hid (∀ W, RdDv W X → Calls Tryz.prog 29 #[.agg #[.slice sa sn cs, .slice la ln cl]] W fun e w' => ToDv W X.secs X.late e w') := HCP'
    have HLO2 : Hid _ := HL.out hok
    have HNO2 : Hid _ := HNO.out hok
    have HYES2 : Hid _ := HYES.out hok
    obtain ⟨d0, d1⟩ := HDV.out _ t2
    clear HCP HCP' HL HNO HYES HOFF hok f0 f1 f2 f3
    go_wp2_with fail
    refine (HCQ.out _ (HX.out.below b2)).mono ?_
    rintro e w3 ⟨Y, rfl, hYs, hYl, hoY, hb3⟩
    have t3 := t2.below hb3
    have r3 := r2.below hb3
    have b3 := b2.trans (hb3.mono b2.size)
    have s3 := hb3.size
    obtain ⟨ya, yc, hy0⟩ := own_slice hoY.secs
    obtain ⟨za, zc, hz0⟩ := own_slice hoY.late
    obtain ⟨yvs, yvl, ysecs, ylate⟩ := Y
    simp only at hYs hYl hy0 hz0
    subst hYs
    subst hYl
    generalize X.secs.length = yn at hy0
    generalize X.late.length = zn at hz0
    subst hy0
    subst hz0
    have oS := hoY.secs
    have oL := hoY.late
    simp only at oS oL
    have o4 := boxDv_new w3 (.slice ya yn yc) (.slice za zn zc)
    have bb4 := below1 w3 (.cells #[.slice ya yn yc, .slice za zn zc] 27)
    obtain ⟨W4, hW4⟩ : ∃ W4, W4 = w3.alloc (.cells #[.slice ya yn yc, .slice za zn zc] 27) := ⟨_, rfl⟩
    have s4 : W4.heap.size = w3.heap.size + 1 := by rw [hW4]; simp
    rw [← hW4] at o4 bb4
    have bb5 := below1 W4 (.cells #[.int .i64 p, .string t] 70)
    have p5 : PatAt (W4.alloc (.cells #[.int .i64 p, .string t] 70)) (w3.heap.size + 1) 0 ⟨p, t⟩ := by
      rw [← s4]
      constructor <;> simp [World.cell?_alloc_at]
    obtain ⟨W5, hW5⟩ : ∃ W5, W5 = W4.alloc (.cells #[.int .i64 p, .string t] 70) := ⟨_, rfl⟩
    have s5 : W5.heap.size = w3.heap.size + 2 := by rw [hW5]; simp [s4]
    rw [← hW5] at bb5 p5
    have bb := bb4.trans (bb5.mono bb4.size)
    have t5 := t3.below bb
    have r5 := r3.below bb
    have b5 := b3.trans (bb.mono b3.size)
    have o5 := o4.below bb5
    have oS5 := oS.below bb
    have oL5 := oL.below bb
    have LL : Hid (∀ k, (Value.slice za zn zc).ownBlock = some k → w2.heap.size ≤ k ∧ k < w3.heap.size) := fun k hk => World.ownsRow.lt oL k hk
    have LS : Hid (∀ k, (Value.slice ya yn yc).ownBlock = some k → w2.heap.size ≤ k ∧ k < w3.heap.size) := fun k hk => World.ownsRow.lt oS k hk
    have HW5 : Hid ((w3.alloc (.cells #[.slice ya yn yc, .slice za zn zc] 27)).alloc (.cells #[.int .i64 p, .string t] 70) = W5) := by unfold Hid; rw [hW5, hW4]
    clear t2 r2 b2 t3 r3 b3 hb3 hoY oS oL bb4 bb5 bb d0 d1 HCQ o4
    obtain ⟨d0, d1⟩ := HDV.out _ t5
    obtain ⟨c0, c1⟩ := id p5
    simp only [Nat.zero_add] at c0 c1
    rw [← HW5.out] at d0 d1 c0 c1
    clear hW4 hW5 s4
    go_wp2_with fail
    rw [HW5.out]
    refine (HPO.out _ (HX.out.below b5)).mono ?_
    rintro e w6 ⟨rfl, hb6⟩
    have t6 := t5.below hb6
    have r6 := r5.below hb6
    have o6 := o5.below hb6
    have b6 := b5.trans (hb6.mono b5.size)
    have oS6 := oS5.below hb6
    have oL6 := oL5.below hb6
    have p6 := p5.below hb6
    have s6 := hb6.size
    rw [s5] at s6
    clear t5 r5 o5 b5 oS5 oL5 p5 hb6 s5 d0 d1 c0 c1 HW5 HPO
    obtain ⟨d0, d1⟩ := HDV.out _ t6
    obtain ⟨f0, f1, f2, f3⟩ := r6.facts
    obtain ⟨g0, g1, g2, g3⟩ := o6.facts
    obtain ⟨c0, c1⟩ := id p6
    simp only [Nat.zero_add] at c0 c1
    by_cases hyes : po = true ∧ ln ≠ 30
    · obtain ⟨hp1, hp3⟩ := hyes
      have hlo : lo = true := HLO2.out.2 ⟨hp1, hp3⟩
      obtain ⟨rfl, rfl⟩ := HYES2.out hlo
      subst hlo
      subst hp1
      have q3 : ((ln : Int) == 30) = false := by simp; omega
      have bb7 := below1 w6 (.cells #[.int .i64 p, .string t] 70)
      have r7 := r6.below bb7
      have o7 := o6.below bb7
      have b7 := b6.trans (bb7.mono b6.size)
      have oS7 := oS6.below bb7
      have oL7 := oL6.below bb7
      have hr7 := rdPt_one w6 ⟨p, t⟩
      have s7 : (w6.alloc (.cells #[.int .i64 p, .string t] 70)).heap.size = w6.heap.size + 1 := by simp
      have HLN : Hid (X.late.length + 1 ≤ 1000000000) := by unfold Hid; rw [← HLNE.out]; omega
      clear t6 r6 o6 b6 oS6 oL6 HNO2 HYES2 HLO2 hp3 bb7 p6
      go_wp2_with (at_builtin; (refine wpList_append_pats rfl _ _ rfl w2.heap.size _ _ X.late [⟨p, t⟩] rfl rfl oL7 hr7 (by simpa using HLN.out) (by rw [s7]; omega) ?_))
      intro vL w8 hoL hg
      have r8 : BoxDv w8 (w.heap.size + 1) _ _ := r7.of_block (hg.block _ r7.lt (fun e => by have := LL.out _ e.symm; omega))
      have o8 : BoxDv w8 w3.heap.size _ _ := o7.of_block (hg.block _ o7.lt (fun e => by have := LL.out _ e.symm; omega))
      have oS8 : OwnS w8 w2.heap.size (.slice ya yn yc) X.secs := row_kept oS7 hg (fun k hk e => rows_apart oS7 oL7 (by decide) k hk e)
      have b8 := b7.grown hg (by rw [s7]; omega) (fun k hk => by have := LL.out k hk; omega)
      obtain ⟨va, vc, hvL⟩ := own_slice hoL
      generalize (X.late ++ [(⟨p, t⟩ : Pat)]).length = vn at hvL
      clear f0 f1 f2 f3 g0 g1 g2 g3 d0 d1 c0 c1 hr7 oL7 s7 r7 o7 b7 oS7 hg
      subst hvL
      have GE6 : w3.heap.size < w8.heap.size := o8.lt
      obtain ⟨g0, g1, g2, g3⟩ := o8.facts
      have o9 := o8.set1 (u := .slice va vn vc)
      have r9 : BoxDv (w8.setCell ⟨w3.heap.size, 1, none⟩ (.slice va vn vc)) (w.heap.size + 1) _ _ := r8.of_block (block_set (by omega))
      have oS9 : OwnS (w8.setCell ⟨w3.heap.size, 1, none⟩ (.slice va vn vc)) w2.heap.size (.slice ya yn yc) X.secs := row_set oS8 (fun k hk e => by have := LS.out k hk; omega)
      have NB : Hid (∀ k, (Value.slice va vn vc).ownBlock = some k → w3.heap.size ≠ k) := fun k hk e => by
        subst e
        exact boxDv_row o8 hoL (by decide) _ hk rfl
      have oL9 : OwnPt (w8.setCell ⟨w3.heap.size, 1, none⟩ (.slice va vn vc)) w2.heap.size (.slice va vn vc) (X.late ++ [⟨p, t⟩]) := row_set hoL NB.out
      have b9 := b8.setCell (p := ⟨w3.heap.size, 1, none⟩) (by simp; omega) (.slice va vn vc)
      obtain ⟨f0, f1, f2, f3⟩ := r9.facts
      obtain ⟨l0, l1, -, -⟩ := o9.facts
      have z := (r9.set0 (u := .slice ya yn yc)).set1 (u := .slice va vn vc)
      obtain ⟨k0, k1, -, -⟩ := z.facts
      have oL10 : OwnPt (((w8.setCell ⟨w3.heap.size, 1, none⟩ (.slice va vn vc)).setCell ⟨w.heap.size + 1, 0, none⟩ (.slice ya yn yc)).setCell ⟨w.heap.size + 1, 1, none⟩ (.slice va vn vc)) w2.heap.size (.slice va vn vc) (X.late ++ [⟨p, t⟩]) := row_base (row_base oL9 (by omega)) (by omega)
      have HF : Hid (DvRes w X.secs (X.late ++ [⟨p, t⟩]) true (.returned (.tuple #[.agg #[.slice ya yn yc, .slice va vn vc], .bool true])) (((w8.setCell ⟨w3.heap.size, 1, none⟩ (.slice va vn vc)).setCell ⟨w.heap.size + 1, 0, none⟩ (.slice ya yn yc)).setCell ⟨w.heap.size + 1, 1, none⟩ (.slice va vn vc))) :=
        ⟨⟨.slice ya yn yc, .slice va vn vc, X.secs, X.late ++ [⟨p, t⟩]⟩, rfl, rfl, rfl, ⟨OwnS.mono (row_base (row_base oS9 (by omega)) (by omega)) (by omega), OwnPt.mono oL10 (by omega)⟩, (b9.setCell (p := ⟨w.heap.size + 1, 0, none⟩) (by simp) _).setCell (p := ⟨w.heap.size + 1, 1, none⟩) (by simp) _⟩
      clear z o8 r8 o9 r9 oS8 oS9 hoL oL9 oL10 b8 b9 NB
      go_wp2
      exact bodyPost_ret (v := .tuple #[.agg #[.slice ya yn yc, .slice va vn vc], .bool true]) (by simp [results, Tryz.results53, go_sem, k0, k1]) rfl HF.out
    · have hlo : lo = false := by
        cases lo with
        | false => rfl
        | true => exact absurd (HLO2.out.1 rfl) hyes
      obtain ⟨rfl, rfl⟩ := HNO2.out hlo
      subst hlo
      have z := (r6.set0 (u := .slice ya yn yc)).set1 (u := .slice za zn zc)
      obtain ⟨k0, k1, -, -⟩ := z.facts
      have HF : Hid (DvRes w X.secs X.late false (.returned (.tuple #[.agg #[.slice ya yn yc, .slice za zn zc], .bool false])) ((w6.setCell ⟨w.heap.size + 1, 0, none⟩ (.slice ya yn yc)).setCell ⟨w.heap.size + 1, 1, none⟩ (.slice za zn zc))) :=
        ⟨⟨.slice ya yn yc, .slice za zn zc, X.secs, X.late⟩, rfl, rfl, rfl, ⟨OwnS.mono (row_base (row_base oS6 (by omega)) (by omega)) (by omega), OwnPt.mono (row_base (row_base oL6 (by omega)) (by omega)) (by omega)⟩, (b6.setCell (p := ⟨w.heap.size + 1, 0, none⟩) (by simp) _).setCell (p := ⟨w.heap.size + 1, 1, none⟩) (by simp) _⟩
      clear z t6 r6 o6 oS6 oL6 b6 HNO2 HYES2 HLO2 p6
      cases po with
      | true =>
        have hl30 : ln = 30 := by have : ¬ ln ≠ 30 := fun h => hyes ⟨rfl, h⟩; omega
        have q3 : ((ln : Int) == 30) = true := by simp; omega
        clear hyes hl30
        go_wp2
        exact bodyPost_ret (v := .tuple #[.agg #[.slice ya yn yc, .slice za zn zc], .bool false]) (by simp [results, Tryz.results53, go_sem, k0, k1]) rfl HF.out
      | false =>
        clear hyes
        go_wp2
        exact bodyPost_ret (v := .tuple #[.agg #[.slice ya yn yc, .slice za zn zc], .bool false]) (by simp [results, Tryz.results53, go_sem, k0, k1]) rfl HF.out
end Go.Proofs.YtpidmmfjmbinkaaGreatDoor
