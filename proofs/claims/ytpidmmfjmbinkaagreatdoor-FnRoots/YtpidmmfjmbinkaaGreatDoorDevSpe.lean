/- The contracts of the model's Barrier and Lies. -/
import Derived.Test.YtpidmmfjmbinkaaGreatDoorDevCut
-- UNF Gen
namespace Go.Proofs.YtpidmmfjmbinkaaGreatDoor
open Go.RowKit
theorem keep_all {s : List ByteArray} {l : List Pat} : cutL s l (keepOf (List.replicate l.length true)) = cutL s l (fun _ => true) := by
  unfold cutL
  split
  · exact cutTo_same _ (fun j hj => by rw [keepOf_at (by rw [List.length_replicate]; exact hj)]; simp)
  · rfl
set_option maxHeartbeats 4000000 in
set_option maxRecDepth 100000 in
theorem specBarrier_any (X : DvX) (w : World) (hx : RdDv w X) (hn : X.late.length ≤ 1048576) :
    Calls Tryz.prog 40 #[.agg #[X.vs, X.vl]] w fun e w' => ToDv w (cutL X.secs X.late (fun _ => true)) [] e w' := by
  have HCU : Hid (∀ vk W, RdDv W X → RdB W vk (List.replicate X.late.length true) → Calls Tryz.prog 42 #[.agg #[X.vs, X.vl], vk] W fun e w' => ToDv W (cutL X.secs X.late (fun _ => true)) [] e w') := fun vk W h hk => by
    have := specCut_any X vk _ W h hk
    rw [keep_all] at this
    exact this
  have HDV : Hid (∀ W, DvAt W w.heap.size X → W.cell? ⟨w.heap.size, 0, none⟩ = some X.vs ∧ W.cell? ⟨w.heap.size, 1, none⟩ = some X.vl) := fun W h => h
  have HT0 : Hid (∀ (w : World) t, DvAt (w.alloc (.cells #[X.vs, X.vl] t)) w.heap.size X) := fun w t => dvAt_new w X t
  have HX : Hid (RdDv w X) := hx
  obtain ⟨sa, la, cs, cl, hvs, hvl, h1, h2, h3, h4⟩ := hx.slices
  generalize X.secs.length = sn at hvs
  obtain ⟨ln, hln⟩ : ∃ ln, ln = X.late.length := ⟨_, rfl⟩
  rw [← hln] at hvl h3 hn HCU
  rw [hvs, hvl] at HCU HDV HT0 ⊢
  clear hx hvs hvl hln h1 h2
  generalize cutL X.secs X.late (fun _ => true) = R at HCU ⊢
  have t0 := HT0.out w 27
  have b0 := below1 w (.cells #[.slice sa sn cs, .slice la ln cl] 27)
  obtain ⟨W0, hW0⟩ : ∃ W0, W0 = w.alloc (.cells #[.slice sa sn cs, .slice la ln cl] 27) := ⟨_, rfl⟩
  have s0 : W0.heap.size = w.heap.size + 1 := by rw [hW0]; simp
  rw [← hW0] at t0 b0
  have r1 := boxDv_new W0 (.slice none 0 0) (.slice none 0 0)
  have bb1 := below1 W0 (.cells #[.slice none 0 0, .slice none 0 0] 27)
  obtain ⟨W1, hW1⟩ : ∃ W1, W1 = W0.alloc (.cells #[.slice none 0 0, .slice none 0 0] 27) := ⟨_, rfl⟩
  have s1 : W1.heap.size = w.heap.size + 2 := by rw [hW1]; simp [s0]
  rw [← hW1] at r1 bb1
  rw [s0] at r1
  have t1 := t0.below bb1
  have b1 := b0.trans (bb1.mono b0.size)
  have bb2 := below1 W1 (.cells #[] 4)
  have o2 : OwnB (W1.alloc (.cells #[] 4)) (w.heap.size + 2) (.slice (some ⟨w.heap.size + 2, 0, none⟩) 0 0) [] := by rw [← s1]; exact ownB_none W1
  have t2 := t1.below bb2
  have r2 := r1.below bb2
  have b2 := b1.trans (bb2.mono b1.size)
  have s2 : (W1.alloc (.cells #[] 4)).heap.size = w.heap.size + 3 := by simp [s1]
  have HW : Hid (((w.alloc (.cells #[.slice sa sn cs, .slice la ln cl] 27)).alloc (.cells #[.slice none 0 0, .slice none 0 0] 27)).alloc (.cells #[] 4) = W1.alloc (.cells #[] 4)) := by unfold Hid; rw [hW1, hW0]
  clear t0 b0 r1 bb1 hW0 hW1 s0 t1 b1 bb2
  go_enter Tryz.func40, Tryz.ntmps40
  go_wp2
  rw [HW.out]
  generalize W1.alloc (.cells #[] 4) = W2 at o2 t2 r2 b2 s2 HW ⊢
  clear HW
  go_loopw [3, 4] (fun f i wr => ∃ k : Nat, k ≤ ln ∧ i = .int .i64 k ∧ Hid (OwnB wr (w.heap.size + 2) f (List.replicate k true)) ∧ Hid (DvAt wr w.heap.size X ∧ BoxDv wr (w.heap.size + 1) (.slice none 0 0) (.slice none 0 0) ∧ Below w.heap.size w wr ∧ w.heap.size + 2 ≤ wr.heap.size)) (fun _ i _ => ln - (intOf i).toNat)
  case atStart => exact ⟨0, Nat.zero_le _, rfl, o2, t2, r2, b2, by omega⟩
  case round =>
    clear o2 t2 r2 b2 s2
    obtain ⟨k, hk, rfl, HO, HI⟩ := hrel
    obtain ⟨tk, rk, bk, sk⟩ := HI.out
    obtain ⟨d0, d1⟩ := HDV.out _ tk
    by_cases hlt : k < ln
    · have bb3 := below1 wr (.cells #[.bool true] 4)
      have o3 := HO.out.below bb3
      have n3 := (ownB_one wr true).rd
      have t3 := tk.below bb3
      have r3 := rk.below bb3
      have b3 := bk.trans (bb3.mono bk.size)
      have s3 : (wr.alloc (.cells #[.bool true] 4)).heap.size = wr.heap.size + 1 := by simp
      have HKL : Hid ((List.replicate k true).length + [true].length ≤ 1000000000) := by unfold Hid; rw [List.length_replicate]; simp; omega
      clear bb3 tk rk bk
      go_wp2_with (at_builtin; (refine wpList_append_bools rfl _ _ rfl (w.heap.size + 2) _ _ (List.replicate k true) [true] rfl rfl o3 n3 HKL.out (by rw [s3]; omega) ?_))
      intro v5 w5 ho5 hg5
      have LB : ∀ q, u3.ownBlock = some q → w.heap.size + 2 ≤ q := fun q hq => (World.ownsRow.lt o3 q hq).1
      have H5 : Hid (OwnB w5 (w.heap.size + 2) v5 (List.replicate (k + 1) true)) := by
        unfold Hid
        rw [List.replicate_succ']
        exact ho5
      have HI5 : Hid (DvAt w5 w.heap.size X ∧ BoxDv w5 (w.heap.size + 1) (.slice none 0 0) (.slice none 0 0) ∧ Below w.heap.size w w5 ∧ w.heap.size + 2 ≤ w5.heap.size) := ⟨t3.of_block (hg5.block _ t3.lt (fun e => by have := LB _ e.symm; omega)), r3.of_block (hg5.block _ r3.lt (fun e => by have := LB _ e.symm; omega)), b3.grown hg5 (by rw [s3]; omega) (fun q hq => by have := LB q hq; omega), by have := hg5.size; omega⟩
      clear o3 n3 t3 r3 b3 s3 ho5 hg5 LB HO HI d0 d1
      go_wp2
      go_roundw
      case rel => exact ⟨k + 1, by omega, by go_num, H5, HI5⟩
      case measure => simp [intOf]; omega
    · have hke : k = ln := by omega
      subst hke
      have HK2 : Hid _ := HO.out.rd
      go_wp2_with fail
      refine (HCU.out _ _ (HX.out.below bk) HK2.out).mono ?_
      rintro e w2 ⟨Y, rfl, hYs, hYl, hoY, hb2⟩
      have r2 := rk.below hb2
      have b2 := bk.trans (hb2.mono bk.size)
      replace hoY := hoY.mono sk
      obtain ⟨ya, yc, hy0⟩ := own_slice hoY.secs
      obtain ⟨za, zc, hz0⟩ := own_slice hoY.late
      obtain ⟨yvs, yvl, ysecs, ylate⟩ := Y
      simp only at hYs hYl hy0 hz0
      subst hYs
      subst hYl
      obtain ⟨oS, oL⟩ := hoY
      simp only at oS oL
      generalize ysecs.length = yn at hy0
      generalize ([] : List Pat).length = zn at hz0
      subst hy0
      subst hz0
      obtain ⟨f0, f1, f2, f3⟩ := r2.facts
      have z := (r2.set0 (u := .slice ya yn yc)).set1 (u := .slice za zn zc)
      obtain ⟨k0, k1, -, -⟩ := z.facts
      have oL8 : OwnPt ((w2.setCell ⟨w.heap.size + 1, 0, none⟩ (.slice ya yn yc)).setCell ⟨w.heap.size + 1, 1, none⟩ (.slice za zn zc)) (w.heap.size + 2) (.slice za zn zc) [] := row_base (row_base oL (by omega)) (by omega)
      have HF : Hid (ToDv w ysecs [] (.returned (.agg #[.slice ya yn yc, .slice za zn zc])) ((w2.setCell ⟨w.heap.size + 1, 0, none⟩ (.slice ya yn yc)).setCell ⟨w.heap.size + 1, 1, none⟩ (.slice za zn zc))) :=
        ⟨⟨.slice ya yn yc, .slice za zn zc, ysecs, []⟩, rfl, rfl, rfl, ⟨OwnS.mono (row_base (row_base oS (by omega)) (by omega)) (by omega), OwnPt.mono oL8 (by omega)⟩, (b2.setCell (p := ⟨w.heap.size + 1, 0, none⟩) (by simp) _).setCell (p := ⟨w.heap.size + 1, 1, none⟩) (by simp) _⟩
      clear z r2 b2 oS oL oL8 hb2 d0 d1 tk rk bk HI HK2 HO
      go_wp2
      exact bodyPost_ret (v := .agg #[.slice ya yn yc, .slice za zn zc]) (by simp [results, Tryz.results40, go_sem, k0, k1]) rfl HF.out
set_option maxHeartbeats 4000000 in
set_option maxRecDepth 100000 in
theorem specLies_any (X : DvX) (p : Int) (w : World) (hx : RdDv w X) :
    Calls Tryz.prog 68 #[.agg #[X.vs, X.vl], .int .i64 p] w fun e w' => e = .returned (.string (liesL X.secs X.late p)) ∧ Below w.heap.size w w' := by
  have HDO : Hid (∀ W, RdDv W X → Calls Tryz.prog 37 #[.agg #[X.vs, X.vl]] W fun e w' => e = .returned (.bool (devOk X.secs X.late)) ∧ Below W.heap.size W w') := fun W h => specDeviceOk_any X W h
  have HDV : Hid (∀ W, DvAt W w.heap.size X → W.cell? ⟨w.heap.size, 0, none⟩ = some X.vs ∧ W.cell? ⟨w.heap.size, 1, none⟩ = some X.vl) := fun W h => h
  have HT0 : Hid (∀ (w : World) t, DvAt (w.alloc (.cells #[X.vs, X.vl] t)) w.heap.size X) := fun w t => dvAt_new w X t
  have HX : Hid (RdDv w X) := hx
  have HRS : Hid (RdS w X.vs X.secs) := hx.secs
  have HRL : Hid (RdPt w X.vl X.late) := hx.late
  obtain ⟨sa, la, cs, cl, hvs, hvl, h1, h2, h3, h4⟩ := hx.slices
  obtain ⟨sn, hsn⟩ : ∃ sn, sn = X.secs.length := ⟨_, rfl⟩
  obtain ⟨ln, hln⟩ : ∃ ln, ln = X.late.length := ⟨_, rfl⟩
  rw [← hsn] at hvs h1
  rw [← hln] at hvl h3
  have HSN : Hid (sn = X.secs.length) := hsn
  have HLN : Hid (ln = X.late.length) := hln
  have HB : Hid (devOk X.secs X.late = true → 1 ≤ sn ∧ sn ≤ 16 ∧ ln ≤ 30) := fun h => by have := (devOk_iff _ _).1 h; omega
  have HN1 : Hid (devOk X.secs X.late = false → liesL X.secs X.late p = ⟨#[]⟩) := fun h => by unfold liesL; rw [h]; rfl
  have HN2 : Hid (¬ (0 ≤ p ∧ p < (sn : Int)) → liesL X.secs X.late p = ⟨#[]⟩) := fun h => by
    unfold liesL
    rw [if_neg]
    rw [hsn] at h
    simp
    omega
  have HY : Hid (devOk X.secs X.late = true → ∀ (q : Nat) (h : q < X.secs.length), p = (q : Int) → liesL X.secs X.late p = liesTo X.secs[q] X.late p ln) := fun ho q h hp => by
    unfold liesL
    rw [if_pos (by simp [ho]; omega), hln]
    subst hp
    simp [List.getD, List.getElem?_eq_getElem h]
  generalize liesL X.secs X.late p = L at HN1 HN2 HY ⊢
  rw [hvs, hvl] at HDO HDV HT0 ⊢
  rw [hvs] at HRS
  rw [hvl] at HRL
  clear hx hvs hvl hsn hln
  have t0 := HT0.out w 27
  have b0 := below1 w (.cells #[.slice sa sn cs, .slice la ln cl] 27)
  obtain ⟨d0, d1⟩ := HDV.out _ t0
  go_enter Tryz.func68, Tryz.ntmps68
  go_wp2_with fail
  generalize w.alloc (.cells #[.slice sa sn cs, .slice la ln cl] 27) = W0 at t0 b0 d0 d1 ⊢
  refine (HDO.out _ (HX.out.below b0)).mono ?_
  rintro e w2 ⟨rfl, hb2⟩
  have t2 := t0.below hb2
  have b2 := b0.trans (hb2.mono b0.size)
  clear t0 b0 d0 d1 hb2 HDO
  obtain ⟨d0, d1⟩ := HDV.out _ t2
  cases hok : devOk X.secs X.late with
  | false =>
    obtain rfl := HN1.out hok
    clear hok
    go_wp2
    go_ret
    exact ⟨rfl, b2⟩
  | true =>
    obtain ⟨hn1, hn2, hn3⟩ := HB.out hok
    by_cases hp : 0 ≤ p ∧ p < (sn : Int)
    · obtain ⟨hp0, hp1⟩ := hp
      have e1 : (decide (0 ≤ p) && decide (p ≤ (sn : Int) - 1)) = true := by simp; omega
      obtain ⟨q, hq⟩ : ∃ q : Nat, p = (q : Int) := ⟨p.toNat, by omega⟩
      have hqs : q < X.secs.length := by rw [← HSN.out]; omega
      have HL : Hid (L = liesTo (X.secs[q]'hqs) X.late p ln) := HY.out hok q hqs hq
      obtain ⟨b, off, rfl, hc⟩ := txt_at (HRS.out.below b2) q hqs
      generalize (X.secs[q]'hqs) = tx at HL hc
      have hqy : q < sn := by omega
      have hqc : q < cs := by omega
      subst hq
      have e2 : decide ((q : Int) ≤ (sn : Int) - 1) = true := by simp; omega
      have e3 : ((q : Int) ≤ (sn : Int) - 1) := by omega
      clear hok HY HB HN1 HN2 hqs
      go_wp2_with (go_at_call 43; refine (in64_any _ _ _ _).mono ?_; rintro e w' ⟨rfl, rfl⟩)
      go_loop [5, 6] (fun s i => ∃ k : Nat, k ≤ ln ∧ i = .int .i64 k ∧ s = .string (liesTo tx X.late (q : Int) k)) (fun _ i => ln - (intOf i).toNat)
      case atStart => exact ⟨0, Nat.zero_le _, rfl, rfl⟩
      case round =>
        obtain ⟨k, hk, rfl, rfl⟩ := hrel
        by_cases hlt : k < ln
        · obtain ⟨b', off', rfl, c0, c1⟩ := (HRL.out.below b2).at HLN.out k (by rw [← HLN.out]; exact hlt)
          have hkc : k < cl := by omega
          have HS : Hid (liesTo tx X.late (q : Int) (k + 1) = if (nthP X.late k).pos = (q : Int) then (nthP X.late k).text else liesTo tx X.late (q : Int) k) := rfl
          generalize nthP X.late k = pt at c0 c1 HS
          obtain ⟨pos, text⟩ := pt
          simp only at c0 c1 HS
          by_cases he : pos = (q : Int)
          · have HS2 : Hid (liesTo tx X.late (q : Int) (k + 1) = text) := by unfold Hid; rw [HS.out, if_pos he]
            subst he
            clear HS
            go_wp2
            go_round
            case rel => exact ⟨k + 1, by omega, by go_num, by rw [HS2.out]⟩
            case measure => simp [intOf]; omega
          · have HS2 : Hid (liesTo tx X.late (q : Int) (k + 1) = liesTo tx X.late (q : Int) k) := by unfold Hid; rw [HS.out, if_neg he]
            have he2 : (pos == (q : Int)) = false := by simp; exact he
            clear HS
            go_wp2
            go_round
            case rel => exact ⟨k + 1, by omega, by go_num, by rw [HS2.out]⟩
            case measure => simp [intOf]; omega
        · have hke : k = ln := by omega
          have HL2 : Hid (liesTo tx X.late (q : Int) k = L) := by unfold Hid; rw [HL.out, hke]
          clear hke
          go_wp2
          go_ret
          exact ⟨congrArg (fun x => Ending.returned (Value.string x)) HL2.out, b2⟩
    · have e1 : (decide (0 ≤ p) && decide (p ≤ (sn : Int) - 1)) = false := by rw [Bool.eq_false_iff]; simp; omega
      obtain rfl := HN2.out hp
      clear hok hp
      go_wp2_with (go_at_call 43; refine (in64_any _ _ _ _).mono ?_; rintro e w' ⟨rfl, rfl⟩)
      go_ret
      exact ⟨rfl, b2⟩
end Go.Proofs.YtpidmmfjmbinkaaGreatDoor
