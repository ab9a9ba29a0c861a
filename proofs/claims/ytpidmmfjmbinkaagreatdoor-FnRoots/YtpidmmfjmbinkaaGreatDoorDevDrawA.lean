/- The draws of devices: l8DrawAny. -/
import Derived.Test.YtpidmmfjmbinkaaGreatDoorDevDraw
import Derived.Deep.DeepCutAuto
-- UNF Gen
namespace Go.Proofs.YtpidmmfjmbinkaaGreatDoor
open Go.RowKit
def lateN (w : World) (b : Nat) : Nat := match w.cell? ⟨b, 1, none⟩ with | some (.slice _ n _) => n | _ => 0
def DvA (w0 w : World) (g : Nat) (e : Ending) (w' : World) : Prop :=
  ∃ Y : DvX, e = .returned (.agg #[Y.vs, Y.vl]) ∧ (Y.secs.length ≤ 4 ∧ Y.late.length ≤ 31) ∧ OwnDv w' w.heap.size Y ∧ DCur w0 w' g ∧ w.grownBy w' (some g)
/-- make of bytes, as one step of a region that draws. -/
theorem step_makeD {w : World} {ops : Array Oper} {o : Oper} {a : Act} {K : Act → World → Prop} {Q : Exit → Act → World → Prop} {E : Prop} (hgd : o.guard = none) (d : Nat) (hd : o.dst = some d) (l c : Operand) (ho : o.op = .makeSlice 22 l c)
    (n : Nat) (x : Int) (hx : x = (n : Int)) (hl : a.eval l = .int .i64 x) (hc : a.eval c = .int .i64 x) (hn : n ≤ 1000000) (B : Nat) (hB : B ≤ w.heap.size)
    (h : ∀ b W', Own W' B (.slice (some ⟨b, 0, none⟩) n n) (List.replicate n 0) → Below w.heap.size w W' → K (a.put (some d) (.slice (some ⟨b, 0, none⟩) n n)) W') :
    if Region.wanted o (yielded ops a.tmps) = true then Oper.wp Tryz.prog o a w K Q else E := by
  subst hx
  have hw : Region.wanted o (yielded ops a.tmps) = true := by simp [Region.wanted, hgd]
  rw [if_pos hw]
  obtain ⟨i0, hi, hz0, hz1, hz2⟩ := info_parts Tryz.info5
  obtain ⟨w', hrun, r1, r2⟩ := run_make_full (P := Tryz.prog) w B 22 5 i0 (.int .u8 0) 1 Tryz.underlying22 hi hz0 hz1 .i64 .i64 n (by rw [hz2]; omega) (by unfold maxLen; omega) hB
  have r3 : Own w' B (.slice (some ⟨w.heap.size, 0, none⟩) n n) (List.replicate n 0) := by
    unfold Own
    rw [List.length_replicate, ← madeB, ← Nat.mul_one n]
    simpa [Value.cells] using r1
  have h' := h _ w' r3 ((Below.refl _ _).grown r2 (Nat.le_refl _) (fun k hk => by cases hk))
  rw [← hd] at h'
  unfold Oper.wp
  simp [execOp, ho, hl, hc, hrun, Result.andThen]
  exact h'
theorem step_pat1 {w : World} {ops : Array Oper} {o : Oper} {a : Act} {K : Act → World → Prop} {Q : Exit → Act → World → Prop} {E : Prop} (hgd : o.guard = none) (d : Nat) (hd : o.dst = some d) (p : Int) (t : ByteArray)
    (hrun : (execOp a.eval o).run Tryz.prog w = .ok (.value (.slice (some ⟨w.heap.size, 0, none⟩) 1 1)) (w.alloc (.cells #[.int .i64 p, .string t] 70)))
    (h : ∀ b W', Below w.heap.size w W' → OwnPt W' w.heap.size (.slice (some ⟨b, 0, none⟩) 1 1) [⟨p, t⟩] → K (a.put (some d) (.slice (some ⟨b, 0, none⟩) 1 1)) W') :
    if Region.wanted o (yielded ops a.tmps) = true then Oper.wp Tryz.prog o a w K Q else E := by
  have hw : Region.wanted o (yielded ops a.tmps) = true := by simp [Region.wanted, hgd]
  rw [if_pos hw]
  have h' := h w.heap.size _ (below1 w (.cells #[.int .i64 p, .string t] 70)) (World.ownsRow_lit w #[.int .i64 p, .string t] 1 (Nat.le_refl _) (by unfold maxLen; omega) (by simp))
  rw [← hd] at h'
  unfold Oper.wp
  rw [hrun]
  exact h'
set_option maxHeartbeats 1000000 in
set_option maxRecDepth 100000 in
theorem l1FromD_any (w0 w : World) (g : Nat) (lo hi : Int) (h : DCur w0 w g) (h0 : lo ≤ hi) (h1 : -1000000 ≤ lo) (h2 : hi ≤ 1000000) :
    Calls Tryz.prog 71 #[.pointer (some ⟨g, 0, none⟩), .int .i64 lo, .int .i64 hi] w fun e w' => ∃ x : Int, e = .returned (.int .i64 x) ∧ lo ≤ x ∧ x ≤ hi ∧ DCur w0 w' g ∧ w.grownBy w' (some g) := by
  go_enter Tryz.func71, Tryz.ntmps71
  go_wp2_with fail
  refine (l1Below_any w0 _ g _ h (by omega) (by omega)).mono ?_
  rintro e w1 ⟨x, rfl, hx0, hx1, hc, hg⟩
  go_wp2
  go_ret
  exact ⟨_, rfl, by omega, by omega, hc, hg⟩
set_option maxHeartbeats 8000000 in
set_option maxRecDepth 100000 in
theorem l8DrawAny_any (w0 w : World) (g : Nat) (h : DCur w0 w g) :
    Calls Tryz.prog 50 #[.pointer (some ⟨g, 0, none⟩)] w fun e w' => DvA w0 w g e w' := by
  have HGL : Hid (g < w.heap.size) := h.lt
  have zr := boxDv_new w (.slice none 0 0) (.slice none 0 0)
  have dc := h.alloc (.cells #[.slice none 0 0, .slice none 0 0] 27)
  have gr := gr_alloc (gr_refl w (some g)) (.cells #[.slice none 0 0, .slice none 0 0] 27)
  have s0 : w.heap.size + 1 = (w.alloc (.cells #[.slice none 0 0, .slice none 0 0] 27)).heap.size := by simp
  go_enter Tryz.func50, Tryz.ntmps50
  go_wp2_with fail
  generalize w.alloc (.cells #[.slice none 0 0, .slice none 0 0] 27) = W0 at zr dc gr s0 ⊢
  refine (l8Draw_any w0 _ g dc).mono ?_
  rintro e w1 ⟨Y, rfl, hok, hlen, oY, dc1, hg1⟩
  have hla : Y.late.length ≤ 30 := ((devOk_iff _ _).1 hok).2.2.1
  replace zr := zr.of_block (hg1.block (w.heap.size) zr.lt (fun e => by have := Option.some.inj e; have := HGL.out; omega))
  replace gr := gr_trans gr hg1
  replace oY := oY.mono (show w.heap.size ≤ W0.heap.size by omega)
  have hne1 : 1 ≤ Y.secs.length := ((devOk_iff _ _).1 hok).1
  have s1 := hg1.size
  obtain ⟨va, vc, hv1⟩ := own_slice oY.secs
  obtain ⟨la, lc, hv2⟩ := own_slice oY.late
  obtain ⟨vs1, vl1, secs, late⟩ := Y
  simp only at hv1 hv2 hok hlen hla hne1
  obtain ⟨sn, hsn⟩ : ∃ sn, sn = secs.length := ⟨_, rfl⟩
  obtain ⟨ln, hln⟩ : ∃ ln, ln = late.length := ⟨_, rfl⟩
  rw [← hsn] at hv1
  rw [← hln] at hv2
  subst hv1
  subst hv2
  have HSN : Hid (sn = secs.length) := hsn
  have HLN : Hid (ln = late.length) := hln
  have HLE : Hid (secs.length ≤ 4 ∧ late.length ≤ 30 ∧ 1 ≤ secs.length) := ⟨hlen, hla, hne1⟩
  clear dc hg1 hok hlen hla hsn hln hne1
  have zb := boxDv_new w1 (.slice va sn vc) (.slice la ln lc)
  have bb := below1 w1 (.cells #[.slice va sn vc, .slice la ln lc] 27)
  replace zr := zr.below bb
  replace dc1 := dc1.alloc (.cells #[.slice va sn vc, .slice la ln lc] 27)
  replace gr := gr_alloc gr (.cells #[.slice va sn vc, .slice la ln lc] 27)
  replace oY := oY.below bb
  have HB3 : Hid (w.heap.size < w1.heap.size) := by unfold Hid; omega
  clear bb
  go_wp2_with fail
  generalize w1.alloc (.cells #[.slice va sn vc, .slice la ln lc] 27) = W2 at zb zr dc1 gr oY ⊢
  generalize w1.heap.size = b3 at zb HB3 s1 ⊢
  refine (l1Once_any w0 _ g 12 dc1 (by omega) (by omega)).mono ?_
  rintro e w3 ⟨bb, rfl, dc, hg3⟩
  replace zr := zr.of_block (hg3.block (w.heap.size) zr.lt (fun e => by have := Option.some.inj e; have := HGL.out; omega))
  replace zb := zb.of_block (hg3.block b3 zb.lt (fun e => by have := Option.some.inj e; have := HGL.out; have := HB3.out; omega))
  replace gr := gr_trans gr hg3
  replace oY : OwnDv w3 w.heap.size ⟨.slice va sn vc, .slice la ln lc, secs, late⟩ := ⟨row_kept oY.secs hg3 (fun k hk e => by have := (World.ownsRow.lt oY.secs k hk).1; have := Option.some.inj e; have := HGL.out; omega), row_kept oY.late hg3 (fun k hk e => by have := (World.ownsRow.lt oY.late k hk).1; have := Option.some.inj e; have := HGL.out; omega)⟩
  clear hg3
  clear dc1 s0 s1
  go_upto_if 7 with fail
  go_cut [] (fun W => ∃ Y : DvX, (Y.secs.length ≤ 4 ∧ Y.late.length ≤ 31) ∧ BoxDv W b3 Y.vs Y.vl ∧ BoxDv W w.heap.size (.slice none 0 0) (.slice none 0 0) ∧ OwnDv W w.heap.size Y ∧ DCur w0 W g ∧ w.grownBy W (some g))
  case rest =>
    clear zb zr oY dc gr HSN HLN HLE
    obtain ⟨Y, hl, zb, zr, oY, dc, gr⟩ := hcut
    obtain ⟨va, vc, hv1⟩ := own_slice oY.secs
    obtain ⟨la, lc, hv2⟩ := own_slice oY.late
    obtain ⟨vs1, vl1, secs, late⟩ := Y
    simp only at hv1 hv2 hl zb
    obtain ⟨sn, hsn⟩ : ∃ sn, sn = secs.length := ⟨_, rfl⟩
    obtain ⟨ln, hln⟩ : ∃ ln, ln = late.length := ⟨_, rfl⟩
    rw [← hsn] at hv1
    rw [← hln] at hv2
    subst hv1
    subst hv2
    clear hsn hln
    have END : Hid (DvA w0 w g (.returned (.agg #[(.slice va sn vc), (.slice la ln lc)])) ((wc.setCell ⟨w.heap.size, 0, none⟩ (.slice va sn vc)).setCell ⟨w.heap.size, 1, none⟩ (.slice la ln lc))) := by
      refine ⟨⟨.slice va sn vc, .slice la ln lc, secs, late⟩, rfl, hl, ⟨row_set (row_set oY.secs (fun j hj e => boxDv_row zr oY.secs (by decide) j hj e)) (fun j hj e => boxDv_row zr oY.secs (by decide) j hj e), row_set (row_set oY.late (fun j hj e => boxDv_row zr oY.late (by decide) j hj e)) (fun j hj e => boxDv_row zr oY.late (by decide) j hj e)⟩, ?_, gr_setD (gr_setD gr (Nat.le_refl _)) (Nat.le_refl _)⟩
      have hg := HGL.out
      exact (dc.grow (row := some w.heap.size) (set_grown _) (fun j hj => by have := Option.some.inj hj; omega)).grow (row := some w.heap.size) (set_grown _) (fun j hj => by have := Option.some.inj hj; omega)
    have zf : BoxDv ((wc.setCell ⟨w.heap.size, 0, none⟩ (.slice va sn vc)).setCell ⟨w.heap.size, 1, none⟩ (.slice la ln lc)) w.heap.size (.slice va sn vc) (.slice la ln lc) := heap_setCell_same _ w.heap.size 1 _ _ _ (heap_setCell_same wc w.heap.size 0 _ _ _ zr)
    obtain ⟨f0, f1, -⟩ := zf.facts
    obtain ⟨y0, y1, g0, g1⟩ := zb.facts
    obtain ⟨m0, m1, n0, n1⟩ := zr.facts
    clear zf zb zr oY dc gr
    go_wp2
    exact bodyPost_ret (v := .agg #[(.slice va sn vc), (.slice la ln lc)]) (by simp [results, Tryz.results50, go_sem, f0, f1]) rfl END.out
  case first =>
    cases bb with
    | false =>
      go_wp2
      go_meet
      case rel => exact ⟨⟨.slice va sn vc, .slice la ln lc, secs, late⟩, ⟨HLE.out.1, by have := HLE.out.2.1; simp only; omega⟩, zb, zr, oY, dc, gr⟩
    | true =>
      go_wp2_with fail
      refine (l1Below_any w0 _ g 4 dc (by omega) (by omega)).mono ?_
      rintro e w4 ⟨x, rfl, hx0, hx1, dc4, hg4⟩
      replace zr := zr.of_block (hg4.block (w.heap.size) zr.lt (fun e => by have := Option.some.inj e; have := HGL.out; omega))
      replace zb := zb.of_block (hg4.block b3 zb.lt (fun e => by have := Option.some.inj e; have := HGL.out; have := HB3.out; omega))
      replace gr := gr_trans gr hg4
      replace oY : OwnDv w4 w.heap.size ⟨.slice va sn vc, .slice la ln lc, secs, late⟩ := ⟨row_kept oY.secs hg4 (fun k hk e => by have := (World.ownsRow.lt oY.secs k hk).1; have := Option.some.inj e; have := HGL.out; omega), row_kept oY.late hg4 (fun k hk e => by have := (World.ownsRow.lt oY.late k hk).1; have := Option.some.inj e; have := HGL.out; omega)⟩
      clear hg4
      replace dc := dc4
      clear dc4
      have hx : x = 0 ∨ x = 1 ∨ x = 2 ∨ x = 3 := by omega
      clear hx0 hx1
      rcases hx with rfl | rfl | rfl | rfl
      · skip
        -- no sectors
        have hwb : w.heap.size ≠ b3 := by have := HB3.out; omega
        have hbl := zb.lt
        obtain ⟨Wc, hWc⟩ : ∃ Wc, Wc = w4.setCell ⟨b3, 0, none⟩ (.slice (some ⟨w4.heap.size, 0, none⟩) 0 0) := ⟨_, rfl⟩
        have sc : Wc.heap.size = w4.heap.size := by rw [hWc]; simp
        have zc : BoxDv Wc b3 (.slice (some ⟨w4.heap.size, 0, none⟩) 0 0) (.slice la ln lc) := by rw [hWc]; exact heap_setCell_same w4 b3 0 _ _ _ zb
        have zd : BoxDv Wc w.heap.size (.slice none 0 0) (.slice none 0 0) := by rw [hWc]; exact zr.of_block (heap_setCell_other w4 ⟨b3, 0, none⟩ w.heap.size _ hwb)
        have od : OwnPt Wc w.heap.size (.slice la ln lc) late := by rw [hWc]; exact row_set oY.late (fun j hj e => boxDv_row zb oY.late (by decide) j hj e)
        have dd : DCur w0 Wc g := by rw [hWc]; exact dc.grow (row := some b3) (set_grown _) (fun j hj => by have := Option.some.inj hj; have := HGL.out; have := HB3.out; omega)
        have gd : w.grownBy Wc (some g) := by rw [hWc]; exact gr_setD gr (by have := HB3.out; omega)
        have bb := below1 Wc (.cells #[] 9)
        have os := ownS_none Wc
        obtain ⟨P, hP⟩ : ∃ P, P = Wc.alloc (.cells #[] 9) := ⟨_, rfl⟩
        rw [← hP] at bb os
        have hgs := gr.size
        rw [sc] at os
        obtain ⟨y0, y1, g0, g1⟩ := zb.facts
        have HPE : Hid ((w4.setCell ⟨b3, 0, none⟩ (.slice (some ⟨w4.heap.size, 0, none⟩) 0 0)).alloc (.cells #[] 9) = P) := by unfold Hid; rw [hP, hWc]
        replace zb := zc.below bb
        replace zr := zd.below bb
        replace oY : OwnDv P w.heap.size ⟨.slice (some ⟨w4.heap.size, 0, none⟩) 0 0, .slice la ln lc, [], late⟩ := ⟨os.mono hgs, od.below bb⟩
        replace dc : DCur w0 P g := dd.grow (row := none) (gr_belowD (gr_refl _ _) bb) (fun k hk => by cases hk)
        replace gr := gr_belowD gd bb
        clear hWc hP sc zc zd od dd gd bb os
        go_wp2
        go_meet
        case rel =>
          rw [HPE.out]
          exact ⟨⟨.slice (some ⟨w4.heap.size, 0, none⟩) 0 0, .slice la ln lc, [], late⟩, ⟨by simp, by have := HLE.out.2.1; simp only; omega⟩, zb, zr, oY, dc, gr⟩
      · skip
        go_wp2_with fail
        refine wp_region_noPanic ?_
        refine wp_region_held_drew (S := fun _ => True) (by kernel_rfl) trivial (fun hS => ?_)
        have dd : Below w4.heap.size w4 w4.drew := (Below.refl _ w4).drew
        replace zb := zb.below dd
        replace zr := zr.below dd
        replace oY := oY.below dd
        replace dc := dc.grow (row := none) (gr_belowD (gr_refl _ _) dd) (fun k hk => by cases hk)
        replace gr := gr_belowD gr dd
        clear dd
        revert gr
        revert dc
        revert oY
        revert zr
        revert zb
        revert hS
        generalize w4.drew = V
        intro hS zb zr oY dc gr
        refine tkG 0 16 hS ?_
        try simp only [Act.put, List.setIfInBounds_toArray, List.set_cons_zero, List.set_cons_succ]
        refine tkG 2 18 hS ?_
        try simp only [Act.put, List.setIfInBounds_toArray, List.set_cons_zero, List.set_cons_succ]
        refine wpAnyH_ready (rs := [1, 3]) (by kernel_rfl) (by simp) ?_
        refine AllReadyH.cons rfl (fun K hK => ?_) (AllReadyH.cons rfl (fun K hK => ?_) AllReadyH.nil)
        · obtain ⟨y0, y1, g0, g1⟩ := zb.facts
          go_simp
          clear y0 y1 g0 g1 hS
          refine hK.out _ _ trivial (fun hS => ?_)
          clear hK K
          try simp only [List.setIfInBounds_toArray, List.set_cons_zero, List.set_cons_succ]
          refine wpAnyH_ready (rs := [3]) (by kernel_rfl) (by simp) ?_
          refine AllReadyH.cons rfl (fun K hK => ?_) AllReadyH.nil
          go_simp
          refine (l1FromD_any w0 _ g (-1) 6 dc (by omega) (by omega) (by omega)).mono ?_
          rintro e V3 ⟨p3, rfl, -, -, dc3, hg3⟩
          replace zr := zr.of_block (hg3.block (w.heap.size) zr.lt (fun e => by have := Option.some.inj e; have := HGL.out; omega))
          replace zb := zb.of_block (hg3.block b3 zb.lt (fun e => by have := Option.some.inj e; have := HGL.out; have := HB3.out; omega))
          replace gr := gr_trans gr hg3
          replace oY : OwnDv V3 w.heap.size ⟨.slice va sn vc, .slice la ln lc, secs, late⟩ := ⟨row_kept oY.secs hg3 (fun k hk e => by have := (World.ownsRow.lt oY.secs k hk).1; have := Option.some.inj e; have := HGL.out; omega), row_kept oY.late hg3 (fun k hk e => by have := (World.ownsRow.lt oY.late k hk).1; have := Option.some.inj e; have := HGL.out; omega)⟩
          clear hg3
          replace dc := dc3
          clear dc3 hS
          refine hK.out _ _ trivial (fun hS => ?_)
          clear hK K
          try simp only [List.setIfInBounds_toArray, List.set_cons_zero, List.set_cons_succ]
          refine tkG 4 20 hS ?_
          try simp only [Act.put, List.setIfInBounds_toArray, List.set_cons_zero, List.set_cons_succ]
          refine wpAnyH_ready (rs := [5]) (by kernel_rfl) (by simp) ?_
          refine AllReadyH.cons rfl (fun K hK => ?_) AllReadyH.nil
          refine step_pat1 rfl 21 rfl p3 ⟨#[]⟩ (by go_simp; (try rfl)) ?_
          intro bP V5 hb5 qP
          replace qP := OwnPt.mono qP gr.size
          replace zb := zb.below hb5
          replace zr := zr.below hb5
          replace oY := oY.below hb5
          replace dc := dc.grow (row := none) (gr_belowD (gr_refl _ _) hb5) (fun k hk => by cases hk)
          replace gr := gr_belowD gr hb5
          clear hb5 hS
          refine hK.out _ _ trivial (fun hS => ?_)
          clear hK K
          try simp only [Act.put, List.setIfInBounds_toArray, List.set_cons_zero, List.set_cons_succ]
          refine wpAnyH_ready (rs := [6]) (by kernel_rfl) (by simp) ?_
          refine AllReadyH.cons rfl (fun K hK => ?_) AllReadyH.nil
          refine step_append_pats rfl 22 rfl _ _ rfl w.heap.size (.slice la ln lc) _ late [⟨p3, ⟨#[]⟩⟩] rfl rfl oY.late qP.rd (by have := HLE.out.2.1; simp; omega) gr.size ?_
          intro vQ V6 oQ hg6
          have oS : OwnS V6 w.heap.size (.slice va sn vc) secs := row_kept oY.secs hg6 (fun k hk e => rows_apart oY.secs oY.late (by decide) k hk e)
          replace zb := zb.of_block (hg6.block b3 zb.lt (fun e => boxDv_row zb oY.late (by decide) b3 e.symm rfl))
          replace zr := zr.of_block (hg6.block (w.heap.size) zr.lt (fun e => boxDv_row zr oY.late (by decide) _ e.symm rfl))
          replace dc := dc.grow hg6 (fun k hk => by have := (World.ownsRow.lt oY.late k hk).1; have := HGL.out; omega)
          replace gr := gr_young gr hg6 (fun k hk => (World.ownsRow.lt oY.late k hk).1)
          obtain ⟨aQ, cQ, heQ⟩ := own_slice oQ
          generalize (late ++ [(⟨p3, ⟨#[]⟩⟩ : Pat)]).length = qn at heQ
          subst heQ
          clear hg6 qP oY hS
          refine hK.out _ _ trivial (fun hS => ?_)
          clear hK K
          try simp only [Act.put, List.setIfInBounds_toArray, List.set_cons_zero, List.set_cons_succ]
          refine tkG 7 23 hS ?_
          try simp only [Act.put, List.setIfInBounds_toArray, List.set_cons_zero, List.set_cons_succ]
          refine wpAnyH_ready (rs := [8]) (by kernel_rfl) (by simp) ?_
          refine AllReadyH.cons rfl (fun K hK => ?_) AllReadyH.nil
          obtain ⟨y0, y1, g0, g1⟩ := zb.facts
          go_simp
          refine hK.out _ _ trivial (fun hS => ?_)
          clear hK K y0 y1 g0 g1 hS
          refine wpAnyH_done (by kernel_rfl) ?_ _
          refine NoPanic.normal ?_
          have hwb : w.heap.size ≠ b3 := by have := HB3.out; omega
          have zc : BoxDv (V6.setCell ⟨b3, 1, none⟩ (.slice aQ qn cQ)) b3 (.slice va sn vc) (.slice aQ qn cQ) := heap_setCell_same V6 b3 1 _ _ _ zb
          have zd : BoxDv (V6.setCell ⟨b3, 1, none⟩ (.slice aQ qn cQ)) w.heap.size (.slice none 0 0) (.slice none 0 0) := zr.of_block (heap_setCell_other V6 ⟨b3, 1, none⟩ w.heap.size _ hwb)
          have od : OwnDv (V6.setCell ⟨b3, 1, none⟩ (.slice aQ qn cQ)) w.heap.size ⟨.slice va sn vc, .slice aQ qn cQ, secs, late ++ [⟨p3, ⟨#[]⟩⟩]⟩ := ⟨row_set oS (fun j hj e => boxDv_row zb oS (by decide) j hj e), row_set oQ (fun j hj e => boxDv_row zb oQ (by decide) j hj e)⟩
          have dd : DCur w0 (V6.setCell ⟨b3, 1, none⟩ (.slice aQ qn cQ)) g := dc.grow (row := some b3) (set_grown _) (fun j hj => by have := Option.some.inj hj; have := HGL.out; have := HB3.out; omega)
          have gd : w.grownBy (V6.setCell ⟨b3, 1, none⟩ (.slice aQ qn cQ)) (some g) := gr_setD gr (by have := HB3.out; omega)
          have hl31 : (late ++ [(⟨p3, ⟨#[]⟩⟩ : Pat)]).length ≤ 31 := by have := HLE.out.2.1; simp; omega
          clear zb zr oS oQ dc gr
          go_wp2
          go_meet
          case rel => exact ⟨⟨.slice va sn vc, .slice aQ qn cQ, secs, late ++ [⟨p3, ⟨#[]⟩⟩]⟩, ⟨HLE.out.1, hl31⟩, zc, zd, od, dd, gd⟩
        · go_simp
          refine (l1FromD_any w0 _ g (-1) 6 dc (by omega) (by omega) (by omega)).mono ?_
          rintro e V3 ⟨p3, rfl, -, -, dc3, hg3⟩
          replace zr := zr.of_block (hg3.block (w.heap.size) zr.lt (fun e => by have := Option.some.inj e; have := HGL.out; omega))
          replace zb := zb.of_block (hg3.block b3 zb.lt (fun e => by have := Option.some.inj e; have := HGL.out; have := HB3.out; omega))
          replace gr := gr_trans gr hg3
          replace oY : OwnDv V3 w.heap.size ⟨.slice va sn vc, .slice la ln lc, secs, late⟩ := ⟨row_kept oY.secs hg3 (fun k hk e => by have := (World.ownsRow.lt oY.secs k hk).1; have := Option.some.inj e; have := HGL.out; omega), row_kept oY.late hg3 (fun k hk e => by have := (World.ownsRow.lt oY.late k hk).1; have := Option.some.inj e; have := HGL.out; omega)⟩
          clear hg3
          replace dc := dc3
          clear dc3 hS
          refine hK.out _ _ trivial (fun hS => ?_)
          clear hK K
          try simp only [List.setIfInBounds_toArray, List.set_cons_zero, List.set_cons_succ]
          refine tkG 4 20 hS ?_
          try simp only [Act.put, List.setIfInBounds_toArray, List.set_cons_zero, List.set_cons_succ]
          refine wpAnyH_ready (rs := [1, 5]) (by kernel_rfl) (by simp) ?_
          refine AllReadyH.cons rfl (fun K hK => ?_) (AllReadyH.cons rfl (fun K hK => ?_) AllReadyH.nil)
          · obtain ⟨y0, y1, g0, g1⟩ := zb.facts
            go_simp
            clear y0 y1 g0 g1 hS
            refine hK.out _ _ trivial (fun hS => ?_)
            clear hK K
            try simp only [List.setIfInBounds_toArray, List.set_cons_zero, List.set_cons_succ]
            refine wpAnyH_ready (rs := [5]) (by kernel_rfl) (by simp) ?_
            refine AllReadyH.cons rfl (fun K hK => ?_) AllReadyH.nil
            refine step_pat1 rfl 21 rfl p3 ⟨#[]⟩ (by go_simp; (try rfl)) ?_
            intro bP V5 hb5 qP
            replace qP := OwnPt.mono qP gr.size
            replace zb := zb.below hb5
            replace zr := zr.below hb5
            replace oY := oY.below hb5
            replace dc := dc.grow (row := none) (gr_belowD (gr_refl _ _) hb5) (fun k hk => by cases hk)
            replace gr := gr_belowD gr hb5
            clear hb5 hS
            refine hK.out _ _ trivial (fun hS => ?_)
            clear hK K
            try simp only [Act.put, List.setIfInBounds_toArray, List.set_cons_zero, List.set_cons_succ]
            refine wpAnyH_ready (rs := [6]) (by kernel_rfl) (by simp) ?_
            refine AllReadyH.cons rfl (fun K hK => ?_) AllReadyH.nil
            refine step_append_pats rfl 22 rfl _ _ rfl w.heap.size (.slice la ln lc) _ late [⟨p3, ⟨#[]⟩⟩] rfl rfl oY.late qP.rd (by have := HLE.out.2.1; simp; omega) gr.size ?_
            intro vQ V6 oQ hg6
            have oS : OwnS V6 w.heap.size (.slice va sn vc) secs := row_kept oY.secs hg6 (fun k hk e => rows_apart oY.secs oY.late (by decide) k hk e)
            replace zb := zb.of_block (hg6.block b3 zb.lt (fun e => boxDv_row zb oY.late (by decide) b3 e.symm rfl))
            replace zr := zr.of_block (hg6.block (w.heap.size) zr.lt (fun e => boxDv_row zr oY.late (by decide) _ e.symm rfl))
            replace dc := dc.grow hg6 (fun k hk => by have := (World.ownsRow.lt oY.late k hk).1; have := HGL.out; omega)
            replace gr := gr_young gr hg6 (fun k hk => (World.ownsRow.lt oY.late k hk).1)
            obtain ⟨aQ, cQ, heQ⟩ := own_slice oQ
            generalize (late ++ [(⟨p3, ⟨#[]⟩⟩ : Pat)]).length = qn at heQ
            subst heQ
            clear hg6 qP oY hS
            refine hK.out _ _ trivial (fun hS => ?_)
            clear hK K
            try simp only [Act.put, List.setIfInBounds_toArray, List.set_cons_zero, List.set_cons_succ]
            refine tkG 7 23 hS ?_
            try simp only [Act.put, List.setIfInBounds_toArray, List.set_cons_zero, List.set_cons_succ]
            refine wpAnyH_ready (rs := [8]) (by kernel_rfl) (by simp) ?_
            refine AllReadyH.cons rfl (fun K hK => ?_) AllReadyH.nil
            obtain ⟨y0, y1, g0, g1⟩ := zb.facts
            go_simp
            refine hK.out _ _ trivial (fun hS => ?_)
            clear hK K y0 y1 g0 g1 hS
            refine wpAnyH_done (by kernel_rfl) ?_ _
            refine NoPanic.normal ?_
            have hwb : w.heap.size ≠ b3 := by have := HB3.out; omega
            have zc : BoxDv (V6.setCell ⟨b3, 1, none⟩ (.slice aQ qn cQ)) b3 (.slice va sn vc) (.slice aQ qn cQ) := heap_setCell_same V6 b3 1 _ _ _ zb
            have zd : BoxDv (V6.setCell ⟨b3, 1, none⟩ (.slice aQ qn cQ)) w.heap.size (.slice none 0 0) (.slice none 0 0) := zr.of_block (heap_setCell_other V6 ⟨b3, 1, none⟩ w.heap.size _ hwb)
            have od : OwnDv (V6.setCell ⟨b3, 1, none⟩ (.slice aQ qn cQ)) w.heap.size ⟨.slice va sn vc, .slice aQ qn cQ, secs, late ++ [⟨p3, ⟨#[]⟩⟩]⟩ := ⟨row_set oS (fun j hj e => boxDv_row zb oS (by decide) j hj e), row_set oQ (fun j hj e => boxDv_row zb oQ (by decide) j hj e)⟩
            have dd : DCur w0 (V6.setCell ⟨b3, 1, none⟩ (.slice aQ qn cQ)) g := dc.grow (row := some b3) (set_grown _) (fun j hj => by have := Option.some.inj hj; have := HGL.out; have := HB3.out; omega)
            have gd : w.grownBy (V6.setCell ⟨b3, 1, none⟩ (.slice aQ qn cQ)) (some g) := gr_setD gr (by have := HB3.out; omega)
            have hl31 : (late ++ [(⟨p3, ⟨#[]⟩⟩ : Pat)]).length ≤ 31 := by have := HLE.out.2.1; simp; omega
            clear zb zr oS oQ dc gr
            go_wp2
            go_meet
            case rel => exact ⟨⟨.slice va sn vc, .slice aQ qn cQ, secs, late ++ [⟨p3, ⟨#[]⟩⟩]⟩, ⟨HLE.out.1, hl31⟩, zc, zd, od, dd, gd⟩
          · refine step_pat1 rfl 21 rfl p3 ⟨#[]⟩ (by go_simp; (try rfl)) ?_
            intro bP V5 hb5 qP
            replace qP := OwnPt.mono qP gr.size
            replace zb := zb.below hb5
            replace zr := zr.below hb5
            replace oY := oY.below hb5
            replace dc := dc.grow (row := none) (gr_belowD (gr_refl _ _) hb5) (fun k hk => by cases hk)
            replace gr := gr_belowD gr hb5
            clear hb5 hS
            refine hK.out _ _ trivial (fun hS => ?_)
            clear hK K
            try simp only [Act.put, List.setIfInBounds_toArray, List.set_cons_zero, List.set_cons_succ]
            refine wpAnyH_ready (rs := [1]) (by kernel_rfl) (by simp) ?_
            refine AllReadyH.cons rfl (fun K hK => ?_) AllReadyH.nil
            obtain ⟨y0, y1, g0, g1⟩ := zb.facts
            go_simp
            clear y0 y1 g0 g1 hS
            refine hK.out _ _ trivial (fun hS => ?_)
            clear hK K
            try simp only [List.setIfInBounds_toArray, List.set_cons_zero, List.set_cons_succ]
            refine wpAnyH_ready (rs := [6]) (by kernel_rfl) (by simp) ?_
            refine AllReadyH.cons rfl (fun K hK => ?_) AllReadyH.nil
            refine step_append_pats rfl 22 rfl _ _ rfl w.heap.size (.slice la ln lc) _ late [⟨p3, ⟨#[]⟩⟩] rfl rfl oY.late qP.rd (by have := HLE.out.2.1; simp; omega) gr.size ?_
            intro vQ V6 oQ hg6
            have oS : OwnS V6 w.heap.size (.slice va sn vc) secs := row_kept oY.secs hg6 (fun k hk e => rows_apart oY.secs oY.late (by decide) k hk e)
            replace zb := zb.of_block (hg6.block b3 zb.lt (fun e => boxDv_row zb oY.late (by decide) b3 e.symm rfl))
            replace zr := zr.of_block (hg6.block (w.heap.size) zr.lt (fun e => boxDv_row zr oY.late (by decide) _ e.symm rfl))
            replace dc := dc.grow hg6 (fun k hk => by have := (World.ownsRow.lt oY.late k hk).1; have := HGL.out; omega)
            replace gr := gr_young gr hg6 (fun k hk => (World.ownsRow.lt oY.late k hk).1)
            obtain ⟨aQ, cQ, heQ⟩ := own_slice oQ
            generalize (late ++ [(⟨p3, ⟨#[]⟩⟩ : Pat)]).length = qn at heQ
            subst heQ
            clear hg6 qP oY hS
            refine hK.out _ _ trivial (fun hS => ?_)
            clear hK K
            try simp only [Act.put, List.setIfInBounds_toArray, List.set_cons_zero, List.set_cons_succ]
            refine tkG 7 23 hS ?_
            try simp only [Act.put, List.setIfInBounds_toArray, List.set_cons_zero, List.set_cons_succ]
            refine wpAnyH_ready (rs := [8]) (by kernel_rfl) (by simp) ?_
            refine AllReadyH.cons rfl (fun K hK => ?_) AllReadyH.nil
            obtain ⟨y0, y1, g0, g1⟩ := zb.facts
            go_simp
            refine hK.out _ _ trivial (fun hS => ?_)
            clear hK K y0 y1 g0 g1 hS
            refine wpAnyH_done (by kernel_rfl) ?_ _
            refine NoPanic.normal ?_
            have hwb : w.heap.size ≠ b3 := by have := HB3.out; omega
            have zc : BoxDv (V6.setCell ⟨b3, 1, none⟩ (.slice aQ qn cQ)) b3 (.slice va sn vc) (.slice aQ qn cQ) := heap_setCell_same V6 b3 1 _ _ _ zb
            have zd : BoxDv (V6.setCell ⟨b3, 1, none⟩ (.slice aQ qn cQ)) w.heap.size (.slice none 0 0) (.slice none 0 0) := zr.of_block (heap_setCell_other V6 ⟨b3, 1, none⟩ w.heap.size _ hwb)
            have od : OwnDv (V6.setCell ⟨b3, 1, none⟩ (.slice aQ qn cQ)) w.heap.size ⟨.slice va sn vc, .slice aQ qn cQ, secs, late ++ [⟨p3, ⟨#[]⟩⟩]⟩ := ⟨row_set oS (fun j hj e => boxDv_row zb oS (by decide) j hj e), row_set oQ (fun j hj e => boxDv_row zb oQ (by decide) j hj e)⟩
            have dd : DCur w0 (V6.setCell ⟨b3, 1, none⟩ (.slice aQ qn cQ)) g := dc.grow (row := some b3) (set_grown _) (fun j hj => by have := Option.some.inj hj; have := HGL.out; have := HB3.out; omega)
            have gd : w.grownBy (V6.setCell ⟨b3, 1, none⟩ (.slice aQ qn cQ)) (some g) := gr_setD gr (by have := HB3.out; omega)
            have hl31 : (late ++ [(⟨p3, ⟨#[]⟩⟩ : Pat)]).length ≤ 31 := by have := HLE.out.2.1; simp; omega
            clear zb zr oS oQ dc gr
            go_wp2
            go_meet
            case rel => exact ⟨⟨.slice va sn vc, .slice aQ qn cQ, secs, late ++ [⟨p3, ⟨#[]⟩⟩]⟩, ⟨HLE.out.1, hl31⟩, zc, zd, od, dd, gd⟩
      · skip
        have hs1 : 1 ≤ sn := by have := HSN.out; have := HLE.out.2.2; omega
        obtain ⟨gS, rfl⟩ : ∃ gS, va = some ⟨gS, 0, none⟩ := by
          rcases oY.secs.2 with ⟨hv, h0⟩ | ⟨gS, cap, cur, hv, -⟩
          · have := HSN.out
            have e : sn = 0 := by simp only at h0; omega
            omega
          · simp only [Value.slice.injEq] at hv
            exact ⟨gS, hv.1⟩
        have hsc : 1 ≤ vc := by
          obtain ⟨a, c, hv, hl, -⟩ := oY.secs.rd
          simp only [Value.slice.injEq] at hv
          have hl2 : secs.length ≤ c := hl
          have := HSN.out
          omega
        have hs0n : 0 < sn := by omega
        have hs0 : (0 : Int) < (sn : Int) := by omega
        go_wp2_with fail
        refine wp_region_noPanic ?_
        refine wp_region_held_drew (S := fun W => W.cell? ⟨b3, 0, none⟩ = some (.slice (some ⟨gS, 0, none⟩) sn vc)) (by kernel_rfl) (zb.below ((Below.refl _ w4).drew)).facts.1 (fun hS => ?_)
        have dd : Below w4.heap.size w4 w4.drew := (Below.refl _ w4).drew
        replace zb := zb.below dd
        replace zr := zr.below dd
        replace oY := oY.below dd
        replace dc := dc.grow (row := none) (gr_belowD (gr_refl _ _) dd) (fun k hk => by cases hk)
        replace gr := gr_belowD gr dd
        clear dd
        revert gr
        revert dc
        revert oY
        revert zr
        revert zb
        revert hS
        generalize w4.drew = V
        intro hS zb zr oY dc gr
        refine tkG 0 26 hS ?_
        try simp only [Act.put, List.setIfInBounds_toArray, List.set_cons_zero, List.set_cons_succ]
        refine tkG 1 27 hS ?_
        try simp only [Act.put, List.setIfInBounds_toArray, List.set_cons_zero, List.set_cons_succ]
        refine tkG 2 28 hS ?_
        try simp only [Act.put, List.setIfInBounds_toArray, List.set_cons_zero, List.set_cons_succ]
        refine wpAnyH_ready (rs := [3]) (by kernel_rfl) (by simp) ?_
        refine AllReadyH.cons rfl (fun K hK => ?_) AllReadyH.nil
        go_simp
        refine (l1Below_any w0 _ g 2 dc (by omega) (by omega)).mono ?_
        rintro e V3 ⟨x3, rfl, hx0, hx1, dc3, hg3⟩
        replace zr := zr.of_block (hg3.block (w.heap.size) zr.lt (fun e => by have := Option.some.inj e; have := HGL.out; omega))
        replace zb := zb.of_block (hg3.block b3 zb.lt (fun e => by have := Option.some.inj e; have := HGL.out; have := HB3.out; omega))
        replace gr := gr_trans gr hg3
        replace oY : OwnDv V3 w.heap.size ⟨.slice (some ⟨gS, 0, none⟩) sn vc, .slice la ln lc, secs, late⟩ := ⟨row_kept oY.secs hg3 (fun k hk e => by have := (World.ownsRow.lt oY.secs k hk).1; have := Option.some.inj e; have := HGL.out; omega), row_kept oY.late hg3 (fun k hk e => by have := (World.ownsRow.lt oY.late k hk).1; have := Option.some.inj e; have := HGL.out; omega)⟩
        clear hg3
        replace dc := dc3
        clear dc3 hS
        obtain ⟨j3, rfl⟩ := Int.eq_ofNat_of_zero_le hx0
        refine hK.out _ _ zb.facts.1 (fun hS => ?_)
        clear hK K
        try simp only [List.setIfInBounds_toArray, List.set_cons_zero, List.set_cons_succ]
        have hxw : IntKind.i64.wrap (400 + (j3 : Int)) = 400 + (j3 : Int) := by rw [IntKind.wrap_i64]; omega
        refine tkG 4 30 hS ?_
        try simp only [Act.put, List.setIfInBounds_toArray, List.set_cons_zero, List.set_cons_succ]
        refine wpAnyH_ready (rs := [5]) (by kernel_rfl) (by simp) ?_
        refine AllReadyH.cons rfl (fun K hK => ?_) AllReadyH.nil
        refine step_makeD rfl 31 rfl _ _ rfl (400 + j3) _ (by omega) rfl rfl (by omega) w.heap.size gr.size ?_
        intro bM V5 qM hb5
        replace zb := zb.below hb5
        replace zr := zr.below hb5
        replace oY := oY.below hb5
        replace dc := dc.grow (row := none) (gr_belowD (gr_refl _ _) hb5) (fun k hk => by cases hk)
        replace gr := gr_belowD gr hb5
        clear hb5 hS
        refine hK.out _ _ zb.facts.1 (fun hS => ?_)
        clear hK K
        try simp only [Act.put, List.setIfInBounds_toArray, List.set_cons_zero, List.set_cons_succ]
        obtain ⟨sV, hsV⟩ : ∃ sV : ByteArray, sV = ⟨(List.replicate (400 + j3) (0 : UInt8)).toArray⟩ := ⟨_, rfl⟩
        have hcv : (convert 22 9 (.slice (some ⟨bM, 0, none⟩) (400 + j3) (400 + j3))).run Tryz.prog V5 = .ok (.string sV) V5 := by rw [hsV]; exact conv_own qM
        clear hsV qM
        refine wpAnyH_ready (rs := [6]) (by kernel_rfl) (by simp) ?_
        refine AllReadyH.cons rfl (fun K hK => ?_) AllReadyH.nil
        go_simp
        clear hcv hS
        refine hK.out _ _ zb.facts.1 (fun hS => ?_)
        clear hK K
        try simp only [List.setIfInBounds_toArray, List.set_cons_zero, List.set_cons_succ]
        have h0l : 0 < secs.length := by have := HLE.out.2.2; omega
        have oS : V5.ownsRow w.heap.size 9 1 (.slice (some ⟨gS, 0, none⟩) sn vc) sn (SV secs) := by
          have h : V5.ownsRow w.heap.size 9 1 (.slice (some ⟨gS, 0, none⟩) sn vc) secs.length (SV secs) := oY.secs
          rw [← HSN.out] at h
          exact h
        have hcq := (oS.cellAt 0 (by omega)).trans (SV_get _ 0 h0l)
        have hfq := oS.frozenAt 0
        have R1 := (oS.stored 0 (.string sV)).1
        rw [← SV_set] at R1
        have hb3S : b3 ≠ gS := fun e => boxDv_row zb oY.secs (by decide) gS rfl e
        have hwS : w.heap.size ≠ gS := fun e => boxDv_row zr oY.secs (by decide) gS rfl e
        have hgS : w.heap.size ≤ gS := (World.ownsRow.lt oY.secs gS rfl).1
        have zc : BoxDv (V5.setCell ⟨gS, 0, none⟩ (.string sV)) b3 (.slice (some ⟨gS, 0, none⟩) sn vc) (.slice la ln lc) := zb.of_block (heap_setCell_other V5 ⟨gS, 0, none⟩ b3 _ hb3S)
        have zd : BoxDv (V5.setCell ⟨gS, 0, none⟩ (.string sV)) w.heap.size (.slice none 0 0) (.slice none 0 0) := zr.of_block (heap_setCell_other V5 ⟨gS, 0, none⟩ w.heap.size _ hwS)
        have od : OwnDv (V5.setCell ⟨gS, 0, none⟩ (.string sV)) w.heap.size ⟨.slice (some ⟨gS, 0, none⟩) sn vc, .slice la ln lc, secs.set 0 sV, late⟩ := ⟨by unfold OwnS; simp only; rw [List.length_set, ← HSN.out]; exact R1, row_set oY.late (fun k hk e => rows_apart oY.secs oY.late (by decide) gS rfl (e ▸ hk))⟩
        have dd : DCur w0 (V5.setCell ⟨gS, 0, none⟩ (.string sV)) g := dc.grow (row := some gS) (set_grown _) (fun j hj => by have := Option.some.inj hj; have := HGL.out; omega)
        have gd : w.grownBy (V5.setCell ⟨gS, 0, none⟩ (.string sV)) (some g) := gr_setD gr hgS
        refine tkG 7 33 hS ?_
        try simp only [Act.put, List.setIfInBounds_toArray, List.set_cons_zero, List.set_cons_succ]
        refine wpAnyH_ready (rs := [8]) (by kernel_rfl) (by simp) ?_
        refine AllReadyH.cons rfl (fun K hK => ?_) AllReadyH.nil
        go_simp
        refine hK.out _ _ zc.facts.1 (fun hS => ?_)
        clear hK K hS
        refine wpAnyH_done (by kernel_rfl) ?_ _
        refine NoPanic.normal ?_
        clear zb zr oY oS dc gr hcq hfq R1
        go_wp2
        go_meet
        case rel => exact ⟨⟨.slice (some ⟨gS, 0, none⟩) sn vc, .slice la ln lc, secs.set 0 sV, late⟩, ⟨by simp only; rw [List.length_set]; exact HLE.out.1, by have := HLE.out.2.1; simp only; omega⟩, zc, zd, od, dd, gd⟩
      · skip
        go_wp2
        go_loopw [] (fun wr => ∃ Y : DvX, (Y.secs.length ≤ 4 ∧ Y.late.length ≤ 31) ∧ BoxDv wr b3 Y.vs Y.vl ∧ BoxDv wr w.heap.size (.slice none 0 0) (.slice none 0 0) ∧ OwnDv wr w.heap.size Y ∧ DCur w0 wr g ∧ w.grownBy wr (some g)) (fun wr => 31 - lateN wr b3)
        case atStart => exact ⟨⟨.slice va sn vc, .slice la ln lc, secs, late⟩, ⟨HLE.out.1, by have := HLE.out.2.1; simp only; omega⟩, zb, zr, oY, dc, gr⟩
        case round =>
          clear zb zr oY dc gr HSN HLN HLE
          obtain ⟨Y, hl, zb, zr, oY, dc, gr⟩ := hrel
          obtain ⟨va, vc, hv1⟩ := own_slice oY.secs
          obtain ⟨la, lc, hv2⟩ := own_slice oY.late
          obtain ⟨vs1, vl1, secs, late⟩ := Y
          simp only at hv1 hv2 hl zb
          obtain ⟨sn, hsn⟩ : ∃ sn, sn = secs.length := ⟨_, rfl⟩
          obtain ⟨ln, hln⟩ : ∃ ln, ln = late.length := ⟨_, rfl⟩
          rw [← hsn] at hv1
          rw [← hln] at hv2
          subst hv1
          subst hv2
          have HLN : Hid (ln = late.length) := hln
          clear hsn hln
          have HM0 : Hid (lateN wr b3 = ln) := by unfold Hid lateN; rw [zb.facts.2.1]
          go_wp2_with fail
          refine wp_region_noPanic ?_
          refine wp_region_held_drew (S := fun W => W.cell? ⟨b3, 1, none⟩ = some (.slice la ln lc)) (by kernel_rfl) (zb.below ((Below.refl _ wr).drew)).facts.2.1 (fun hS => ?_)
          have dd : Below wr.heap.size wr wr.drew := (Below.refl _ wr).drew
          replace zb := zb.below dd
          replace zr := zr.below dd
          replace oY := oY.below dd
          replace dc := dc.grow (row := none) (gr_belowD (gr_refl _ _) dd) (fun k hk => by cases hk)
          replace gr := gr_belowD gr dd
          clear dd
          revert gr
          revert dc
          revert oY
          revert zr
          revert zb
          revert hS
          generalize wr.drew = V
          intro hS zb zr oY dc gr
          refine tkG 0 36 hS ?_
          try simp only [Act.put, List.setIfInBounds_toArray, List.set_cons_zero, List.set_cons_succ]
          refine tkG 1 37 hS ?_
          try simp only [Act.put, List.setIfInBounds_toArray, List.set_cons_zero, List.set_cons_succ]
          refine tkG 2 38 hS ?_
          try simp only [Act.put, List.setIfInBounds_toArray, List.set_cons_zero, List.set_cons_succ]
          refine tkG 3 39 hS ?_
          try simp only [Act.put, List.setIfInBounds_toArray, List.set_cons_zero, List.set_cons_succ]
          refine wpAnyH_ready (rs := [4]) (by kernel_rfl) (by simp) ?_
          refine AllReadyH.cons rfl (fun K hK => ?_) AllReadyH.nil
          go_simp
          refine (l1Below_any w0 _ g 2 dc (by omega) (by omega)).mono ?_
          rintro e V3 ⟨x3, rfl, hx0, hx1, dc3, hg3⟩
          replace zr := zr.of_block (hg3.block (w.heap.size) zr.lt (fun e => by have := Option.some.inj e; have := HGL.out; omega))
          replace zb := zb.of_block (hg3.block b3 zb.lt (fun e => by have := Option.some.inj e; have := HGL.out; have := HB3.out; omega))
          replace gr := gr_trans gr hg3
          replace oY : OwnDv V3 w.heap.size ⟨.slice va sn vc, .slice la ln lc, secs, late⟩ := ⟨row_kept oY.secs hg3 (fun k hk e => by have := (World.ownsRow.lt oY.secs k hk).1; have := Option.some.inj e; have := HGL.out; omega), row_kept oY.late hg3 (fun k hk e => by have := (World.ownsRow.lt oY.late k hk).1; have := Option.some.inj e; have := HGL.out; omega)⟩
          clear hg3
          replace dc := dc3
          clear dc3 hS
          refine hK.out _ _ zb.facts.2.1 (fun hS => ?_)
          clear hK K
          try simp only [List.setIfInBounds_toArray, List.set_cons_zero, List.set_cons_succ]
          have hxw : IntKind.i64.wrap (30 + x3) = 30 + x3 := by rw [IntKind.wrap_i64]; omega
          refine tkG 5 41 hS ?_
          try simp only [Act.put, List.setIfInBounds_toArray, List.set_cons_zero, List.set_cons_succ]
          refine tkG 6 42 hS ?_
          try simp only [Act.put, List.setIfInBounds_toArray, List.set_cons_zero, List.set_cons_succ]
          refine wpAnyH_done (by kernel_rfl) ?_ _
          refine NoPanic.normal ?_
          clear hS
          by_cases hlt : (ln : Int) < 30 + x3
          · obtain ⟨y0, y1, g0, g1⟩ := zb.facts
            have d1 := below1 V3 (.cells #[.int .i64 0, .string ⟨#[]⟩] 70)
            have qP : OwnPt (V3.alloc (.cells #[.int .i64 0, .string ⟨#[]⟩] 70)) V3.heap.size (.slice (some ⟨V3.heap.size, 0, none⟩) 1 1) [⟨0, ⟨#[]⟩⟩] := World.ownsRow_lit V3 #[.int .i64 0, .string ⟨#[]⟩] 1 (Nat.le_refl _) (by unfold maxLen; omega) (by simp)
            have zb5 := zb.below d1
            have zr5 := zr.below d1
            have oY5 := oY.below d1
            have dc5 := dc.grow (row := none) (gr_belowD (gr_refl _ _) d1) (fun k hk => by cases hk)
            have gr5 := gr_belowD gr d1
            have hl2 : late.length ≤ 30 := by have := HLN.out; omega
            clear d1 zb zr oY dc gr
            go_wp2_with (at_builtin; (refine wpList_append_pats rfl _ _ rfl w.heap.size _ _ late [⟨0, ⟨#[]⟩⟩] rfl rfl oY5.late qP.rd (by simp; omega) gr5.size ?_))
            intro vQ V6 oQ hg6
            have oS : OwnS V6 w.heap.size (.slice va sn vc) secs := row_kept oY5.secs hg6 (fun k hk e => rows_apart oY5.secs oY5.late (by decide) k hk e)
            have zb6 := zb5.of_block (hg6.block b3 zb5.lt (fun e => boxDv_row zb5 oY5.late (by decide) b3 e.symm rfl))
            have zr6 := zr5.of_block (hg6.block (w.heap.size) zr5.lt (fun e => boxDv_row zr5 oY5.late (by decide) _ e.symm rfl))
            have dc6 := dc5.grow hg6 (fun k hk => by have := (World.ownsRow.lt oY5.late k hk).1; have := HGL.out; omega)
            have gr6 := gr_young gr5 hg6 (fun k hk => (World.ownsRow.lt oY5.late k hk).1)
            obtain ⟨aQ, cQ, heQ⟩ := own_slice oQ
            obtain ⟨qn, hqn⟩ : ∃ qn, qn = (late ++ [(⟨0, ⟨#[]⟩⟩ : Pat)]).length := ⟨_, rfl⟩
            rw [← hqn] at heQ
            subst heQ
            have HQN : Hid (qn = ln + 1) := by unfold Hid; rw [hqn, HLN.out]; simp
            clear hqn hg6 qP zb5 zr5 oY5 dc5 gr5 y0 y1 g0 g1
            obtain ⟨y0, y1, g0, g1⟩ := zb6.facts
            have hwb : w.heap.size ≠ b3 := by have := HB3.out; omega
            have zc : BoxDv (V6.setCell ⟨b3, 1, none⟩ (.slice aQ qn cQ)) b3 (.slice va sn vc) (.slice aQ qn cQ) := heap_setCell_same V6 b3 1 _ _ _ zb6
            have zd : BoxDv (V6.setCell ⟨b3, 1, none⟩ (.slice aQ qn cQ)) w.heap.size (.slice none 0 0) (.slice none 0 0) := zr6.of_block (heap_setCell_other V6 ⟨b3, 1, none⟩ w.heap.size _ hwb)
            have od : OwnDv (V6.setCell ⟨b3, 1, none⟩ (.slice aQ qn cQ)) w.heap.size ⟨.slice va sn vc, .slice aQ qn cQ, secs, late ++ [⟨0, ⟨#[]⟩⟩]⟩ := ⟨row_set oS (fun j hj e => boxDv_row zb6 oS (by decide) j hj e), row_set oQ (fun j hj e => boxDv_row zb6 oQ (by decide) j hj e)⟩
            have dd : DCur w0 (V6.setCell ⟨b3, 1, none⟩ (.slice aQ qn cQ)) g := dc6.grow (row := some b3) (set_grown _) (fun j hj => by have := Option.some.inj hj; have := HGL.out; have := HB3.out; omega)
            have gd : w.grownBy (V6.setCell ⟨b3, 1, none⟩ (.slice aQ qn cQ)) (some g) := gr_setD gr6 (by have := HB3.out; omega)
            have hl31 : (late ++ [(⟨0, ⟨#[]⟩⟩ : Pat)]).length ≤ 31 := by simp; omega
            have HM1 : Hid (lateN (V6.setCell ⟨b3, 1, none⟩ (.slice aQ qn cQ)) b3 = qn) := by unfold Hid lateN; rw [zc.facts.2.1]
            clear zb6 zr6 oS oQ dc6 gr6
            go_wp2
            go_roundw
            case rel => exact ⟨⟨.slice va sn vc, .slice aQ qn cQ, secs, late ++ [⟨0, ⟨#[]⟩⟩]⟩, ⟨hl.1, hl31⟩, zc, zd, od, dd, gd⟩
            case measure => rw [HM0.out, HM1.out, HQN.out]; have := HLN.out; omega
          · go_wp2
            go_meet
            case rel => exact ⟨⟨.slice va sn vc, .slice la ln lc, secs, late⟩, hl, zb, zr, oY, dc, gr⟩
end Go.Proofs.YtpidmmfjmbinkaaGreatDoor
