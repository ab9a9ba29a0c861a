/- The draws of devices with slots: l9DrawAny, DrawRoot. -/
import Derived.Test.YtpidmmfjmbinkaaGreatDoorSltDraw
-- UNF Gen
namespace Go.Proofs.YtpidmmfjmbinkaaGreatDoor
open Go.RowKit
def Dv9A (w0 w : World) (g : Nat) (e : Ending) (w' : World) : Prop :=
  ∃ Y : DvX, e = .returned (.agg #[Y.vs, Y.vl]) ∧ OwnDv w' w.heap.size Y ∧ DCur w0 w' g ∧ w.grownBy w' (some g)
theorem DSt.fin2 {w0 w V : World} {g b3 : Nat} {sa la : Option Addr} {cs cl sn ln : Nat} {ss : List ByteArray} {ps : List Pat} (D : DSt w0 w V g b3 ⟨.slice sa sn cs, .slice la ln cl, ss, ps⟩) :
    Dv9A w0 w g (.returned (.agg #[.slice sa sn cs, .slice la ln cl])) ((V.setCell ⟨w.heap.size, 0, none⟩ (.slice sa sn cs)).setCell ⟨w.heap.size, 1, none⟩ (.slice la ln cl)) := by
  have hg := D.hg
  refine ⟨⟨.slice sa sn cs, .slice la ln cl, ss, ps⟩, rfl, ⟨row_set (row_set D.oY.secs (fun j hj e => boxDv_row D.zr D.oY.secs (by decide) j hj e)) (fun j hj e => boxDv_row D.zr D.oY.secs (by decide) j hj e), row_set (row_set D.oY.late (fun j hj e => boxDv_row D.zr D.oY.late (by decide) j hj e)) (fun j hj e => boxDv_row D.zr D.oY.late (by decide) j hj e)⟩, ?_, gr_setD (gr_setD D.gr (Nat.le_refl _)) (Nat.le_refl _)⟩
  exact (D.dc.grow (row := some w.heap.size) (set_grown _) (fun j hj => by have := Option.some.inj hj; omega)).grow (row := some w.heap.size) (set_grown _) (fun j hj => by have := Option.some.inj hj; omega)
set_option maxHeartbeats 8000000 in
set_option maxRecDepth 100000 in
theorem l9DrawAny_any (w0 w : World) (g : Nat) (h : DCur w0 w g) :
    Calls Tryz.prog 23 #[.pointer (some ⟨g, 0, none⟩)] w fun e w' => Dv9A w0 w g e w' := by
  have HGL : Hid (g < w.heap.size) := h.lt
  have zr := boxDv_new w (.slice none 0 0) (.slice none 0 0)
  have dc := h.alloc (.cells #[.slice none 0 0, .slice none 0 0] 27)
  have gr := gr_alloc (gr_refl w (some g)) (.cells #[.slice none 0 0, .slice none 0 0] 27)
  have s0 : w.heap.size + 1 = (w.alloc (.cells #[.slice none 0 0, .slice none 0 0] 27)).heap.size := by simp
  go_enter Tryz.func23, Tryz.ntmps23
  go_wp2_with fail
  generalize w.alloc (.cells #[.slice none 0 0, .slice none 0 0] 27) = W0 at zr dc gr s0 ⊢
  refine (l1Once_any w0 _ g 8 dc (by omega) (by omega)).mono ?_
  rintro e w1 ⟨bb, rfl, dc1, hg1⟩
  replace zr := zr.of_block (hg1.block (w.heap.size) zr.lt (fun e => by have := Option.some.inj e; have := HGL.out; omega))
  replace gr := gr_trans gr hg1
  have s1 := hg1.size
  clear hg1 dc h
  cases bb with
  | true =>
    go_wp2_with fail
    refine (l8DrawAny_any w0 _ g dc1).mono ?_
    rintro e w2 ⟨Y, hee, -, oY, dc2, hg2⟩
    replace zr := zr.of_block (hg2.block (w.heap.size) zr.lt (fun e => by have := Option.some.inj e; have := HGL.out; omega))
    replace gr := gr_trans gr hg2
    replace oY := oY.mono (show w.heap.size + 1 ≤ w1.heap.size by omega)
    obtain ⟨va, vc, hv1⟩ := own_slice oY.secs
    obtain ⟨la, lc, hv2⟩ := own_slice oY.late
    obtain ⟨vs1, vl1, secs, late⟩ := Y
    simp only at hv1 hv2
    generalize secs.length = sn at hv1
    generalize late.length = ln at hv2
    subst hv1
    subst hv2
    replace hee : e = .returned (.agg #[.slice va sn vc, .slice la ln lc]) := hee
    subst hee
    obtain ⟨m0, m1, n0, n1⟩ := zr.facts
    have zz := (zr.set0 (u := .slice va sn vc)).set1 (u := .slice la ln lc)
    obtain ⟨k0, k1, -, -⟩ := zz.facts
    have HF : Hid (Dv9A w0 w g (.returned (.agg #[.slice va sn vc, .slice la ln lc])) ((w2.setCell ⟨w.heap.size, 0, none⟩ (.slice va sn vc)).setCell ⟨w.heap.size, 1, none⟩ (.slice la ln lc))) := by
      have hg := HGL.out
      exact ⟨⟨.slice va sn vc, .slice la ln lc, secs, late⟩, rfl, (own_put oY (by omega) _ _).mono (by omega), (dc2.grow (row := some w.heap.size) (set_grown _) (fun j hj => by have := Option.some.inj hj; omega)).grow (row := some w.heap.size) (set_grown _) (fun j hj => by have := Option.some.inj hj; omega), gr_setD (gr_setD gr (Nat.le_refl _)) (Nat.le_refl _)⟩
    clear zz zr oY dc1 dc2 gr hg2
    go_wp2
    exact bodyPost_ret (v := .agg #[.slice va sn vc, .slice la ln lc]) (by simp [results, Tryz.results23, go_sem, k0, k1]) rfl HF.out
  | false =>
    go_wp2_with fail
    refine (l9Draw_any w0 _ g dc1).mono ?_
    rintro e w2 ⟨Y, hee, hin, oY, dc2, hg2⟩
    replace zr := zr.of_block (hg2.block (w.heap.size) zr.lt (fun e => by have := Option.some.inj e; have := HGL.out; omega))
    replace gr := gr_trans gr hg2
    have s2 := hg2.size
    replace oY := oY.mono (show w.heap.size ≤ w1.heap.size by omega)
    obtain ⟨va, vc, hv1⟩ := own_slice oY.secs
    obtain ⟨la, lc, hv2⟩ := own_slice oY.late
    obtain ⟨vs1, vl1, secs, late⟩ := Y
    simp only at hv1 hv2
    obtain ⟨sn, hsn⟩ : ∃ sn, sn = secs.length := ⟨_, rfl⟩
    obtain ⟨ln, hln⟩ : ∃ ln, ln = late.length := ⟨_, rfl⟩
    rw [← hsn] at hv1
    rw [← hln] at hv2
    have HSN : Hid (sn = secs.length) := hsn
    have HLE : Hid (0 < secs.length) := by have := hin.2.1; unfold Hid; simp only at this; omega
    subst hv1
    subst hv2
    clear hsn hln hin
    replace hee : e = .returned (.agg #[.slice va sn vc, .slice la ln lc]) := hee
    subst hee
    have bb := below1 w2 (.cells #[.slice va sn vc, .slice la ln lc] 27)
    have D3 : DSt w0 w (w2.alloc (.cells #[.slice va sn vc, .slice la ln lc] 27)) g w2.heap.size ⟨.slice va sn vc, .slice la ln lc, secs, late⟩ :=
      ⟨zr.below bb, boxDv_new w2 _ _, oY.below bb, dc2.grow (row := none) (gr_belowD (gr_refl _ _) bb) (fun k hk => by cases hk), gr_belowD gr bb, HGL.out, by omega⟩
    clear zr oY dc1 dc2 gr bb hg2
    go_wp2_with fail
    generalize w2.alloc (.cells #[.slice va sn vc, .slice la ln lc] 27) = W3 at D3 ⊢
    generalize w2.heap.size = b3 at D3 ⊢
    refine (l1Once_any w0 _ g 16 D3.dc (by omega) (by omega)).mono ?_
    rintro e w4 ⟨bb, rfl, dc4, hg4⟩
    have D := D3.grown dc4 hg4
    clear D3 dc4 hg4
    cases bb with
    | false =>
      obtain ⟨y0, y1, u0, u1⟩ := D.zb.facts
      obtain ⟨m0, m1, n0, n1⟩ := D.zr.facts
      have zz := (D.zr.set0 (u := .slice va sn vc)).set1 (u := .slice la ln lc)
      obtain ⟨k0, k1, -, -⟩ := zz.facts
      have HF : Hid (Dv9A w0 w g (.returned (.agg #[.slice va sn vc, .slice la ln lc])) ((w4.setCell ⟨w.heap.size, 0, none⟩ (.slice va sn vc)).setCell ⟨w.heap.size, 1, none⟩ (.slice la ln lc))) := D.fin2
      clear zz D
      go_wp2
      exact bodyPost_ret (v := .agg #[.slice va sn vc, .slice la ln lc]) (by simp [results, Tryz.results23, go_sem, k0, k1]) rfl HF.out
    | true =>
      have hnn : secs ≠ [] := fun e => by have := HLE.out; rw [e] at this; simp at this
      obtain ⟨gS, hgS0⟩ : ∃ gS, va = some ⟨gS, 0, none⟩ := by
        rcases D.oY.secs.2 with ⟨e1, e2⟩ | ⟨gg, cap, cur, e1, _⟩
        · have h0 := HLE.out
          have h1 : sn = 0 := ((Value.slice.injEq _ _ _ _ _ _).mp e1).2.1
          have h2 := HSN.out
          omega
        · injection e1 with h _ _
          exact ⟨gg, h⟩
      subst hgS0
      go_wp2_with fail
      refine wp_region_noPanic ?_
      refine wp_region_held_drew (S := fun W => W.cell? ⟨b3, 0, none⟩ = some (.slice (some ⟨gS, 0, none⟩) sn vc)) (by kernel_rfl) D.zb.facts.1 (fun hS => ?_)
      replace D := D.below (Below.refl w4.heap.size w4).drew
      revert hS D
      generalize w4.drew = V
      intro hS D
      refine tkG 0 12 hS ?_
      try simp only [Act.put, List.setIfInBounds_toArray, List.set_cons_zero, List.set_cons_succ]
      refine tkG 1 13 hS ?_
      try simp only [Act.put, List.setIfInBounds_toArray, List.set_cons_zero, List.set_cons_succ]
      refine wpAnyH_ready (rs := [2]) (by kernel_rfl) (by simp) ?_
      refine AllReadyH.cons rfl (fun K hK => ?_) AllReadyH.nil
      go_simp
      refine (specSlot_any 1000000 ⟨#[116, 111, 112]⟩ _ (by decide)).mono ?_
      generalize slotS 1000000 ⟨#[116, 111, 112]⟩ = sV
      rintro e V5 ⟨rfl, hb5⟩
      replace D := D.below hb5
      clear hb5 hS
      refine hK.out _ _ D.zb.facts.1 (fun hS => ?_)
      clear hK K
      try simp only [List.setIfInBounds_toArray, List.set_cons_zero, List.set_cons_succ]
      have h0l : 0 < secs.length := HLE.out
      have h0n : 0 < sn := by rw [HSN.out]; exact h0l
      have oS : V5.ownsRow w.heap.size 9 1 (.slice (some ⟨gS, 0, none⟩) sn vc) sn (SV secs) := by
        have h : V5.ownsRow w.heap.size 9 1 (.slice (some ⟨gS, 0, none⟩) sn vc) secs.length (SV secs) := D.oY.secs
        rw [← HSN.out] at h
        exact h
      have hcq := (oS.cellAt 0 (by omega)).trans (SV_get _ 0 h0l)
      have hfq := oS.frozenAt 0
      have R1 := (oS.stored 0 (.string sV)).1
      rw [← SV_set] at R1
      have hb3S : b3 ≠ gS := fun e => boxDv_row D.zb D.oY.secs (by decide) gS rfl e
      have hwS : w.heap.size ≠ gS := fun e => boxDv_row D.zr D.oY.secs (by decide) gS rfl e
      have hgS : w.heap.size ≤ gS := (World.ownsRow.lt D.oY.secs gS rfl).1
      have E : DSt w0 w (V5.setCell ⟨gS, 0, none⟩ (.string sV)) g b3 ⟨.slice (some ⟨gS, 0, none⟩) sn vc, .slice la ln lc, secs.set 0 sV, late⟩ :=
        ⟨D.zr.of_block (heap_setCell_other V5 ⟨gS, 0, none⟩ w.heap.size _ hwS), D.zb.of_block (heap_setCell_other V5 ⟨gS, 0, none⟩ b3 _ hb3S),
          ⟨by unfold OwnS; simp only; rw [List.length_set, ← HSN.out]; exact R1, row_set D.oY.late (fun k hk e => rows_apart D.oY.secs D.oY.late (by decide) gS rfl (e ▸ hk))⟩,
          D.dc.grow (row := some gS) (set_grown _) (fun j hj => by have := Option.some.inj hj; have := HGL.out; omega), gr_setD D.gr hgS, D.hg, D.hb⟩
      refine tkG 3 15 hS ?_
      try simp only [Act.put, List.setIfInBounds_toArray, List.set_cons_zero, List.set_cons_succ]
      refine wpAnyH_ready (rs := [4]) (by kernel_rfl) (by simp) ?_
      refine AllReadyH.cons rfl (fun K hK => ?_) AllReadyH.nil
      go_simp
      refine hK.out _ _ E.zb.facts.1 (fun hS => ?_)
      clear hK K hS
      refine wpAnyH_done (by kernel_rfl) ?_ _
      refine NoPanic.normal ?_
      clear D oS hcq hfq R1
      revert E
      generalize V5.setCell ⟨gS, 0, none⟩ (.string sV) = V6
      intro E
      obtain ⟨y0, y1, u0, u1⟩ := E.zb.facts
      obtain ⟨m0, m1, n0, n1⟩ := E.zr.facts
      have zz := (E.zr.set0 (u := .slice (some ⟨gS, 0, none⟩) sn vc)).set1 (u := .slice la ln lc)
      obtain ⟨k0, k1, -, -⟩ := zz.facts
      have HF : Hid (Dv9A w0 w g (.returned (.agg #[.slice (some ⟨gS, 0, none⟩) sn vc, .slice la ln lc])) ((V6.setCell ⟨w.heap.size, 0, none⟩ (.slice (some ⟨gS, 0, none⟩) sn vc)).setCell ⟨w.heap.size, 1, none⟩ (.slice la ln lc))) := E.fin2
      clear zz E
      go_wp2
      exact bodyPost_ret (v := .agg #[.slice (some ⟨gS, 0, none⟩) sn vc, .slice la ln lc]) (by simp [results, Tryz.results23, go_sem, k0, k1]) rfl HF.out
end Go.Proofs.YtpidmmfjmbinkaaGreatDoor
