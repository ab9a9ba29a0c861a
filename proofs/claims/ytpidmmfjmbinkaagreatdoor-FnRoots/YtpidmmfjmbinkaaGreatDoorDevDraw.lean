/- The draws of devices: l8Draw. -/
import Derived.Test.YtpidmmfjmbinkaaGreatDoorG01
import Derived.Test.YtpidmmfjmbinkaaGreatDoorG05
import Derived.Test.YtpidmmfjmbinkaaGreatDoorDevLay
import Derived.Test.YtpidmmfjmbinkaaGreatDoorDevSpe
-- UNF Gen
namespace Go.Proofs.YtpidmmfjmbinkaaGreatDoor
open Go.RowKit
theorem listed_as8 {P : Program} {md : Region.Mode} {ops : Array Oper} {Q : Exit → Act → World → Prop} {S : World → Prop} {fuel : Nat} {l l' : Array Bool} {a : Act} {w : World} (hl : l = l') (h : wpAnyH P md ops Q S fuel l' a w) : wpAnyH P md ops Q S fuel l a w := by subst hl; exact h
theorem gr_belowD {a w w' : World} {row : Option Nat} (h : a.grownBy w row) (hb : Below w.heap.size w w') : a.grownBy w' row :=
  ⟨hb.os.trans h.os, hb.tape.trans h.tape, hb.output.trans h.output, Nat.le_trans h.size hb.size, fun i hi hr => (hb.block i (Nat.lt_of_lt_of_le hi h.size)).trans (h.block i hi hr)⟩
theorem gr_setD {a w : World} {row : Option Nat} {b j : Nat} {u : Value} (h : a.grownBy w row) (hb : a.heap.size ≤ b) : a.grownBy (w.setCell ⟨b, j, none⟩ u) row :=
  ⟨h.os, h.tape, h.output, by have := h.size; simpa using this, fun i hi hr => (heap_setCell_other w ⟨b, j, none⟩ i u (fun e => by simp at e; omega)).trans (h.block i hi hr)⟩
theorem dev_lay {s : List ByteArray} {l : List Pat} {p : Int} {t : ByteArray} (h : devOk s l = true) : devOk (layS s l) (layL s l p t) = true ∧ (layS s l).length = s.length := by
  have hs : layS s l = s := by unfold layS; rw [h]; rfl
  rw [hs]
  refine ⟨?_, rfl⟩
  unfold layL
  rw [h, if_pos rfl]
  split
  · rename_i ho
    simp only [layO, Bool.and_eq_true, decide_eq_true_eq] at ho
    have h1 := ho.1.2
    have h2 := ho.2
    simp only [devOk, Bool.and_eq_true, decide_eq_true_eq, List.all_eq_true] at h ⊢
    refine ⟨⟨⟨h.1.1.1, by rw [List.length_append]; have := h.1.1.2; simp; omega⟩, h.1.2⟩, fun x hx => ?_⟩
    rcases List.mem_append.1 hx with hx | hx
    · exact h.2 x hx
    · rw [List.mem_singleton.1 hx]
      exact h1
  · exact h
theorem cutTo_mem {s : List ByteArray} {l : List Pat} {kp : Nat → Bool} : ∀ k, ∀ t ∈ cutTo s l kp k, t ∈ s ∨ ∃ i, i < k ∧ t = (nthP l i).text
  | 0, t, h => .inl h
  | k + 1, t, h => by
    unfold cutTo at h
    split at h
    · rcases List.mem_or_eq_of_mem_set h with h | h
      · rcases cutTo_mem k t h with h | ⟨i, hi, e⟩
        · exact .inl h
        · exact .inr ⟨i, by omega, e⟩
      · exact .inr ⟨k, by omega, h⟩
    · rcases cutTo_mem k t h with h | ⟨i, hi, e⟩
      · exact .inl h
      · exact .inr ⟨i, by omega, e⟩
theorem dev_cut {s : List ByteArray} {l : List Pat} (kp : Nat → Bool) (h : devOk s l = true) : devOk (cutL s l kp) [] = true ∧ (cutL s l kp).length = s.length := by
  have hc : cutL s l kp = cutTo s l kp l.length := cutL_yes h
  rw [hc]
  refine ⟨?_, cutTo_len s l kp _⟩
  have hi := (devOk_iff s l).1 h
  have hl := cutTo_len s l kp l.length
  rw [devOk_iff]
  refine ⟨by rw [hl]; exact hi.1, by rw [hl]; exact hi.2.1, by simp, fun i hlt => ?_, fun i hlt => by simp at hlt⟩
  rcases cutTo_mem (kp := kp) l.length _ (List.getElem_mem hlt) with hm | ⟨j, hj, e⟩
  · obtain ⟨q, hq, e⟩ := List.getElem_of_mem hm
    rw [← e]
    exact hi.2.2.2.1 q hq
  · rw [e]
    exact (pOk_iff.1 (hi.2.2.2.2 j hj)).2.2
theorem dev_new {n : Int} (h1 : 1 ≤ n) (h2 : n ≤ 4) : devOk (newS n) [] = true ∧ (newS n).length ≤ 4 := by
  have e : newS n = List.replicate n.toNat ⟨#[]⟩ := by unfold newS; rw [if_pos ⟨h1, by omega⟩]
  rw [e, devOk_iff]
  refine ⟨⟨by rw [List.length_replicate]; omega, by rw [List.length_replicate]; omega, by simp, fun i hi => ?_, fun i hi => by simp at hi⟩, by rw [List.length_replicate]; omega⟩
  rw [List.getElem_replicate]
  decide
/-- What l8Draw leaves. -/
def DvD (w0 w : World) (g : Nat) (e : Ending) (w' : World) : Prop :=
  ∃ Y : DvX, e = .returned (.agg #[Y.vs, Y.vl]) ∧ devOk Y.secs Y.late = true ∧ Y.secs.length ≤ 4 ∧ OwnDv w' w.heap.size Y ∧ DCur w0 w' g ∧ w.grownBy w' (some g)
set_option maxHeartbeats 8000000 in
set_option maxRecDepth 100000 in
theorem l8Draw_any (w0 w : World) (g : Nat) (h : DCur w0 w g) :
    Calls Tryz.prog 70 #[.pointer (some ⟨g, 0, none⟩)] w fun e w' => DvD w0 w g e w' := by
  have HGL : Hid (g < w.heap.size) := h.lt
  have zr0 := boxDv_new w (.slice none 0 0) (.slice none 0 0)
  have dc0 := h.alloc (.cells #[.slice none 0 0, .slice none 0 0] 27)
  have gr0 := gr_alloc (gr_refl w (some g)) (.cells #[.slice none 0 0, .slice none 0 0] 27)
  have s0 : w.heap.size + 1 = (w.alloc (.cells #[.slice none 0 0, .slice none 0 0] 27)).heap.size := by simp
  go_enter Tryz.func70, Tryz.ntmps70
  go_wp2_with fail
  generalize w.alloc (.cells #[.slice none 0 0, .slice none 0 0] 27) = W0 at zr0 dc0 gr0 s0 ⊢
  refine (l1Below_any w0 _ g 4 dc0 (by omega) (by omega)).mono ?_
  rintro e w1 ⟨x, rfl, hx0, hx1, dc1, hg1⟩
  have zr1 := zr0.of_block (hg1.block (w.heap.size) zr0.lt (fun e => by have := Option.some.inj e; have := HGL.out; omega))
  have gr1 := gr_trans gr0 hg1
  have s1 := hg1.size
  clear zr0 dc0 gr0 hg1 h
  have hxw : IntKind.i64.wrap (1 + x) = 1 + x := by rw [IntKind.wrap_i64]; omega
  go_wp2_with fail
  refine (specNew_any (1 + x) _).mono ?_
  rintro e w2 ⟨Y, rfl, he1, he2, oY, hb2⟩
  obtain ⟨hok, hlen⟩ := dev_new (n := 1 + x) (by omega) (by omega)
  have zr2 := zr1.below hb2
  have dc2 : DCur w0 w2 g := dc1.grow (row := none) (gr_belowD (gr_refl _ _) hb2) (fun k hk => by cases hk)
  have gr2 := gr_belowD gr1 hb2
  have s2 := hb2.size
  rw [← he1, ← he2] at hok
  rw [← he1] at hlen
  clear zr1 dc1 gr1 hb2 he1 he2 hxw hx0 hx1
  obtain ⟨va, vc, hv1⟩ := own_slice oY.secs
  obtain ⟨la, lc, hv2⟩ := own_slice oY.late
  obtain ⟨vs2, vl2, secs2, late2⟩ := Y
  simp only at hv1 hv2 hok hlen
  obtain ⟨sn2, hsn⟩ : ∃ sn2, sn2 = secs2.length := ⟨_, rfl⟩
  obtain ⟨ln2, hln⟩ : ∃ ln2, ln2 = late2.length := ⟨_, rfl⟩
  rw [← hsn] at hv1
  rw [← hln] at hv2
  subst hv1
  subst hv2
  have zb3 := boxDv_new w2 (.slice va sn2 vc) (.slice la ln2 lc)
  have bb := below1 w2 (.cells #[.slice va sn2 vc, .slice la ln2 lc] 27)
  have zr3 := zr2.below bb
  have dc3 := dc2.alloc (.cells #[.slice va sn2 vc, .slice la ln2 lc] 27)
  have gr3 := gr_alloc gr2 (.cells #[.slice va sn2 vc, .slice la ln2 lc] 27)
  have oY3 := oY.below bb
  have HB3 : Hid (w.heap.size < w2.heap.size) := by unfold Hid; omega
  replace oY3 := oY3.mono (show w.heap.size ≤ w1.heap.size by omega)
  have HIN : Hid (devOk secs2 late2 = true ∧ secs2.length ≤ 4) := ⟨hok, hlen⟩
  have HSN : Hid (sn2 = secs2.length) := hsn
  have HLN : Hid (ln2 = late2.length) := hln
  clear zr2 dc2 gr2 oY bb hok hlen hsn hln
  go_wp2_with fail
  have s3 : w2.heap.size < (w2.alloc (.cells #[.slice va sn2 vc, .slice la ln2 lc] 27)).heap.size := by simp
  generalize w2.alloc (.cells #[.slice va sn2 vc, .slice la ln2 lc] 27) = W3 at zb3 zr3 dc3 gr3 oY3 s3 ⊢
  generalize w2.heap.size = b3 at zb3 HB3 s2 s3 ⊢
  refine (l1Below_any w0 _ g 9 dc3 (by omega) (by omega)).mono ?_
  rintro e w4 ⟨x9, rfl, hx0, hx1, dc4, hg4⟩
  obtain ⟨n, rfl⟩ := Int.eq_ofNat_of_zero_le hx0
  have hn8 : n ≤ 8 := by omega
  have zr4 := zr3.of_block (hg4.block (w.heap.size) zr3.lt (fun e => by have := Option.some.inj e; have := HGL.out; omega))
  have zb4 := zb3.of_block (hg4.block b3 zb3.lt (fun e => by have := Option.some.inj e; have := HGL.out; have := HB3.out; omega))
  have gr4 := gr_trans gr3 hg4
  have oY4 : OwnDv w4 w.heap.size ⟨.slice va sn2 vc, .slice la ln2 lc, secs2, late2⟩ := ⟨row_kept oY3.secs hg4 (fun k hk e => by have := (World.ownsRow.lt oY3.secs k hk).1; have := Option.some.inj e; have := HGL.out; omega), row_kept oY3.late hg4 (fun k hk e => by have := (World.ownsRow.lt oY3.late k hk).1; have := Option.some.inj e; have := HGL.out; omega)⟩
  clear zr3 zb3 gr3 oY3 hg4 dc3 hx0 hx1 s0 s1 s2 s3
  go_wp2
  go_loopw [5] (fun nv wr => ∃ (k : Nat) (Y : DvX), k ≤ 8 ∧ nv = .int .i64 k ∧ Hid (devOk Y.secs Y.late = true ∧ Y.secs.length ≤ 4) ∧ BoxDv wr b3 Y.vs Y.vl ∧ BoxDv wr w.heap.size (.slice none 0 0) (.slice none 0 0) ∧ OwnDv wr w.heap.size Y ∧ DCur w0 wr g ∧ w.grownBy wr (some g)) (fun nv _ => (intOf nv).toNat)
  case atStart => exact ⟨n, ⟨.slice va sn2 vc, .slice la ln2 lc, secs2, late2⟩, hn8, rfl, HIN, zb4, zr4, oY4, dc4, gr4⟩
  case round =>
    clear zb4 zr4 oY4 dc4 gr4 HIN HSN HLN hn8
    obtain ⟨k, Y, hk8, rfl, HIN, zb, zr, oY, dc, gr⟩ := hrel
    obtain ⟨va, vc, hv1⟩ := own_slice oY.secs
    obtain ⟨la, lc, hv2⟩ := own_slice oY.late
    obtain ⟨vs1, vl1, secs1, late1⟩ := Y
    simp only at hv1 hv2 HIN zb
    obtain ⟨sn, hsn⟩ : ∃ sn, sn = secs1.length := ⟨_, rfl⟩
    obtain ⟨ln, hln⟩ : ∃ ln, ln = late1.length := ⟨_, rfl⟩
    rw [← hsn] at hv1
    rw [← hln] at hv2
    subst hv1
    subst hv2
    have HSN : Hid (sn = secs1.length) := hsn
    clear hsn hln
    obtain ⟨y0, y1, g0, g1⟩ := zb.facts
    obtain ⟨m0, m1, n0, n1⟩ := zr.facts
    by_cases hk0 : k = 0
    · subst hk0
      have hwb : w.heap.size ≠ b3 := by have := HB3.out; omega
      have END : Hid (DvD w0 w g (.returned (.agg #[.slice va sn vc, .slice la ln lc])) ((wr.setCell ⟨w.heap.size, 0, none⟩ (.slice va sn vc)).setCell ⟨w.heap.size, 1, none⟩ (.slice la ln lc))) := by
        refine ⟨⟨.slice va sn vc, .slice la ln lc, secs1, late1⟩, rfl, HIN.out.1, HIN.out.2, ⟨row_set (row_set oY.secs (fun j hj e => boxDv_row zr oY.secs (by decide) j hj e)) (fun j hj e => boxDv_row zr oY.secs (by decide) j hj e), row_set (row_set oY.late (fun j hj e => boxDv_row zr oY.late (by decide) j hj e)) (fun j hj e => boxDv_row zr oY.late (by decide) j hj e)⟩, ?_, gr_setD (gr_setD gr (Nat.le_refl _)) (Nat.le_refl _)⟩
        have hg := HGL.out
        exact (dc.grow (row := some w.heap.size) (set_grown _) (fun j hj => by have := Option.some.inj hj; omega)).grow (row := some w.heap.size) (set_grown _) (fun j hj => by have := Option.some.inj hj; omega)
      have zf : BoxDv ((wr.setCell ⟨w.heap.size, 0, none⟩ (.slice va sn vc)).setCell ⟨w.heap.size, 1, none⟩ (.slice la ln lc)) w.heap.size (.slice va sn vc) (.slice la ln lc) := heap_setCell_same _ w.heap.size 1 _ _ _ (heap_setCell_same wr w.heap.size 0 _ _ _ zr)
      obtain ⟨f0, f1, -⟩ := zf.facts
      clear zf zb zr oY dc gr
      go_wp2
      exact bodyPost_ret (v := .agg #[.slice va sn vc, .slice la ln lc]) (by simp [results, Tryz.results70, go_sem, f0, f1]) rfl END.out
    · skip
      have hki : (0 : Int) < (k : Int) := by omega
      have hsn1 : (0 : Int) < (sn : Int) := by have := HSN.out; have := ((devOk_iff _ _).1 HIN.out.1).1; omega
      have hsn2 : (sn : Int) ≤ 4294967296 := by have := HSN.out; have := HIN.out.2; omega
      have HLA : Hid (∀ p t W, RdDv W ⟨.slice va sn vc, .slice la ln lc, secs1, late1⟩ → Calls Tryz.prog 67 #[.agg #[.slice va sn vc, .slice la ln lc], .int .i64 p, .string t] W fun e w' => DvRes W (layS secs1 late1) (layL secs1 late1 p t) (layO secs1 late1 p t) e w') := fun p t W h => specLay_any ⟨.slice va sn vc, .slice la ln lc, secs1, late1⟩ p t W h
      go_wp2_with fail
      clear y0 y1 g0 g1 m0 m1 n0 n1
      refine wp_region_noPanic ?_
      refine wp_region_held_drew (S := fun _ => True) (by kernel_rfl) trivial (fun hS => ?_)
      have dd : Below wr.heap.size wr wr.drew := (Below.refl _ wr).drew
      replace zb := zb.below dd
      replace zr := zr.below dd
      replace oY := oY.below dd
      replace dc : DCur w0 wr.drew g := dc.grow (row := none) (gr_belowD (gr_refl _ _) dd) (fun k hk => by cases hk)
      replace gr := gr_belowD gr dd
      have qs : w.heap.size ≤ wr.drew.heap.size := gr.size
      clear dd
      revert qs
      revert gr
      revert dc
      revert oY
      revert zr
      revert zb
      revert hS
      generalize wr.drew = V
      intro hS zb zr oY dc gr qs
      refine tkG 1 21 hS ?_
      try simp only [Act.put, List.setIfInBounds_toArray, List.set_cons_zero, List.set_cons_succ]
      refine tkG 2 22 hS ?_
      try simp only [Act.put, List.setIfInBounds_toArray, List.set_cons_zero, List.set_cons_succ]
      refine tkG 6 26 hS ?_
      try simp only [Act.put, List.setIfInBounds_toArray, List.set_cons_zero, List.set_cons_succ]
      refine wpAnyH_ready (rs := [0, 3]) (by kernel_rfl) (by simp) ?_
      refine AllReadyH.cons rfl (fun K hK => ?_) ?_
      obtain ⟨y0, y1, g0, g1⟩ := zb.facts
      go_simp
      clear y0 y1 g0 g1 hS
      refine hK.out _ _ trivial (fun hS => ?_)
      clear hK K
      try simp only [List.setIfInBounds_toArray, List.set_cons_zero, List.set_cons_succ]
      clear hS
      refine listed_as8 (l' := #[true, true, true, false, false, false, true, false, false, false, false, false, false]) (by kernel_rfl) ?_
      revert zb
      revert zr
      revert oY
      revert dc
      revert gr
      revert qs
      revert V
      refine ?dk01
      rotate_left 1
      refine AllReadyH.cons rfl (fun K hK => ?_) AllReadyH.nil
      obtain ⟨y0, y1, g0, g1⟩ := zb.facts
      go_simp
      clear y0 y1 g0 g1 hS
      refine hK.out _ _ trivial (fun hS => ?_)
      clear hK K
      try simp only [List.setIfInBounds_toArray, List.set_cons_zero, List.set_cons_succ]
      refine tkG 4 24 hS ?_
      try simp only [Act.put, List.setIfInBounds_toArray, List.set_cons_zero, List.set_cons_succ]
      clear hS
      refine listed_as8 (l' := #[false, true, true, true, true, false, true, false, false, false, false, false, false]) (by kernel_rfl) ?_
      revert zb
      revert zr
      revert oY
      revert dc
      revert gr
      revert qs
      revert V
      refine ?dk10
      rotate_left 1
      intro V0 qs gr dc oY zr zb
      have hS : (fun _ : World => True) V0 := trivial
      refine wpAnyH_ready (rs := [3]) (by kernel_rfl) (by simp) ?_
      refine AllReadyH.cons rfl (fun K hK => ?_) AllReadyH.nil
      obtain ⟨y0, y1, g0, g1⟩ := zb.facts
      go_simp
      clear y0 y1 g0 g1 hS
      refine hK.out _ _ trivial (fun hS => ?_)
      clear hK K
      try simp only [List.setIfInBounds_toArray, List.set_cons_zero, List.set_cons_succ]
      refine tkG 4 24 hS ?_
      try simp only [Act.put, List.setIfInBounds_toArray, List.set_cons_zero, List.set_cons_succ]
      clear hS
      refine listed_as8 (l' := #[true, true, true, true, true, false, true, false, false, false, false, false, false]) (by kernel_rfl) ?_
      revert zb
      revert zr
      revert oY
      revert dc
      revert gr
      revert qs
      revert V0
      refine ?dk11
      rotate_left 1
      intro V0 qs gr dc oY zr zb
      have hS : (fun _ : World => True) V0 := trivial
      refine wpAnyH_ready (rs := [0, 5]) (by kernel_rfl) (by simp) ?_
      refine AllReadyH.cons rfl (fun K hK => ?_) ?_
      obtain ⟨y0, y1, g0, g1⟩ := zb.facts
      go_simp
      clear y0 y1 g0 g1 hS
      refine hK.out _ _ trivial (fun hS => ?_)
      clear hK K
      try simp only [List.setIfInBounds_toArray, List.set_cons_zero]
      clear hS
      refine listed_as8 (l' := #[true, true, true, true, true, false, true, false, false, false, false, false, false]) (by kernel_rfl) ?_
      revert zb
      revert zr
      revert oY
      revert dc
      revert gr
      revert qs
      revert V0
      exact ?dk11
      refine AllReadyH.cons rfl (fun K hK => ?_) AllReadyH.nil
      go_simp
      refine (l1Below_any w0 _ g _ dc hsn1 hsn2).mono ?_
      rintro e V1 ⟨x5, rfl, -, -, dc1, hg⟩
      replace oY : OwnDv V1 w.heap.size ⟨.slice va sn vc, .slice la ln lc, secs1, late1⟩ := ⟨row_kept oY.secs hg (fun k hk e => by have := (World.ownsRow.lt oY.secs k hk).1; have := Option.some.inj e; have := HGL.out; omega), row_kept oY.late hg (fun k hk e => by have := (World.ownsRow.lt oY.late k hk).1; have := Option.some.inj e; have := HGL.out; omega)⟩
      replace zb := zb.of_block (hg.block b3 zb.lt (fun e => by have := Option.some.inj e; have := HB3.out; have := HGL.out; omega))
      replace zr := zr.of_block (hg.block (w.heap.size) zr.lt (fun e => by have := Option.some.inj e; have := HGL.out; omega))
      replace gr := gr_trans gr hg
      replace qs := Nat.le_trans qs hg.size
      replace dc := dc1
      clear hg dc1 hS
      refine hK.out _ _ trivial (fun hS => ?_)
      clear hK K
      try simp only [List.setIfInBounds_toArray, List.set_cons_zero, List.set_cons_succ]
      clear hS
      refine listed_as8 (l' := #[false, true, true, true, true, true, true, false, false, false, false, false, false]) (by kernel_rfl) ?_
      revert zb
      revert zr
      revert oY
      revert dc
      revert gr
      revert qs
      revert x5
      revert V1
      clear V0
      refine ?dk20
      rotate_left 1
      intro V0 qs gr dc oY zr zb
      have hS : (fun _ : World => True) V0 := trivial
      refine wpAnyH_ready (rs := [5]) (by kernel_rfl) (by simp) ?_
      refine AllReadyH.cons rfl (fun K hK => ?_) AllReadyH.nil
      go_simp
      refine (l1Below_any w0 _ g _ dc hsn1 hsn2).mono ?_
      rintro e V1 ⟨x5, rfl, -, -, dc1, hg⟩
      replace oY : OwnDv V1 w.heap.size ⟨.slice va sn vc, .slice la ln lc, secs1, late1⟩ := ⟨row_kept oY.secs hg (fun k hk e => by have := (World.ownsRow.lt oY.secs k hk).1; have := Option.some.inj e; have := HGL.out; omega), row_kept oY.late hg (fun k hk e => by have := (World.ownsRow.lt oY.late k hk).1; have := Option.some.inj e; have := HGL.out; omega)⟩
      replace zb := zb.of_block (hg.block b3 zb.lt (fun e => by have := Option.some.inj e; have := HB3.out; have := HGL.out; omega))
      replace zr := zr.of_block (hg.block (w.heap.size) zr.lt (fun e => by have := Option.some.inj e; have := HGL.out; omega))
      replace gr := gr_trans gr hg
      replace qs := Nat.le_trans qs hg.size
      replace dc := dc1
      clear hg dc1 hS
      refine hK.out _ _ trivial (fun hS => ?_)
      clear hK K
      try simp only [List.setIfInBounds_toArray, List.set_cons_zero, List.set_cons_succ]
      clear hS
      refine listed_as8 (l' := #[true, true, true, true, true, true, true, false, false, false, false, false, false]) (by kernel_rfl) ?_
      revert zb
      revert zr
      revert oY
      revert dc
      revert gr
      revert qs
      revert x5
      revert V1
      clear V0
      refine ?dk21
      rotate_left 1
      intro V0 x5 qs gr dc oY zr zb
      have hS : (fun _ : World => True) V0 := trivial
      refine wpAnyH_ready (rs := [0, 7]) (by kernel_rfl) (by simp) ?_
      refine AllReadyH.cons rfl (fun K hK => ?_) ?_
      obtain ⟨y0, y1, g0, g1⟩ := zb.facts
      go_simp
      clear y0 y1 g0 g1 hS
      refine hK.out _ _ trivial (fun hS => ?_)
      clear hK K
      try simp only [List.setIfInBounds_toArray, List.set_cons_zero]
      clear hS
      refine listed_as8 (l' := #[true, true, true, true, true, true, true, false, false, false, false, false, false]) (by kernel_rfl) ?_
      revert zb
      revert zr
      revert oY
      revert dc
      revert gr
      revert qs
      revert x5
      revert V0
      exact ?dk21
      refine AllReadyH.cons rfl (fun K hK => ?_) AllReadyH.nil
      go_simp
      refine (l1DrawText_any w0 _ g dc).mono ?_
      rintro e V1 ⟨t7, rfl, -, dc1, hg⟩
      replace oY : OwnDv V1 w.heap.size ⟨.slice va sn vc, .slice la ln lc, secs1, late1⟩ := ⟨row_kept oY.secs hg (fun k hk e => by have := (World.ownsRow.lt oY.secs k hk).1; have := Option.some.inj e; have := HGL.out; omega), row_kept oY.late hg (fun k hk e => by have := (World.ownsRow.lt oY.late k hk).1; have := Option.some.inj e; have := HGL.out; omega)⟩
      replace zb := zb.of_block (hg.block b3 zb.lt (fun e => by have := Option.some.inj e; have := HB3.out; have := HGL.out; omega))
      replace zr := zr.of_block (hg.block (w.heap.size) zr.lt (fun e => by have := Option.some.inj e; have := HGL.out; omega))
      replace gr := gr_trans gr hg
      replace qs := Nat.le_trans qs hg.size
      replace dc := dc1
      clear hg dc1 hS
      refine hK.out _ _ trivial (fun hS => ?_)
      clear hK K
      try simp only [List.setIfInBounds_toArray, List.set_cons_zero, List.set_cons_succ]
      clear hS
      refine listed_as8 (l' := #[false, true, true, true, true, true, true, true, false, false, false, false, false]) (by kernel_rfl) ?_
      revert zb
      revert zr
      revert oY
      revert dc
      revert gr
      revert qs
      revert t7
      revert x5
      revert V1
      clear V0
      refine ?dk30
      rotate_left 1
      intro V0 x5 qs gr dc oY zr zb
      have hS : (fun _ : World => True) V0 := trivial
      refine wpAnyH_ready (rs := [7]) (by kernel_rfl) (by simp) ?_
      refine AllReadyH.cons rfl (fun K hK => ?_) AllReadyH.nil
      go_simp
      refine (l1DrawText_any w0 _ g dc).mono ?_
      rintro e V1 ⟨t7, rfl, -, dc1, hg⟩
      replace oY : OwnDv V1 w.heap.size ⟨.slice va sn vc, .slice la ln lc, secs1, late1⟩ := ⟨row_kept oY.secs hg (fun k hk e => by have := (World.ownsRow.lt oY.secs k hk).1; have := Option.some.inj e; have := HGL.out; omega), row_kept oY.late hg (fun k hk e => by have := (World.ownsRow.lt oY.late k hk).1; have := Option.some.inj e; have := HGL.out; omega)⟩
      replace zb := zb.of_block (hg.block b3 zb.lt (fun e => by have := Option.some.inj e; have := HB3.out; have := HGL.out; omega))
      replace zr := zr.of_block (hg.block (w.heap.size) zr.lt (fun e => by have := Option.some.inj e; have := HGL.out; omega))
      replace gr := gr_trans gr hg
      replace qs := Nat.le_trans qs hg.size
      replace dc := dc1
      clear hg dc1 hS
      refine hK.out _ _ trivial (fun hS => ?_)
      clear hK K
      try simp only [List.setIfInBounds_toArray, List.set_cons_zero, List.set_cons_succ]
      clear hS
      refine listed_as8 (l' := #[true, true, true, true, true, true, true, true, false, false, false, false, false]) (by kernel_rfl) ?_
      revert zb
      revert zr
      revert oY
      revert dc
      revert gr
      revert qs
      revert t7
      revert x5
      revert V1
      clear V0
      refine ?dk31
      rotate_left 1
      intro V0 x5 t7 qs gr dc oY zr zb
      have hS : (fun _ : World => True) V0 := trivial
      refine wpAnyH_ready (rs := [0]) (by kernel_rfl) (by simp) ?_
      refine AllReadyH.cons rfl (fun K hK => ?_) AllReadyH.nil
      obtain ⟨y0, y1, g0, g1⟩ := zb.facts
      go_simp
      clear y0 y1 g0 g1 hS
      refine hK.out _ _ trivial (fun hS => ?_)
      clear hK K
      try simp only [List.setIfInBounds_toArray, List.set_cons_zero]
      clear hS
      refine listed_as8 (l' := #[true, true, true, true, true, true, true, true, false, false, false, false, false]) (by kernel_rfl) ?_
      revert zb
      revert zr
      revert oY
      revert dc
      revert gr
      revert qs
      revert t7
      revert x5
      revert V0
      exact ?dk31
      intro V0 x5 t7 qs gr dc oY zr zb
      have hS : (fun _ : World => True) V0 := trivial
      refine wpAnyH_ready (rs := [8]) (by kernel_rfl) (by simp) ?_
      refine AllReadyH.cons rfl (fun K hK => ?_) AllReadyH.nil
      go_simp
      refine (HLA.out x5 t7 _ oY.rd).mono ?_
      rintro e V1 ⟨Y2, rfl, he1, he2, oY2, hb⟩
      have hbl := zb.lt
      replace zb := zb.below hb
      replace zr := zr.below hb
      replace dc : DCur w0 V1 g := dc.grow (row := none) (gr_belowD (gr_refl _ _) hb) (fun k hk => by cases hk)
      replace gr := gr_belowD gr hb
      have s1 := hb.size
      clear hb oY hS
      obtain ⟨va2, vc2, hv1⟩ := own_slice oY2.secs
      obtain ⟨la2, lc2, hv2⟩ := own_slice oY2.late
      obtain ⟨vs2, vl2, secs2, late2⟩ := Y2
      simp only at hv1 hv2 he1 he2
      obtain ⟨sn2, hsn⟩ : ∃ sn2, sn2 = secs2.length := ⟨_, rfl⟩
      obtain ⟨ln2, hln⟩ : ∃ ln2, ln2 = late2.length := ⟨_, rfl⟩
      rw [← hsn] at hv1
      rw [← hln] at hv2
      subst hv1
      subst hv2
      have HE1 : Hid (secs2 = _) := he1
      have HE2 : Hid (late2 = _) := he2
      clear he1 he2 hsn hln
      refine hK.out _ _ trivial (fun hS => ?_)
      clear hK K
      refine tkG 9 19 hS ?_
      try simp only [Act.put, List.setIfInBounds_toArray, List.set_cons_zero, List.set_cons_succ]
      refine tkG 10 29 hS ?_
      try simp only [Act.put, List.setIfInBounds_toArray, List.set_cons_zero, List.set_cons_succ]
      refine tkG 11 30 hS ?_
      try simp only [Act.put, List.setIfInBounds_toArray, List.set_cons_zero, List.set_cons_succ]
      obtain ⟨y0, y1, g0, g1⟩ := zb.facts
      refine wpAnyH_ready (rs := [12]) (by kernel_rfl) (by simp) ?_
      refine AllReadyH.cons rfl (fun K hK => ?_) AllReadyH.nil
      go_simp
      refine hK.out _ _ trivial (fun hS => ?_)
      clear hK K hS y0 y1 g0 g1
      refine wpAnyH_done (by kernel_rfl) ?_ _
      refine NoPanic.normal ?_
      have HIN2 : Hid (devOk secs2 late2 = true ∧ secs2.length ≤ 4) := by
        have h1 := dev_lay (p := x5) (t := t7) HIN.out.1
        have h2 := HIN.out.2
        unfold Hid
        rw [HE1.out, HE2.out, h1.2]
        exact ⟨h1.1, h2⟩
      have hwb : w.heap.size ≠ b3 := by have := HB3.out; omega
      have zbP : BoxDv ((V1.setCell ⟨b3, 0, none⟩ (.slice va2 sn2 vc2)).setCell ⟨b3, 1, none⟩ (.slice la2 ln2 lc2)) b3 (.slice va2 sn2 vc2) (.slice la2 ln2 lc2) := heap_setCell_same _ b3 1 _ _ _ (heap_setCell_same V1 b3 0 _ _ _ zb)
      have zrP : BoxDv ((V1.setCell ⟨b3, 0, none⟩ (.slice va2 sn2 vc2)).setCell ⟨b3, 1, none⟩ (.slice la2 ln2 lc2)) w.heap.size (.slice none 0 0) (.slice none 0 0) := zr.of_block ((heap_setCell_other _ ⟨b3, 1, none⟩ w.heap.size _ hwb).trans (heap_setCell_other V1 ⟨b3, 0, none⟩ w.heap.size _ hwb))
      have oYP : OwnDv ((V1.setCell ⟨b3, 0, none⟩ (.slice va2 sn2 vc2)).setCell ⟨b3, 1, none⟩ (.slice la2 ln2 lc2)) w.heap.size ⟨.slice va2 sn2 vc2, .slice la2 ln2 lc2, secs2, late2⟩ := OwnDv.mono (B := V0.heap.size) ⟨row_base (row_base oY2.secs hbl) hbl, row_base (row_base oY2.late hbl) hbl⟩ qs
      have dcP : DCur w0 ((V1.setCell ⟨b3, 0, none⟩ (.slice va2 sn2 vc2)).setCell ⟨b3, 1, none⟩ (.slice la2 ln2 lc2)) g := (dc.grow (row := some b3) (set_grown _) (fun j hj => by have := Option.some.inj hj; have := HGL.out; have := HB3.out; omega)).grow (row := some b3) (set_grown _) (fun j hj => by have := Option.some.inj hj; have := HGL.out; have := HB3.out; omega)
      have grP : w.grownBy ((V1.setCell ⟨b3, 0, none⟩ (.slice va2 sn2 vc2)).setCell ⟨b3, 1, none⟩ (.slice la2 ln2 lc2)) (some g) := gr_setD (gr_setD gr (by have := HB3.out; omega)) (by have := HB3.out; omega)
      clear HE1 HE2
      generalize (V1.setCell ⟨b3, 0, none⟩ (.slice va2 sn2 vc2)).setCell ⟨b3, 1, none⟩ (.slice la2 ln2 lc2) = P at zbP zrP oYP dcP grP ⊢
      clear zb zr oY2 dc gr
      go_wp2_with fail
      refine (l1Once_any w0 _ g 4 dcP (by omega) (by omega)).mono ?_
      rintro e w5 ⟨bb, rfl, dc5, hg5⟩
      have zr5 := zrP.of_block (hg5.block (w.heap.size) zrP.lt (fun e => by have := Option.some.inj e; have := HGL.out; omega))
      have zb5 := zbP.of_block (hg5.block b3 zbP.lt (fun e => by have := Option.some.inj e; have := HGL.out; have := HB3.out; omega))
      have gr5 := gr_trans grP hg5
      have oY5 : OwnDv w5 w.heap.size ⟨.slice va2 sn2 vc2, .slice la2 ln2 lc2, secs2, late2⟩ := ⟨row_kept oYP.secs hg5 (fun k hk e => by have := (World.ownsRow.lt oYP.secs k hk).1; have := Option.some.inj e; have := HGL.out; omega), row_kept oYP.late hg5 (fun k hk e => by have := (World.ownsRow.lt oYP.late k hk).1; have := Option.some.inj e; have := HGL.out; omega)⟩
      clear zbP zrP oYP dcP grP hg5
      have hkw : IntKind.i64.wrap ((k : Int) - 1) = (k : Int) - 1 := by rw [IntKind.wrap_i64]; omega
      cases bb with
      | false =>
        go_wp2
        go_roundw
        case rel => exact ⟨k - 1, ⟨.slice va2 sn2 vc2, .slice la2 ln2 lc2, secs2, late2⟩, by omega, by rw [show ((k - 1 : Nat) : Int) = (k : Int) - 1 by omega], HIN2, zb5, zr5, oY5, dc5, gr5⟩
        case measure => simp [intOf]; omega
      | true =>
        obtain ⟨y0, y1, g0, g1⟩ := zb5.facts
        go_wp2_with fail
        refine (specBarrier_any ⟨.slice va2 sn2 vc2, .slice la2 ln2 lc2, secs2, late2⟩ _ oY5.rd (by have := (devOk_iff _ _).1 HIN2.out.1; simp only; omega)).mono ?_
        rintro e w6 ⟨Y2, rfl, he1, he2, oY2, hb⟩
        simp only at he1
        have hbl := zb5.lt
        have zb := zb5.below hb
        have zr := zr5.below hb
        have dc : DCur w0 w6 g := dc5.grow (row := none) (gr_belowD (gr_refl _ _) hb) (fun k hk => by cases hk)
        have gr := gr_belowD gr5 hb
        have qs6 := gr5.size
        clear hb y0 y1 g0 g1
        obtain ⟨va6, vc6, hv1⟩ := own_slice oY2.secs
        obtain ⟨la6, lc6, hv2⟩ := own_slice oY2.late
        obtain ⟨vs6, vl6, secs6, late6⟩ := Y2
        simp only at hv1 hv2 he1 he2
        obtain ⟨sn6, hsn⟩ : ∃ sn6, sn6 = secs6.length := ⟨_, rfl⟩
        obtain ⟨ln6, hln⟩ : ∃ ln6, ln6 = late6.length := ⟨_, rfl⟩
        rw [← hsn] at hv1
        rw [← hln] at hv2
        subst hv1
        subst hv2
        have HE1 : Hid (secs6 = _) := he1
        have HE2 : Hid (late6 = _) := he2
        clear he1 he2 hsn hln
        have HIN6 : Hid (devOk secs6 late6 = true ∧ secs6.length ≤ 4) := by
          have h1 := dev_cut (fun _ => true) HIN2.out.1
          have h2 := HIN2.out.2
          unfold Hid
          rw [HE1.out, HE2.out, h1.2]
          exact ⟨h1.1, h2⟩
        have zbP : BoxDv ((w6.setCell ⟨b3, 0, none⟩ (.slice va6 sn6 vc6)).setCell ⟨b3, 1, none⟩ (.slice la6 ln6 lc6)) b3 (.slice va6 sn6 vc6) (.slice la6 ln6 lc6) := heap_setCell_same _ b3 1 _ _ _ (heap_setCell_same w6 b3 0 _ _ _ zb)
        have zrP : BoxDv ((w6.setCell ⟨b3, 0, none⟩ (.slice va6 sn6 vc6)).setCell ⟨b3, 1, none⟩ (.slice la6 ln6 lc6)) w.heap.size (.slice none 0 0) (.slice none 0 0) := zr.of_block ((heap_setCell_other _ ⟨b3, 1, none⟩ w.heap.size _ hwb).trans (heap_setCell_other w6 ⟨b3, 0, none⟩ w.heap.size _ hwb))
        have oYP : OwnDv ((w6.setCell ⟨b3, 0, none⟩ (.slice va6 sn6 vc6)).setCell ⟨b3, 1, none⟩ (.slice la6 ln6 lc6)) w.heap.size ⟨.slice va6 sn6 vc6, .slice la6 ln6 lc6, secs6, late6⟩ := OwnDv.mono (B := w5.heap.size) ⟨row_base (row_base oY2.secs hbl) hbl, row_base (row_base oY2.late hbl) hbl⟩ qs6
        have dcP : DCur w0 ((w6.setCell ⟨b3, 0, none⟩ (.slice va6 sn6 vc6)).setCell ⟨b3, 1, none⟩ (.slice la6 ln6 lc6)) g := (dc.grow (row := some b3) (set_grown _) (fun j hj => by have := Option.some.inj hj; have := HGL.out; have := HB3.out; omega)).grow (row := some b3) (set_grown _) (fun j hj => by have := Option.some.inj hj; have := HGL.out; have := HB3.out; omega)
        have grP : w.grownBy ((w6.setCell ⟨b3, 0, none⟩ (.slice va6 sn6 vc6)).setCell ⟨b3, 1, none⟩ (.slice la6 ln6 lc6)) (some g) := gr_setD (gr_setD gr (by have := HB3.out; omega)) (by have := HB3.out; omega)
        obtain ⟨y0, y1, g0, g1⟩ := zb.facts
        clear HE1 HE2 zb5 zr5 oY5 dc5 gr5 zb zr oY2 dc gr
        go_wp2
        go_roundw
        case rel => exact ⟨k - 1, ⟨.slice va6 sn6 vc6, .slice la6 ln6 lc6, secs6, late6⟩, by omega, by rw [show ((k - 1 : Nat) : Int) = (k : Int) - 1 by omega], HIN6, zbP, zrP, oYP, dcP, grP⟩
        case measure => simp [intOf]; omega
end Go.Proofs.YtpidmmfjmbinkaaGreatDoor
