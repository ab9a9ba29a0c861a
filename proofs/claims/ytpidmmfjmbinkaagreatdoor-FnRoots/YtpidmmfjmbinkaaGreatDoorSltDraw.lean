/- The draws of devices with slots: l9Draw. -/
import Derived.Test.YtpidmmfjmbinkaaGreatDoorDevDrawA
import Derived.Test.YtpidmmfjmbinkaaGreatDoorSltSp
import Derived.Test.YtpidmmfjmbinkaaGreatDoorSltMath2
-- UNF Gen
namespace Go.Proofs.YtpidmmfjmbinkaaGreatDoor
open Go.RowKit
/-- Two or three sectors, and right. -/
def In9 (Y : DvX) : Prop := devOk Y.secs Y.late = true ∧ 2 ≤ Y.secs.length ∧ Y.secs.length ≤ 3
def Dv9 (w0 w : World) (g : Nat) (e : Ending) (w' : World) : Prop :=
  ∃ Y : DvX, e = .returned (.agg #[Y.vs, Y.vl]) ∧ In9 Y ∧ OwnDv w' w.heap.size Y ∧ DCur w0 w' g ∧ w.grownBy w' (some g)
/-- What stands while a device is drawn: the result's box (empty), the device's box and rows, the cursor; nothing older has turned. -/
structure DSt (w0 w V : World) (g b3 : Nat) (Y : DvX) : Prop where
  zr : BoxDv V w.heap.size (.slice none 0 0) (.slice none 0 0)
  zb : BoxDv V b3 Y.vs Y.vl
  oY : OwnDv V w.heap.size Y
  dc : DCur w0 V g
  gr : w.grownBy V (some g)
  hg : g < w.heap.size
  hb : w.heap.size < b3
theorem DSt.grown {w0 w V V1 : World} {g b3 : Nat} {Y : DvX} (D : DSt w0 w V g b3 Y) (dc1 : DCur w0 V1 g) (h : V.grownBy V1 (some g)) : DSt w0 w V1 g b3 Y := by
  have h1 := D.hg
  have h2 := D.hb
  exact ⟨D.zr.of_block (h.block w.heap.size D.zr.lt (fun e => by have := Option.some.inj e; omega)), D.zb.of_block (h.block b3 D.zb.lt (fun e => by have := Option.some.inj e; omega)),
    ⟨row_kept D.oY.secs h (fun k hk e => by have := (World.ownsRow.lt D.oY.secs k hk).1; have := Option.some.inj e; omega), row_kept D.oY.late h (fun k hk e => by have := (World.ownsRow.lt D.oY.late k hk).1; have := Option.some.inj e; omega)⟩,
    dc1, gr_trans D.gr h, h1, h2⟩
theorem DSt.below {w0 w V V1 : World} {g b3 : Nat} {Y : DvX} (D : DSt w0 w V g b3 Y) (h : Below V.heap.size V V1) : DSt w0 w V1 g b3 Y :=
  ⟨D.zr.below h, D.zb.below h, D.oY.below h, D.dc.grow (row := none) (gr_belowD (gr_refl _ _) h) (fun k hk => by cases hk), gr_belowD D.gr h, D.hg, D.hb⟩
/-- Another device in the box. -/
theorem DSt.put {w0 w V V1 : World} {g b3 : Nat} {Y : DvX} (D : DSt w0 w V g b3 Y) (h : Below V.heap.size V V1) (sa la : Option Addr) (cs cl : Nat) (sn ln : Nat) (ss : List ByteArray) (ps : List Pat) (ho : OwnDv V1 V.heap.size ⟨.slice sa sn cs, .slice la ln cl, ss, ps⟩) :
    DSt w0 w ((V1.setCell ⟨b3, 0, none⟩ (.slice sa sn cs)).setCell ⟨b3, 1, none⟩ (.slice la ln cl)) g b3 ⟨.slice sa sn cs, .slice la ln cl, ss, ps⟩ := by
  have h1 := D.hg
  have h2 := D.hb
  have hbl := D.zb.lt
  have qs := D.gr.size
  have D1 := D.below h
  exact ⟨D1.zr.of_block ((block_set (by omega)).trans (block_set (by omega))), (D1.zb.set0 (u := .slice sa sn cs)).set1 (u := .slice la ln cl), (own_put ho hbl _ _).mono qs,
    (D1.dc.grow (row := some b3) (set_grown _) (fun j hj => by have := Option.some.inj hj; omega)).grow (row := some b3) (set_grown _) (fun j hj => by have := Option.some.inj hj; omega),
    gr_setD (gr_setD D1.gr (by omega)) (by omega), h1, h2⟩
theorem DSt.fin {w0 w V : World} {g b3 : Nat} {sa la : Option Addr} {cs cl sn ln : Nat} {ss : List ByteArray} {ps : List Pat} (D : DSt w0 w V g b3 ⟨.slice sa sn cs, .slice la ln cl, ss, ps⟩) (hi : In9 ⟨.slice sa sn cs, .slice la ln cl, ss, ps⟩) :
    Dv9 w0 w g (.returned (.agg #[.slice sa sn cs, .slice la ln cl])) ((V.setCell ⟨w.heap.size, 0, none⟩ (.slice sa sn cs)).setCell ⟨w.heap.size, 1, none⟩ (.slice la ln cl)) := by
  have hg := D.hg
  refine ⟨⟨.slice sa sn cs, .slice la ln cl, ss, ps⟩, rfl, hi, ⟨row_set (row_set D.oY.secs (fun j hj e => boxDv_row D.zr D.oY.secs (by decide) j hj e)) (fun j hj e => boxDv_row D.zr D.oY.secs (by decide) j hj e), row_set (row_set D.oY.late (fun j hj e => boxDv_row D.zr D.oY.late (by decide) j hj e)) (fun j hj e => boxDv_row D.zr D.oY.late (by decide) j hj e)⟩, ?_, gr_setD (gr_setD D.gr (Nat.le_refl _)) (Nat.le_refl _)⟩
  exact (D.dc.grow (row := some w.heap.size) (set_grown _) (fun j hj => by have := Option.some.inj hj; omega)).grow (row := some w.heap.size) (set_grown _) (fun j hj => by have := Option.some.inj hj; omega)
theorem lit_kept {V V1 : World} {bl g : Nat} {ob : Obj} (h : V.heap[bl]? = some ob) (hg : V.grownBy V1 (some g)) (hne : bl ≠ g) : V1.heap[bl]? = some ob :=
  (hg.block bl (Array.getElem?_eq_some_iff.1 h).1 (fun e => hne (Option.some.inj e))).trans h
theorem three_at {V : World} {bl k : Nat} {a b c : ByteArray} (h : V.heap[bl]? = some (.cells #[.string a, .string b, .string c] 9 (0, 0))) (hk : k < 3) : ∃ s, V.cell? ⟨bl, k, none⟩ = some (.string s) := by
  match k, hk with
  | 0, _ => exact ⟨a, by simp [World.cell?, h]⟩
  | 1, _ => exact ⟨b, by simp [World.cell?, h]⟩
  | 2, _ => exact ⟨c, by simp [World.cell?, h]⟩
theorem sw_ok {ss : List ByteArray} {ps : List Pat} (R : Int × Int × ByteArray) (t : ByteArray) (h : devOk ss ps = true) : devOk (swS ss ps R t) (swL ss ps R t) = true ∧ (swS ss ps R t).length = ss.length := by
  unfold swS swL
  cases hn : nextB ss ps R t with
  | false =>
    rw [h]
    exact ⟨h, rfl⟩
  | true =>
    obtain ⟨_, _, _, k4⟩ := next_facts hn
    have e := dev_cut (fun _ => true) k4
    rw [if_pos rfl, if_pos rfl]
    exact ⟨e.1, e.2.trans (bar_ok h).2⟩
theorem spec_sw {w : World} {Y : DvX} (h : RdDv w Y) (t : ByteArray) (ht : t.size ≤ 1048576) (hi : In9 Y) : Calls Tryz.prog 15 #[.agg #[Y.vs, Y.vl], .string t] w fun e w' => ∃ (Z : DvX) (o : Bool), e = .returned (.tuple #[.agg #[Z.vs, Z.vl], .bool o]) ∧ In9 Z ∧ OwnDv w' w.heap.size Z ∧ Below w.heap.size w w' := by
  obtain ⟨sa, la, cs, cl, eY⟩ := h.op
  obtain ⟨r0, h0⟩ := rs_ex (liesL Y.secs Y.late 0)
  obtain ⟨r1, h1⟩ := rs_ex (liesL Y.secs Y.late 1)
  obtain ⟨vs, vl, ss, ps⟩ := Y
  simp only at eY h0 h1
  have e1 : vs = .slice sa ss.length cs := congrArg DvX.vs eY
  have e2 : vl = .slice la ps.length cl := congrArg DvX.vl eY
  subst e1
  subst e2
  refine (specSwitch_any sa la cs cl ss ps t r0 r1 w h ht h0 h1).mono ?_
  rintro e w' ⟨Z, rfl, hs, hl, ho, hb⟩
  have hk := sw_ok (rootD ss ps r0 r1) t hi.1
  refine ⟨Z, _, rfl, ⟨by rw [hs, hl]; exact hk.1, ?_, ?_⟩, ho, hb⟩
  · rw [hs, hk.2]; exact hi.2.1
  · rw [hs, hk.2]; exact hi.2.2
theorem spec_lay9 {w : World} {Y : DvX} (h : RdDv w Y) (p : Int) (t : ByteArray) (hi : In9 Y) : Calls Tryz.prog 67 #[.agg #[Y.vs, Y.vl], .int .i64 p, .string t] w fun e w' => ∃ (Z : DvX) (o : Bool), e = .returned (.tuple #[.agg #[Z.vs, Z.vl], .bool o]) ∧ In9 Z ∧ OwnDv w' w.heap.size Z ∧ Below w.heap.size w w' := by
  refine (specLay_any Y p t w h).mono ?_
  rintro e w' ⟨Z, rfl, hs, hl, ho, hb⟩
  have hk := dev_lay (p := p) (t := t) hi.1
  refine ⟨Z, _, rfl, ⟨by rw [hs, hl]; exact hk.1, ?_, ?_⟩, ho, hb⟩
  · rw [hs, hk.2]; exact hi.2.1
  · rw [hs, hk.2]; exact hi.2.2
set_option maxHeartbeats 8000000 in
set_option maxRecDepth 100000 in
theorem l9Draw_any (w0 w : World) (g : Nat) (h : DCur w0 w g) :
    Calls Tryz.prog 51 #[.pointer (some ⟨g, 0, none⟩)] w fun e w' => Dv9 w0 w g e w' := by
  have HGL : Hid (g < w.heap.size) := h.lt
  have zr0 := boxDv_new w (.slice none 0 0) (.slice none 0 0)
  have dc0 := h.alloc (.cells #[.slice none 0 0, .slice none 0 0] 27)
  have gr0 := gr_alloc (gr_refl w (some g)) (.cells #[.slice none 0 0, .slice none 0 0] 27)
  have s0 : w.heap.size + 1 = (w.alloc (.cells #[.slice none 0 0, .slice none 0 0] 27)).heap.size := by simp
  go_enter Tryz.func51, Tryz.ntmps51
  go_wp2_with fail
  generalize w.alloc (.cells #[.slice none 0 0, .slice none 0 0] 27) = W0 at zr0 dc0 gr0 s0 ⊢
  refine (l1Below_any w0 _ g 2 dc0 (by omega) (by omega)).mono ?_
  rintro e w1 ⟨x, rfl, hx0, hx1, dc1, hg1⟩
  have zr1 := zr0.of_block (hg1.block (w.heap.size) zr0.lt (fun e => by have := Option.some.inj e; have := HGL.out; omega))
  have gr1 := gr_trans gr0 hg1
  have s1 := hg1.size
  clear zr0 dc0 gr0 hg1 h
  have hxw : IntKind.i64.wrap (2 + x) = 2 + x := by rw [IntKind.wrap_i64]; omega
  go_wp2_with fail
  refine (specNew_any (2 + x) _).mono ?_
  rintro e w2 ⟨Y, rfl, he1, he2, oY, hb2⟩
  have hin : In9 Y := by
    obtain ⟨k1, k2⟩ := dev_new (n := 2 + x) (by omega) (by omega)
    have e : newS (2 + x) = List.replicate (2 + x).toNat ⟨#[]⟩ := by unfold newS; rw [if_pos ⟨by omega, by omega⟩]
    refine ⟨by rw [he1, he2]; exact k1, ?_, ?_⟩
    · rw [he1, e, List.length_replicate]; omega
    · rw [he1, e, List.length_replicate]; omega
  have zr2 := zr1.below hb2
  have dc2 : DCur w0 w2 g := dc1.grow (row := none) (gr_belowD (gr_refl _ _) hb2) (fun k hk => by cases hk)
  have gr2 := gr_belowD gr1 hb2
  have s2 := hb2.size
  clear zr1 dc1 gr1 hb2 he1 he2 hxw hx0 hx1
  obtain ⟨va, vc, hv1⟩ := own_slice oY.secs
  obtain ⟨la, lc, hv2⟩ := own_slice oY.late
  obtain ⟨vs2, vl2, secs2, late2⟩ := Y
  simp only at hv1 hv2
  obtain ⟨sn2, hsn⟩ : ∃ sn2, sn2 = secs2.length := ⟨_, rfl⟩
  obtain ⟨ln2, hln⟩ : ∃ ln2, ln2 = late2.length := ⟨_, rfl⟩
  rw [← hsn] at hv1
  rw [← hln] at hv2
  subst hv1
  subst hv2
  clear hsn hln
  have bb := below1 w2 (.cells #[.slice va sn2 vc, .slice la ln2 lc] 27)
  have D3 : DSt w0 w (w2.alloc (.cells #[.slice va sn2 vc, .slice la ln2 lc] 27)) g w2.heap.size ⟨.slice va sn2 vc, .slice la ln2 lc, secs2, late2⟩ :=
    ⟨zr2.below bb, boxDv_new w2 _ _, (oY.below bb).mono (by omega), dc2.grow (row := none) (gr_belowD (gr_refl _ _) bb) (fun k hk => by cases hk), gr_belowD gr2 bb, HGL.out, by omega⟩
  clear zr2 dc2 gr2 bb oY
  have HIN0 : Hid (In9 ⟨.slice va sn2 vc, .slice la ln2 lc, secs2, late2⟩) := hin
  clear hin
  go_wp2_with fail
  generalize w2.alloc (.cells #[.slice va sn2 vc, .slice la ln2 lc] 27) = W3 at D3 ⊢
  generalize w2.heap.size = b3 at D3 ⊢
  refine (l1Below_any w0 _ g 5 D3.dc (by omega) (by omega)).mono ?_
  rintro e w4 ⟨x, rfl, hx0, hx1, dc4, hg4⟩
  obtain ⟨n, rfl⟩ := Int.eq_ofNat_of_zero_le hx0
  have D4 := D3.grown dc4 hg4
  clear D3 dc4 hg4
  go_wp2
  go_loopw [5] (fun nv wr => ∃ (k : Nat) (Y : DvX), k ≤ 5 ∧ nv = .int .i64 k ∧ Hid (In9 Y) ∧ DSt w0 w wr g b3 Y) (fun nv _ => (intOf nv).toNat)
  case atStart => exact ⟨n, _, by omega, rfl, HIN0, D4⟩
  case round =>
    clear D4 HIN0
    obtain ⟨k, Y, hk5, rfl, HIN, D⟩ := hrel
    obtain ⟨va, vc, hv1⟩ := own_slice D.oY.secs
    obtain ⟨la, lc, hv2⟩ := own_slice D.oY.late
    obtain ⟨vs1, vl1, secs, late⟩ := Y
    simp only at hv1 hv2
    obtain ⟨sn, hsn⟩ : ∃ sn, sn = secs.length := ⟨_, rfl⟩
    obtain ⟨ln, hln⟩ : ∃ ln, ln = late.length := ⟨_, rfl⟩
    rw [← hsn] at hv1
    rw [← hln] at hv2
    subst hv1
    subst hv2
    clear hsn hln
    by_cases hk0 : 0 < k
    · have hkw : IntKind.i64.wrap ((k : Int) - 1) = (k : Int) - 1 := by rw [IntKind.wrap_i64]; omega
      go_wp2_with fail
      refine wp_region_noPanic ?_
      refine wp_region_held_drew (S := fun _ => True) (by kernel_rfl) trivial (fun hS => ?_)
      replace D := D.below (Below.refl wr.heap.size wr).drew
      revert D
      generalize wr.drew = V
      intro D
      refine tkG 1 21 hS ?_
      try simp only [Act.put, List.setIfInBounds_toArray, List.set_cons_zero, List.set_cons_succ]
      refine wpAnyH_ready (rs := [0, 2]) (by kernel_rfl) (by simp) ?_
      refine AllReadyH.cons rfl (fun K hK => ?_) ?_
      · skip
        obtain ⟨y0, y1, u0, u1⟩ := D.zb.facts
        go_simp
        clear y0 y1 u0 u1 hS
        refine hK.out _ _ trivial (fun hS => ?_)
        clear hK K
        try simp only [List.setIfInBounds_toArray, List.set_cons_zero, List.set_cons_succ]
        refine wpAnyH_ready (rs := [2]) (by kernel_rfl) (by simp) ?_
        refine AllReadyH.cons rfl (fun K hK => ?_) AllReadyH.nil
        go_simp
        refine (l1DrawText_any w0 _ g D.dc).mono ?_
        rintro e V1 ⟨t, rfl, ht, dc1, hg1⟩
        replace D := D.grown dc1 hg1
        clear dc1 hg1 hS
        refine hK.out _ _ trivial (fun hS => ?_)
        clear hK K
        try simp only [List.setIfInBounds_toArray, List.set_cons_zero, List.set_cons_succ]
        refine wpAnyH_ready (rs := [3]) (by kernel_rfl) (by simp) ?_
        refine AllReadyH.cons rfl (fun K hK => ?_) AllReadyH.nil
        go_simp
        refine (spec_sw D.oY.rd t (by omega) HIN.out).mono ?_
        rintro e V2 ⟨Z, oo, hee, hiZ, hoZ, hb⟩
        obtain ⟨za, zc, v0⟩ := own_slice hoZ.secs
        obtain ⟨zla, zk, v1⟩ := own_slice hoZ.late
        obtain ⟨zvs, zvl, zss, zps⟩ := Z
        simp only at v0 v1
        obtain ⟨zn, hzn⟩ : ∃ zn, zn = zss.length := ⟨_, rfl⟩
        obtain ⟨zm, hzm⟩ : ∃ zm, zm = zps.length := ⟨_, rfl⟩
        rw [← hzn] at v0
        rw [← hzm] at v1
        subst v0
        subst v1
        clear hzn hzm
        replace hee : e = .returned (.tuple #[.agg #[.slice za zn zc, .slice zla zm zk], .bool oo]) := hee
        subst hee
        have HIZ : Hid (In9 ⟨.slice za zn zc, .slice zla zm zk, zss, zps⟩) := hiZ
        have P := D.put hb za zla zc zk zn zm zss zps hoZ
        obtain ⟨y0, y1, u0, u1⟩ := (D.below hb).zb.facts
        clear hoZ hb hiZ
        refine hK.out _ _ trivial (fun hS => ?_)
        clear hK K
        try simp only [List.setIfInBounds_toArray, List.set_cons_zero, List.set_cons_succ]
        refine tkG 4 19 hS ?_
        try simp only [Act.put, List.setIfInBounds_toArray, List.set_cons_zero, List.set_cons_succ]
        refine tkG 5 24 hS ?_
        try simp only [Act.put, List.setIfInBounds_toArray, List.set_cons_zero, List.set_cons_succ]
        refine tkG 6 25 hS ?_
        try simp only [Act.put, List.setIfInBounds_toArray, List.set_cons_zero, List.set_cons_succ]
        refine wpAnyH_ready (rs := [7]) (by kernel_rfl) (by simp) ?_
        refine AllReadyH.cons rfl (fun K hK => ?_) AllReadyH.nil
        go_simp
        refine hK.out _ _ trivial (fun hS => ?_)
        clear hK K hS y0 y1 u0 u1 D HIN
        refine wpAnyH_done (by kernel_rfl) ?_ _
        refine NoPanic.normal ?_
        go_wp2
        go_roundw
        case rel => exact ⟨k - 1, _, by omega, by rw [show ((k - 1 : Nat) : Int) = (k : Int) - 1 by omega], HIZ, P⟩
        case measure => simp [intOf]; omega
      · refine AllReadyH.cons rfl (fun K hK => ?_) AllReadyH.nil
        go_simp
        refine (l1DrawText_any w0 _ g D.dc).mono ?_
        rintro e V1 ⟨t, rfl, ht, dc1, hg1⟩
        replace D := D.grown dc1 hg1
        clear dc1 hg1 hS
        refine hK.out _ _ trivial (fun hS => ?_)
        clear hK K
        try simp only [List.setIfInBounds_toArray, List.set_cons_zero, List.set_cons_succ]
        refine wpAnyH_ready (rs := [0]) (by kernel_rfl) (by simp) ?_
        refine AllReadyH.cons rfl (fun K hK => ?_) AllReadyH.nil
        obtain ⟨y0, y1, u0, u1⟩ := D.zb.facts
        go_simp
        clear y0 y1 u0 u1 hS
        refine hK.out _ _ trivial (fun hS => ?_)
        clear hK K
        try simp only [List.setIfInBounds_toArray, List.set_cons_zero, List.set_cons_succ]
        refine wpAnyH_ready (rs := [3]) (by kernel_rfl) (by simp) ?_
        refine AllReadyH.cons rfl (fun K hK => ?_) AllReadyH.nil
        go_simp
        refine (spec_sw D.oY.rd t (by omega) HIN.out).mono ?_
        rintro e V2 ⟨Z, oo, hee, hiZ, hoZ, hb⟩
        obtain ⟨za, zc, v0⟩ := own_slice hoZ.secs
        obtain ⟨zla, zk, v1⟩ := own_slice hoZ.late
        obtain ⟨zvs, zvl, zss, zps⟩ := Z
        simp only at v0 v1
        obtain ⟨zn, hzn⟩ : ∃ zn, zn = zss.length := ⟨_, rfl⟩
        obtain ⟨zm, hzm⟩ : ∃ zm, zm = zps.length := ⟨_, rfl⟩
        rw [← hzn] at v0
        rw [← hzm] at v1
        subst v0
        subst v1
        clear hzn hzm
        replace hee : e = .returned (.tuple #[.agg #[.slice za zn zc, .slice zla zm zk], .bool oo]) := hee
        subst hee
        have HIZ : Hid (In9 ⟨.slice za zn zc, .slice zla zm zk, zss, zps⟩) := hiZ
        have P := D.put hb za zla zc zk zn zm zss zps hoZ
        obtain ⟨y0, y1, u0, u1⟩ := (D.below hb).zb.facts
        clear hoZ hb hiZ
        refine hK.out _ _ trivial (fun hS => ?_)
        clear hK K
        try simp only [List.setIfInBounds_toArray, List.set_cons_zero, List.set_cons_succ]
        refine tkG 4 19 hS ?_
        try simp only [Act.put, List.setIfInBounds_toArray, List.set_cons_zero, List.set_cons_succ]
        refine tkG 5 24 hS ?_
        try simp only [Act.put, List.setIfInBounds_toArray, List.set_cons_zero, List.set_cons_succ]
        refine tkG 6 25 hS ?_
        try simp only [Act.put, List.setIfInBounds_toArray, List.set_cons_zero, List.set_cons_succ]
        refine wpAnyH_ready (rs := [7]) (by kernel_rfl) (by simp) ?_
        refine AllReadyH.cons rfl (fun K hK => ?_) AllReadyH.nil
        go_simp
        refine hK.out _ _ trivial (fun hS => ?_)
        clear hK K hS y0 y1 u0 u1 D HIN
        refine wpAnyH_done (by kernel_rfl) ?_ _
        refine NoPanic.normal ?_
        go_wp2
        go_roundw
        case rel => exact ⟨k - 1, _, by omega, by rw [show ((k - 1 : Nat) : Int) = (k : Int) - 1 by omega], HIZ, P⟩
        case measure => simp [intOf]; omega
    · have hk1 : k = 0 := by omega
      subst hk1
      clear hk0
      go_wp2_with fail
      refine (l1Once_any w0 _ g 6 D.dc (by omega) (by omega)).mono ?_
      rintro e w5 ⟨bb, rfl, dc5, hg5⟩
      replace D := D.grown dc5 hg5
      clear dc5 hg5
      cases bb with
      | false =>
        obtain ⟨y0, y1, u0, u1⟩ := D.zb.facts
        obtain ⟨m0, m1, n0, n1⟩ := D.zr.facts
        have zz := (D.zr.set0 (u := .slice va sn vc)).set1 (u := .slice la ln lc)
        obtain ⟨k0, k1, -, -⟩ := zz.facts
        have HF : Hid (Dv9 w0 w g (.returned (.agg #[.slice va sn vc, .slice la ln lc])) ((w5.setCell ⟨w.heap.size, 0, none⟩ (.slice va sn vc)).setCell ⟨w.heap.size, 1, none⟩ (.slice la ln lc))) := D.fin HIN.out
        clear zz D HIN
        go_wp2
        exact bodyPost_ret (v := .agg #[.slice va sn vc, .slice la ln lc]) (by simp [results, Tryz.results51, go_sem, k0, k1]) rfl HF.out
      | true =>
        go_wp2_with fail
        refine wp_region_noPanic ?_
        refine wp_region_held_drew (S := fun _ => True) (by kernel_rfl) trivial (fun hS => ?_)
        replace D := D.below (Below.refl w5.heap.size w5).drew
        revert D
        generalize w5.drew = U0
        intro D
        refine tkG 1 30 hS ?_
        try simp only [Act.put, List.setIfInBounds_toArray, List.set_cons_zero, List.set_cons_succ]
        refine tkG 3 32 hS ?_
        try simp only [Act.put, List.setIfInBounds_toArray, List.set_cons_zero, List.set_cons_succ]
        refine tkG 8 37 hS ?_
        try simp only [Act.put, List.setIfInBounds_toArray, List.set_cons_zero, List.set_cons_succ]
        refine wpAnyH_ready (rs := [0, 2]) (by kernel_rfl) (by simp) ?_
        refine AllReadyH.cons rfl (fun K hK => ?_) ?_
        · skip
          obtain ⟨y0, y1, u0, u1⟩ := D.zb.facts
          go_simp
          clear y0 y1 u0 u1 hS
          refine hK.out _ _ trivial (fun hS => ?_)
          clear hK K
          try simp only [List.setIfInBounds_toArray, List.set_cons_zero, List.set_cons_succ]
          refine wpAnyH_ready (rs := [2]) (by kernel_rfl) (by simp) ?_
          refine AllReadyH.cons rfl (fun K hK => ?_) AllReadyH.nil
          go_simp
          refine (l1Below_any w0 _ g 2 D.dc (by omega) (by omega)).mono ?_
          rintro e U2 ⟨p2, rfl, lo2, up2, dc1, hg1⟩
          replace D := D.grown dc1 hg1
          clear dc1 hg1 hS
          refine hK.out _ _ trivial (fun hS => ?_)
          clear hK K
          try simp only [List.setIfInBounds_toArray, List.set_cons_zero, List.set_cons_succ]
          refine wpAnyH_ready (rs := [4]) (by kernel_rfl) (by simp) ?_
          refine AllReadyH.cons rfl (fun K hK => ?_) AllReadyH.nil
          go_simp
          refine (l1Below_any w0 _ g 9 D.dc (by omega) (by omega)).mono ?_
          rintro e U3 ⟨p4, rfl, lo4, up4, dc1, hg1⟩
          replace D := D.grown dc1 hg1
          clear dc1 hg1 hS
          have hw4 : IntKind.i64.wrap (1 + p4) = 1 + p4 := by rw [IntKind.wrap_i64]; omega
          refine hK.out _ _ trivial (fun hS => ?_)
          clear hK K
          try simp only [List.setIfInBounds_toArray, List.set_cons_zero, List.set_cons_succ]
          refine tkG 5 34 hS ?_
          try simp only [Act.put, List.setIfInBounds_toArray, List.set_cons_zero, List.set_cons_succ]
          refine wpAnyH_ready (rs := [6]) (by kernel_rfl) (by simp) ?_
          refine AllReadyH.cons rfl (fun K hK => ?_) AllReadyH.nil
          go_simp
          refine (specSlot_any (1 + p4) ⟨#[116]⟩ _ (by decide)).mono ?_
          generalize slotS (1 + p4) ⟨#[116]⟩ = N
          rintro e U4 ⟨rfl, hb1⟩
          replace D := D.below hb1
          clear hb1 hS
          refine hK.out _ _ trivial (fun hS => ?_)
          clear hK K
          try simp only [List.setIfInBounds_toArray, List.set_cons_zero, List.set_cons_succ]
          refine wpAnyH_ready (rs := [7, 9]) (by kernel_rfl) (by simp) ?_
          refine AllReadyH.cons rfl (fun K hK => ?_) ?_
          · skip
            have bl1 := below1 U4 (.cells #[.string ⟨#[106, 117, 110, 107]⟩, .string N, .string ⟨#[]⟩] 9)
            have hL := heap_alloc_new U4 (.cells #[.string ⟨#[106, 117, 110, 107]⟩, .string N, .string ⟨#[]⟩] 9)
            have hlb : w.heap.size ≤ U4.heap.size := D.gr.size
            replace D := D.below bl1
            go_simp
            clear bl1 hS
            refine hK.out _ _ trivial (fun hS => ?_)
            clear hK K
            try simp only [List.setIfInBounds_toArray, List.set_cons_zero, List.set_cons_succ]
            revert hL D
            generalize U4.alloc (.cells #[.string ⟨#[106, 117, 110, 107]⟩, .string N, .string ⟨#[]⟩] 9) = U5
            intro hL D
            refine wpAnyH_ready (rs := [9]) (by kernel_rfl) (by simp) ?_
            refine AllReadyH.cons rfl (fun K hK => ?_) AllReadyH.nil
            go_simp
            refine (l1Below_any w0 _ g 3 D.dc (by omega) (by omega)).mono ?_
            rintro e U6 ⟨p9, rfl, lo9, up9, dc1, hg1⟩
            replace hL := lit_kept hL hg1 (by have := HGL.out; omega)
            replace D := D.grown dc1 hg1
            clear dc1 hg1 hS
            obtain ⟨k9, rfl⟩ := Int.eq_ofNat_of_zero_le lo9
            have up9' : k9 < 3 := by omega
            refine hK.out _ _ trivial (fun hS => ?_)
            clear hK K
            try simp only [List.setIfInBounds_toArray, List.set_cons_zero, List.set_cons_succ]
            refine wpAnyH_ready (rs := [10]) (by kernel_rfl) (by simp) ?_
            refine AllReadyH.cons rfl (fun K hK => ?_) AllReadyH.nil
            have i9 : (k9 : Int) < 3 := up9
            go_simp
            clear hS i9
            refine hK.out _ _ trivial (fun hS => ?_)
            clear hK K
            try simp only [List.setIfInBounds_toArray, List.set_cons_zero, List.set_cons_succ]
            refine wpAnyH_ready (rs := [11]) (by kernel_rfl) (by simp) ?_
            refine AllReadyH.cons rfl (fun K hK => ?_) AllReadyH.nil
            obtain ⟨s9, hc9⟩ := three_at hL up9'
            go_simp
            clear hc9 hS
            refine hK.out _ _ trivial (fun hS => ?_)
            clear hK K
            try simp only [List.setIfInBounds_toArray, List.set_cons_zero, List.set_cons_succ]
            refine wpAnyH_ready (rs := [12]) (by kernel_rfl) (by simp) ?_
            refine AllReadyH.cons rfl (fun K hK => ?_) AllReadyH.nil
            go_simp
            refine (spec_lay9 D.oY.rd p2 s9 HIN.out).mono ?_
            rintro e V9 ⟨Z, oo, hee, hiZ, hoZ, hb⟩
            obtain ⟨za, zc, v0⟩ := own_slice hoZ.secs
            obtain ⟨zla, zk, v1⟩ := own_slice hoZ.late
            obtain ⟨zvs, zvl, zss, zps⟩ := Z
            simp only at v0 v1
            obtain ⟨zn, hzn⟩ : ∃ zn, zn = zss.length := ⟨_, rfl⟩
            obtain ⟨zm, hzm⟩ : ∃ zm, zm = zps.length := ⟨_, rfl⟩
            rw [← hzn] at v0
            rw [← hzm] at v1
            subst v0
            subst v1
            clear hzn hzm
            replace hee : e = .returned (.tuple #[.agg #[.slice za zn zc, .slice zla zm zk], .bool oo]) := hee
            subst hee
            have HIZ : Hid (In9 ⟨.slice za zn zc, .slice zla zm zk, zss, zps⟩) := hiZ
            have P := D.put hb za zla zc zk zn zm zss zps hoZ
            obtain ⟨y0, y1, u0, u1⟩ := (D.below hb).zb.facts
            clear hoZ hb hiZ
            refine hK.out _ _ trivial (fun hS => ?_)
            clear hK K
            try simp only [List.setIfInBounds_toArray, List.set_cons_zero, List.set_cons_succ]
            refine tkG 13 28 hS ?_
            try simp only [Act.put, List.setIfInBounds_toArray, List.set_cons_zero, List.set_cons_succ]
            refine tkG 14 42 hS ?_
            try simp only [Act.put, List.setIfInBounds_toArray, List.set_cons_zero, List.set_cons_succ]
            refine tkG 15 43 hS ?_
            try simp only [Act.put, List.setIfInBounds_toArray, List.set_cons_zero, List.set_cons_succ]
            refine wpAnyH_ready (rs := [16]) (by kernel_rfl) (by simp) ?_
            refine AllReadyH.cons rfl (fun K hK => ?_) AllReadyH.nil
            go_simp
            refine hK.out _ _ trivial (fun hS => ?_)
            clear hK K hS y0 y1 u0 u1 D HIN hL
            refine wpAnyH_done (by kernel_rfl) ?_ _
            refine NoPanic.normal ?_
            have HIN := HIZ
            have D := P
            clear HIZ P
            revert D
            generalize (V9.setCell ⟨b3, 0, none⟩ (.slice za zn zc)).setCell ⟨b3, 1, none⟩ (.slice zla zm zk) = Q
            intro D
            obtain ⟨y0, y1, u0, u1⟩ := D.zb.facts
            obtain ⟨m0, m1, n0, n1⟩ := D.zr.facts
            have zz := (D.zr.set0 (u := .slice za zn zc)).set1 (u := .slice zla zm zk)
            obtain ⟨k0, k1, -, -⟩ := zz.facts
            have HF : Hid (Dv9 w0 w g (.returned (.agg #[.slice za zn zc, .slice zla zm zk])) ((Q.setCell ⟨w.heap.size, 0, none⟩ (.slice za zn zc)).setCell ⟨w.heap.size, 1, none⟩ (.slice zla zm zk))) := D.fin HIN.out
            clear zz D HIN
            go_wp2
            exact bodyPost_ret (v := .agg #[.slice za zn zc, .slice zla zm zk]) (by simp [results, Tryz.results51, go_sem, k0, k1]) rfl HF.out
          refine AllReadyH.cons rfl (fun K hK => ?_) AllReadyH.nil
          go_simp
          refine (l1Below_any w0 _ g 3 D.dc (by omega) (by omega)).mono ?_
          rintro e U10 ⟨p9, rfl, lo9, up9, dc1, hg1⟩
          replace D := D.grown dc1 hg1
          clear dc1 hg1 hS
          obtain ⟨k9, rfl⟩ := Int.eq_ofNat_of_zero_le lo9
          have up9' : k9 < 3 := by omega
          refine hK.out _ _ trivial (fun hS => ?_)
          clear hK K
          try simp only [List.setIfInBounds_toArray, List.set_cons_zero, List.set_cons_succ]
          refine wpAnyH_ready (rs := [7]) (by kernel_rfl) (by simp) ?_
          refine AllReadyH.cons rfl (fun K hK => ?_) AllReadyH.nil
          have bl1 := below1 U10 (.cells #[.string ⟨#[106, 117, 110, 107]⟩, .string N, .string ⟨#[]⟩] 9)
          have hL := heap_alloc_new U10 (.cells #[.string ⟨#[106, 117, 110, 107]⟩, .string N, .string ⟨#[]⟩] 9)
          have hlb : w.heap.size ≤ U10.heap.size := D.gr.size
          replace D := D.below bl1
          go_simp
          clear bl1 hS
          refine hK.out _ _ trivial (fun hS => ?_)
          clear hK K
          try simp only [List.setIfInBounds_toArray, List.set_cons_zero, List.set_cons_succ]
          revert hL D
          generalize U10.alloc (.cells #[.string ⟨#[106, 117, 110, 107]⟩, .string N, .string ⟨#[]⟩] 9) = U11
          intro hL D
          refine wpAnyH_ready (rs := [10]) (by kernel_rfl) (by simp) ?_
          refine AllReadyH.cons rfl (fun K hK => ?_) AllReadyH.nil
          have i9 : (k9 : Int) < 3 := up9
          go_simp
          clear hS i9
          refine hK.out _ _ trivial (fun hS => ?_)
          clear hK K
          try simp only [List.setIfInBounds_toArray, List.set_cons_zero, List.set_cons_succ]
          refine wpAnyH_ready (rs := [11]) (by kernel_rfl) (by simp) ?_
          refine AllReadyH.cons rfl (fun K hK => ?_) AllReadyH.nil
          obtain ⟨s9, hc9⟩ := three_at hL up9'
          go_simp
          clear hc9 hS
          refine hK.out _ _ trivial (fun hS => ?_)
          clear hK K
          try simp only [List.setIfInBounds_toArray, List.set_cons_zero, List.set_cons_succ]
          refine wpAnyH_ready (rs := [12]) (by kernel_rfl) (by simp) ?_
          refine AllReadyH.cons rfl (fun K hK => ?_) AllReadyH.nil
          go_simp
          refine (spec_lay9 D.oY.rd p2 s9 HIN.out).mono ?_
          rintro e V9 ⟨Z, oo, hee, hiZ, hoZ, hb⟩
          obtain ⟨za, zc, v0⟩ := own_slice hoZ.secs
          obtain ⟨zla, zk, v1⟩ := own_slice hoZ.late
          obtain ⟨zvs, zvl, zss, zps⟩ := Z
          simp only at v0 v1
          obtain ⟨zn, hzn⟩ : ∃ zn, zn = zss.length := ⟨_, rfl⟩
          obtain ⟨zm, hzm⟩ : ∃ zm, zm = zps.length := ⟨_, rfl⟩
          rw [← hzn] at v0
          rw [← hzm] at v1
          subst v0
          subst v1
          clear hzn hzm
          replace hee : e = .returned (.tuple #[.agg #[.slice za zn zc, .slice zla zm zk], .bool oo]) := hee
          subst hee
          have HIZ : Hid (In9 ⟨.slice za zn zc, .slice zla zm zk, zss, zps⟩) := hiZ
          have P := D.put hb za zla zc zk zn zm zss zps hoZ
          obtain ⟨y0, y1, u0, u1⟩ := (D.below hb).zb.facts
          clear hoZ hb hiZ
          refine hK.out _ _ trivial (fun hS => ?_)
          clear hK K
          try simp only [List.setIfInBounds_toArray, List.set_cons_zero, List.set_cons_succ]
          refine tkG 13 28 hS ?_
          try simp only [Act.put, List.setIfInBounds_toArray, List.set_cons_zero, List.set_cons_succ]
          refine tkG 14 42 hS ?_
          try simp only [Act.put, List.setIfInBounds_toArray, List.set_cons_zero, List.set_cons_succ]
          refine tkG 15 43 hS ?_
          try simp only [Act.put, List.setIfInBounds_toArray, List.set_cons_zero, List.set_cons_succ]
          refine wpAnyH_ready (rs := [16]) (by kernel_rfl) (by simp) ?_
          refine AllReadyH.cons rfl (fun K hK => ?_) AllReadyH.nil
          go_simp
          refine hK.out _ _ trivial (fun hS => ?_)
          clear hK K hS y0 y1 u0 u1 D HIN hL
          refine wpAnyH_done (by kernel_rfl) ?_ _
          refine NoPanic.normal ?_
          have HIN := HIZ
          have D := P
          clear HIZ P
          revert D
          generalize (V9.setCell ⟨b3, 0, none⟩ (.slice za zn zc)).setCell ⟨b3, 1, none⟩ (.slice zla zm zk) = Q
          intro D
          obtain ⟨y0, y1, u0, u1⟩ := D.zb.facts
          obtain ⟨m0, m1, n0, n1⟩ := D.zr.facts
          have zz := (D.zr.set0 (u := .slice za zn zc)).set1 (u := .slice zla zm zk)
          obtain ⟨k0, k1, -, -⟩ := zz.facts
          have HF : Hid (Dv9 w0 w g (.returned (.agg #[.slice za zn zc, .slice zla zm zk])) ((Q.setCell ⟨w.heap.size, 0, none⟩ (.slice za zn zc)).setCell ⟨w.heap.size, 1, none⟩ (.slice zla zm zk))) := D.fin HIN.out
          clear zz D HIN
          go_wp2
          exact bodyPost_ret (v := .agg #[.slice za zn zc, .slice zla zm zk]) (by simp [results, Tryz.results51, go_sem, k0, k1]) rfl HF.out
        refine AllReadyH.cons rfl (fun K hK => ?_) AllReadyH.nil
        go_simp
        refine (l1Below_any w0 _ g 2 D.dc (by omega) (by omega)).mono ?_
        rintro e U15 ⟨p2, rfl, lo2, up2, dc1, hg1⟩
        replace D := D.grown dc1 hg1
        clear dc1 hg1 hS
        refine hK.out _ _ trivial (fun hS => ?_)
        clear hK K
        try simp only [List.setIfInBounds_toArray, List.set_cons_zero, List.set_cons_succ]
        refine wpAnyH_ready (rs := [0, 4]) (by kernel_rfl) (by simp) ?_
        refine AllReadyH.cons rfl (fun K hK => ?_) ?_
        · skip
          obtain ⟨y0, y1, u0, u1⟩ := D.zb.facts
          go_simp
          clear y0 y1 u0 u1 hS
          refine hK.out _ _ trivial (fun hS => ?_)
          clear hK K
          try simp only [List.setIfInBounds_toArray, List.set_cons_zero, List.set_cons_succ]
          refine wpAnyH_ready (rs := [4]) (by kernel_rfl) (by simp) ?_
          refine AllReadyH.cons rfl (fun K hK => ?_) AllReadyH.nil
          go_simp
          refine (l1Below_any w0 _ g 9 D.dc (by omega) (by omega)).mono ?_
          rintro e U17 ⟨p4, rfl, lo4, up4, dc1, hg1⟩
          replace D := D.grown dc1 hg1
          clear dc1 hg1 hS
          have hw4 : IntKind.i64.wrap (1 + p4) = 1 + p4 := by rw [IntKind.wrap_i64]; omega
          refine hK.out _ _ trivial (fun hS => ?_)
          clear hK K
          try simp only [List.setIfInBounds_toArray, List.set_cons_zero, List.set_cons_succ]
          refine tkG 5 34 hS ?_
          try simp only [Act.put, List.setIfInBounds_toArray, List.set_cons_zero, List.set_cons_succ]
          refine wpAnyH_ready (rs := [6]) (by kernel_rfl) (by simp) ?_
          refine AllReadyH.cons rfl (fun K hK => ?_) AllReadyH.nil
          go_simp
          refine (specSlot_any (1 + p4) ⟨#[116]⟩ _ (by decide)).mono ?_
          generalize slotS (1 + p4) ⟨#[116]⟩ = N
          rintro e U18 ⟨rfl, hb1⟩
          replace D := D.below hb1
          clear hb1 hS
          refine hK.out _ _ trivial (fun hS => ?_)
          clear hK K
          try simp only [List.setIfInBounds_toArray, List.set_cons_zero, List.set_cons_succ]
          refine wpAnyH_ready (rs := [7, 9]) (by kernel_rfl) (by simp) ?_
          refine AllReadyH.cons rfl (fun K hK => ?_) ?_
          · skip
            have bl1 := below1 U18 (.cells #[.string ⟨#[106, 117, 110, 107]⟩, .string N, .string ⟨#[]⟩] 9)
            have hL := heap_alloc_new U18 (.cells #[.string ⟨#[106, 117, 110, 107]⟩, .string N, .string ⟨#[]⟩] 9)
            have hlb : w.heap.size ≤ U18.heap.size := D.gr.size
            replace D := D.below bl1
            go_simp
            clear bl1 hS
            refine hK.out _ _ trivial (fun hS => ?_)
            clear hK K
            try simp only [List.setIfInBounds_toArray, List.set_cons_zero, List.set_cons_succ]
            revert hL D
            generalize U18.alloc (.cells #[.string ⟨#[106, 117, 110, 107]⟩, .string N, .string ⟨#[]⟩] 9) = U19
            intro hL D
            refine wpAnyH_ready (rs := [9]) (by kernel_rfl) (by simp) ?_
            refine AllReadyH.cons rfl (fun K hK => ?_) AllReadyH.nil
            go_simp
            refine (l1Below_any w0 _ g 3 D.dc (by omega) (by omega)).mono ?_
            rintro e U20 ⟨p9, rfl, lo9, up9, dc1, hg1⟩
            replace hL := lit_kept hL hg1 (by have := HGL.out; omega)
            replace D := D.grown dc1 hg1
            clear dc1 hg1 hS
            obtain ⟨k9, rfl⟩ := Int.eq_ofNat_of_zero_le lo9
            have up9' : k9 < 3 := by omega
            refine hK.out _ _ trivial (fun hS => ?_)
            clear hK K
            try simp only [List.setIfInBounds_toArray, List.set_cons_zero, List.set_cons_succ]
            refine wpAnyH_ready (rs := [10]) (by kernel_rfl) (by simp) ?_
            refine AllReadyH.cons rfl (fun K hK => ?_) AllReadyH.nil
            have i9 : (k9 : Int) < 3 := up9
            go_simp
            clear hS i9
            refine hK.out _ _ trivial (fun hS => ?_)
            clear hK K
            try simp only [List.setIfInBounds_toArray, List.set_cons_zero, List.set_cons_succ]
            refine wpAnyH_ready (rs := [11]) (by kernel_rfl) (by simp) ?_
            refine AllReadyH.cons rfl (fun K hK => ?_) AllReadyH.nil
            obtain ⟨s9, hc9⟩ := three_at hL up9'
            go_simp
            clear hc9 hS
            refine hK.out _ _ trivial (fun hS => ?_)
            clear hK K
            try simp only [List.setIfInBounds_toArray, List.set_cons_zero, List.set_cons_succ]
            refine wpAnyH_ready (rs := [12]) (by kernel_rfl) (by simp) ?_
            refine AllReadyH.cons rfl (fun K hK => ?_) AllReadyH.nil
            go_simp
            refine (spec_lay9 D.oY.rd p2 s9 HIN.out).mono ?_
            rintro e V9 ⟨Z, oo, hee, hiZ, hoZ, hb⟩
            obtain ⟨za, zc, v0⟩ := own_slice hoZ.secs
            obtain ⟨zla, zk, v1⟩ := own_slice hoZ.late
            obtain ⟨zvs, zvl, zss, zps⟩ := Z
            simp only at v0 v1
            obtain ⟨zn, hzn⟩ : ∃ zn, zn = zss.length := ⟨_, rfl⟩
            obtain ⟨zm, hzm⟩ : ∃ zm, zm = zps.length := ⟨_, rfl⟩
            rw [← hzn] at v0
            rw [← hzm] at v1
            subst v0
            subst v1
            clear hzn hzm
            replace hee : e = .returned (.tuple #[.agg #[.slice za zn zc, .slice zla zm zk], .bool oo]) := hee
            subst hee
            have HIZ : Hid (In9 ⟨.slice za zn zc, .slice zla zm zk, zss, zps⟩) := hiZ
            have P := D.put hb za zla zc zk zn zm zss zps hoZ
            obtain ⟨y0, y1, u0, u1⟩ := (D.below hb).zb.facts
            clear hoZ hb hiZ
            refine hK.out _ _ trivial (fun hS => ?_)
            clear hK K
            try simp only [List.setIfInBounds_toArray, List.set_cons_zero, List.set_cons_succ]
            refine tkG 13 28 hS ?_
            try simp only [Act.put, List.setIfInBounds_toArray, List.set_cons_zero, List.set_cons_succ]
            refine tkG 14 42 hS ?_
            try simp only [Act.put, List.setIfInBounds_toArray, List.set_cons_zero, List.set_cons_succ]
            refine tkG 15 43 hS ?_
            try simp only [Act.put, List.setIfInBounds_toArray, List.set_cons_zero, List.set_cons_succ]
            refine wpAnyH_ready (rs := [16]) (by kernel_rfl) (by simp) ?_
            refine AllReadyH.cons rfl (fun K hK => ?_) AllReadyH.nil
            go_simp
            refine hK.out _ _ trivial (fun hS => ?_)
            clear hK K hS y0 y1 u0 u1 D HIN hL
            refine wpAnyH_done (by kernel_rfl) ?_ _
            refine NoPanic.normal ?_
            have HIN := HIZ
            have D := P
            clear HIZ P
            revert D
            generalize (V9.setCell ⟨b3, 0, none⟩ (.slice za zn zc)).setCell ⟨b3, 1, none⟩ (.slice zla zm zk) = Q
            intro D
            obtain ⟨y0, y1, u0, u1⟩ := D.zb.facts
            obtain ⟨m0, m1, n0, n1⟩ := D.zr.facts
            have zz := (D.zr.set0 (u := .slice za zn zc)).set1 (u := .slice zla zm zk)
            obtain ⟨k0, k1, -, -⟩ := zz.facts
            have HF : Hid (Dv9 w0 w g (.returned (.agg #[.slice za zn zc, .slice zla zm zk])) ((Q.setCell ⟨w.heap.size, 0, none⟩ (.slice za zn zc)).setCell ⟨w.heap.size, 1, none⟩ (.slice zla zm zk))) := D.fin HIN.out
            clear zz D HIN
            go_wp2
            exact bodyPost_ret (v := .agg #[.slice za zn zc, .slice zla zm zk]) (by simp [results, Tryz.results51, go_sem, k0, k1]) rfl HF.out
          refine AllReadyH.cons rfl (fun K hK => ?_) AllReadyH.nil
          go_simp
          refine (l1Below_any w0 _ g 3 D.dc (by omega) (by omega)).mono ?_
          rintro e U24 ⟨p9, rfl, lo9, up9, dc1, hg1⟩
          replace D := D.grown dc1 hg1
          clear dc1 hg1 hS
          obtain ⟨k9, rfl⟩ := Int.eq_ofNat_of_zero_le lo9
          have up9' : k9 < 3 := by omega
          refine hK.out _ _ trivial (fun hS => ?_)
          clear hK K
          try simp only [List.setIfInBounds_toArray, List.set_cons_zero, List.set_cons_succ]
          refine wpAnyH_ready (rs := [7]) (by kernel_rfl) (by simp) ?_
          refine AllReadyH.cons rfl (fun K hK => ?_) AllReadyH.nil
          have bl1 := below1 U24 (.cells #[.string ⟨#[106, 117, 110, 107]⟩, .string N, .string ⟨#[]⟩] 9)
          have hL := heap_alloc_new U24 (.cells #[.string ⟨#[106, 117, 110, 107]⟩, .string N, .string ⟨#[]⟩] 9)
          have hlb : w.heap.size ≤ U24.heap.size := D.gr.size
          replace D := D.below bl1
          go_simp
          clear bl1 hS
          refine hK.out _ _ trivial (fun hS => ?_)
          clear hK K
          try simp only [List.setIfInBounds_toArray, List.set_cons_zero, List.set_cons_succ]
          revert hL D
          generalize U24.alloc (.cells #[.string ⟨#[106, 117, 110, 107]⟩, .string N, .string ⟨#[]⟩] 9) = U25
          intro hL D
          refine wpAnyH_ready (rs := [10]) (by kernel_rfl) (by simp) ?_
          refine AllReadyH.cons rfl (fun K hK => ?_) AllReadyH.nil
          have i9 : (k9 : Int) < 3 := up9
          go_simp
          clear hS i9
          refine hK.out _ _ trivial (fun hS => ?_)
          clear hK K
          try simp only [List.setIfInBounds_toArray, List.set_cons_zero, List.set_cons_succ]
          refine wpAnyH_ready (rs := [11]) (by kernel_rfl) (by simp) ?_
          refine AllReadyH.cons rfl (fun K hK => ?_) AllReadyH.nil
          obtain ⟨s9, hc9⟩ := three_at hL up9'
          go_simp
          clear hc9 hS
          refine hK.out _ _ trivial (fun hS => ?_)
          clear hK K
          try simp only [List.setIfInBounds_toArray, List.set_cons_zero, List.set_cons_succ]
          refine wpAnyH_ready (rs := [12]) (by kernel_rfl) (by simp) ?_
          refine AllReadyH.cons rfl (fun K hK => ?_) AllReadyH.nil
          go_simp
          refine (spec_lay9 D.oY.rd p2 s9 HIN.out).mono ?_
          rintro e V9 ⟨Z, oo, hee, hiZ, hoZ, hb⟩
          obtain ⟨za, zc, v0⟩ := own_slice hoZ.secs
          obtain ⟨zla, zk, v1⟩ := own_slice hoZ.late
          obtain ⟨zvs, zvl, zss, zps⟩ := Z
          simp only at v0 v1
          obtain ⟨zn, hzn⟩ : ∃ zn, zn = zss.length := ⟨_, rfl⟩
          obtain ⟨zm, hzm⟩ : ∃ zm, zm = zps.length := ⟨_, rfl⟩
          rw [← hzn] at v0
          rw [← hzm] at v1
          subst v0
          subst v1
          clear hzn hzm
          replace hee : e = .returned (.tuple #[.agg #[.slice za zn zc, .slice zla zm zk], .bool oo]) := hee
          subst hee
          have HIZ : Hid (In9 ⟨.slice za zn zc, .slice zla zm zk, zss, zps⟩) := hiZ
          have P := D.put hb za zla zc zk zn zm zss zps hoZ
          obtain ⟨y0, y1, u0, u1⟩ := (D.below hb).zb.facts
          clear hoZ hb hiZ
          refine hK.out _ _ trivial (fun hS => ?_)
          clear hK K
          try simp only [List.setIfInBounds_toArray, List.set_cons_zero, List.set_cons_succ]
          refine tkG 13 28 hS ?_
          try simp only [Act.put, List.setIfInBounds_toArray, List.set_cons_zero, List.set_cons_succ]
          refine tkG 14 42 hS ?_
          try simp only [Act.put, List.setIfInBounds_toArray, List.set_cons_zero, List.set_cons_succ]
          refine tkG 15 43 hS ?_
          try simp only [Act.put, List.setIfInBounds_toArray, List.set_cons_zero, List.set_cons_succ]
          refine wpAnyH_ready (rs := [16]) (by kernel_rfl) (by simp) ?_
          refine AllReadyH.cons rfl (fun K hK => ?_) AllReadyH.nil
          go_simp
          refine hK.out _ _ trivial (fun hS => ?_)
          clear hK K hS y0 y1 u0 u1 D HIN hL
          refine wpAnyH_done (by kernel_rfl) ?_ _
          refine NoPanic.normal ?_
          have HIN := HIZ
          have D := P
          clear HIZ P
          revert D
          generalize (V9.setCell ⟨b3, 0, none⟩ (.slice za zn zc)).setCell ⟨b3, 1, none⟩ (.slice zla zm zk) = Q
          intro D
          obtain ⟨y0, y1, u0, u1⟩ := D.zb.facts
          obtain ⟨m0, m1, n0, n1⟩ := D.zr.facts
          have zz := (D.zr.set0 (u := .slice za zn zc)).set1 (u := .slice zla zm zk)
          obtain ⟨k0, k1, -, -⟩ := zz.facts
          have HF : Hid (Dv9 w0 w g (.returned (.agg #[.slice za zn zc, .slice zla zm zk])) ((Q.setCell ⟨w.heap.size, 0, none⟩ (.slice za zn zc)).setCell ⟨w.heap.size, 1, none⟩ (.slice zla zm zk))) := D.fin HIN.out
          clear zz D HIN
          go_wp2
          exact bodyPost_ret (v := .agg #[.slice za zn zc, .slice zla zm zk]) (by simp [results, Tryz.results51, go_sem, k0, k1]) rfl HF.out
        refine AllReadyH.cons rfl (fun K hK => ?_) AllReadyH.nil
        go_simp
        refine (l1Below_any w0 _ g 9 D.dc (by omega) (by omega)).mono ?_
        rintro e U29 ⟨p4, rfl, lo4, up4, dc1, hg1⟩
        replace D := D.grown dc1 hg1
        clear dc1 hg1 hS
        have hw4 : IntKind.i64.wrap (1 + p4) = 1 + p4 := by rw [IntKind.wrap_i64]; omega
        refine hK.out _ _ trivial (fun hS => ?_)
        clear hK K
        try simp only [List.setIfInBounds_toArray, List.set_cons_zero, List.set_cons_succ]
        refine tkG 5 34 hS ?_
        try simp only [Act.put, List.setIfInBounds_toArray, List.set_cons_zero, List.set_cons_succ]
        refine wpAnyH_ready (rs := [0, 6]) (by kernel_rfl) (by simp) ?_
        refine AllReadyH.cons rfl (fun K hK => ?_) ?_
        · skip
          obtain ⟨y0, y1, u0, u1⟩ := D.zb.facts
          go_simp
          clear y0 y1 u0 u1 hS
          refine hK.out _ _ trivial (fun hS => ?_)
          clear hK K
          try simp only [List.setIfInBounds_toArray, List.set_cons_zero, List.set_cons_succ]
          refine wpAnyH_ready (rs := [6]) (by kernel_rfl) (by simp) ?_
          refine AllReadyH.cons rfl (fun K hK => ?_) AllReadyH.nil
          go_simp
          refine (specSlot_any (1 + p4) ⟨#[116]⟩ _ (by decide)).mono ?_
          generalize slotS (1 + p4) ⟨#[116]⟩ = N
          rintro e U31 ⟨rfl, hb1⟩
          replace D := D.below hb1
          clear hb1 hS
          refine hK.out _ _ trivial (fun hS => ?_)
          clear hK K
          try simp only [List.setIfInBounds_toArray, List.set_cons_zero, List.set_cons_succ]
          refine wpAnyH_ready (rs := [7, 9]) (by kernel_rfl) (by simp) ?_
          refine AllReadyH.cons rfl (fun K hK => ?_) ?_
          · skip
            have bl1 := below1 U31 (.cells #[.string ⟨#[106, 117, 110, 107]⟩, .string N, .string ⟨#[]⟩] 9)
            have hL := heap_alloc_new U31 (.cells #[.string ⟨#[106, 117, 110, 107]⟩, .string N, .string ⟨#[]⟩] 9)
            have hlb : w.heap.size ≤ U31.heap.size := D.gr.size
            replace D := D.below bl1
            go_simp
            clear bl1 hS
            refine hK.out _ _ trivial (fun hS => ?_)
            clear hK K
            try simp only [List.setIfInBounds_toArray, List.set_cons_zero, List.set_cons_succ]
            revert hL D
            generalize U31.alloc (.cells #[.string ⟨#[106, 117, 110, 107]⟩, .string N, .string ⟨#[]⟩] 9) = U32
            intro hL D
            refine wpAnyH_ready (rs := [9]) (by kernel_rfl) (by simp) ?_
            refine AllReadyH.cons rfl (fun K hK => ?_) AllReadyH.nil
            go_simp
            refine (l1Below_any w0 _ g 3 D.dc (by omega) (by omega)).mono ?_
            rintro e U33 ⟨p9, rfl, lo9, up9, dc1, hg1⟩
            replace hL := lit_kept hL hg1 (by have := HGL.out; omega)
            replace D := D.grown dc1 hg1
            clear dc1 hg1 hS
            obtain ⟨k9, rfl⟩ := Int.eq_ofNat_of_zero_le lo9
            have up9' : k9 < 3 := by omega
            refine hK.out _ _ trivial (fun hS => ?_)
            clear hK K
            try simp only [List.setIfInBounds_toArray, List.set_cons_zero, List.set_cons_succ]
            refine wpAnyH_ready (rs := [10]) (by kernel_rfl) (by simp) ?_
            refine AllReadyH.cons rfl (fun K hK => ?_) AllReadyH.nil
            have i9 : (k9 : Int) < 3 := up9
            go_simp
            clear hS i9
            refine hK.out _ _ trivial (fun hS => ?_)
            clear hK K
            try simp only [List.setIfInBounds_toArray, List.set_cons_zero, List.set_cons_succ]
            refine wpAnyH_ready (rs := [11]) (by kernel_rfl) (by simp) ?_
            refine AllReadyH.cons rfl (fun K hK => ?_) AllReadyH.nil
            obtain ⟨s9, hc9⟩ := three_at hL up9'
            go_simp
            clear hc9 hS
            refine hK.out _ _ trivial (fun hS => ?_)
            clear hK K
            try simp only [List.setIfInBounds_toArray, List.set_cons_zero, List.set_cons_succ]
            refine wpAnyH_ready (rs := [12]) (by kernel_rfl) (by simp) ?_
            refine AllReadyH.cons rfl (fun K hK => ?_) AllReadyH.nil
            go_simp
            refine (spec_lay9 D.oY.rd p2 s9 HIN.out).mono ?_
            rintro e V9 ⟨Z, oo, hee, hiZ, hoZ, hb⟩
            obtain ⟨za, zc, v0⟩ := own_slice hoZ.secs
            obtain ⟨zla, zk, v1⟩ := own_slice hoZ.late
            obtain ⟨zvs, zvl, zss, zps⟩ := Z
            simp only at v0 v1
            obtain ⟨zn, hzn⟩ : ∃ zn, zn = zss.length := ⟨_, rfl⟩
            obtain ⟨zm, hzm⟩ : ∃ zm, zm = zps.length := ⟨_, rfl⟩
            rw [← hzn] at v0
            rw [← hzm] at v1
            subst v0
            subst v1
            clear hzn hzm
            replace hee : e = .returned (.tuple #[.agg #[.slice za zn zc, .slice zla zm zk], .bool oo]) := hee
            subst hee
            have HIZ : Hid (In9 ⟨.slice za zn zc, .slice zla zm zk, zss, zps⟩) := hiZ
            have P := D.put hb za zla zc zk zn zm zss zps hoZ
            obtain ⟨y0, y1, u0, u1⟩ := (D.below hb).zb.facts
            clear hoZ hb hiZ
            refine hK.out _ _ trivial (fun hS => ?_)
            clear hK K
            try simp only [List.setIfInBounds_toArray, List.set_cons_zero, List.set_cons_succ]
            refine tkG 13 28 hS ?_
            try simp only [Act.put, List.setIfInBounds_toArray, List.set_cons_zero, List.set_cons_succ]
            refine tkG 14 42 hS ?_
            try simp only [Act.put, List.setIfInBounds_toArray, List.set_cons_zero, List.set_cons_succ]
            refine tkG 15 43 hS ?_
            try simp only [Act.put, List.setIfInBounds_toArray, List.set_cons_zero, List.set_cons_succ]
            refine wpAnyH_ready (rs := [16]) (by kernel_rfl) (by simp) ?_
            refine AllReadyH.cons rfl (fun K hK => ?_) AllReadyH.nil
            go_simp
            refine hK.out _ _ trivial (fun hS => ?_)
            clear hK K hS y0 y1 u0 u1 D HIN hL
            refine wpAnyH_done (by kernel_rfl) ?_ _
            refine NoPanic.normal ?_
            have HIN := HIZ
            have D := P
            clear HIZ P
            revert D
            generalize (V9.setCell ⟨b3, 0, none⟩ (.slice za zn zc)).setCell ⟨b3, 1, none⟩ (.slice zla zm zk) = Q
            intro D
            obtain ⟨y0, y1, u0, u1⟩ := D.zb.facts
            obtain ⟨m0, m1, n0, n1⟩ := D.zr.facts
            have zz := (D.zr.set0 (u := .slice za zn zc)).set1 (u := .slice zla zm zk)
            obtain ⟨k0, k1, -, -⟩ := zz.facts
            have HF : Hid (Dv9 w0 w g (.returned (.agg #[.slice za zn zc, .slice zla zm zk])) ((Q.setCell ⟨w.heap.size, 0, none⟩ (.slice za zn zc)).setCell ⟨w.heap.size, 1, none⟩ (.slice zla zm zk))) := D.fin HIN.out
            clear zz D HIN
            go_wp2
            exact bodyPost_ret (v := .agg #[.slice za zn zc, .slice zla zm zk]) (by simp [results, Tryz.results51, go_sem, k0, k1]) rfl HF.out
          refine AllReadyH.cons rfl (fun K hK => ?_) AllReadyH.nil
          go_simp
          refine (l1Below_any w0 _ g 3 D.dc (by omega) (by omega)).mono ?_
          rintro e U37 ⟨p9, rfl, lo9, up9, dc1, hg1⟩
          replace D := D.grown dc1 hg1
          clear dc1 hg1 hS
          obtain ⟨k9, rfl⟩ := Int.eq_ofNat_of_zero_le lo9
          have up9' : k9 < 3 := by omega
          refine hK.out _ _ trivial (fun hS => ?_)
          clear hK K
          try simp only [List.setIfInBounds_toArray, List.set_cons_zero, List.set_cons_succ]
          refine wpAnyH_ready (rs := [7]) (by kernel_rfl) (by simp) ?_
          refine AllReadyH.cons rfl (fun K hK => ?_) AllReadyH.nil
          have bl1 := below1 U37 (.cells #[.string ⟨#[106, 117, 110, 107]⟩, .string N, .string ⟨#[]⟩] 9)
          have hL := heap_alloc_new U37 (.cells #[.string ⟨#[106, 117, 110, 107]⟩, .string N, .string ⟨#[]⟩] 9)
          have hlb : w.heap.size ≤ U37.heap.size := D.gr.size
          replace D := D.below bl1
          go_simp
          clear bl1 hS
          refine hK.out _ _ trivial (fun hS => ?_)
          clear hK K
          try simp only [List.setIfInBounds_toArray, List.set_cons_zero, List.set_cons_succ]
          revert hL D
          generalize U37.alloc (.cells #[.string ⟨#[106, 117, 110, 107]⟩, .string N, .string ⟨#[]⟩] 9) = U38
          intro hL D
          refine wpAnyH_ready (rs := [10]) (by kernel_rfl) (by simp) ?_
          refine AllReadyH.cons rfl (fun K hK => ?_) AllReadyH.nil
          have i9 : (k9 : Int) < 3 := up9
          go_simp
          clear hS i9
          refine hK.out _ _ trivial (fun hS => ?_)
          clear hK K
          try simp only [List.setIfInBounds_toArray, List.set_cons_zero, List.set_cons_succ]
          refine wpAnyH_ready (rs := [11]) (by kernel_rfl) (by simp) ?_
          refine AllReadyH.cons rfl (fun K hK => ?_) AllReadyH.nil
          obtain ⟨s9, hc9⟩ := three_at hL up9'
          go_simp
          clear hc9 hS
          refine hK.out _ _ trivial (fun hS => ?_)
          clear hK K
          try simp only [List.setIfInBounds_toArray, List.set_cons_zero, List.set_cons_succ]
          refine wpAnyH_ready (rs := [12]) (by kernel_rfl) (by simp) ?_
          refine AllReadyH.cons rfl (fun K hK => ?_) AllReadyH.nil
          go_simp
          refine (spec_lay9 D.oY.rd p2 s9 HIN.out).mono ?_
          rintro e V9 ⟨Z, oo, hee, hiZ, hoZ, hb⟩
          obtain ⟨za, zc, v0⟩ := own_slice hoZ.secs
          obtain ⟨zla, zk, v1⟩ := own_slice hoZ.late
          obtain ⟨zvs, zvl, zss, zps⟩ := Z
          simp only at v0 v1
          obtain ⟨zn, hzn⟩ : ∃ zn, zn = zss.length := ⟨_, rfl⟩
          obtain ⟨zm, hzm⟩ : ∃ zm, zm = zps.length := ⟨_, rfl⟩
          rw [← hzn] at v0
          rw [← hzm] at v1
          subst v0
          subst v1
          clear hzn hzm
          replace hee : e = .returned (.tuple #[.agg #[.slice za zn zc, .slice zla zm zk], .bool oo]) := hee
          subst hee
          have HIZ : Hid (In9 ⟨.slice za zn zc, .slice zla zm zk, zss, zps⟩) := hiZ
          have P := D.put hb za zla zc zk zn zm zss zps hoZ
          obtain ⟨y0, y1, u0, u1⟩ := (D.below hb).zb.facts
          clear hoZ hb hiZ
          refine hK.out _ _ trivial (fun hS => ?_)
          clear hK K
          try simp only [List.setIfInBounds_toArray, List.set_cons_zero, List.set_cons_succ]
          refine tkG 13 28 hS ?_
          try simp only [Act.put, List.setIfInBounds_toArray, List.set_cons_zero, List.set_cons_succ]
          refine tkG 14 42 hS ?_
          try simp only [Act.put, List.setIfInBounds_toArray, List.set_cons_zero, List.set_cons_succ]
          refine tkG 15 43 hS ?_
          try simp only [Act.put, List.setIfInBounds_toArray, List.set_cons_zero, List.set_cons_succ]
          refine wpAnyH_ready (rs := [16]) (by kernel_rfl) (by simp) ?_
          refine AllReadyH.cons rfl (fun K hK => ?_) AllReadyH.nil
          go_simp
          refine hK.out _ _ trivial (fun hS => ?_)
          clear hK K hS y0 y1 u0 u1 D HIN hL
          refine wpAnyH_done (by kernel_rfl) ?_ _
          refine NoPanic.normal ?_
          have HIN := HIZ
          have D := P
          clear HIZ P
          revert D
          generalize (V9.setCell ⟨b3, 0, none⟩ (.slice za zn zc)).setCell ⟨b3, 1, none⟩ (.slice zla zm zk) = Q
          intro D
          obtain ⟨y0, y1, u0, u1⟩ := D.zb.facts
          obtain ⟨m0, m1, n0, n1⟩ := D.zr.facts
          have zz := (D.zr.set0 (u := .slice za zn zc)).set1 (u := .slice zla zm zk)
          obtain ⟨k0, k1, -, -⟩ := zz.facts
          have HF : Hid (Dv9 w0 w g (.returned (.agg #[.slice za zn zc, .slice zla zm zk])) ((Q.setCell ⟨w.heap.size, 0, none⟩ (.slice za zn zc)).setCell ⟨w.heap.size, 1, none⟩ (.slice zla zm zk))) := D.fin HIN.out
          clear zz D HIN
          go_wp2
          exact bodyPost_ret (v := .agg #[.slice za zn zc, .slice zla zm zk]) (by simp [results, Tryz.results51, go_sem, k0, k1]) rfl HF.out
        refine AllReadyH.cons rfl (fun K hK => ?_) AllReadyH.nil
        go_simp
        refine (specSlot_any (1 + p4) ⟨#[116]⟩ _ (by decide)).mono ?_
        generalize slotS (1 + p4) ⟨#[116]⟩ = N
        rintro e U42 ⟨rfl, hb1⟩
        replace D := D.below hb1
        clear hb1 hS
        refine hK.out _ _ trivial (fun hS => ?_)
        clear hK K
        try simp only [List.setIfInBounds_toArray, List.set_cons_zero, List.set_cons_succ]
        refine wpAnyH_ready (rs := [0, 7, 9]) (by kernel_rfl) (by simp) ?_
        refine AllReadyH.cons rfl (fun K hK => ?_) ?_
        · skip
          obtain ⟨y0, y1, u0, u1⟩ := D.zb.facts
          go_simp
          clear y0 y1 u0 u1 hS
          refine hK.out _ _ trivial (fun hS => ?_)
          clear hK K
          try simp only [List.setIfInBounds_toArray, List.set_cons_zero, List.set_cons_succ]
          refine wpAnyH_ready (rs := [7, 9]) (by kernel_rfl) (by simp) ?_
          refine AllReadyH.cons rfl (fun K hK => ?_) ?_
          · skip
            have bl1 := below1 U42 (.cells #[.string ⟨#[106, 117, 110, 107]⟩, .string N, .string ⟨#[]⟩] 9)
            have hL := heap_alloc_new U42 (.cells #[.string ⟨#[106, 117, 110, 107]⟩, .string N, .string ⟨#[]⟩] 9)
            have hlb : w.heap.size ≤ U42.heap.size := D.gr.size
            replace D := D.below bl1
            go_simp
            clear bl1 hS
            refine hK.out _ _ trivial (fun hS => ?_)
            clear hK K
            try simp only [List.setIfInBounds_toArray, List.set_cons_zero, List.set_cons_succ]
            revert hL D
            generalize U42.alloc (.cells #[.string ⟨#[106, 117, 110, 107]⟩, .string N, .string ⟨#[]⟩] 9) = U44
            intro hL D
            refine wpAnyH_ready (rs := [9]) (by kernel_rfl) (by simp) ?_
            refine AllReadyH.cons rfl (fun K hK => ?_) AllReadyH.nil
            go_simp
            refine (l1Below_any w0 _ g 3 D.dc (by omega) (by omega)).mono ?_
            rintro e U45 ⟨p9, rfl, lo9, up9, dc1, hg1⟩
            replace hL := lit_kept hL hg1 (by have := HGL.out; omega)
            replace D := D.grown dc1 hg1
            clear dc1 hg1 hS
            obtain ⟨k9, rfl⟩ := Int.eq_ofNat_of_zero_le lo9
            have up9' : k9 < 3 := by omega
            refine hK.out _ _ trivial (fun hS => ?_)
            clear hK K
            try simp only [List.setIfInBounds_toArray, List.set_cons_zero, List.set_cons_succ]
            refine wpAnyH_ready (rs := [10]) (by kernel_rfl) (by simp) ?_
            refine AllReadyH.cons rfl (fun K hK => ?_) AllReadyH.nil
            have i9 : (k9 : Int) < 3 := up9
            go_simp
            clear hS i9
            refine hK.out _ _ trivial (fun hS => ?_)
            clear hK K
            try simp only [List.setIfInBounds_toArray, List.set_cons_zero, List.set_cons_succ]
            refine wpAnyH_ready (rs := [11]) (by kernel_rfl) (by simp) ?_
            refine AllReadyH.cons rfl (fun K hK => ?_) AllReadyH.nil
            obtain ⟨s9, hc9⟩ := three_at hL up9'
            go_simp
            clear hc9 hS
            refine hK.out _ _ trivial (fun hS => ?_)
            clear hK K
            try simp only [List.setIfInBounds_toArray, List.set_cons_zero, List.set_cons_succ]
            refine wpAnyH_ready (rs := [12]) (by kernel_rfl) (by simp) ?_
            refine AllReadyH.cons rfl (fun K hK => ?_) AllReadyH.nil
            go_simp
            refine (spec_lay9 D.oY.rd p2 s9 HIN.out).mono ?_
            rintro e V9 ⟨Z, oo, hee, hiZ, hoZ, hb⟩
            obtain ⟨za, zc, v0⟩ := own_slice hoZ.secs
            obtain ⟨zla, zk, v1⟩ := own_slice hoZ.late
            obtain ⟨zvs, zvl, zss, zps⟩ := Z
            simp only at v0 v1
            obtain ⟨zn, hzn⟩ : ∃ zn, zn = zss.length := ⟨_, rfl⟩
            obtain ⟨zm, hzm⟩ : ∃ zm, zm = zps.length := ⟨_, rfl⟩
            rw [← hzn] at v0
            rw [← hzm] at v1
            subst v0
            subst v1
            clear hzn hzm
            replace hee : e = .returned (.tuple #[.agg #[.slice za zn zc, .slice zla zm zk], .bool oo]) := hee
            subst hee
            have HIZ : Hid (In9 ⟨.slice za zn zc, .slice zla zm zk, zss, zps⟩) := hiZ
            have P := D.put hb za zla zc zk zn zm zss zps hoZ
            obtain ⟨y0, y1, u0, u1⟩ := (D.below hb).zb.facts
            clear hoZ hb hiZ
            refine hK.out _ _ trivial (fun hS => ?_)
            clear hK K
            try simp only [List.setIfInBounds_toArray, List.set_cons_zero, List.set_cons_succ]
            refine tkG 13 28 hS ?_
            try simp only [Act.put, List.setIfInBounds_toArray, List.set_cons_zero, List.set_cons_succ]
            refine tkG 14 42 hS ?_
            try simp only [Act.put, List.setIfInBounds_toArray, List.set_cons_zero, List.set_cons_succ]
            refine tkG 15 43 hS ?_
            try simp only [Act.put, List.setIfInBounds_toArray, List.set_cons_zero, List.set_cons_succ]
            refine wpAnyH_ready (rs := [16]) (by kernel_rfl) (by simp) ?_
            refine AllReadyH.cons rfl (fun K hK => ?_) AllReadyH.nil
            go_simp
            refine hK.out _ _ trivial (fun hS => ?_)
            clear hK K hS y0 y1 u0 u1 D HIN hL
            refine wpAnyH_done (by kernel_rfl) ?_ _
            refine NoPanic.normal ?_
            have HIN := HIZ
            have D := P
            clear HIZ P
            revert D
            generalize (V9.setCell ⟨b3, 0, none⟩ (.slice za zn zc)).setCell ⟨b3, 1, none⟩ (.slice zla zm zk) = Q
            intro D
            obtain ⟨y0, y1, u0, u1⟩ := D.zb.facts
            obtain ⟨m0, m1, n0, n1⟩ := D.zr.facts
            have zz := (D.zr.set0 (u := .slice za zn zc)).set1 (u := .slice zla zm zk)
            obtain ⟨k0, k1, -, -⟩ := zz.facts
            have HF : Hid (Dv9 w0 w g (.returned (.agg #[.slice za zn zc, .slice zla zm zk])) ((Q.setCell ⟨w.heap.size, 0, none⟩ (.slice za zn zc)).setCell ⟨w.heap.size, 1, none⟩ (.slice zla zm zk))) := D.fin HIN.out
            clear zz D HIN
            go_wp2
            exact bodyPost_ret (v := .agg #[.slice za zn zc, .slice zla zm zk]) (by simp [results, Tryz.results51, go_sem, k0, k1]) rfl HF.out
          refine AllReadyH.cons rfl (fun K hK => ?_) AllReadyH.nil
          go_simp
          refine (l1Below_any w0 _ g 3 D.dc (by omega) (by omega)).mono ?_
          rintro e U49 ⟨p9, rfl, lo9, up9, dc1, hg1⟩
          replace D := D.grown dc1 hg1
          clear dc1 hg1 hS
          obtain ⟨k9, rfl⟩ := Int.eq_ofNat_of_zero_le lo9
          have up9' : k9 < 3 := by omega
          refine hK.out _ _ trivial (fun hS => ?_)
          clear hK K
          try simp only [List.setIfInBounds_toArray, List.set_cons_zero, List.set_cons_succ]
          refine wpAnyH_ready (rs := [7]) (by kernel_rfl) (by simp) ?_
          refine AllReadyH.cons rfl (fun K hK => ?_) AllReadyH.nil
          have bl1 := below1 U49 (.cells #[.string ⟨#[106, 117, 110, 107]⟩, .string N, .string ⟨#[]⟩] 9)
          have hL := heap_alloc_new U49 (.cells #[.string ⟨#[106, 117, 110, 107]⟩, .string N, .string ⟨#[]⟩] 9)
          have hlb : w.heap.size ≤ U49.heap.size := D.gr.size
          replace D := D.below bl1
          go_simp
          clear bl1 hS
          refine hK.out _ _ trivial (fun hS => ?_)
          clear hK K
          try simp only [List.setIfInBounds_toArray, List.set_cons_zero, List.set_cons_succ]
          revert hL D
          generalize U49.alloc (.cells #[.string ⟨#[106, 117, 110, 107]⟩, .string N, .string ⟨#[]⟩] 9) = U50
          intro hL D
          refine wpAnyH_ready (rs := [10]) (by kernel_rfl) (by simp) ?_
          refine AllReadyH.cons rfl (fun K hK => ?_) AllReadyH.nil
          have i9 : (k9 : Int) < 3 := up9
          go_simp
          clear hS i9
          refine hK.out _ _ trivial (fun hS => ?_)
          clear hK K
          try simp only [List.setIfInBounds_toArray, List.set_cons_zero, List.set_cons_succ]
          refine wpAnyH_ready (rs := [11]) (by kernel_rfl) (by simp) ?_
          refine AllReadyH.cons rfl (fun K hK => ?_) AllReadyH.nil
          obtain ⟨s9, hc9⟩ := three_at hL up9'
          go_simp
          clear hc9 hS
          refine hK.out _ _ trivial (fun hS => ?_)
          clear hK K
          try simp only [List.setIfInBounds_toArray, List.set_cons_zero, List.set_cons_succ]
          refine wpAnyH_ready (rs := [12]) (by kernel_rfl) (by simp) ?_
          refine AllReadyH.cons rfl (fun K hK => ?_) AllReadyH.nil
          go_simp
          refine (spec_lay9 D.oY.rd p2 s9 HIN.out).mono ?_
          rintro e V9 ⟨Z, oo, hee, hiZ, hoZ, hb⟩
          obtain ⟨za, zc, v0⟩ := own_slice hoZ.secs
          obtain ⟨zla, zk, v1⟩ := own_slice hoZ.late
          obtain ⟨zvs, zvl, zss, zps⟩ := Z
          simp only at v0 v1
          obtain ⟨zn, hzn⟩ : ∃ zn, zn = zss.length := ⟨_, rfl⟩
          obtain ⟨zm, hzm⟩ : ∃ zm, zm = zps.length := ⟨_, rfl⟩
          rw [← hzn] at v0
          rw [← hzm] at v1
          subst v0
          subst v1
          clear hzn hzm
          replace hee : e = .returned (.tuple #[.agg #[.slice za zn zc, .slice zla zm zk], .bool oo]) := hee
          subst hee
          have HIZ : Hid (In9 ⟨.slice za zn zc, .slice zla zm zk, zss, zps⟩) := hiZ
          have P := D.put hb za zla zc zk zn zm zss zps hoZ
          obtain ⟨y0, y1, u0, u1⟩ := (D.below hb).zb.facts
          clear hoZ hb hiZ
          refine hK.out _ _ trivial (fun hS => ?_)
          clear hK K
          try simp only [List.setIfInBounds_toArray, List.set_cons_zero, List.set_cons_succ]
          refine tkG 13 28 hS ?_
          try simp only [Act.put, List.setIfInBounds_toArray, List.set_cons_zero, List.set_cons_succ]
          refine tkG 14 42 hS ?_
          try simp only [Act.put, List.setIfInBounds_toArray, List.set_cons_zero, List.set_cons_succ]
          refine tkG 15 43 hS ?_
          try simp only [Act.put, List.setIfInBounds_toArray, List.set_cons_zero, List.set_cons_succ]
          refine wpAnyH_ready (rs := [16]) (by kernel_rfl) (by simp) ?_
          refine AllReadyH.cons rfl (fun K hK => ?_) AllReadyH.nil
          go_simp
          refine hK.out _ _ trivial (fun hS => ?_)
          clear hK K hS y0 y1 u0 u1 D HIN hL
          refine wpAnyH_done (by kernel_rfl) ?_ _
          refine NoPanic.normal ?_
          have HIN := HIZ
          have D := P
          clear HIZ P
          revert D
          generalize (V9.setCell ⟨b3, 0, none⟩ (.slice za zn zc)).setCell ⟨b3, 1, none⟩ (.slice zla zm zk) = Q
          intro D
          obtain ⟨y0, y1, u0, u1⟩ := D.zb.facts
          obtain ⟨m0, m1, n0, n1⟩ := D.zr.facts
          have zz := (D.zr.set0 (u := .slice za zn zc)).set1 (u := .slice zla zm zk)
          obtain ⟨k0, k1, -, -⟩ := zz.facts
          have HF : Hid (Dv9 w0 w g (.returned (.agg #[.slice za zn zc, .slice zla zm zk])) ((Q.setCell ⟨w.heap.size, 0, none⟩ (.slice za zn zc)).setCell ⟨w.heap.size, 1, none⟩ (.slice zla zm zk))) := D.fin HIN.out
          clear zz D HIN
          go_wp2
          exact bodyPost_ret (v := .agg #[.slice za zn zc, .slice zla zm zk]) (by simp [results, Tryz.results51, go_sem, k0, k1]) rfl HF.out
        refine AllReadyH.cons rfl (fun K hK => ?_) ?_
        · skip
          have bl1 := below1 U42 (.cells #[.string ⟨#[106, 117, 110, 107]⟩, .string N, .string ⟨#[]⟩] 9)
          have hL := heap_alloc_new U42 (.cells #[.string ⟨#[106, 117, 110, 107]⟩, .string N, .string ⟨#[]⟩] 9)
          have hlb : w.heap.size ≤ U42.heap.size := D.gr.size
          replace D := D.below bl1
          go_simp
          clear bl1 hS
          refine hK.out _ _ trivial (fun hS => ?_)
          clear hK K
          try simp only [List.setIfInBounds_toArray, List.set_cons_zero, List.set_cons_succ]
          revert hL D
          generalize U42.alloc (.cells #[.string ⟨#[106, 117, 110, 107]⟩, .string N, .string ⟨#[]⟩] 9) = U54
          intro hL D
          refine wpAnyH_ready (rs := [0, 9]) (by kernel_rfl) (by simp) ?_
          refine AllReadyH.cons rfl (fun K hK => ?_) ?_
          · skip
            obtain ⟨y0, y1, u0, u1⟩ := D.zb.facts
            go_simp
            clear y0 y1 u0 u1 hS
            refine hK.out _ _ trivial (fun hS => ?_)
            clear hK K
            try simp only [List.setIfInBounds_toArray, List.set_cons_zero, List.set_cons_succ]
            refine wpAnyH_ready (rs := [9]) (by kernel_rfl) (by simp) ?_
            refine AllReadyH.cons rfl (fun K hK => ?_) AllReadyH.nil
            go_simp
            refine (l1Below_any w0 _ g 3 D.dc (by omega) (by omega)).mono ?_
            rintro e U56 ⟨p9, rfl, lo9, up9, dc1, hg1⟩
            replace hL := lit_kept hL hg1 (by have := HGL.out; omega)
            replace D := D.grown dc1 hg1
            clear dc1 hg1 hS
            obtain ⟨k9, rfl⟩ := Int.eq_ofNat_of_zero_le lo9
            have up9' : k9 < 3 := by omega
            refine hK.out _ _ trivial (fun hS => ?_)
            clear hK K
            try simp only [List.setIfInBounds_toArray, List.set_cons_zero, List.set_cons_succ]
            refine wpAnyH_ready (rs := [10]) (by kernel_rfl) (by simp) ?_
            refine AllReadyH.cons rfl (fun K hK => ?_) AllReadyH.nil
            have i9 : (k9 : Int) < 3 := up9
            go_simp
            clear hS i9
            refine hK.out _ _ trivial (fun hS => ?_)
            clear hK K
            try simp only [List.setIfInBounds_toArray, List.set_cons_zero, List.set_cons_succ]
            refine wpAnyH_ready (rs := [11]) (by kernel_rfl) (by simp) ?_
            refine AllReadyH.cons rfl (fun K hK => ?_) AllReadyH.nil
            obtain ⟨s9, hc9⟩ := three_at hL up9'
            go_simp
            clear hc9 hS
            refine hK.out _ _ trivial (fun hS => ?_)
            clear hK K
            try simp only [List.setIfInBounds_toArray, List.set_cons_zero, List.set_cons_succ]
            refine wpAnyH_ready (rs := [12]) (by kernel_rfl) (by simp) ?_
            refine AllReadyH.cons rfl (fun K hK => ?_) AllReadyH.nil
            go_simp
            refine (spec_lay9 D.oY.rd p2 s9 HIN.out).mono ?_
            rintro e V9 ⟨Z, oo, hee, hiZ, hoZ, hb⟩
            obtain ⟨za, zc, v0⟩ := own_slice hoZ.secs
            obtain ⟨zla, zk, v1⟩ := own_slice hoZ.late
            obtain ⟨zvs, zvl, zss, zps⟩ := Z
            simp only at v0 v1
            obtain ⟨zn, hzn⟩ : ∃ zn, zn = zss.length := ⟨_, rfl⟩
            obtain ⟨zm, hzm⟩ : ∃ zm, zm = zps.length := ⟨_, rfl⟩
            rw [← hzn] at v0
            rw [← hzm] at v1
            subst v0
            subst v1
            clear hzn hzm
            replace hee : e = .returned (.tuple #[.agg #[.slice za zn zc, .slice zla zm zk], .bool oo]) := hee
            subst hee
            have HIZ : Hid (In9 ⟨.slice za zn zc, .slice zla zm zk, zss, zps⟩) := hiZ
            have P := D.put hb za zla zc zk zn zm zss zps hoZ
            obtain ⟨y0, y1, u0, u1⟩ := (D.below hb).zb.facts
            clear hoZ hb hiZ
            refine hK.out _ _ trivial (fun hS => ?_)
            clear hK K
            try simp only [List.setIfInBounds_toArray, List.set_cons_zero, List.set_cons_succ]
            refine tkG 13 28 hS ?_
            try simp only [Act.put, List.setIfInBounds_toArray, List.set_cons_zero, List.set_cons_succ]
            refine tkG 14 42 hS ?_
            try simp only [Act.put, List.setIfInBounds_toArray, List.set_cons_zero, List.set_cons_succ]
            refine tkG 15 43 hS ?_
            try simp only [Act.put, List.setIfInBounds_toArray, List.set_cons_zero, List.set_cons_succ]
            refine wpAnyH_ready (rs := [16]) (by kernel_rfl) (by simp) ?_
            refine AllReadyH.cons rfl (fun K hK => ?_) AllReadyH.nil
            go_simp
            refine hK.out _ _ trivial (fun hS => ?_)
            clear hK K hS y0 y1 u0 u1 D HIN hL
            refine wpAnyH_done (by kernel_rfl) ?_ _
            refine NoPanic.normal ?_
            have HIN := HIZ
            have D := P
            clear HIZ P
            revert D
            generalize (V9.setCell ⟨b3, 0, none⟩ (.slice za zn zc)).setCell ⟨b3, 1, none⟩ (.slice zla zm zk) = Q
            intro D
            obtain ⟨y0, y1, u0, u1⟩ := D.zb.facts
            obtain ⟨m0, m1, n0, n1⟩ := D.zr.facts
            have zz := (D.zr.set0 (u := .slice za zn zc)).set1 (u := .slice zla zm zk)
            obtain ⟨k0, k1, -, -⟩ := zz.facts
            have HF : Hid (Dv9 w0 w g (.returned (.agg #[.slice za zn zc, .slice zla zm zk])) ((Q.setCell ⟨w.heap.size, 0, none⟩ (.slice za zn zc)).setCell ⟨w.heap.size, 1, none⟩ (.slice zla zm zk))) := D.fin HIN.out
            clear zz D HIN
            go_wp2
            exact bodyPost_ret (v := .agg #[.slice za zn zc, .slice zla zm zk]) (by simp [results, Tryz.results51, go_sem, k0, k1]) rfl HF.out
          refine AllReadyH.cons rfl (fun K hK => ?_) AllReadyH.nil
          go_simp
          refine (l1Below_any w0 _ g 3 D.dc (by omega) (by omega)).mono ?_
          rintro e U60 ⟨p9, rfl, lo9, up9, dc1, hg1⟩
          replace hL := lit_kept hL hg1 (by have := HGL.out; omega)
          replace D := D.grown dc1 hg1
          clear dc1 hg1 hS
          obtain ⟨k9, rfl⟩ := Int.eq_ofNat_of_zero_le lo9
          have up9' : k9 < 3 := by omega
          refine hK.out _ _ trivial (fun hS => ?_)
          clear hK K
          try simp only [List.setIfInBounds_toArray, List.set_cons_zero, List.set_cons_succ]
          refine wpAnyH_ready (rs := [0, 10]) (by kernel_rfl) (by simp) ?_
          refine AllReadyH.cons rfl (fun K hK => ?_) ?_
          · skip
            obtain ⟨y0, y1, u0, u1⟩ := D.zb.facts
            go_simp
            clear y0 y1 u0 u1 hS
            refine hK.out _ _ trivial (fun hS => ?_)
            clear hK K
            try simp only [List.setIfInBounds_toArray, List.set_cons_zero, List.set_cons_succ]
            refine wpAnyH_ready (rs := [10]) (by kernel_rfl) (by simp) ?_
            refine AllReadyH.cons rfl (fun K hK => ?_) AllReadyH.nil
            have i9 : (k9 : Int) < 3 := up9
            go_simp
            clear hS i9
            refine hK.out _ _ trivial (fun hS => ?_)
            clear hK K
            try simp only [List.setIfInBounds_toArray, List.set_cons_zero, List.set_cons_succ]
            refine wpAnyH_ready (rs := [11]) (by kernel_rfl) (by simp) ?_
            refine AllReadyH.cons rfl (fun K hK => ?_) AllReadyH.nil
            obtain ⟨s9, hc9⟩ := three_at hL up9'
            go_simp
            clear hc9 hS
            refine hK.out _ _ trivial (fun hS => ?_)
            clear hK K
            try simp only [List.setIfInBounds_toArray, List.set_cons_zero, List.set_cons_succ]
            refine wpAnyH_ready (rs := [12]) (by kernel_rfl) (by simp) ?_
            refine AllReadyH.cons rfl (fun K hK => ?_) AllReadyH.nil
            go_simp
            refine (spec_lay9 D.oY.rd p2 s9 HIN.out).mono ?_
            rintro e V9 ⟨Z, oo, hee, hiZ, hoZ, hb⟩
            obtain ⟨za, zc, v0⟩ := own_slice hoZ.secs
            obtain ⟨zla, zk, v1⟩ := own_slice hoZ.late
            obtain ⟨zvs, zvl, zss, zps⟩ := Z
            simp only at v0 v1
            obtain ⟨zn, hzn⟩ : ∃ zn, zn = zss.length := ⟨_, rfl⟩
            obtain ⟨zm, hzm⟩ : ∃ zm, zm = zps.length := ⟨_, rfl⟩
            rw [← hzn] at v0
            rw [← hzm] at v1
            subst v0
            subst v1
            clear hzn hzm
            replace hee : e = .returned (.tuple #[.agg #[.slice za zn zc, .slice zla zm zk], .bool oo]) := hee
            subst hee
            have HIZ : Hid (In9 ⟨.slice za zn zc, .slice zla zm zk, zss, zps⟩) := hiZ
            have P := D.put hb za zla zc zk zn zm zss zps hoZ
            obtain ⟨y0, y1, u0, u1⟩ := (D.below hb).zb.facts
            clear hoZ hb hiZ
            refine hK.out _ _ trivial (fun hS => ?_)
            clear hK K
            try simp only [List.setIfInBounds_toArray, List.set_cons_zero, List.set_cons_succ]
            refine tkG 13 28 hS ?_
            try simp only [Act.put, List.setIfInBounds_toArray, List.set_cons_zero, List.set_cons_succ]
            refine tkG 14 42 hS ?_
            try simp only [Act.put, List.setIfInBounds_toArray, List.set_cons_zero, List.set_cons_succ]
            refine tkG 15 43 hS ?_
            try simp only [Act.put, List.setIfInBounds_toArray, List.set_cons_zero, List.set_cons_succ]
            refine wpAnyH_ready (rs := [16]) (by kernel_rfl) (by simp) ?_
            refine AllReadyH.cons rfl (fun K hK => ?_) AllReadyH.nil
            go_simp
            refine hK.out _ _ trivial (fun hS => ?_)
            clear hK K hS y0 y1 u0 u1 D HIN hL
            refine wpAnyH_done (by kernel_rfl) ?_ _
            refine NoPanic.normal ?_
            have HIN := HIZ
            have D := P
            clear HIZ P
            revert D
            generalize (V9.setCell ⟨b3, 0, none⟩ (.slice za zn zc)).setCell ⟨b3, 1, none⟩ (.slice zla zm zk) = Q
            intro D
            obtain ⟨y0, y1, u0, u1⟩ := D.zb.facts
            obtain ⟨m0, m1, n0, n1⟩ := D.zr.facts
            have zz := (D.zr.set0 (u := .slice za zn zc)).set1 (u := .slice zla zm zk)
            obtain ⟨k0, k1, -, -⟩ := zz.facts
            have HF : Hid (Dv9 w0 w g (.returned (.agg #[.slice za zn zc, .slice zla zm zk])) ((Q.setCell ⟨w.heap.size, 0, none⟩ (.slice za zn zc)).setCell ⟨w.heap.size, 1, none⟩ (.slice zla zm zk))) := D.fin HIN.out
            clear zz D HIN
            go_wp2
            exact bodyPost_ret (v := .agg #[.slice za zn zc, .slice zla zm zk]) (by simp [results, Tryz.results51, go_sem, k0, k1]) rfl HF.out
          refine AllReadyH.cons rfl (fun K hK => ?_) AllReadyH.nil
          have i9 : (k9 : Int) < 3 := up9
          go_simp
          clear hS i9
          refine hK.out _ _ trivial (fun hS => ?_)
          clear hK K
          try simp only [List.setIfInBounds_toArray, List.set_cons_zero, List.set_cons_succ]
          refine wpAnyH_ready (rs := [0, 11]) (by kernel_rfl) (by simp) ?_
          refine AllReadyH.cons rfl (fun K hK => ?_) ?_
          · skip
            obtain ⟨y0, y1, u0, u1⟩ := D.zb.facts
            go_simp
            clear y0 y1 u0 u1 hS
            refine hK.out _ _ trivial (fun hS => ?_)
            clear hK K
            try simp only [List.setIfInBounds_toArray, List.set_cons_zero, List.set_cons_succ]
            refine wpAnyH_ready (rs := [11]) (by kernel_rfl) (by simp) ?_
            refine AllReadyH.cons rfl (fun K hK => ?_) AllReadyH.nil
            obtain ⟨s9, hc9⟩ := three_at hL up9'
            go_simp
            clear hc9 hS
            refine hK.out _ _ trivial (fun hS => ?_)
            clear hK K
            try simp only [List.setIfInBounds_toArray, List.set_cons_zero, List.set_cons_succ]
            refine wpAnyH_ready (rs := [12]) (by kernel_rfl) (by simp) ?_
            refine AllReadyH.cons rfl (fun K hK => ?_) AllReadyH.nil
            go_simp
            refine (spec_lay9 D.oY.rd p2 s9 HIN.out).mono ?_
            rintro e V9 ⟨Z, oo, hee, hiZ, hoZ, hb⟩
            obtain ⟨za, zc, v0⟩ := own_slice hoZ.secs
            obtain ⟨zla, zk, v1⟩ := own_slice hoZ.late
            obtain ⟨zvs, zvl, zss, zps⟩ := Z
            simp only at v0 v1
            obtain ⟨zn, hzn⟩ : ∃ zn, zn = zss.length := ⟨_, rfl⟩
            obtain ⟨zm, hzm⟩ : ∃ zm, zm = zps.length := ⟨_, rfl⟩
            rw [← hzn] at v0
            rw [← hzm] at v1
            subst v0
            subst v1
            clear hzn hzm
            replace hee : e = .returned (.tuple #[.agg #[.slice za zn zc, .slice zla zm zk], .bool oo]) := hee
            subst hee
            have HIZ : Hid (In9 ⟨.slice za zn zc, .slice zla zm zk, zss, zps⟩) := hiZ
            have P := D.put hb za zla zc zk zn zm zss zps hoZ
            obtain ⟨y0, y1, u0, u1⟩ := (D.below hb).zb.facts
            clear hoZ hb hiZ
            refine hK.out _ _ trivial (fun hS => ?_)
            clear hK K
            try simp only [List.setIfInBounds_toArray, List.set_cons_zero, List.set_cons_succ]
            refine tkG 13 28 hS ?_
            try simp only [Act.put, List.setIfInBounds_toArray, List.set_cons_zero, List.set_cons_succ]
            refine tkG 14 42 hS ?_
            try simp only [Act.put, List.setIfInBounds_toArray, List.set_cons_zero, List.set_cons_succ]
            refine tkG 15 43 hS ?_
            try simp only [Act.put, List.setIfInBounds_toArray, List.set_cons_zero, List.set_cons_succ]
            refine wpAnyH_ready (rs := [16]) (by kernel_rfl) (by simp) ?_
            refine AllReadyH.cons rfl (fun K hK => ?_) AllReadyH.nil
            go_simp
            refine hK.out _ _ trivial (fun hS => ?_)
            clear hK K hS y0 y1 u0 u1 D HIN hL
            refine wpAnyH_done (by kernel_rfl) ?_ _
            refine NoPanic.normal ?_
            have HIN := HIZ
            have D := P
            clear HIZ P
            revert D
            generalize (V9.setCell ⟨b3, 0, none⟩ (.slice za zn zc)).setCell ⟨b3, 1, none⟩ (.slice zla zm zk) = Q
            intro D
            obtain ⟨y0, y1, u0, u1⟩ := D.zb.facts
            obtain ⟨m0, m1, n0, n1⟩ := D.zr.facts
            have zz := (D.zr.set0 (u := .slice za zn zc)).set1 (u := .slice zla zm zk)
            obtain ⟨k0, k1, -, -⟩ := zz.facts
            have HF : Hid (Dv9 w0 w g (.returned (.agg #[.slice za zn zc, .slice zla zm zk])) ((Q.setCell ⟨w.heap.size, 0, none⟩ (.slice za zn zc)).setCell ⟨w.heap.size, 1, none⟩ (.slice zla zm zk))) := D.fin HIN.out
            clear zz D HIN
            go_wp2
            exact bodyPost_ret (v := .agg #[.slice za zn zc, .slice zla zm zk]) (by simp [results, Tryz.results51, go_sem, k0, k1]) rfl HF.out
          refine AllReadyH.cons rfl (fun K hK => ?_) AllReadyH.nil
          obtain ⟨s9, hc9⟩ := three_at hL up9'
          go_simp
          clear hc9 hS
          refine hK.out _ _ trivial (fun hS => ?_)
          clear hK K
          try simp only [List.setIfInBounds_toArray, List.set_cons_zero, List.set_cons_succ]
          refine wpAnyH_ready (rs := [0]) (by kernel_rfl) (by simp) ?_
          refine AllReadyH.cons rfl (fun K hK => ?_) AllReadyH.nil
          obtain ⟨y0, y1, u0, u1⟩ := D.zb.facts
          go_simp
          clear y0 y1 u0 u1 hS
          refine hK.out _ _ trivial (fun hS => ?_)
          clear hK K
          try simp only [List.setIfInBounds_toArray, List.set_cons_zero, List.set_cons_succ]
          refine wpAnyH_ready (rs := [12]) (by kernel_rfl) (by simp) ?_
          refine AllReadyH.cons rfl (fun K hK => ?_) AllReadyH.nil
          go_simp
          refine (spec_lay9 D.oY.rd p2 s9 HIN.out).mono ?_
          rintro e V9 ⟨Z, oo, hee, hiZ, hoZ, hb⟩
          obtain ⟨za, zc, v0⟩ := own_slice hoZ.secs
          obtain ⟨zla, zk, v1⟩ := own_slice hoZ.late
          obtain ⟨zvs, zvl, zss, zps⟩ := Z
          simp only at v0 v1
          obtain ⟨zn, hzn⟩ : ∃ zn, zn = zss.length := ⟨_, rfl⟩
          obtain ⟨zm, hzm⟩ : ∃ zm, zm = zps.length := ⟨_, rfl⟩
          rw [← hzn] at v0
          rw [← hzm] at v1
          subst v0
          subst v1
          clear hzn hzm
          replace hee : e = .returned (.tuple #[.agg #[.slice za zn zc, .slice zla zm zk], .bool oo]) := hee
          subst hee
          have HIZ : Hid (In9 ⟨.slice za zn zc, .slice zla zm zk, zss, zps⟩) := hiZ
          have P := D.put hb za zla zc zk zn zm zss zps hoZ
          obtain ⟨y0, y1, u0, u1⟩ := (D.below hb).zb.facts
          clear hoZ hb hiZ
          refine hK.out _ _ trivial (fun hS => ?_)
          clear hK K
          try simp only [List.setIfInBounds_toArray, List.set_cons_zero, List.set_cons_succ]
          refine tkG 13 28 hS ?_
          try simp only [Act.put, List.setIfInBounds_toArray, List.set_cons_zero, List.set_cons_succ]
          refine tkG 14 42 hS ?_
          try simp only [Act.put, List.setIfInBounds_toArray, List.set_cons_zero, List.set_cons_succ]
          refine tkG 15 43 hS ?_
          try simp only [Act.put, List.setIfInBounds_toArray, List.set_cons_zero, List.set_cons_succ]
          refine wpAnyH_ready (rs := [16]) (by kernel_rfl) (by simp) ?_
          refine AllReadyH.cons rfl (fun K hK => ?_) AllReadyH.nil
          go_simp
          refine hK.out _ _ trivial (fun hS => ?_)
          clear hK K hS y0 y1 u0 u1 D HIN hL
          refine wpAnyH_done (by kernel_rfl) ?_ _
          refine NoPanic.normal ?_
          have HIN := HIZ
          have D := P
          clear HIZ P
          revert D
          generalize (V9.setCell ⟨b3, 0, none⟩ (.slice za zn zc)).setCell ⟨b3, 1, none⟩ (.slice zla zm zk) = Q
          intro D
          obtain ⟨y0, y1, u0, u1⟩ := D.zb.facts
          obtain ⟨m0, m1, n0, n1⟩ := D.zr.facts
          have zz := (D.zr.set0 (u := .slice za zn zc)).set1 (u := .slice zla zm zk)
          obtain ⟨k0, k1, -, -⟩ := zz.facts
          have HF : Hid (Dv9 w0 w g (.returned (.agg #[.slice za zn zc, .slice zla zm zk])) ((Q.setCell ⟨w.heap.size, 0, none⟩ (.slice za zn zc)).setCell ⟨w.heap.size, 1, none⟩ (.slice zla zm zk))) := D.fin HIN.out
          clear zz D HIN
          go_wp2
          exact bodyPost_ret (v := .agg #[.slice za zn zc, .slice zla zm zk]) (by simp [results, Tryz.results51, go_sem, k0, k1]) rfl HF.out
        refine AllReadyH.cons rfl (fun K hK => ?_) AllReadyH.nil
        go_simp
        refine (l1Below_any w0 _ g 3 D.dc (by omega) (by omega)).mono ?_
        rintro e U72 ⟨p9, rfl, lo9, up9, dc1, hg1⟩
        replace D := D.grown dc1 hg1
        clear dc1 hg1 hS
        obtain ⟨k9, rfl⟩ := Int.eq_ofNat_of_zero_le lo9
        have up9' : k9 < 3 := by omega
        refine hK.out _ _ trivial (fun hS => ?_)
        clear hK K
        try simp only [List.setIfInBounds_toArray, List.set_cons_zero, List.set_cons_succ]
        refine wpAnyH_ready (rs := [0, 7]) (by kernel_rfl) (by simp) ?_
        refine AllReadyH.cons rfl (fun K hK => ?_) ?_
        · skip
          obtain ⟨y0, y1, u0, u1⟩ := D.zb.facts
          go_simp
          clear y0 y1 u0 u1 hS
          refine hK.out _ _ trivial (fun hS => ?_)
          clear hK K
          try simp only [List.setIfInBounds_toArray, List.set_cons_zero, List.set_cons_succ]
          refine wpAnyH_ready (rs := [7]) (by kernel_rfl) (by simp) ?_
          refine AllReadyH.cons rfl (fun K hK => ?_) AllReadyH.nil
          have bl1 := below1 U72 (.cells #[.string ⟨#[106, 117, 110, 107]⟩, .string N, .string ⟨#[]⟩] 9)
          have hL := heap_alloc_new U72 (.cells #[.string ⟨#[106, 117, 110, 107]⟩, .string N, .string ⟨#[]⟩] 9)
          have hlb : w.heap.size ≤ U72.heap.size := D.gr.size
          replace D := D.below bl1
          go_simp
          clear bl1 hS
          refine hK.out _ _ trivial (fun hS => ?_)
          clear hK K
          try simp only [List.setIfInBounds_toArray, List.set_cons_zero, List.set_cons_succ]
          revert hL D
          generalize U72.alloc (.cells #[.string ⟨#[106, 117, 110, 107]⟩, .string N, .string ⟨#[]⟩] 9) = U74
          intro hL D
          refine wpAnyH_ready (rs := [10]) (by kernel_rfl) (by simp) ?_
          refine AllReadyH.cons rfl (fun K hK => ?_) AllReadyH.nil
          have i9 : (k9 : Int) < 3 := up9
          go_simp
          clear hS i9
          refine hK.out _ _ trivial (fun hS => ?_)
          clear hK K
          try simp only [List.setIfInBounds_toArray, List.set_cons_zero, List.set_cons_succ]
          refine wpAnyH_ready (rs := [11]) (by kernel_rfl) (by simp) ?_
          refine AllReadyH.cons rfl (fun K hK => ?_) AllReadyH.nil
          obtain ⟨s9, hc9⟩ := three_at hL up9'
          go_simp
          clear hc9 hS
          refine hK.out _ _ trivial (fun hS => ?_)
          clear hK K
          try simp only [List.setIfInBounds_toArray, List.set_cons_zero, List.set_cons_succ]
          refine wpAnyH_ready (rs := [12]) (by kernel_rfl) (by simp) ?_
          refine AllReadyH.cons rfl (fun K hK => ?_) AllReadyH.nil
          go_simp
          refine (spec_lay9 D.oY.rd p2 s9 HIN.out).mono ?_
          rintro e V9 ⟨Z, oo, hee, hiZ, hoZ, hb⟩
          obtain ⟨za, zc, v0⟩ := own_slice hoZ.secs
          obtain ⟨zla, zk, v1⟩ := own_slice hoZ.late
          obtain ⟨zvs, zvl, zss, zps⟩ := Z
          simp only at v0 v1
          obtain ⟨zn, hzn⟩ : ∃ zn, zn = zss.length := ⟨_, rfl⟩
          obtain ⟨zm, hzm⟩ : ∃ zm, zm = zps.length := ⟨_, rfl⟩
          rw [← hzn] at v0
          rw [← hzm] at v1
          subst v0
          subst v1
          clear hzn hzm
          replace hee : e = .returned (.tuple #[.agg #[.slice za zn zc, .slice zla zm zk], .bool oo]) := hee
          subst hee
          have HIZ : Hid (In9 ⟨.slice za zn zc, .slice zla zm zk, zss, zps⟩) := hiZ
          have P := D.put hb za zla zc zk zn zm zss zps hoZ
          obtain ⟨y0, y1, u0, u1⟩ := (D.below hb).zb.facts
          clear hoZ hb hiZ
          refine hK.out _ _ trivial (fun hS => ?_)
          clear hK K
          try simp only [List.setIfInBounds_toArray, List.set_cons_zero, List.set_cons_succ]
          refine tkG 13 28 hS ?_
          try simp only [Act.put, List.setIfInBounds_toArray, List.set_cons_zero, List.set_cons_succ]
          refine tkG 14 42 hS ?_
          try simp only [Act.put, List.setIfInBounds_toArray, List.set_cons_zero, List.set_cons_succ]
          refine tkG 15 43 hS ?_
          try simp only [Act.put, List.setIfInBounds_toArray, List.set_cons_zero, List.set_cons_succ]
          refine wpAnyH_ready (rs := [16]) (by kernel_rfl) (by simp) ?_
          refine AllReadyH.cons rfl (fun K hK => ?_) AllReadyH.nil
          go_simp
          refine hK.out _ _ trivial (fun hS => ?_)
          clear hK K hS y0 y1 u0 u1 D HIN hL
          refine wpAnyH_done (by kernel_rfl) ?_ _
          refine NoPanic.normal ?_
          have HIN := HIZ
          have D := P
          clear HIZ P
          revert D
          generalize (V9.setCell ⟨b3, 0, none⟩ (.slice za zn zc)).setCell ⟨b3, 1, none⟩ (.slice zla zm zk) = Q
          intro D
          obtain ⟨y0, y1, u0, u1⟩ := D.zb.facts
          obtain ⟨m0, m1, n0, n1⟩ := D.zr.facts
          have zz := (D.zr.set0 (u := .slice za zn zc)).set1 (u := .slice zla zm zk)
          obtain ⟨k0, k1, -, -⟩ := zz.facts
          have HF : Hid (Dv9 w0 w g (.returned (.agg #[.slice za zn zc, .slice zla zm zk])) ((Q.setCell ⟨w.heap.size, 0, none⟩ (.slice za zn zc)).setCell ⟨w.heap.size, 1, none⟩ (.slice zla zm zk))) := D.fin HIN.out
          clear zz D HIN
          go_wp2
          exact bodyPost_ret (v := .agg #[.slice za zn zc, .slice zla zm zk]) (by simp [results, Tryz.results51, go_sem, k0, k1]) rfl HF.out
        refine AllReadyH.cons rfl (fun K hK => ?_) AllReadyH.nil
        have bl1 := below1 U72 (.cells #[.string ⟨#[106, 117, 110, 107]⟩, .string N, .string ⟨#[]⟩] 9)
        have hL := heap_alloc_new U72 (.cells #[.string ⟨#[106, 117, 110, 107]⟩, .string N, .string ⟨#[]⟩] 9)
        have hlb : w.heap.size ≤ U72.heap.size := D.gr.size
        replace D := D.below bl1
        go_simp
        clear bl1 hS
        refine hK.out _ _ trivial (fun hS => ?_)
        clear hK K
        try simp only [List.setIfInBounds_toArray, List.set_cons_zero, List.set_cons_succ]
        revert hL D
        generalize U72.alloc (.cells #[.string ⟨#[106, 117, 110, 107]⟩, .string N, .string ⟨#[]⟩] 9) = U78
        intro hL D
        refine wpAnyH_ready (rs := [0, 10]) (by kernel_rfl) (by simp) ?_
        refine AllReadyH.cons rfl (fun K hK => ?_) ?_
        · skip
          obtain ⟨y0, y1, u0, u1⟩ := D.zb.facts
          go_simp
          clear y0 y1 u0 u1 hS
          refine hK.out _ _ trivial (fun hS => ?_)
          clear hK K
          try simp only [List.setIfInBounds_toArray, List.set_cons_zero, List.set_cons_succ]
          refine wpAnyH_ready (rs := [10]) (by kernel_rfl) (by simp) ?_
          refine AllReadyH.cons rfl (fun K hK => ?_) AllReadyH.nil
          have i9 : (k9 : Int) < 3 := up9
          go_simp
          clear hS i9
          refine hK.out _ _ trivial (fun hS => ?_)
          clear hK K
          try simp only [List.setIfInBounds_toArray, List.set_cons_zero, List.set_cons_succ]
          refine wpAnyH_ready (rs := [11]) (by kernel_rfl) (by simp) ?_
          refine AllReadyH.cons rfl (fun K hK => ?_) AllReadyH.nil
          obtain ⟨s9, hc9⟩ := three_at hL up9'
          go_simp
          clear hc9 hS
          refine hK.out _ _ trivial (fun hS => ?_)
          clear hK K
          try simp only [List.setIfInBounds_toArray, List.set_cons_zero, List.set_cons_succ]
          refine wpAnyH_ready (rs := [12]) (by kernel_rfl) (by simp) ?_
          refine AllReadyH.cons rfl (fun K hK => ?_) AllReadyH.nil
          go_simp
          refine (spec_lay9 D.oY.rd p2 s9 HIN.out).mono ?_
          rintro e V9 ⟨Z, oo, hee, hiZ, hoZ, hb⟩
          obtain ⟨za, zc, v0⟩ := own_slice hoZ.secs
          obtain ⟨zla, zk, v1⟩ := own_slice hoZ.late
          obtain ⟨zvs, zvl, zss, zps⟩ := Z
          simp only at v0 v1
          obtain ⟨zn, hzn⟩ : ∃ zn, zn = zss.length := ⟨_, rfl⟩
          obtain ⟨zm, hzm⟩ : ∃ zm, zm = zps.length := ⟨_, rfl⟩
          rw [← hzn] at v0
          rw [← hzm] at v1
          subst v0
          subst v1
          clear hzn hzm
          replace hee : e = .returned (.tuple #[.agg #[.slice za zn zc, .slice zla zm zk], .bool oo]) := hee
          subst hee
          have HIZ : Hid (In9 ⟨.slice za zn zc, .slice zla zm zk, zss, zps⟩) := hiZ
          have P := D.put hb za zla zc zk zn zm zss zps hoZ
          obtain ⟨y0, y1, u0, u1⟩ := (D.below hb).zb.facts
          clear hoZ hb hiZ
          refine hK.out _ _ trivial (fun hS => ?_)
          clear hK K
          try simp only [List.setIfInBounds_toArray, List.set_cons_zero, List.set_cons_succ]
          refine tkG 13 28 hS ?_
          try simp only [Act.put, List.setIfInBounds_toArray, List.set_cons_zero, List.set_cons_succ]
          refine tkG 14 42 hS ?_
          try simp only [Act.put, List.setIfInBounds_toArray, List.set_cons_zero, List.set_cons_succ]
          refine tkG 15 43 hS ?_
          try simp only [Act.put, List.setIfInBounds_toArray, List.set_cons_zero, List.set_cons_succ]
          refine wpAnyH_ready (rs := [16]) (by kernel_rfl) (by simp) ?_
          refine AllReadyH.cons rfl (fun K hK => ?_) AllReadyH.nil
          go_simp
          refine hK.out _ _ trivial (fun hS => ?_)
          clear hK K hS y0 y1 u0 u1 D HIN hL
          refine wpAnyH_done (by kernel_rfl) ?_ _
          refine NoPanic.normal ?_
          have HIN := HIZ
          have D := P
          clear HIZ P
          revert D
          generalize (V9.setCell ⟨b3, 0, none⟩ (.slice za zn zc)).setCell ⟨b3, 1, none⟩ (.slice zla zm zk) = Q
          intro D
          obtain ⟨y0, y1, u0, u1⟩ := D.zb.facts
          obtain ⟨m0, m1, n0, n1⟩ := D.zr.facts
          have zz := (D.zr.set0 (u := .slice za zn zc)).set1 (u := .slice zla zm zk)
          obtain ⟨k0, k1, -, -⟩ := zz.facts
          have HF : Hid (Dv9 w0 w g (.returned (.agg #[.slice za zn zc, .slice zla zm zk])) ((Q.setCell ⟨w.heap.size, 0, none⟩ (.slice za zn zc)).setCell ⟨w.heap.size, 1, none⟩ (.slice zla zm zk))) := D.fin HIN.out
          clear zz D HIN
          go_wp2
          exact bodyPost_ret (v := .agg #[.slice za zn zc, .slice zla zm zk]) (by simp [results, Tryz.results51, go_sem, k0, k1]) rfl HF.out
        refine AllReadyH.cons rfl (fun K hK => ?_) AllReadyH.nil
        have i9 : (k9 : Int) < 3 := up9
        go_simp
        clear hS i9
        refine hK.out _ _ trivial (fun hS => ?_)
        clear hK K
        try simp only [List.setIfInBounds_toArray, List.set_cons_zero, List.set_cons_succ]
        refine wpAnyH_ready (rs := [0, 11]) (by kernel_rfl) (by simp) ?_
        refine AllReadyH.cons rfl (fun K hK => ?_) ?_
        · skip
          obtain ⟨y0, y1, u0, u1⟩ := D.zb.facts
          go_simp
          clear y0 y1 u0 u1 hS
          refine hK.out _ _ trivial (fun hS => ?_)
          clear hK K
          try simp only [List.setIfInBounds_toArray, List.set_cons_zero, List.set_cons_succ]
          refine wpAnyH_ready (rs := [11]) (by kernel_rfl) (by simp) ?_
          refine AllReadyH.cons rfl (fun K hK => ?_) AllReadyH.nil
          obtain ⟨s9, hc9⟩ := three_at hL up9'
          go_simp
          clear hc9 hS
          refine hK.out _ _ trivial (fun hS => ?_)
          clear hK K
          try simp only [List.setIfInBounds_toArray, List.set_cons_zero, List.set_cons_succ]
          refine wpAnyH_ready (rs := [12]) (by kernel_rfl) (by simp) ?_
          refine AllReadyH.cons rfl (fun K hK => ?_) AllReadyH.nil
          go_simp
          refine (spec_lay9 D.oY.rd p2 s9 HIN.out).mono ?_
          rintro e V9 ⟨Z, oo, hee, hiZ, hoZ, hb⟩
          obtain ⟨za, zc, v0⟩ := own_slice hoZ.secs
          obtain ⟨zla, zk, v1⟩ := own_slice hoZ.late
          obtain ⟨zvs, zvl, zss, zps⟩ := Z
          simp only at v0 v1
          obtain ⟨zn, hzn⟩ : ∃ zn, zn = zss.length := ⟨_, rfl⟩
          obtain ⟨zm, hzm⟩ : ∃ zm, zm = zps.length := ⟨_, rfl⟩
          rw [← hzn] at v0
          rw [← hzm] at v1
          subst v0
          subst v1
          clear hzn hzm
          replace hee : e = .returned (.tuple #[.agg #[.slice za zn zc, .slice zla zm zk], .bool oo]) := hee
          subst hee
          have HIZ : Hid (In9 ⟨.slice za zn zc, .slice zla zm zk, zss, zps⟩) := hiZ
          have P := D.put hb za zla zc zk zn zm zss zps hoZ
          obtain ⟨y0, y1, u0, u1⟩ := (D.below hb).zb.facts
          clear hoZ hb hiZ
          refine hK.out _ _ trivial (fun hS => ?_)
          clear hK K
          try simp only [List.setIfInBounds_toArray, List.set_cons_zero, List.set_cons_succ]
          refine tkG 13 28 hS ?_
          try simp only [Act.put, List.setIfInBounds_toArray, List.set_cons_zero, List.set_cons_succ]
          refine tkG 14 42 hS ?_
          try simp only [Act.put, List.setIfInBounds_toArray, List.set_cons_zero, List.set_cons_succ]
          refine tkG 15 43 hS ?_
          try simp only [Act.put, List.setIfInBounds_toArray, List.set_cons_zero, List.set_cons_succ]
          refine wpAnyH_ready (rs := [16]) (by kernel_rfl) (by simp) ?_
          refine AllReadyH.cons rfl (fun K hK => ?_) AllReadyH.nil
          go_simp
          refine hK.out _ _ trivial (fun hS => ?_)
          clear hK K hS y0 y1 u0 u1 D HIN hL
          refine wpAnyH_done (by kernel_rfl) ?_ _
          refine NoPanic.normal ?_
          have HIN := HIZ
          have D := P
          clear HIZ P
          revert D
          generalize (V9.setCell ⟨b3, 0, none⟩ (.slice za zn zc)).setCell ⟨b3, 1, none⟩ (.slice zla zm zk) = Q
          intro D
          obtain ⟨y0, y1, u0, u1⟩ := D.zb.facts
          obtain ⟨m0, m1, n0, n1⟩ := D.zr.facts
          have zz := (D.zr.set0 (u := .slice za zn zc)).set1 (u := .slice zla zm zk)
          obtain ⟨k0, k1, -, -⟩ := zz.facts
          have HF : Hid (Dv9 w0 w g (.returned (.agg #[.slice za zn zc, .slice zla zm zk])) ((Q.setCell ⟨w.heap.size, 0, none⟩ (.slice za zn zc)).setCell ⟨w.heap.size, 1, none⟩ (.slice zla zm zk))) := D.fin HIN.out
          clear zz D HIN
          go_wp2
          exact bodyPost_ret (v := .agg #[.slice za zn zc, .slice zla zm zk]) (by simp [results, Tryz.results51, go_sem, k0, k1]) rfl HF.out
        refine AllReadyH.cons rfl (fun K hK => ?_) AllReadyH.nil
        obtain ⟨s9, hc9⟩ := three_at hL up9'
        go_simp
        clear hc9 hS
        refine hK.out _ _ trivial (fun hS => ?_)
        clear hK K
        try simp only [List.setIfInBounds_toArray, List.set_cons_zero, List.set_cons_succ]
        refine wpAnyH_ready (rs := [0]) (by kernel_rfl) (by simp) ?_
        refine AllReadyH.cons rfl (fun K hK => ?_) AllReadyH.nil
        obtain ⟨y0, y1, u0, u1⟩ := D.zb.facts
        go_simp
        clear y0 y1 u0 u1 hS
        refine hK.out _ _ trivial (fun hS => ?_)
        clear hK K
        try simp only [List.setIfInBounds_toArray, List.set_cons_zero, List.set_cons_succ]
        refine wpAnyH_ready (rs := [12]) (by kernel_rfl) (by simp) ?_
        refine AllReadyH.cons rfl (fun K hK => ?_) AllReadyH.nil
        go_simp
        refine (spec_lay9 D.oY.rd p2 s9 HIN.out).mono ?_
        rintro e V9 ⟨Z, oo, hee, hiZ, hoZ, hb⟩
        obtain ⟨za, zc, v0⟩ := own_slice hoZ.secs
        obtain ⟨zla, zk, v1⟩ := own_slice hoZ.late
        obtain ⟨zvs, zvl, zss, zps⟩ := Z
        simp only at v0 v1
        obtain ⟨zn, hzn⟩ : ∃ zn, zn = zss.length := ⟨_, rfl⟩
        obtain ⟨zm, hzm⟩ : ∃ zm, zm = zps.length := ⟨_, rfl⟩
        rw [← hzn] at v0
        rw [← hzm] at v1
        subst v0
        subst v1
        clear hzn hzm
        replace hee : e = .returned (.tuple #[.agg #[.slice za zn zc, .slice zla zm zk], .bool oo]) := hee
        subst hee
        have HIZ : Hid (In9 ⟨.slice za zn zc, .slice zla zm zk, zss, zps⟩) := hiZ
        have P := D.put hb za zla zc zk zn zm zss zps hoZ
        obtain ⟨y0, y1, u0, u1⟩ := (D.below hb).zb.facts
        clear hoZ hb hiZ
        refine hK.out _ _ trivial (fun hS => ?_)
        clear hK K
        try simp only [List.setIfInBounds_toArray, List.set_cons_zero, List.set_cons_succ]
        refine tkG 13 28 hS ?_
        try simp only [Act.put, List.setIfInBounds_toArray, List.set_cons_zero, List.set_cons_succ]
        refine tkG 14 42 hS ?_
        try simp only [Act.put, List.setIfInBounds_toArray, List.set_cons_zero, List.set_cons_succ]
        refine tkG 15 43 hS ?_
        try simp only [Act.put, List.setIfInBounds_toArray, List.set_cons_zero, List.set_cons_succ]
        refine wpAnyH_ready (rs := [16]) (by kernel_rfl) (by simp) ?_
        refine AllReadyH.cons rfl (fun K hK => ?_) AllReadyH.nil
        go_simp
        refine hK.out _ _ trivial (fun hS => ?_)
        clear hK K hS y0 y1 u0 u1 D HIN hL
        refine wpAnyH_done (by kernel_rfl) ?_ _
        refine NoPanic.normal ?_
        have HIN := HIZ
        have D := P
        clear HIZ P
        revert D
        generalize (V9.setCell ⟨b3, 0, none⟩ (.slice za zn zc)).setCell ⟨b3, 1, none⟩ (.slice zla zm zk) = Q
        intro D
        obtain ⟨y0, y1, u0, u1⟩ := D.zb.facts
        obtain ⟨m0, m1, n0, n1⟩ := D.zr.facts
        have zz := (D.zr.set0 (u := .slice za zn zc)).set1 (u := .slice zla zm zk)
        obtain ⟨k0, k1, -, -⟩ := zz.facts
        have HF : Hid (Dv9 w0 w g (.returned (.agg #[.slice za zn zc, .slice zla zm zk])) ((Q.setCell ⟨w.heap.size, 0, none⟩ (.slice za zn zc)).setCell ⟨w.heap.size, 1, none⟩ (.slice zla zm zk))) := D.fin HIN.out
        clear zz D HIN
        go_wp2
        exact bodyPost_ret (v := .agg #[.slice za zn zc, .slice zla zm zk]) (by simp [results, Tryz.results51, go_sem, k0, k1]) rfl HF.out
end Go.Proofs.YtpidmmfjmbinkaaGreatDoor
