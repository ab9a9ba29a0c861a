/- The draws of slots' arguments: DrawSlot, DrawReadSlot, DrawRoot, DrawSwitch, DrawHalfway. -/
import Derived.Test.YtpidmmfjmbinkaaGreatDoorSltDraw2
import Derived.Test.YtpidmmfjmbinkaaGreatDoorBend
import Derived.Deep.DeepCutAuto
-- UNF Gen
namespace Go.Proofs.YtpidmmfjmbinkaaGreatDoor
open Go.RowKit
theorem DCur.bl {w0 w w' : World} {g : Nat} (h : DCur w0 w g) (hb : Below w.heap.size w w') : DCur w0 w' g := h.grow (row := none) (gr_belowD (gr_refl _ _) hb) (fun k hk => by cases hk)
def SltD (w : World) (e : Ending) (w' : World) : Prop := ∃ (n : Int) (u : ByteArray), e = .returned (.tuple #[.int .i64 n, .string u]) ∧ u.size ≤ 400 ∧ Below w.heap.size w w'
set_option maxHeartbeats 8000000 in
set_option maxRecDepth 100000 in
theorem drawSlot_any (v : Value) (bs : List UInt8) (w : World) (hr : Rd w v bs) (hb : bs.length ≤ 4096) :
    Calls Tryz.prog 11 #[v] w fun e w' => SltD w e w' := by
  go_enter Tryz.func11, Tryz.ntmps11
  go_wp2_with fail
  refine (l1New_any v bs w hr hb).mono ?_
  rintro e w1 ⟨g, rfl, dc⟩
  go_wp2_with fail
  refine (l1Below_any w _ g 20 dc (by omega) (by omega)).mono ?_
  rintro e w2 ⟨x, rfl, hx0, hx1, dc2, hg2⟩
  clear hg2 dc
  have hxw : IntKind.i64.wrap (1 + x) = 1 + x := by rw [IntKind.wrap_i64]; omega
  go_wp2_with fail
  refine (l1Once_any w _ g 8 dc2 (by omega) (by omega)).mono ?_
  rintro e w3 ⟨bb, rfl, dc3, hg3⟩
  clear hg3 dc2 hxw
  obtain ⟨X, hX⟩ : ∃ X, X = 1 + x := ⟨_, rfl⟩
  rw [← hX]
  clear hX hx0 hx1
  go_upto_if 12 with fail
  go_cut [5] (fun t5 W => ∃ n : Int, t5 = .int .i64 n ∧ DCur w W g)
  case first =>
    cases bb with
    | false =>
      go_wp2
      go_meet
      case rel => exact ⟨X, rfl, dc3⟩
    | true =>
      have hgl := dc3.lt
      have dc4 := dc3.alloc (.cells #[.int .i64 0, .int .i64 1000000, .int .i64 1000001, .int .i64 (-9223372036854775808)] 2)
      have hrow : (w3.alloc (.cells #[.int .i64 0, .int .i64 1000000, .int .i64 1000001, .int .i64 (-9223372036854775808)] 2)).heap[w3.heap.size]? = some (.cells #[.int .i64 0, .int .i64 1000000, .int .i64 1000001, .int .i64 (-9223372036854775808)] 2 (0, 0)) := heap_alloc_new w3 _
      have hs : w3.heap.size < (w3.alloc (.cells #[.int .i64 0, .int .i64 1000000, .int .i64 1000001, .int .i64 (-9223372036854775808)] 2)).heap.size := by simp
      clear dc3
      go_wp2_with fail
      generalize w3.alloc (.cells #[.int .i64 0, .int .i64 1000000, .int .i64 1000001, .int .i64 (-9223372036854775808)] 2) = W at dc4 hrow hs ⊢
      refine (l1Below_any w _ g 4 dc4 (by omega) (by omega)).mono ?_
      rintro e w5 ⟨y, rfl, hy0, hy1, dc5, hg5⟩
      have hr2 : w5.heap[w3.heap.size]? = some (.cells #[.int .i64 0, .int .i64 1000000, .int .i64 1000001, .int .i64 (-9223372036854775808)] 2 (0, 0)) := (hg5.block _ hs (fun e => by have := Option.some.inj e; omega)).trans hrow
      have c0 : w5.cell? ⟨w3.heap.size, 0, none⟩ = some (.int .i64 0) := by simp [World.cell?, hr2]
      have c1 : w5.cell? ⟨w3.heap.size, 1, none⟩ = some (.int .i64 1000000) := by simp [World.cell?, hr2]
      have c2 : w5.cell? ⟨w3.heap.size, 2, none⟩ = some (.int .i64 1000001) := by simp [World.cell?, hr2]
      have c3 : w5.cell? ⟨w3.heap.size, 3, none⟩ = some (.int .i64 (-9223372036854775808)) := by simp [World.cell?, hr2]
      clear dc4 hrow hr2 hg5 hs
      have hy : y = 0 ∨ y = 1 ∨ y = 2 ∨ y = 3 := by omega
      clear hy0 hy1
      rcases hy with rfl | rfl | rfl | rfl
      all_goals
        go_wp2
        go_meet
        case rel => exact ⟨_, rfl, dc5⟩
  case rest =>
    clear dc3
    obtain ⟨n, rfl, dc⟩ := hcut
    go_wp2_with fail
    refine (l1Once_any w _ g 12 dc (by omega) (by omega)).mono ?_
    rintro e w6 ⟨b2, rfl, dc6, hg6⟩
    clear hg6 dc
    cases b2 with
    | false =>
      go_wp2_with fail
      refine (l1DrawText_any w _ g dc6).mono ?_
      rintro e w7 ⟨t, rfl, ht, dc7, hg7⟩
      have bl := dc7.bel
      clear dc6 dc7 hg7
      go_wp2
      go_ret2
      exact ⟨n, t, rfl, by omega, bl⟩
    | true =>
      go_wp2_with fail
      refine wp_region_noPanic ?_
      refine wp_region_held_drew (S := fun _ => True) (by kernel_rfl) trivial (fun hS => ?_)
      replace dc6 := dc6.bl (Below.refl w6.heap.size w6).drew
      revert dc6
      generalize w6.drew = V
      intro dc
      refine tkG 0 20 hS ?_
      try simp only [Act.put, List.setIfInBounds_toArray, List.set_cons_zero, List.set_cons_succ]
      refine tkG 1 21 hS ?_
      try simp only [Act.put, List.setIfInBounds_toArray, List.set_cons_zero, List.set_cons_succ]
      refine wpAnyH_ready (rs := [2]) (by kernel_rfl) (by simp) ?_
      refine AllReadyH.cons rfl (fun K hK => ?_) AllReadyH.nil
      go_simp
      refine (l1Below_any w _ g 2 dc (by omega) (by omega)).mono ?_
      rintro e V1 ⟨z, rfl, hz0, hz1, dc1, hg1⟩
      clear hg1 dc hS
      obtain ⟨j3, rfl⟩ := Int.eq_ofNat_of_zero_le hz0
      refine hK.out _ _ trivial (fun hS => ?_)
      clear hK K
      try simp only [List.setIfInBounds_toArray, List.set_cons_zero, List.set_cons_succ]
      have hxw : IntKind.i64.wrap (300 + (j3 : Int)) = 300 + (j3 : Int) := by rw [IntKind.wrap_i64]; omega
      refine tkG 3 23 hS ?_
      try simp only [Act.put, List.setIfInBounds_toArray, List.set_cons_zero, List.set_cons_succ]
      refine tkG 6 2 hS ?_
      try simp only [Act.put, List.setIfInBounds_toArray, List.set_cons_zero, List.set_cons_succ]
      refine wpAnyH_ready (rs := [4]) (by kernel_rfl) (by simp) ?_
      refine AllReadyH.cons rfl (fun K hK => ?_) AllReadyH.nil
      refine step_makeD rfl 24 rfl _ _ rfl (300 + j3) _ (by omega) rfl rfl (by omega) w.heap.size dc1.bel.size ?_
      intro bM V5 qM hb5
      replace dc1 := dc1.bl hb5
      clear hb5 hS
      refine hK.out _ _ trivial (fun hS => ?_)
      clear hK K
      try simp only [Act.put, List.setIfInBounds_toArray, List.set_cons_zero, List.set_cons_succ]
      obtain ⟨sV, hsV⟩ : ∃ sV : ByteArray, sV = ⟨(List.replicate (300 + j3) (0 : UInt8)).toArray⟩ := ⟨_, rfl⟩
      have hcv : (convert 22 9 (.slice (some ⟨bM, 0, none⟩) (300 + j3) (300 + j3))).run Tryz.prog V5 = .ok (.string sV) V5 := by rw [hsV]; exact conv_own qM
      have hsz : sV.size ≤ 400 := by
        rw [hsV]
        show (List.replicate (300 + j3) (0 : UInt8)).toArray.size ≤ 400
        simp
        omega
      clear hsV qM
      refine wpAnyH_ready (rs := [5]) (by kernel_rfl) (by simp) ?_
      refine AllReadyH.cons rfl (fun K hK => ?_) AllReadyH.nil
      go_simp
      clear hcv hS
      refine hK.out _ _ trivial (fun hS => ?_)
      clear hK K
      try simp only [List.setIfInBounds_toArray, List.set_cons_zero, List.set_cons_succ]
      refine tkG 7 3 hS ?_
      try simp only [Act.put, List.setIfInBounds_toArray, List.set_cons_zero, List.set_cons_succ]
      refine wpAnyH_done (by kernel_rfl) ?_ _
      refine NoPanic.normal ?_
      have bl := dc1.bel
      clear dc1
      go_wp2
      go_ret2
      exact ⟨n, sV, rfl, hsz, bl⟩
set_option maxHeartbeats 4000000 in
set_option maxRecDepth 100000 in
theorem drawReadSlot_any (v : Value) (bs : List UInt8) (w : World) (hr : Rd w v bs) (hb : bs.length ≤ 4096) :
    Calls Tryz.prog 13 #[v] w fun e w' => ∃ s : ByteArray, e = .returned (.string s) ∧ s.size ≤ 1000 ∧ Below w.heap.size w w' := by
  go_enter Tryz.func13, Tryz.ntmps13
  go_wp2_with fail
  refine (l1New_any v bs w hr hb).mono ?_
  rintro e w1 ⟨g, rfl, dc⟩
  go_wp2_with fail
  refine (drawSlot_any v bs _ (hr.below dc.bel) hb).mono ?_
  rintro e w2 ⟨n, u, rfl, hu, hb2⟩
  have dc2 := dc.bl hb2
  clear dc hb2
  go_wp2_with fail
  refine (specSlot_any n u _ (by omega)).mono ?_
  have hsz := slotS_size n u
  generalize slotS n u = N at hsz ⊢
  rintro e w3 ⟨rfl, hb3⟩
  have dc3 := dc2.bl hb3
  clear dc2 hb3
  go_wp2_with fail
  refine (l1Once_any w _ g 2 dc3 (by omega) (by omega)).mono ?_
  rintro e w4 ⟨bb, rfl, dc4, hg4⟩
  clear hg4 dc3
  cases bb with
  | false =>
    have bl := dc4.bel
    clear dc4
    go_wp2
    go_ret
    exact ⟨N, rfl, by omega, bl⟩
  | true =>
    go_wp2_with fail
    refine (l1Bend_any w _ g N ⟨#[48, 49, 32, 57, 97]⟩ dc4 (by omega) (by decide) (by decide)).mono ?_
    rintro e w5 ⟨t, rfl, ht, dc5, hg5⟩
    have bl := dc5.bel
    clear dc4 dc5 hg5
    go_wp2
    go_ret
    exact ⟨t, rfl, by omega, bl⟩
/-- What stands while a device and a text are drawn. -/
structure DT (W0 w V : World) (g B b5 : Nat) (Y : DvX) : Prop where
  zr : BoxDv V w.heap.size (.slice none 0 0) (.slice none 0 0)
  zb : BoxDv V b5 Y.vs Y.vl
  oY : OwnDv V B Y
  dc : DCur W0 V g
  bw : Below w.heap.size w V
  h1 : w.heap.size < g
  h2 : g < B
  h3 : B ≤ b5
theorem DT.grown {W0 w V V1 : World} {g B b5 : Nat} {Y : DvX} (D : DT W0 w V g B b5 Y) (dc1 : DCur W0 V1 g) (h : V.grownBy V1 (some g)) : DT W0 w V1 g B b5 Y := by
  have h1 := D.h1
  have h2 := D.h2
  have h3 := D.h3
  exact ⟨D.zr.of_block (h.block w.heap.size D.zr.lt (fun e => by have := Option.some.inj e; omega)), D.zb.of_block (h.block b5 D.zb.lt (fun e => by have := Option.some.inj e; omega)),
    ⟨row_kept D.oY.secs h (fun k hk e => by have := (World.ownsRow.lt D.oY.secs k hk).1; have := Option.some.inj e; omega), row_kept D.oY.late h (fun k hk e => by have := (World.ownsRow.lt D.oY.late k hk).1; have := Option.some.inj e; omega)⟩,
    dc1, D.bw.grown h D.bw.size (fun k hk => by have := Option.some.inj hk; omega), h1, h2, h3⟩
theorem DT.below {W0 w V V1 : World} {g B b5 : Nat} {Y : DvX} (D : DT W0 w V g B b5 Y) (h : Below V.heap.size V V1) : DT W0 w V1 g B b5 Y :=
  ⟨D.zr.below h, D.zb.below h, D.oY.below h, D.dc.bl h, D.bw.trans (h.mono D.bw.size), D.h1, D.h2, D.h3⟩
def SwD (w : World) (e : Ending) (w' : World) : Prop := ∃ (Y : DvX) (t : ByteArray), e = .returned (.tuple #[.agg #[Y.vs, Y.vl], .string t]) ∧ t.size ≤ 400 ∧ OwnDv w' w.heap.size Y ∧ Below w.heap.size w w'
def HwD (w : World) (e : Ending) (w' : World) : Prop := ∃ (Y : DvX) (t : ByteArray) (k : Bool), e = .returned (.tuple #[.agg #[Y.vs, Y.vl], .string t, .bool k]) ∧ t.size ≤ 400 ∧ OwnDv w' w.heap.size Y ∧ Below w.heap.size w w'
/-- The device is put into the result's box. -/
theorem DT.fin {W0 w V : World} {g B b5 : Nat} {Y : DvX} (D : DT W0 w V g B b5 Y) (u0 u1 : Value) : OwnDv ((V.setCell ⟨w.heap.size, 0, none⟩ u0).setCell ⟨w.heap.size, 1, none⟩ u1) w.heap.size Y ∧ Below w.heap.size w ((V.setCell ⟨w.heap.size, 0, none⟩ u0).setCell ⟨w.heap.size, 1, none⟩ u1) := by
  have h1 := D.h1
  have h2 := D.h2
  exact ⟨(own_put D.oY (by omega) _ _).mono (by omega), (D.bw.setCell (p := ⟨w.heap.size, 0, none⟩) (by simp) _).setCell (p := ⟨w.heap.size, 1, none⟩) (by simp) _⟩
structure DU (w V : World) (b5 : Nat) (Y : DvX) : Prop where
  zr : BoxDv V w.heap.size Y.vs Y.vl
  zb : BoxDv V b5 Y.vs Y.vl
  oY : OwnDv V w.heap.size Y
  bw : Below w.heap.size w V
theorem DU.lt {w V : World} {b5 : Nat} {Y : DvX} (U : DU w V b5 Y) : w.heap.size + 1 ≤ V.heap.size := U.zr.lt
theorem DU.below {w V V1 : World} {b5 : Nat} {Y : DvX} (U : DU w V b5 Y) (h : Below V.heap.size V V1) : DU w V1 b5 Y :=
  ⟨U.zr.below h, U.zb.below h, U.oY.below h, U.bw.trans (h.mono U.bw.size)⟩
theorem DT.lt {W0 w V : World} {g B b5 : Nat} {Y : DvX} (D : DT W0 w V g B b5 Y) : w.heap.size + 1 ≤ V.heap.size := D.zr.lt
theorem DT.put {W0 w V : World} {g B b5 : Nat} {Y : DvX} (D : DT W0 w V g B b5 Y) (hn : w.heap.size ≠ b5) : DU w ((V.setCell ⟨w.heap.size, 0, none⟩ Y.vs).setCell ⟨w.heap.size, 1, none⟩ Y.vl) b5 Y :=
  ⟨(D.zr.set0 (u := Y.vs)).set1 (u := Y.vl), D.zb.of_block ((block_set hn).trans (block_set hn)), (D.fin _ _).1, (D.fin _ _).2⟩
set_option maxHeartbeats 4000000 in
set_option maxRecDepth 100000 in
theorem drawRoot_any (v : Value) (bs : List UInt8) (w : World) (hr : Rd w v bs) (hb : bs.length ≤ 4096) :
    Calls Tryz.prog 9 #[v] w fun e w' => ∃ Y : DvX, e = .returned (.agg #[Y.vs, Y.vl]) ∧ OwnDv w' w.heap.size Y ∧ Below w.heap.size w w' := by
  have zr := boxDv_new w (.slice none 0 0) (.slice none 0 0)
  have b0 := below1 w (.cells #[.slice none 0 0, .slice none 0 0] 27)
  have s0 : (w.alloc (.cells #[.slice none 0 0, .slice none 0 0] 27)).heap.size = w.heap.size + 1 := by simp
  go_enter Tryz.func9, Tryz.ntmps9
  go_wp2_with fail
  generalize w.alloc (.cells #[.slice none 0 0, .slice none 0 0] 27) = W0 at zr b0 s0 ⊢
  refine (l1New_any v bs W0 (hr.below b0) hb).mono ?_
  rintro e w1 ⟨g, rfl, dc⟩
  have hge := dc.ge
  have hgl := dc.lt
  have bw1 : Below w.heap.size w w1 := b0.trans (dc.bel.mono (by omega))
  replace zr := zr.of_block (dc.bel.block w.heap.size zr.lt)
  go_wp2_with fail
  refine (l9DrawAny_any W0 _ g dc).mono ?_
  rintro e w2 ⟨Y, hee, oY, dc2, hg2⟩
  replace zr := zr.of_block (hg2.block w.heap.size zr.lt (fun e => by have := Option.some.inj e; omega))
  have bw2 : Below w.heap.size w w2 := bw1.grown hg2 (by omega) (fun k hk => by have := Option.some.inj hk; omega)
  clear hg2 dc bw1
  obtain ⟨va, vc, hv1⟩ := own_slice oY.secs
  obtain ⟨la, lc, hv2⟩ := own_slice oY.late
  obtain ⟨vs1, vl1, secs, late⟩ := Y
  simp only at hv1 hv2
  generalize secs.length = sn at hv1
  generalize late.length = ln at hv2
  subst hv1
  subst hv2
  replace hee : e = .returned (.agg #[.slice va sn vc, .slice la ln lc]) := hee
  subst hee
  obtain ⟨m0, m1, n0, n1⟩ := zr.facts
  have zz := (zr.set0 (u := .slice va sn vc)).set1 (u := .slice la ln lc)
  obtain ⟨k0, k1, -, -⟩ := zz.facts
  have HF : Hid (∃ Y : DvX, Ending.returned (.agg #[.slice va sn vc, .slice la ln lc]) = .returned (.agg #[Y.vs, Y.vl]) ∧ OwnDv ((w2.setCell ⟨w.heap.size, 0, none⟩ (.slice va sn vc)).setCell ⟨w.heap.size, 1, none⟩ (.slice la ln lc)) w.heap.size Y ∧ Below w.heap.size w ((w2.setCell ⟨w.heap.size, 0, none⟩ (.slice va sn vc)).setCell ⟨w.heap.size, 1, none⟩ (.slice la ln lc))) :=
    ⟨⟨.slice va sn vc, .slice la ln lc, secs, late⟩, rfl, (own_put oY (by omega) _ _).mono (by omega), (bw2.setCell (p := ⟨w.heap.size, 0, none⟩) (by simp) _).setCell (p := ⟨w.heap.size, 1, none⟩) (by simp) _⟩
  clear zz zr oY dc2 bw2
  go_wp2
  exact bodyPost_ret (v := .agg #[.slice va sn vc, .slice la ln lc]) (by simp [results, Tryz.results9, go_sem, k0, k1]) rfl HF.out
set_option maxHeartbeats 8000000 in
set_option maxRecDepth 100000 in
theorem drawSwitch_any (v : Value) (bs : List UInt8) (w : World) (hr : Rd w v bs) (hb : bs.length ≤ 4096) :
    Calls Tryz.prog 5 #[v] w fun e w' => SwD w e w' := by
  have zr := boxDv_new w (.slice none 0 0) (.slice none 0 0)
  have b0 := below1 w (.cells #[.slice none 0 0, .slice none 0 0] 27)
  have s0 : (w.alloc (.cells #[.slice none 0 0, .slice none 0 0] 27)).heap.size = w.heap.size + 1 := by simp
  go_enter Tryz.func5, Tryz.ntmps5
  go_wp2_with fail
  generalize w.alloc (.cells #[.slice none 0 0, .slice none 0 0] 27) = W0 at zr b0 s0 ⊢
  refine (l1New_any v bs W0 (hr.below b0) hb).mono ?_
  rintro e w1 ⟨g, rfl, dc⟩
  have hge := dc.ge
  have hgl := dc.lt
  have bw1 : Below w.heap.size w w1 := b0.trans (dc.bel.mono (by omega))
  replace zr := zr.of_block (dc.bel.block w.heap.size zr.lt)
  go_wp2_with fail
  refine (l9DrawAny_any W0 _ g dc).mono ?_
  rintro e w2 ⟨Y, hee, oY, dc2, hg2⟩
  replace zr := zr.of_block (hg2.block w.heap.size zr.lt (fun e => by have := Option.some.inj e; omega))
  have bw2 : Below w.heap.size w w2 := bw1.grown hg2 (by omega) (fun k hk => by have := Option.some.inj hk; omega)
  have s2 := hg2.size
  clear hg2 dc bw1
  obtain ⟨va, vc, hv1⟩ := own_slice oY.secs
  obtain ⟨la, lc, hv2⟩ := own_slice oY.late
  obtain ⟨vs1, vl1, secs, late⟩ := Y
  simp only at hv1 hv2
  generalize secs.length = sn at hv1
  generalize late.length = ln at hv2
  subst hv1
  subst hv2
  replace hee : e = .returned (.agg #[.slice va sn vc, .slice la ln lc]) := hee
  subst hee
  have d1 := below1 w2 (.cells #[.slice va sn vc, .slice la ln lc] 27)
  have D3 : DT W0 w (w2.alloc (.cells #[.slice va sn vc, .slice la ln lc] 27)) g w1.heap.size w2.heap.size ⟨.slice va sn vc, .slice la ln lc, secs, late⟩ :=
    ⟨zr.below d1, boxDv_new w2 _ _, oY.below d1, dc2.bl d1, bw2.trans (d1.mono bw2.size), by omega, hgl, s2⟩
  clear zr oY dc2 bw2 d1
  go_wp2_with fail
  generalize w2.alloc (.cells #[.slice va sn vc, .slice la ln lc] 27) = W3 at D3 ⊢
  generalize w2.heap.size = b5 at D3 s2 ⊢
  refine (l1Once_any W0 _ g 14 D3.dc (by omega) (by omega)).mono ?_
  rintro e w4 ⟨bb, rfl, dc4, hg4⟩
  have D := D3.grown dc4 hg4
  clear D3 dc4 hg4
  have HB5 : Hid (w.heap.size ≠ b5) := by unfold Hid; omega
  cases bb with
  | true =>
    go_wp2_with fail
    refine wp_region_noPanic ?_
    refine wp_region_held_drew (S := fun W => W.cell? ⟨b5, 0, none⟩ = some (.slice va sn vc) ∧ W.cell? ⟨b5, 1, none⟩ = some (.slice la ln lc)) (by kernel_rfl) ⟨D.zb.facts.1, D.zb.facts.2.1⟩ (fun hS => ?_)
    replace D := D.below (Below.refl w4.heap.size w4).drew
    revert hS D
    generalize w4.drew = V
    intro hS D
    refine tkG 0 12 hS ?_
    try simp only [Act.put, List.setIfInBounds_toArray, List.set_cons_zero, List.set_cons_succ]
    refine tkG 1 13 hS ?_
    try simp only [Act.put, List.setIfInBounds_toArray, List.set_cons_zero, List.set_cons_succ]
    refine wpAnyH_ready (rs := [2]) (by kernel_rfl) (by simp) ?_
    refine AllReadyH.cons rfl (fun K hK => ?_) AllReadyH.nil
    go_simp
    refine (l1Below_any W0 _ g 2 D.dc (by omega) (by omega)).mono ?_
    rintro e V1 ⟨z, rfl, hz0, hz1, dc1, hg1⟩
    replace D := D.grown dc1 hg1
    clear hg1 dc1 hS
    obtain ⟨j3, rfl⟩ := Int.eq_ofNat_of_zero_le hz0
    refine hK.out _ _ ⟨D.zb.facts.1, D.zb.facts.2.1⟩ (fun hS => ?_)
    clear hK K
    try simp only [List.setIfInBounds_toArray, List.set_cons_zero, List.set_cons_succ]
    have hxw : IntKind.i64.wrap (300 + (j3 : Int)) = 300 + (j3 : Int) := by rw [IntKind.wrap_i64]; omega
    refine tkG 3 15 hS ?_
    try simp only [Act.put, List.setIfInBounds_toArray, List.set_cons_zero, List.set_cons_succ]
    refine wpAnyH_ready (rs := [4, 6]) (by kernel_rfl) (by simp) ?_
    refine AllReadyH.cons rfl (fun K hK => ?_) (AllReadyH.cons rfl (fun K hK => ?_) (AllReadyH.nil))
    · skip
      refine step_makeD rfl 16 rfl _ _ rfl (300 + j3) _ (by omega) rfl rfl (by omega) (w.heap.size + 1) D.lt ?_
      intro bM V5 qM hb5
      replace D := D.below hb5
      clear hb5 hS
      refine hK.out _ _ ⟨D.zb.facts.1, D.zb.facts.2.1⟩ (fun hS => ?_)
      clear hK K
      try simp only [Act.put, List.setIfInBounds_toArray, List.set_cons_zero, List.set_cons_succ]
      refine wpAnyH_ready (rs := [5, 6]) (by kernel_rfl) (by simp) ?_
      refine AllReadyH.cons rfl (fun K hK => ?_) (AllReadyH.cons rfl (fun K hK => ?_) (AllReadyH.nil))
      · skip
        obtain ⟨sV, hsV⟩ : ∃ sV : ByteArray, sV = ⟨(List.replicate (300 + j3) (0 : UInt8)).toArray⟩ := ⟨_, rfl⟩
        have hcv : (convert 22 9 (.slice (some ⟨bM, 0, none⟩) (300 + j3) (300 + j3))).run Tryz.prog V5 = .ok (.string sV) V5 := by rw [hsV]; exact conv_own qM
        have hsz : sV.size ≤ 400 := by
          rw [hsV]
          show (List.replicate (300 + j3) (0 : UInt8)).toArray.size ≤ 400
          simp
          omega
        clear hsV qM
        go_simp
        clear hcv hS
        refine hK.out _ _ ⟨D.zb.facts.1, D.zb.facts.2.1⟩ (fun hS => ?_)
        clear hK K
        try simp only [Act.put, List.setIfInBounds_toArray, List.set_cons_zero, List.set_cons_succ]
        refine wpAnyH_ready (rs := [6]) (by kernel_rfl) (by simp) ?_
        refine AllReadyH.cons rfl (fun K hK => ?_) (AllReadyH.nil)
        obtain ⟨m0, m1, n0, n1⟩ := D.zr.facts
        have zz := (D.zr.set0 (u := .slice va sn vc)).set1 (u := .slice la ln lc)
        obtain ⟨k0, k1, -, -⟩ := zz.facts
        have U := D.put HB5.out
        go_simp
        clear hS D zz m0 m1 n0 n1 k0 k1
        refine hK.out _ _ ⟨U.zb.facts.1, U.zb.facts.2.1⟩ (fun hS => ?_)
        clear hK K
        try simp only [Act.put, List.setIfInBounds_toArray, List.set_cons_zero, List.set_cons_succ]
        revert hS U
        generalize (V5.setCell ⟨w.heap.size, 0, none⟩ (.slice va sn vc)).setCell ⟨w.heap.size, 1, none⟩ (.slice la ln lc) = V6
        intro U hS
        refine tkG 7 3 hS ?_
        try simp only [Act.put, List.setIfInBounds_toArray, List.set_cons_zero, List.set_cons_succ]
        refine wpAnyH_done (by kernel_rfl) ?_ _
        refine NoPanic.normal ?_
        obtain ⟨k0, k1, -, -⟩ := U.zr.facts
        have HF : Hid (SwD w (.returned (.tuple #[.agg #[.slice va sn vc, .slice la ln lc], .string sV])) V6) := ⟨⟨.slice va sn vc, .slice la ln lc, secs, late⟩, sV, rfl, hsz, U.oY, U.bw⟩
        clear U hS
        go_wp2
        exact bodyPost_ret (v := .tuple #[.agg #[.slice va sn vc, .slice la ln lc], .string sV]) (by simp [results, Tryz.results5, go_sem, k0, k1]) rfl HF.out
      · skip
        obtain ⟨m0, m1, n0, n1⟩ := D.zr.facts
        have zz := (D.zr.set0 (u := .slice va sn vc)).set1 (u := .slice la ln lc)
        obtain ⟨k0, k1, -, -⟩ := zz.facts
        have qM2 : Own ((V5.setCell ⟨w.heap.size, 0, none⟩ (.slice va sn vc)).setCell ⟨w.heap.size, 1, none⟩ (.slice la ln lc)) (w.heap.size + 1) (.slice (some ⟨bM, 0, none⟩) (300 + j3) (300 + j3)) (List.replicate (300 + j3) 0) := row_base (row_base qM (by omega)) (by omega)
        clear qM
        have U := D.put HB5.out
        go_simp
        clear hS D zz m0 m1 n0 n1 k0 k1
        refine hK.out _ _ ⟨U.zb.facts.1, U.zb.facts.2.1⟩ (fun hS => ?_)
        clear hK K
        try simp only [Act.put, List.setIfInBounds_toArray, List.set_cons_zero, List.set_cons_succ]
        revert hS U qM2
        generalize (V5.setCell ⟨w.heap.size, 0, none⟩ (.slice va sn vc)).setCell ⟨w.heap.size, 1, none⟩ (.slice la ln lc) = V6
        intro qM U hS
        refine wpAnyH_ready (rs := [5]) (by kernel_rfl) (by simp) ?_
        refine AllReadyH.cons rfl (fun K hK => ?_) (AllReadyH.nil)
        obtain ⟨sV, hsV⟩ : ∃ sV : ByteArray, sV = ⟨(List.replicate (300 + j3) (0 : UInt8)).toArray⟩ := ⟨_, rfl⟩
        have hcv : (convert 22 9 (.slice (some ⟨bM, 0, none⟩) (300 + j3) (300 + j3))).run Tryz.prog V6 = .ok (.string sV) V6 := by rw [hsV]; exact conv_own qM
        have hsz : sV.size ≤ 400 := by
          rw [hsV]
          show (List.replicate (300 + j3) (0 : UInt8)).toArray.size ≤ 400
          simp
          omega
        clear hsV qM
        go_simp
        clear hcv hS
        refine hK.out _ _ ⟨U.zb.facts.1, U.zb.facts.2.1⟩ (fun hS => ?_)
        clear hK K
        try simp only [Act.put, List.setIfInBounds_toArray, List.set_cons_zero, List.set_cons_succ]
        refine tkG 7 3 hS ?_
        try simp only [Act.put, List.setIfInBounds_toArray, List.set_cons_zero, List.set_cons_succ]
        refine wpAnyH_done (by kernel_rfl) ?_ _
        refine NoPanic.normal ?_
        obtain ⟨k0, k1, -, -⟩ := U.zr.facts
        have HF : Hid (SwD w (.returned (.tuple #[.agg #[.slice va sn vc, .slice la ln lc], .string sV])) V6) := ⟨⟨.slice va sn vc, .slice la ln lc, secs, late⟩, sV, rfl, hsz, U.oY, U.bw⟩
        clear U hS
        go_wp2
        exact bodyPost_ret (v := .tuple #[.agg #[.slice va sn vc, .slice la ln lc], .string sV]) (by simp [results, Tryz.results5, go_sem, k0, k1]) rfl HF.out
    · skip
      obtain ⟨m0, m1, n0, n1⟩ := D.zr.facts
      have zz := (D.zr.set0 (u := .slice va sn vc)).set1 (u := .slice la ln lc)
      obtain ⟨k0, k1, -, -⟩ := zz.facts
      have U := D.put HB5.out
      go_simp
      clear hS D zz m0 m1 n0 n1 k0 k1
      refine hK.out _ _ ⟨U.zb.facts.1, U.zb.facts.2.1⟩ (fun hS => ?_)
      clear hK K
      try simp only [Act.put, List.setIfInBounds_toArray, List.set_cons_zero, List.set_cons_succ]
      revert hS U
      generalize (V1.setCell ⟨w.heap.size, 0, none⟩ (.slice va sn vc)).setCell ⟨w.heap.size, 1, none⟩ (.slice la ln lc) = V6
      intro U hS
      refine wpAnyH_ready (rs := [4]) (by kernel_rfl) (by simp) ?_
      refine AllReadyH.cons rfl (fun K hK => ?_) (AllReadyH.nil)
      refine step_makeD rfl 16 rfl _ _ rfl (300 + j3) _ (by omega) rfl rfl (by omega) (w.heap.size + 1) U.lt ?_
      intro bM V5 qM hb5
      replace U := U.below hb5
      clear hb5 hS
      refine hK.out _ _ ⟨U.zb.facts.1, U.zb.facts.2.1⟩ (fun hS => ?_)
      clear hK K
      try simp only [Act.put, List.setIfInBounds_toArray, List.set_cons_zero, List.set_cons_succ]
      refine wpAnyH_ready (rs := [5]) (by kernel_rfl) (by simp) ?_
      refine AllReadyH.cons rfl (fun K hK => ?_) (AllReadyH.nil)
      obtain ⟨sV, hsV⟩ : ∃ sV : ByteArray, sV = ⟨(List.replicate (300 + j3) (0 : UInt8)).toArray⟩ := ⟨_, rfl⟩
      have hcv : (convert 22 9 (.slice (some ⟨bM, 0, none⟩) (300 + j3) (300 + j3))).run Tryz.prog V5 = .ok (.string sV) V5 := by rw [hsV]; exact conv_own qM
      have hsz : sV.size ≤ 400 := by
        rw [hsV]
        show (List.replicate (300 + j3) (0 : UInt8)).toArray.size ≤ 400
        simp
        omega
      clear hsV qM
      go_simp
      clear hcv hS
      refine hK.out _ _ ⟨U.zb.facts.1, U.zb.facts.2.1⟩ (fun hS => ?_)
      clear hK K
      try simp only [Act.put, List.setIfInBounds_toArray, List.set_cons_zero, List.set_cons_succ]
      refine tkG 7 3 hS ?_
      try simp only [Act.put, List.setIfInBounds_toArray, List.set_cons_zero, List.set_cons_succ]
      refine wpAnyH_done (by kernel_rfl) ?_ _
      refine NoPanic.normal ?_
      obtain ⟨k0, k1, -, -⟩ := U.zr.facts
      have HF : Hid (SwD w (.returned (.tuple #[.agg #[.slice va sn vc, .slice la ln lc], .string sV])) V5) := ⟨⟨.slice va sn vc, .slice la ln lc, secs, late⟩, sV, rfl, hsz, U.oY, U.bw⟩
      clear U hS
      go_wp2
      exact bodyPost_ret (v := .tuple #[.agg #[.slice va sn vc, .slice la ln lc], .string sV]) (by simp [results, Tryz.results5, go_sem, k0, k1]) rfl HF.out
  | false =>
    go_wp2_with fail
    refine wp_region_noPanic ?_
    refine wp_region_held_drew (S := fun W => W.cell? ⟨b5, 0, none⟩ = some (.slice va sn vc) ∧ W.cell? ⟨b5, 1, none⟩ = some (.slice la ln lc)) (by kernel_rfl) ⟨D.zb.facts.1, D.zb.facts.2.1⟩ (fun hS => ?_)
    replace D := D.below (Below.refl w4.heap.size w4).drew
    revert hS D
    generalize w4.drew = V
    intro hS D
    refine tkG 0 18 hS ?_
    try simp only [Act.put, List.setIfInBounds_toArray, List.set_cons_zero, List.set_cons_succ]
    refine tkG 1 19 hS ?_
    try simp only [Act.put, List.setIfInBounds_toArray, List.set_cons_zero, List.set_cons_succ]
    refine wpAnyH_ready (rs := [2]) (by kernel_rfl) (by simp) ?_
    refine AllReadyH.cons rfl (fun K hK => ?_) AllReadyH.nil
    go_simp
    refine (l1DrawText_any W0 _ g D.dc).mono ?_
    rintro e V1 ⟨t, rfl, ht, dc1, hg1⟩
    replace D := D.grown dc1 hg1
    clear hg1 dc1 hS
    refine hK.out _ _ ⟨D.zb.facts.1, D.zb.facts.2.1⟩ (fun hS => ?_)
    clear hK K
    try simp only [List.setIfInBounds_toArray, List.set_cons_zero, List.set_cons_succ]
    obtain ⟨m0, m1, n0, n1⟩ := D.zr.facts
    have zz := (D.zr.set0 (u := .slice va sn vc)).set1 (u := .slice la ln lc)
    obtain ⟨k0, k1, -, -⟩ := zz.facts
    have zbP : BoxDv ((V1.setCell ⟨w.heap.size, 0, none⟩ (.slice va sn vc)).setCell ⟨w.heap.size, 1, none⟩ (.slice la ln lc)) b5 (.slice va sn vc) (.slice la ln lc) := D.zb.of_block ((block_set HB5.out).trans (block_set HB5.out))
    have HF : Hid (SwD w (.returned (.tuple #[.agg #[.slice va sn vc, .slice la ln lc], .string t])) ((V1.setCell ⟨w.heap.size, 0, none⟩ (.slice va sn vc)).setCell ⟨w.heap.size, 1, none⟩ (.slice la ln lc))) := ⟨⟨.slice va sn vc, .slice la ln lc, secs, late⟩, t, rfl, by omega, (D.fin _ _).1, (D.fin _ _).2⟩
    refine wpAnyH_ready (rs := [3]) (by kernel_rfl) (by simp) ?_
    refine AllReadyH.cons rfl (fun K hK => ?_) AllReadyH.nil
    go_simp
    clear hS
    refine hK.out _ _ ⟨zbP.facts.1, zbP.facts.2.1⟩ (fun hS => ?_)
    clear hK K
    try simp only [List.setIfInBounds_toArray, List.set_cons_zero, List.set_cons_succ]
    refine tkG 4 3 hS ?_
    try simp only [Act.put, List.setIfInBounds_toArray, List.set_cons_zero, List.set_cons_succ]
    refine wpAnyH_done (by kernel_rfl) ?_ _
    refine NoPanic.normal ?_
    clear zz D zbP
    go_wp2
    exact bodyPost_ret (v := .tuple #[.agg #[.slice va sn vc, .slice la ln lc], .string t]) (by simp [results, Tryz.results5, go_sem, k0, k1]) rfl HF.out
set_option maxHeartbeats 8000000 in
set_option maxRecDepth 100000 in
theorem drawHalfway_any (v : Value) (bs : List UInt8) (w : World) (hr : Rd w v bs) (hb : bs.length ≤ 4096) :
    Calls Tryz.prog 7 #[v] w fun e w' => HwD w e w' := by
  have zr := boxDv_new w (.slice none 0 0) (.slice none 0 0)
  have b0 := below1 w (.cells #[.slice none 0 0, .slice none 0 0] 27)
  have s0 : (w.alloc (.cells #[.slice none 0 0, .slice none 0 0] 27)).heap.size = w.heap.size + 1 := by simp
  go_enter Tryz.func7, Tryz.ntmps7
  go_wp2_with fail
  generalize w.alloc (.cells #[.slice none 0 0, .slice none 0 0] 27) = W0 at zr b0 s0 ⊢
  refine (l1New_any v bs W0 (hr.below b0) hb).mono ?_
  rintro e w1 ⟨g, rfl, dc⟩
  have hge := dc.ge
  have hgl := dc.lt
  have bw1 : Below w.heap.size w w1 := b0.trans (dc.bel.mono (by omega))
  replace zr := zr.of_block (dc.bel.block w.heap.size zr.lt)
  go_wp2_with fail
  refine (drawSwitch_any v bs _ (hr.below bw1) hb).mono ?_
  rintro e w2 ⟨Y, t, hee, ht, oY, hb2⟩
  replace zr := zr.below hb2
  have dc2 := dc.bl hb2
  have bw2 := bw1.trans (hb2.mono bw1.size)
  have s2 := hb2.size
  clear hb2 dc bw1
  obtain ⟨va, vc, hv1⟩ := own_slice oY.secs
  obtain ⟨la, lc, hv2⟩ := own_slice oY.late
  obtain ⟨vs1, vl1, secs, late⟩ := Y
  simp only at hv1 hv2
  generalize secs.length = sn at hv1
  generalize late.length = ln at hv2
  subst hv1
  subst hv2
  replace hee : e = .returned (.tuple #[.agg #[.slice va sn vc, .slice la ln lc], .string t]) := hee
  subst hee
  have d1 := below1 w2 (.cells #[.slice va sn vc, .slice la ln lc] 27)
  have D : DT W0 w (w2.alloc (.cells #[.slice va sn vc, .slice la ln lc] 27)) g w1.heap.size w2.heap.size ⟨.slice va sn vc, .slice la ln lc, secs, late⟩ :=
    ⟨zr.below d1, boxDv_new w2 _ _, oY.below d1, dc2.bl d1, bw2.trans (d1.mono bw2.size), by omega, hgl, s2⟩
  clear zr oY dc2 bw2 d1
  go_wp2_with fail
  generalize w2.alloc (.cells #[.slice va sn vc, .slice la ln lc] 27) = w4 at D ⊢
  generalize w2.heap.size = b5 at D s2 ⊢
  have HB5 : Hid (w.heap.size ≠ b5) := by unfold Hid; omega
  refine wp_region_noPanic ?_
  refine wp_region_held_drew (S := fun W => W.cell? ⟨b5, 0, none⟩ = some (.slice va sn vc) ∧ W.cell? ⟨b5, 1, none⟩ = some (.slice la ln lc)) (by kernel_rfl) ⟨D.zb.facts.1, D.zb.facts.2.1⟩ (fun hS => ?_)
  replace D := D.below (Below.refl w4.heap.size w4).drew
  revert hS D
  generalize w4.drew = V
  intro hS D
  refine tkG 0 15 hS ?_
  try simp only [Act.put, List.setIfInBounds_toArray, List.set_cons_zero, List.set_cons_succ]
  refine tkG 1 16 hS ?_
  try simp only [Act.put, List.setIfInBounds_toArray, List.set_cons_zero, List.set_cons_succ]
  refine tkG 2 17 hS ?_
  try simp only [Act.put, List.setIfInBounds_toArray, List.set_cons_zero, List.set_cons_succ]
  refine wpAnyH_ready (rs := [3]) (by kernel_rfl) (by simp) ?_
  refine AllReadyH.cons rfl (fun K hK => ?_) AllReadyH.nil
  go_simp
  refine (l1Once_any W0 _ g 2 D.dc (by omega) (by omega)).mono ?_
  rintro e V1 ⟨kb, rfl, dc1, hg1⟩
  replace D := D.grown dc1 hg1
  clear hg1 dc1 hS
  refine hK.out _ _ ⟨D.zb.facts.1, D.zb.facts.2.1⟩ (fun hS => ?_)
  clear hK K
  try simp only [List.setIfInBounds_toArray, List.set_cons_zero, List.set_cons_succ]
  obtain ⟨m0, m1, n0, n1⟩ := D.zr.facts
  have zz := (D.zr.set0 (u := .slice va sn vc)).set1 (u := .slice la ln lc)
  obtain ⟨k0, k1, -, -⟩ := zz.facts
  have zbP : BoxDv ((V1.setCell ⟨w.heap.size, 0, none⟩ (.slice va sn vc)).setCell ⟨w.heap.size, 1, none⟩ (.slice la ln lc)) b5 (.slice va sn vc) (.slice la ln lc) := D.zb.of_block ((block_set HB5.out).trans (block_set HB5.out))
  have HF : Hid (HwD w (.returned (.tuple #[.agg #[.slice va sn vc, .slice la ln lc], .string t, .bool kb])) ((V1.setCell ⟨w.heap.size, 0, none⟩ (.slice va sn vc)).setCell ⟨w.heap.size, 1, none⟩ (.slice la ln lc))) := ⟨⟨.slice va sn vc, .slice la ln lc, secs, late⟩, t, kb, rfl, ht, (D.fin _ _).1, (D.fin _ _).2⟩
  refine wpAnyH_ready (rs := [4]) (by kernel_rfl) (by simp) ?_
  refine AllReadyH.cons rfl (fun K hK => ?_) AllReadyH.nil
  go_simp
  clear hS
  refine hK.out _ _ ⟨zbP.facts.1, zbP.facts.2.1⟩ (fun hS => ?_)
  clear hK K
  try simp only [List.setIfInBounds_toArray, List.set_cons_zero, List.set_cons_succ]
  refine tkG 5 3 hS ?_
  try simp only [Act.put, List.setIfInBounds_toArray, List.set_cons_zero, List.set_cons_succ]
  refine tkG 6 4 hS ?_
  try simp only [Act.put, List.setIfInBounds_toArray, List.set_cons_zero, List.set_cons_succ]
  refine wpAnyH_done (by kernel_rfl) ?_ _
  refine NoPanic.normal ?_
  clear zz D zbP
  go_wp2
  exact bodyPost_ret (v := .tuple #[.agg #[.slice va sn vc, .slice la ln lc], .string t, .bool kb]) (by simp [results, Tryz.results7, go_sem, k0, k1]) rfl HF.out
end Go.Proofs.YtpidmmfjmbinkaaGreatDoor
