/- The draws of FnDevices: DrawLay. -/
-- UNF Gen
import Derived.Test.YtgmjoejoehhekaaDevDrawA
import Derived.Deep.DeepCutAuto
namespace Go.Proofs.Ytgmjoejoehhekaa
open Go.RowKit
theorem l1MaxD_any (a b : Int) (w : World) : Calls Try.prog 24 #[.int .i64 a, .int .i64 b] w fun e w' => e = .returned (.int .i64 (max a b)) ∧ w' = w := by
  by_cases h : b < a
  · go_enter Try.func24, Try.ntmps24
    go_wp2
    go_ret
    refine ⟨?_, rfl⟩
    rw [Int.max_eq_left (by omega)]
    rfl
  · have h2 : a ≤ b := by omega
    go_enter Try.func24, Try.ntmps24
    go_wp2
    go_ret
    refine ⟨?_, rfl⟩
    rw [Int.max_eq_right (by omega)]
    rfl
/-- What DrawLay leaves. -/
def LayD (w : World) (e : Ending) (w' : World) : Prop :=
  ∃ (Y : DvX) (p : Int) (t : ByteArray), e = .returned (.tuple #[.agg #[Y.vs, Y.vl], .int .i64 p, .string t]) ∧ (Y.secs.length ≤ 4 ∧ Y.late.length ≤ 31) ∧ OwnDv w' w.heap.size Y ∧ Below w.heap.size w w'
set_option maxHeartbeats 8000000 in
set_option maxRecDepth 100000 in
theorem drawLay_any (v : Value) (bs : List UInt8) (w : World) (hr : Rd w v bs) (hb : bs.length ≤ 4096) :
    Calls Try.prog 5 #[v] w fun e w' => LayD w e w' := by
  have zr := boxDv_new w (.slice none 0 0) (.slice none 0 0)
  have b0 := below1 w (.cells #[.slice none 0 0, .slice none 0 0] 27)
  have s0 : (w.alloc (.cells #[.slice none 0 0, .slice none 0 0] 27)).heap.size = w.heap.size + 1 := by simp
  go_enter Try.func5, Try.ntmps5
  go_wp2_with fail
  generalize w.alloc (.cells #[.slice none 0 0, .slice none 0 0] 27) = W0 at zr b0 s0 ⊢
  refine (l1New_any v bs W0 (hr.below b0) hb).mono ?_
  rintro e w1 ⟨g, rfl, dc⟩
  have hge := dc.ge
  have hgl := dc.lt
  have bw : Below w.heap.size w w1 := b0.trans (dc.bel.mono (by omega))
  replace zr := zr.of_block (dc.bel.block w.heap.size zr.lt)
  go_wp2_with fail
  refine (l8DrawAny_any W0 _ g dc).mono ?_
  rintro e w2 ⟨Y, rfl, hl, oY, dc2, hg2⟩
  replace zr := zr.of_block (hg2.block w.heap.size zr.lt (fun e => by have := Option.some.inj e; omega))
  replace bw : Below w.heap.size w w2 := bw.grown hg2 bw.size (fun k hk => by have := Option.some.inj hk; omega)
  have s2 := hg2.size
  clear hg2 dc
  obtain ⟨va, vc, hv1⟩ := own_slice oY.secs
  obtain ⟨la, lc, hv2⟩ := own_slice oY.late
  obtain ⟨vs1, vl1, secs, late⟩ := Y
  simp only at hv1 hv2 hl
  obtain ⟨sn, hsn⟩ : ∃ sn, sn = secs.length := ⟨_, rfl⟩
  obtain ⟨ln, hln⟩ : ∃ ln, ln = late.length := ⟨_, rfl⟩
  rw [← hsn] at hv1
  rw [← hln] at hv2
  subst hv1
  subst hv2
  have hsn4 : sn ≤ 4 := by rw [hsn]; exact hl.1
  clear hsn hln
  have d1 := below1 w2 (.cells #[.slice va sn vc, .slice la ln lc] 27)
  have zb := boxDv_new w2 (.slice va sn vc) (.slice la ln lc)
  replace zr := zr.below d1
  replace oY := oY.below d1
  have dc := dc2.grow (row := none) (gr_belowD (gr_refl _ _) d1) (fun k hk => by cases hk)
  replace bw := bw.trans (d1.mono bw.size)
  obtain ⟨y0, y1, g0, g1⟩ := zb.facts
  clear d1 dc2
  go_wp2_with fail
  generalize w2.alloc (.cells #[.slice va sn vc, .slice la ln lc] 27) = W3 at zb zr oY dc bw y0 y1 g0 g1 ⊢
  generalize w2.heap.size = b6 at zb s2 y0 y1 g0 g1 ⊢
  have hb6 : w.heap.size < b6 := by omega
  refine (l1MaxD_any 1 (sn : Int) _).mono ?_
  rintro e w4 ⟨rfl, rfl⟩
  clear y0 y1 g0 g1
  go_wp2_with fail
  refine (l1Below_any W0 _ g _ dc (by omega) (by omega)).mono ?_
  rintro e w5 ⟨p0, rfl, -, -, dc5, hg5⟩
  replace zr := zr.of_block (hg5.block w.heap.size zr.lt (fun e => by have := Option.some.inj e; omega))
  replace zb := zb.of_block (hg5.block b6 zb.lt (fun e => by have := Option.some.inj e; omega))
  replace oY : OwnDv w5 w1.heap.size ⟨.slice va sn vc, .slice la ln lc, secs, late⟩ := ⟨row_kept oY.secs hg5 (fun k hk e => by have := (World.ownsRow.lt oY.secs k hk).1; have := Option.some.inj e; omega), row_kept oY.late hg5 (fun k hk e => by have := (World.ownsRow.lt oY.late k hk).1; have := Option.some.inj e; omega)⟩
  replace bw : Below w.heap.size w w5 := bw.grown hg5 bw.size (fun k hk => by have := Option.some.inj hk; omega)
  clear hg5
  replace dc := dc5
  clear dc5
  go_wp2_with fail
  refine (l1Once_any W0 _ g 10 dc (by omega) (by omega)).mono ?_
  rintro e w6 ⟨bb, rfl, dc6, hg6⟩
  replace zr := zr.of_block (hg6.block w.heap.size zr.lt (fun e => by have := Option.some.inj e; omega))
  replace zb := zb.of_block (hg6.block b6 zb.lt (fun e => by have := Option.some.inj e; omega))
  replace oY : OwnDv w6 w1.heap.size ⟨.slice va sn vc, .slice la ln lc, secs, late⟩ := ⟨row_kept oY.secs hg6 (fun k hk e => by have := (World.ownsRow.lt oY.secs k hk).1; have := Option.some.inj e; omega), row_kept oY.late hg6 (fun k hk e => by have := (World.ownsRow.lt oY.late k hk).1; have := Option.some.inj e; omega)⟩
  replace bw : Below w.heap.size w w6 := bw.grown hg6 bw.size (fun k hk => by have := Option.some.inj hk; omega)
  clear hg6
  replace dc := dc6
  clear dc6
  go_upto_if 19 with fail
  go_cut [7] (fun t7 W => ∃ p : Int, t7 = .int .i64 p ∧ BoxDv W b6 (.slice va sn vc) (.slice la ln lc) ∧ BoxDv W w.heap.size (.slice none 0 0) (.slice none 0 0) ∧ OwnDv W w1.heap.size ⟨.slice va sn vc, .slice la ln lc, secs, late⟩ ∧ DCur W0 W g ∧ Below w.heap.size w W)
  case first =>
    cases bb with
    | false =>
      go_wp2
      go_meet
      case rel => exact ⟨p0, rfl, zb, zr, oY, dc, bw⟩
    | true =>
      have d1 := below1 w6 (.cells #[.int .i64 (-1), .int .i64 16, .int .i64 4611686018427387904] 2)
      have hrow : (w6.alloc (.cells #[.int .i64 (-1), .int .i64 16, .int .i64 4611686018427387904] 2)).heap[w6.heap.size]? = some (.cells #[.int .i64 (-1), .int .i64 16, .int .i64 4611686018427387904] 2 (0, 0)) := heap_alloc_new w6 _
      have hs : w6.heap.size < (w6.alloc (.cells #[.int .i64 (-1), .int .i64 16, .int .i64 4611686018427387904] 2)).heap.size := by simp
      have hg6 : g < w6.heap.size := dc.lt
      replace zb := zb.below d1
      replace zr := zr.below d1
      replace oY := oY.below d1
      replace dc := dc.grow (row := none) (gr_belowD (gr_refl _ _) d1) (fun k hk => by cases hk)
      replace bw := bw.trans (d1.mono bw.size)
      clear d1
      go_wp2_with fail
      generalize w6.alloc (.cells #[.int .i64 (-1), .int .i64 16, .int .i64 4611686018427387904] 2) = W7 at zb zr oY dc bw hrow hs ⊢
      refine (l1Below_any W0 _ g 3 dc (by omega) (by omega)).mono ?_
      rintro e w8 ⟨x, rfl, hx0, hx1, dc8, hg8⟩
      have hr2 : w8.heap[w6.heap.size]? = some (.cells #[.int .i64 (-1), .int .i64 16, .int .i64 4611686018427387904] 2 (0, 0)) := (hg8.block _ hs (fun e => by have := Option.some.inj e; omega)).trans hrow
      replace zr := zr.of_block (hg8.block w.heap.size zr.lt (fun e => by have := Option.some.inj e; omega))
      replace zb := zb.of_block (hg8.block b6 zb.lt (fun e => by have := Option.some.inj e; omega))
      replace oY : OwnDv w8 w1.heap.size ⟨.slice va sn vc, .slice la ln lc, secs, late⟩ := ⟨row_kept oY.secs hg8 (fun k hk e => by have := (World.ownsRow.lt oY.secs k hk).1; have := Option.some.inj e; omega), row_kept oY.late hg8 (fun k hk e => by have := (World.ownsRow.lt oY.late k hk).1; have := Option.some.inj e; omega)⟩
      replace bw : Below w.heap.size w w8 := bw.grown hg8 bw.size (fun k hk => by have := Option.some.inj hk; omega)
      clear hg8
      have c0 : w8.cell? ⟨w6.heap.size, 0, none⟩ = some (.int .i64 (-1)) := by simp [World.cell?, hr2]
      have c1 : w8.cell? ⟨w6.heap.size, 1, none⟩ = some (.int .i64 16) := by simp [World.cell?, hr2]
      have c2 : w8.cell? ⟨w6.heap.size, 2, none⟩ = some (.int .i64 4611686018427387904) := by simp [World.cell?, hr2]
      clear dc hrow hr2 hs
      have hx : x = 0 ∨ x = 1 ∨ x = 2 := by omega
      clear hx0 hx1
      rcases hx with rfl | rfl | rfl
      all_goals
        go_wp2
        go_meet
        case rel => exact ⟨_, rfl, zb, zr, oY, dc8, bw⟩
  case rest =>
    clear zb zr oY dc bw
    obtain ⟨p, rfl, zb, zr, oY, dc, bw⟩ := hcut
    go_wp2_with fail
    refine (l1Once_any W0 _ g 12 dc (by omega) (by omega)).mono ?_
    rintro e w9 ⟨bc, rfl, dc9, hg9⟩
    replace zr := zr.of_block (hg9.block w.heap.size zr.lt (fun e => by have := Option.some.inj e; omega))
    replace zb := zb.of_block (hg9.block b6 zb.lt (fun e => by have := Option.some.inj e; omega))
    replace oY : OwnDv w9 w1.heap.size ⟨.slice va sn vc, .slice la ln lc, secs, late⟩ := ⟨row_kept oY.secs hg9 (fun k hk e => by have := (World.ownsRow.lt oY.secs k hk).1; have := Option.some.inj e; omega), row_kept oY.late hg9 (fun k hk e => by have := (World.ownsRow.lt oY.late k hk).1; have := Option.some.inj e; omega)⟩
    replace bw : Below w.heap.size w w9 := bw.grown hg9 bw.size (fun k hk => by have := Option.some.inj hk; omega)
    clear hg9
    replace dc := dc9
    clear dc9
    cases bc with
    | false =>
      go_wp2_with fail
      refine wp_region_noPanic ?_
      refine wp_region_held_drew (S := fun W => W.cell? ⟨b6, 0, none⟩ = some (.slice va sn vc) ∧ W.cell? ⟨b6, 1, none⟩ = some (.slice la ln lc)) (by kernel_rfl) ⟨(zb.below ((Below.refl _ w9).drew)).facts.1, (zb.below ((Below.refl _ w9).drew)).facts.2.1⟩ (fun hS => ?_)
      have dd : Below w9.heap.size w9 w9.drew := (Below.refl _ w9).drew
      replace zb := zb.below dd
      replace zr := zr.below dd
      replace oY := oY.below dd
      replace dc := dc.grow (row := none) (gr_belowD (gr_refl _ _) dd) (fun k hk => by cases hk)
      replace bw := bw.trans (dd.mono bw.size)
      clear dd
      revert bw
      revert dc
      revert oY
      revert zr
      revert zb
      revert hS
      generalize w9.drew = V
      intro hS zb zr oY dc bw
      refine tkG 0 34 hS ?_
      try simp only [Act.put, List.setIfInBounds_toArray, List.set_cons_zero, List.set_cons_succ]
      refine tkG 1 35 hS ?_
      try simp only [Act.put, List.setIfInBounds_toArray, List.set_cons_zero, List.set_cons_succ]
      refine tkG 2 36 hS ?_
      try simp only [Act.put, List.setIfInBounds_toArray, List.set_cons_zero, List.set_cons_succ]
      refine wpAnyH_ready (rs := [3]) (by kernel_rfl) (by simp) ?_
      refine AllReadyH.cons rfl (fun K hK => ?_) AllReadyH.nil
      go_simp
      refine (l1DrawText_any W0 _ g dc).mono ?_
      rintro e V3 ⟨t7, rfl, -, dc3, hg3⟩
      replace zr := zr.of_block (hg3.block w.heap.size zr.lt (fun e => by have := Option.some.inj e; omega))
      replace zb := zb.of_block (hg3.block b6 zb.lt (fun e => by have := Option.some.inj e; omega))
      replace oY : OwnDv V3 w1.heap.size ⟨.slice va sn vc, .slice la ln lc, secs, late⟩ := ⟨row_kept oY.secs hg3 (fun k hk e => by have := (World.ownsRow.lt oY.secs k hk).1; have := Option.some.inj e; omega), row_kept oY.late hg3 (fun k hk e => by have := (World.ownsRow.lt oY.late k hk).1; have := Option.some.inj e; omega)⟩
      replace bw : Below w.heap.size w V3 := bw.grown hg3 bw.size (fun k hk => by have := Option.some.inj hk; omega)
      clear hg3
      replace dc := dc3
      clear dc3 hS
      refine hK.out _ _ ⟨zb.facts.1, zb.facts.2.1⟩ (fun hS => ?_)
      clear hK K
      try simp only [List.setIfInBounds_toArray, List.set_cons_zero, List.set_cons_succ]
      have END : Hid (LayD w (.returned (.tuple #[.agg #[.slice va sn vc, .slice la ln lc], .int .i64 p, .string t7])) ((V3.setCell ⟨w.heap.size, 0, none⟩ (.slice va sn vc)).setCell ⟨w.heap.size, 1, none⟩ (.slice la ln lc))) := by
        refine ⟨⟨.slice va sn vc, .slice la ln lc, secs, late⟩, p, t7, rfl, hl, OwnDv.mono (B := w1.heap.size) ⟨row_base (row_base oY.secs (by omega)) (by omega), row_base (row_base oY.late (by omega)) (by omega)⟩ (by omega), ?_⟩
        exact (bw.setCell (p := ⟨w.heap.size, 0, none⟩) (Nat.le_refl _) _).setCell (p := ⟨w.heap.size, 1, none⟩) (Nat.le_refl _) _
      have zf : BoxDv ((V3.setCell ⟨w.heap.size, 0, none⟩ (.slice va sn vc)).setCell ⟨w.heap.size, 1, none⟩ (.slice la ln lc)) w.heap.size (.slice va sn vc) (.slice la ln lc) := heap_setCell_same _ w.heap.size 1 _ _ _ (heap_setCell_same V3 w.heap.size 0 _ _ _ zr)
      have zg : BoxDv ((V3.setCell ⟨w.heap.size, 0, none⟩ (.slice va sn vc)).setCell ⟨w.heap.size, 1, none⟩ (.slice la ln lc)) b6 (.slice va sn vc) (.slice la ln lc) := zb.of_block ((heap_setCell_other _ ⟨w.heap.size, 1, none⟩ b6 _ (by show b6 ≠ w.heap.size; omega)).trans (heap_setCell_other V3 ⟨w.heap.size, 0, none⟩ b6 _ (by show b6 ≠ w.heap.size; omega)))
      obtain ⟨f0, f1, -⟩ := zf.facts
      obtain ⟨m0, m1, n0, n1⟩ := zr.facts
      refine wpAnyH_ready (rs := [4]) (by kernel_rfl) (by simp) ?_
      refine AllReadyH.cons rfl (fun K hK => ?_) AllReadyH.nil
      go_simp
      refine hK.out _ _ ⟨zg.facts.1, zg.facts.2.1⟩ (fun hS => ?_)
      clear hK K
      refine tkG 5 3 hS ?_
      try simp only [Act.put, List.setIfInBounds_toArray, List.set_cons_zero, List.set_cons_succ]
      refine tkG 6 4 hS ?_
      try simp only [Act.put, List.setIfInBounds_toArray, List.set_cons_zero, List.set_cons_succ]
      refine wpAnyH_done (by kernel_rfl) ?_ _
      refine NoPanic.normal ?_
      clear zf zg zb zr oY dc bw hS m0 m1 n0 n1
      go_wp2
      exact bodyPost_ret (v := .tuple #[.agg #[.slice va sn vc, .slice la ln lc], .int .i64 p, .string t7]) (by simp [results, Try.results5, go_sem, f0, f1]) rfl END.out
    | true =>
      go_wp2_with fail
      refine wp_region_noPanic ?_
      refine wp_region_held_drew (S := fun W => W.cell? ⟨b6, 0, none⟩ = some (.slice va sn vc) ∧ W.cell? ⟨b6, 1, none⟩ = some (.slice la ln lc)) (by kernel_rfl) ⟨(zb.below ((Below.refl _ w9).drew)).facts.1, (zb.below ((Below.refl _ w9).drew)).facts.2.1⟩ (fun hS => ?_)
      have dd : Below w9.heap.size w9 w9.drew := (Below.refl _ w9).drew
      replace zb := zb.below dd
      replace zr := zr.below dd
      replace oY := oY.below dd
      replace dc := dc.grow (row := none) (gr_belowD (gr_refl _ _) dd) (fun k hk => by cases hk)
      replace bw := bw.trans (dd.mono bw.size)
      clear dd
      revert bw
      revert dc
      revert oY
      revert zr
      revert zb
      revert hS
      generalize w9.drew = V
      intro hS zb zr oY dc bw
      refine tkG 0 27 hS ?_
      try simp only [Act.put, List.setIfInBounds_toArray, List.set_cons_zero, List.set_cons_succ]
      refine tkG 1 28 hS ?_
      try simp only [Act.put, List.setIfInBounds_toArray, List.set_cons_zero, List.set_cons_succ]
      refine tkG 2 29 hS ?_
      try simp only [Act.put, List.setIfInBounds_toArray, List.set_cons_zero, List.set_cons_succ]
      refine wpAnyH_ready (rs := [3]) (by kernel_rfl) (by simp) ?_
      refine AllReadyH.cons rfl (fun K hK => ?_) AllReadyH.nil
      go_simp
      refine (l1Below_any W0 _ g 2 dc (by omega) (by omega)).mono ?_
      rintro e V3 ⟨x3, rfl, hx0, hx1, dc3, hg3⟩
      replace zr := zr.of_block (hg3.block w.heap.size zr.lt (fun e => by have := Option.some.inj e; omega))
      replace zb := zb.of_block (hg3.block b6 zb.lt (fun e => by have := Option.some.inj e; omega))
      replace oY : OwnDv V3 w1.heap.size ⟨.slice va sn vc, .slice la ln lc, secs, late⟩ := ⟨row_kept oY.secs hg3 (fun k hk e => by have := (World.ownsRow.lt oY.secs k hk).1; have := Option.some.inj e; omega), row_kept oY.late hg3 (fun k hk e => by have := (World.ownsRow.lt oY.late k hk).1; have := Option.some.inj e; omega)⟩
      replace bw : Below w.heap.size w V3 := bw.grown hg3 bw.size (fun k hk => by have := Option.some.inj hk; omega)
      clear hg3
      clear dc dc3 hS
      obtain ⟨j3, rfl⟩ := Int.eq_ofNat_of_zero_le hx0
      refine hK.out _ _ ⟨zb.facts.1, zb.facts.2.1⟩ (fun hS => ?_)
      clear hK K
      try simp only [List.setIfInBounds_toArray, List.set_cons_zero, List.set_cons_succ]
      have hxw : IntKind.i64.wrap (400 + (j3 : Int)) = 400 + (j3 : Int) := by rw [IntKind.wrap_i64]; omega
      refine tkG 4 31 hS ?_
      try simp only [Act.put, List.setIfInBounds_toArray, List.set_cons_zero, List.set_cons_succ]
      clear hxw
      obtain ⟨sV, hsV⟩ : ∃ sV : ByteArray, sV = ⟨(List.replicate (400 + j3) (0 : UInt8)).toArray⟩ := ⟨_, rfl⟩
      have HCV : Hid (∀ W u, Own W w1.heap.size u (List.replicate (400 + j3) 0) → (convert 22 9 u).run Try.prog W = .ok (.string sV) W) := fun W u h => by rw [hsV]; exact conv_own h
      clear hsV
      refine wpAnyH_ready (rs := [5, 7]) (by kernel_rfl) (by simp) ?_
      refine AllReadyH.cons rfl (fun K hK => ?_) ?_
      refine step_makeD rfl 32 rfl _ _ rfl (400 + j3) _ (by omega) rfl rfl (by omega) w1.heap.size (by have := zb.lt; omega) ?_
      intro bM V1 qM hb5
      replace zb := zb.below hb5
      replace zr := zr.below hb5
      replace oY := oY.below hb5
      replace bw := bw.trans (hb5.mono bw.size)
      clear hb5 hS
      refine hK.out _ _ ⟨zb.facts.1, zb.facts.2.1⟩ (fun hS => ?_)
      clear hK K
      try simp only [Act.put, List.setIfInBounds_toArray, List.set_cons_zero, List.set_cons_succ]
      clear hS
      refine listed_as8 (l' := #[true, true, true, true, true, true, false, false, false, false]) (by kernel_rfl) ?_
      revert qM
      revert zb
      revert zr
      revert oY
      revert bw
      revert bM
      revert V1
      clear V3
      refine ?lk10
      rotate_left 1
      refine AllReadyH.cons rfl (fun K hK => ?_) AllReadyH.nil
      have zf : BoxDv ((V3.setCell ⟨w.heap.size, 0, none⟩ (.slice va sn vc)).setCell ⟨w.heap.size, 1, none⟩ (.slice la ln lc)) w.heap.size (.slice va sn vc) (.slice la ln lc) := heap_setCell_same _ w.heap.size 1 _ _ _ (heap_setCell_same V3 w.heap.size 0 _ _ _ zr)
      have zg : BoxDv ((V3.setCell ⟨w.heap.size, 0, none⟩ (.slice va sn vc)).setCell ⟨w.heap.size, 1, none⟩ (.slice la ln lc)) b6 (.slice va sn vc) (.slice la ln lc) := zb.of_block ((heap_setCell_other _ ⟨w.heap.size, 1, none⟩ b6 _ (by show b6 ≠ w.heap.size; omega)).trans (heap_setCell_other V3 ⟨w.heap.size, 0, none⟩ b6 _ (by show b6 ≠ w.heap.size; omega)))
      have oZ : OwnDv ((V3.setCell ⟨w.heap.size, 0, none⟩ (.slice va sn vc)).setCell ⟨w.heap.size, 1, none⟩ (.slice la ln lc)) w1.heap.size ⟨.slice va sn vc, .slice la ln lc, secs, late⟩ := ⟨row_base (row_base oY.secs (by omega)) (by omega), row_base (row_base oY.late (by omega)) (by omega)⟩
      have bZ : Below w.heap.size w ((V3.setCell ⟨w.heap.size, 0, none⟩ (.slice va sn vc)).setCell ⟨w.heap.size, 1, none⟩ (.slice la ln lc)) := (bw.setCell (p := ⟨w.heap.size, 0, none⟩) (Nat.le_refl _) _).setCell (p := ⟨w.heap.size, 1, none⟩) (Nat.le_refl _) _
      obtain ⟨m0, m1, n0, n1⟩ := zr.facts
      go_simp
      clear hS
      refine hK.out _ _ ⟨zg.facts.1, zg.facts.2.1⟩ (fun hS => ?_)
      clear hK K m0 m1 n0 n1 zb zr oY bw
      revert bZ
      revert oZ
      revert zf
      revert zg
      revert hS
      generalize ((V3.setCell ⟨w.heap.size, 0, none⟩ (.slice va sn vc)).setCell ⟨w.heap.size, 1, none⟩ (.slice la ln lc)) = V1
      intro hS zb zr oY bw
      try simp only [List.setIfInBounds_toArray, List.set_cons_zero, List.set_cons_succ]
      refine tkG 8 3 hS ?_
      try simp only [Act.put, List.setIfInBounds_toArray, List.set_cons_zero, List.set_cons_succ]
      clear hS
      refine listed_as8 (l' := #[true, true, true, true, true, false, false, true, true, false]) (by kernel_rfl) ?_
      revert zb
      revert zr
      revert oY
      revert bw
      revert V1
      clear V3
      refine ?lk01
      rotate_left 1
      intro V0 bM bw oY zr zb qM
      have hS : (fun W : World => W.cell? ⟨b6, 0, none⟩ = some (.slice va sn vc) ∧ W.cell? ⟨b6, 1, none⟩ = some (.slice la ln lc)) V0 := ⟨zb.facts.1, zb.facts.2.1⟩
      refine wpAnyH_ready (rs := [6, 7]) (by kernel_rfl) (by simp) ?_
      refine AllReadyH.cons rfl (fun K hK => ?_) ?_
      have hcv := HCV.out _ _ qM
      go_simp
      clear hcv hS qM
      refine hK.out _ _ ⟨zb.facts.1, zb.facts.2.1⟩ (fun hS => ?_)
      clear hK K
      try simp only [List.setIfInBounds_toArray, List.set_cons_zero, List.set_cons_succ]
      clear hS
      refine listed_as8 (l' := #[true, true, true, true, true, true, true, false, false, false]) (by kernel_rfl) ?_
      revert zb
      revert zr
      revert oY
      revert bw
      revert bM
      revert V0
      refine ?lk20
      rotate_left 1
      refine AllReadyH.cons rfl (fun K hK => ?_) AllReadyH.nil
      have zf : BoxDv ((V0.setCell ⟨w.heap.size, 0, none⟩ (.slice va sn vc)).setCell ⟨w.heap.size, 1, none⟩ (.slice la ln lc)) w.heap.size (.slice va sn vc) (.slice la ln lc) := heap_setCell_same _ w.heap.size 1 _ _ _ (heap_setCell_same V0 w.heap.size 0 _ _ _ zr)
      have zg : BoxDv ((V0.setCell ⟨w.heap.size, 0, none⟩ (.slice va sn vc)).setCell ⟨w.heap.size, 1, none⟩ (.slice la ln lc)) b6 (.slice va sn vc) (.slice la ln lc) := zb.of_block ((heap_setCell_other _ ⟨w.heap.size, 1, none⟩ b6 _ (by show b6 ≠ w.heap.size; omega)).trans (heap_setCell_other V0 ⟨w.heap.size, 0, none⟩ b6 _ (by show b6 ≠ w.heap.size; omega)))
      have oZ : OwnDv ((V0.setCell ⟨w.heap.size, 0, none⟩ (.slice va sn vc)).setCell ⟨w.heap.size, 1, none⟩ (.slice la ln lc)) w1.heap.size ⟨.slice va sn vc, .slice la ln lc, secs, late⟩ := ⟨row_base (row_base oY.secs (by omega)) (by omega), row_base (row_base oY.late (by omega)) (by omega)⟩
      have bZ : Below w.heap.size w ((V0.setCell ⟨w.heap.size, 0, none⟩ (.slice va sn vc)).setCell ⟨w.heap.size, 1, none⟩ (.slice la ln lc)) := (bw.setCell (p := ⟨w.heap.size, 0, none⟩) (Nat.le_refl _) _).setCell (p := ⟨w.heap.size, 1, none⟩) (Nat.le_refl _) _
      have qZ : Own ((V0.setCell ⟨w.heap.size, 0, none⟩ (.slice va sn vc)).setCell ⟨w.heap.size, 1, none⟩ (.slice la ln lc)) w1.heap.size _ _ := row_base (row_base qM (show w.heap.size < w1.heap.size by omega)) (show w.heap.size < w1.heap.size by omega)
      obtain ⟨m0, m1, n0, n1⟩ := zr.facts
      go_simp
      clear hS
      refine hK.out _ _ ⟨zg.facts.1, zg.facts.2.1⟩ (fun hS => ?_)
      clear hK K m0 m1 n0 n1 zb zr oY bw qM
      revert bZ
      revert oZ
      revert zf
      revert zg
      revert qZ
      revert hS
      generalize ((V0.setCell ⟨w.heap.size, 0, none⟩ (.slice va sn vc)).setCell ⟨w.heap.size, 1, none⟩ (.slice la ln lc)) = V1
      intro hS qM zb zr oY bw
      try simp only [List.setIfInBounds_toArray, List.set_cons_zero, List.set_cons_succ]
      refine tkG 8 3 hS ?_
      try simp only [Act.put, List.setIfInBounds_toArray, List.set_cons_zero, List.set_cons_succ]
      clear hS
      refine listed_as8 (l' := #[true, true, true, true, true, true, false, true, true, false]) (by kernel_rfl) ?_
      revert qM
      revert zb
      revert zr
      revert oY
      revert bw
      revert bM
      revert V1
      clear V0
      refine ?lk11
      rotate_left 1
      intro V0 bw oY zr zb
      have hS : (fun W : World => W.cell? ⟨b6, 0, none⟩ = some (.slice va sn vc) ∧ W.cell? ⟨b6, 1, none⟩ = some (.slice la ln lc)) V0 := ⟨zb.facts.1, zb.facts.2.1⟩
      refine wpAnyH_ready (rs := [5]) (by kernel_rfl) (by simp) ?_
      refine AllReadyH.cons rfl (fun K hK => ?_) AllReadyH.nil
      refine step_makeD rfl 32 rfl _ _ rfl (400 + j3) _ (by omega) rfl rfl (by omega) w1.heap.size (by have := zb.lt; omega) ?_
      intro bM V1 qM hb5
      replace zb := zb.below hb5
      replace zr := zr.below hb5
      replace oY := oY.below hb5
      replace bw := bw.trans (hb5.mono bw.size)
      clear hb5 hS
      refine hK.out _ _ ⟨zb.facts.1, zb.facts.2.1⟩ (fun hS => ?_)
      clear hK K
      try simp only [Act.put, List.setIfInBounds_toArray, List.set_cons_zero, List.set_cons_succ]
      clear hS
      refine listed_as8 (l' := #[true, true, true, true, true, true, false, true, true, false]) (by kernel_rfl) ?_
      revert qM
      revert zb
      revert zr
      revert oY
      revert bw
      revert bM
      revert V1
      clear V0
      exact ?lk11
      intro V0 bM bw oY zr zb
      have hS : (fun W : World => W.cell? ⟨b6, 0, none⟩ = some (.slice va sn vc) ∧ W.cell? ⟨b6, 1, none⟩ = some (.slice la ln lc)) V0 := ⟨zb.facts.1, zb.facts.2.1⟩
      refine wpAnyH_ready (rs := [7]) (by kernel_rfl) (by simp) ?_
      refine AllReadyH.cons rfl (fun K hK => ?_) AllReadyH.nil
      have zf : BoxDv ((V0.setCell ⟨w.heap.size, 0, none⟩ (.slice va sn vc)).setCell ⟨w.heap.size, 1, none⟩ (.slice la ln lc)) w.heap.size (.slice va sn vc) (.slice la ln lc) := heap_setCell_same _ w.heap.size 1 _ _ _ (heap_setCell_same V0 w.heap.size 0 _ _ _ zr)
      have zg : BoxDv ((V0.setCell ⟨w.heap.size, 0, none⟩ (.slice va sn vc)).setCell ⟨w.heap.size, 1, none⟩ (.slice la ln lc)) b6 (.slice va sn vc) (.slice la ln lc) := zb.of_block ((heap_setCell_other _ ⟨w.heap.size, 1, none⟩ b6 _ (by show b6 ≠ w.heap.size; omega)).trans (heap_setCell_other V0 ⟨w.heap.size, 0, none⟩ b6 _ (by show b6 ≠ w.heap.size; omega)))
      have oZ : OwnDv ((V0.setCell ⟨w.heap.size, 0, none⟩ (.slice va sn vc)).setCell ⟨w.heap.size, 1, none⟩ (.slice la ln lc)) w1.heap.size ⟨.slice va sn vc, .slice la ln lc, secs, late⟩ := ⟨row_base (row_base oY.secs (by omega)) (by omega), row_base (row_base oY.late (by omega)) (by omega)⟩
      have bZ : Below w.heap.size w ((V0.setCell ⟨w.heap.size, 0, none⟩ (.slice va sn vc)).setCell ⟨w.heap.size, 1, none⟩ (.slice la ln lc)) := (bw.setCell (p := ⟨w.heap.size, 0, none⟩) (Nat.le_refl _) _).setCell (p := ⟨w.heap.size, 1, none⟩) (Nat.le_refl _) _
      obtain ⟨m0, m1, n0, n1⟩ := zr.facts
      go_simp
      clear hS
      refine hK.out _ _ ⟨zg.facts.1, zg.facts.2.1⟩ (fun hS => ?_)
      clear hK K m0 m1 n0 n1 zb zr oY bw
      revert bZ
      revert oZ
      revert zf
      revert zg
      revert hS
      generalize ((V0.setCell ⟨w.heap.size, 0, none⟩ (.slice va sn vc)).setCell ⟨w.heap.size, 1, none⟩ (.slice la ln lc)) = V1
      intro hS zb zr oY bw
      try simp only [List.setIfInBounds_toArray, List.set_cons_zero, List.set_cons_succ]
      refine tkG 8 3 hS ?_
      try simp only [Act.put, List.setIfInBounds_toArray, List.set_cons_zero, List.set_cons_succ]
      clear hS
      refine listed_as8 (l' := #[true, true, true, true, true, true, true, true, true, false]) (by kernel_rfl) ?_
      revert zb
      revert zr
      revert oY
      revert bw
      revert bM
      revert V1
      clear V0
      refine ?lk21
      rotate_left 1
      intro V0 bM bw oY zr zb qM
      have hS : (fun W : World => W.cell? ⟨b6, 0, none⟩ = some (.slice va sn vc) ∧ W.cell? ⟨b6, 1, none⟩ = some (.slice la ln lc)) V0 := ⟨zb.facts.1, zb.facts.2.1⟩
      refine wpAnyH_ready (rs := [6]) (by kernel_rfl) (by simp) ?_
      refine AllReadyH.cons rfl (fun K hK => ?_) AllReadyH.nil
      have hcv := HCV.out _ _ qM
      go_simp
      clear hcv hS qM
      refine hK.out _ _ ⟨zb.facts.1, zb.facts.2.1⟩ (fun hS => ?_)
      clear hK K
      try simp only [List.setIfInBounds_toArray, List.set_cons_zero, List.set_cons_succ]
      clear hS
      refine listed_as8 (l' := #[true, true, true, true, true, true, true, true, true, false]) (by kernel_rfl) ?_
      revert zb
      revert zr
      revert oY
      revert bw
      revert bM
      revert V0
      exact ?lk21
      intro V0 bM bw oY zr zb
      have hS : (fun W : World => W.cell? ⟨b6, 0, none⟩ = some (.slice va sn vc) ∧ W.cell? ⟨b6, 1, none⟩ = some (.slice la ln lc)) V0 := ⟨zb.facts.1, zb.facts.2.1⟩
      refine tkG 9 4 hS ?_
      try simp only [Act.put, List.setIfInBounds_toArray, List.set_cons_zero, List.set_cons_succ]
      refine wpAnyH_done (by kernel_rfl) ?_ _
      refine NoPanic.normal ?_
      obtain ⟨f0, f1, -⟩ := zr.facts
      have END : Hid (LayD w (.returned (.tuple #[.agg #[.slice va sn vc, .slice la ln lc], .int .i64 p, .string sV])) V0) := ⟨⟨.slice va sn vc, .slice la ln lc, secs, late⟩, p, sV, rfl, hl, oY.mono (by omega), bw⟩
      clear zb zr oY bw hS
      go_wp2
      exact bodyPost_ret (v := .tuple #[.agg #[.slice va sn vc, .slice la ln lc], .int .i64 p, .string sV]) (by simp [results, Try.results5, go_sem, f0, f1]) rfl END.out
end Go.Proofs.Ytgmjoejoehhekaa
