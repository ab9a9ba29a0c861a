/- The draws of FnDevices: DrawNewDevice, DrawCut. -/
import Derived.Test.YtgmjoejoehhekaaDevDrawA
import Derived.Test.YtgmjoejoehhekaaBoolBase
namespace Go.Proofs.Ytgmjoejoehhekaa
open Go.RowKit
set_option maxHeartbeats 4000000 in
set_option maxRecDepth 100000 in
theorem drawNew_any (v : Value) (bs : List UInt8) (w : World) (hr : Rd w v bs) (hb : bs.length ≤ 4096) :
    Calls Try.prog 10 #[v] w fun e w' => ∃ n : Int, e = .returned (.int .i64 n) ∧ Below w.heap.size w w' := by
  go_enter Try.func10, Try.ntmps10
  go_wp2_with fail
  refine (l1New_any v bs w hr hb).mono ?_
  rintro e w1 ⟨g, rfl, dc⟩
  have hgl := dc.lt
  have dc1 := dc.alloc (.cells #[.int .i64 0, .int .i64 1, .int .i64 5, .int .i64 16, .int .i64 17, .int .i64 (-9223372036854775808)] 2)
  have hrow : (w1.alloc (.cells #[.int .i64 0, .int .i64 1, .int .i64 5, .int .i64 16, .int .i64 17, .int .i64 (-9223372036854775808)] 2)).heap[w1.heap.size]? = some (.cells #[.int .i64 0, .int .i64 1, .int .i64 5, .int .i64 16, .int .i64 17, .int .i64 (-9223372036854775808)] 2 (0, 0)) := heap_alloc_new w1 _
  have hs : w1.heap.size < (w1.alloc (.cells #[.int .i64 0, .int .i64 1, .int .i64 5, .int .i64 16, .int .i64 17, .int .i64 (-9223372036854775808)] 2)).heap.size := by simp
  clear dc
  go_wp2_with fail
  generalize w1.alloc (.cells #[.int .i64 0, .int .i64 1, .int .i64 5, .int .i64 16, .int .i64 17, .int .i64 (-9223372036854775808)] 2) = W at dc1 hrow hs ⊢
  refine (l1Below_any w _ g 6 dc1 (by omega) (by omega)).mono ?_
  rintro e w2 ⟨x, rfl, hx0, hx1, dc2, hg⟩
  have hr2 : w2.heap[w1.heap.size]? = some (.cells #[.int .i64 0, .int .i64 1, .int .i64 5, .int .i64 16, .int .i64 17, .int .i64 (-9223372036854775808)] 2 (0, 0)) := (hg.block _ hs (fun e => by have := Option.some.inj e; omega)).trans hrow
  have hbe := dc2.bel
  have c0 : w2.cell? ⟨w1.heap.size, 0, none⟩ = some (.int .i64 0) := by simp [World.cell?, hr2]
  have c1 : w2.cell? ⟨w1.heap.size, 1, none⟩ = some (.int .i64 1) := by simp [World.cell?, hr2]
  have c2 : w2.cell? ⟨w1.heap.size, 2, none⟩ = some (.int .i64 5) := by simp [World.cell?, hr2]
  have c3 : w2.cell? ⟨w1.heap.size, 3, none⟩ = some (.int .i64 16) := by simp [World.cell?, hr2]
  have c4 : w2.cell? ⟨w1.heap.size, 4, none⟩ = some (.int .i64 17) := by simp [World.cell?, hr2]
  have c5 : w2.cell? ⟨w1.heap.size, 5, none⟩ = some (.int .i64 (-9223372036854775808)) := by simp [World.cell?, hr2]
  clear dc1 hrow hr2 dc2 hg hs
  have hx : x = 0 ∨ x = 1 ∨ x = 2 ∨ x = 3 ∨ x = 4 ∨ x = 5 := by omega
  clear hx0 hx1
  rcases hx with rfl | rfl | rfl | rfl | rfl | rfl
  all_goals
    go_wp2
    go_ret
    exact ⟨_, rfl, hbe⟩
/-- What DrawCut leaves. -/
def CutD (w : World) (e : Ending) (w' : World) : Prop :=
  ∃ (Y : DvX) (vk : Value) (kp : List Bool), e = .returned (.tuple #[.agg #[Y.vs, Y.vl], vk]) ∧ (Y.secs.length ≤ 4 ∧ Y.late.length ≤ 31) ∧ OwnDv w' w.heap.size Y ∧ OwnB w' w.heap.size vk kp ∧ kp.length ≤ 9 ∧ Below w.heap.size w w'
set_option maxHeartbeats 4000000 in
set_option maxRecDepth 100000 in
theorem drawCut_any (v : Value) (bs : List UInt8) (w : World) (hr : Rd w v bs) (hb : bs.length ≤ 4096) :
    Calls Try.prog 7 #[v] w fun e w' => CutD w e w' := by
  have zr := boxDv_new w (.slice none 0 0) (.slice none 0 0)
  have b0 := below1 w (.cells #[.slice none 0 0, .slice none 0 0] 27)
  have s0 : (w.alloc (.cells #[.slice none 0 0, .slice none 0 0] 27)).heap.size = w.heap.size + 1 := by simp
  go_enter Try.func7, Try.ntmps7
  go_wp2_with fail
  generalize w.alloc (.cells #[.slice none 0 0, .slice none 0 0] 27) = W0 at zr b0 s0 ⊢
  refine (l1New_any v bs W0 (hr.below b0) hb).mono ?_
  rintro e w1 ⟨g, rfl, dc⟩
  have hge := dc.ge
  have hgl := dc.lt
  have bw1 : Below w.heap.size w w1 := b0.trans (dc.bel.mono (by omega))
  replace zr := zr.of_block (dc.bel.block w.heap.size zr.lt)
  go_wp2_with fail
  refine (l8DrawAny_any W0 _ g dc).mono ?_
  rintro e w2 ⟨Y, rfl, hl, oY, dc2, hg2⟩
  replace zr := zr.of_block (hg2.block w.heap.size zr.lt (fun e => by have := Option.some.inj e; omega))
  have bw2 : Below w.heap.size w w2 := bw1.grown hg2 (by omega) (fun k hk => by have := Option.some.inj hk; omega)
  have s2 := hg2.size
  clear hg2 dc bw1
  obtain ⟨va, vc, hv1⟩ := own_slice oY.secs
  obtain ⟨la, lc, hv2⟩ := own_slice oY.late
  obtain ⟨vs1, vl1, secs, late⟩ := Y
  simp only at hv1 hv2 hl
  obtain ⟨sn, hsn⟩ : ∃ sn, sn = secs.length := ⟨_, rfl⟩
  obtain ⟨ln, hln⟩ : ∃ ln, ln = late.length := ⟨_, rfl⟩
  rw [← hsn] at hv1
  rw [← hln] at hv2
  subst hv1
  subst hv2
  clear hsn hln
  have d1 := below1 w2 (.cells #[.slice va sn vc, .slice la ln lc] 27)
  have zb := boxDv_new w2 (.slice va sn vc) (.slice la ln lc)
  obtain ⟨W3, hW3⟩ : ∃ W3, W3 = w2.alloc (.cells #[.slice va sn vc, .slice la ln lc] 27) := ⟨_, rfl⟩
  have s3 : W3.heap.size = w2.heap.size + 1 := by rw [hW3]; simp
  rw [← hW3] at d1 zb
  have d2 := below1 W3 (.cells #[] 4)
  have oB := ownB_none W3
  obtain ⟨W4, hW4⟩ : ∃ W4, W4 = W3.alloc (.cells #[] 4) := ⟨_, rfl⟩
  rw [← hW4] at d2 oB
  rw [s3] at oB
  replace zb := zb.below d2
  replace zr := (zr.below d1).below d2
  replace oY := (oY.below d1).below d2
  replace oB := oB.mono (show w1.heap.size ≤ w2.heap.size + 1 by omega)
  have dc4 := (dc2.grow (row := none) (gr_belowD (gr_refl _ _) d1) (fun k hk => by cases hk)).grow (row := none) (gr_belowD (gr_refl _ _) d2) (fun k hk => by cases hk)
  have bw4 := (bw2.trans (d1.mono bw2.size)).trans (d2.mono (bw2.trans (d1.mono bw2.size)).size)
  have HW4 : Hid ((w2.alloc (.cells #[.slice va sn vc, .slice la ln lc] 27)).alloc (.cells #[] 4) = W4) := by unfold Hid; rw [hW4, hW3]
  have hb5 : w1.heap.size ≤ w2.heap.size := s2
  clear d1 d2 hW3 hW4 s3 dc2 bw2
  go_wp2_with fail
  rw [HW4.out]
  generalize w2.heap.size = b5 at zb oB hb5 s2 ⊢
  refine (l1Below_any W0 _ g 10 dc4 (by omega) (by omega)).mono ?_
  rintro e w5 ⟨x, rfl, hx0, hx1, dc5, hg5⟩
  obtain ⟨n, rfl⟩ := Int.eq_ofNat_of_zero_le hx0
  replace zr := zr.of_block (hg5.block w.heap.size zr.lt (fun e => by have := Option.some.inj e; omega))
  replace zb := zb.of_block (hg5.block b5 zb.lt (fun e => by have := Option.some.inj e; omega))
  replace oY : OwnDv w5 w1.heap.size ⟨.slice va sn vc, .slice la ln lc, secs, late⟩ := ⟨row_kept oY.secs hg5 (fun k hk e => by have := (World.ownsRow.lt oY.secs k hk).1; have := Option.some.inj e; omega), row_kept oY.late hg5 (fun k hk e => by have := (World.ownsRow.lt oY.late k hk).1; have := Option.some.inj e; omega)⟩
  replace oB : OwnB w5 w1.heap.size _ [] := row_kept oB hg5 (fun k hk e => by have := (World.ownsRow.lt oB k hk).1; have := Option.some.inj e; omega)
  have bw5 : Below w.heap.size w w5 := bw4.grown hg5 bw4.size (fun k hk => by have := Option.some.inj hk; omega)
  have s5 := hg5.size
  clear hg5 dc4 bw4 HW4 s5
  go_wp2
  go_loopw [6, 7] (fun kv nv wr => ∃ (m : Nat) (kp : List Bool), nv = .int .i64 m ∧ kp.length + m ≤ 9 ∧ OwnB wr w1.heap.size kv kp ∧ OwnDv wr w1.heap.size ⟨.slice va sn vc, .slice la ln lc, secs, late⟩ ∧ BoxDv wr b5 (.slice va sn vc) (.slice la ln lc) ∧ BoxDv wr w.heap.size (.slice none 0 0) (.slice none 0 0) ∧ DCur W0 wr g ∧ Below w.heap.size w wr ∧ w1.heap.size ≤ wr.heap.size) (fun _ nv _ => (intOf nv).toNat)
  case atStart => exact ⟨n, [], rfl, by simp; omega, oB, oY, zb, zr, dc5, bw5, by have := zb.lt; omega⟩
  case round =>
    clear oB oY zb zr dc5 bw5
    obtain ⟨m, kp, rfl, hkm, oB, oY, zb, zr, dc, bw, hsz⟩ := hrel
    by_cases hm0 : m = 0
    · subst hm0
      obtain ⟨ka, kc, hkv⟩ := own_slice oB
      obtain ⟨kn, hkn⟩ : ∃ kn, kn = kp.length := ⟨_, rfl⟩
      rw [← hkn] at hkv
      subst hkv
      clear hkn
      have END : Hid (CutD w (.returned (.tuple #[.agg #[.slice va sn vc, .slice la ln lc], .slice ka kn kc])) ((wr.setCell ⟨w.heap.size, 0, none⟩ (.slice va sn vc)).setCell ⟨w.heap.size, 1, none⟩ (.slice la ln lc))) := by
        refine ⟨⟨.slice va sn vc, .slice la ln lc, secs, late⟩, .slice ka kn kc, kp, rfl, hl, OwnDv.mono (B := w1.heap.size) ⟨row_base (row_base oY.secs (by omega)) (by omega), row_base (row_base oY.late (by omega)) (by omega)⟩ (by omega), OwnB.mono (base := w1.heap.size) (row_base (row_base oB (by omega)) (by omega)) (by omega), by omega, ?_⟩
        exact (bw.setCell (p := ⟨w.heap.size, 0, none⟩) (Nat.le_refl _) _).setCell (p := ⟨w.heap.size, 1, none⟩) (Nat.le_refl _) _
      have zf : BoxDv ((wr.setCell ⟨w.heap.size, 0, none⟩ (.slice va sn vc)).setCell ⟨w.heap.size, 1, none⟩ (.slice la ln lc)) w.heap.size (.slice va sn vc) (.slice la ln lc) := heap_setCell_same _ w.heap.size 1 _ _ _ (heap_setCell_same wr w.heap.size 0 _ _ _ zr)
      obtain ⟨f0, f1, -⟩ := zf.facts
      obtain ⟨y0, y1, g0, g1⟩ := zb.facts
      obtain ⟨m0, m1, n0, n1⟩ := zr.facts
      clear zf zb zr oY oB dc bw
      go_wp2
      exact bodyPost_ret (v := .tuple #[.agg #[.slice va sn vc, .slice la ln lc], .slice ka kn kc]) (by simp [results, Try.results7, go_sem, f0, f1]) rfl END.out
    · have hmi : (0 : Int) < (m : Int) := by omega
      have hmw : IntKind.i64.wrap ((m : Int) - 1) = (m : Int) - 1 := by rw [IntKind.wrap_i64]; omega
      go_wp2_with fail
      refine (l1Once_any W0 _ g 2 dc (by omega) (by omega)).mono ?_
      rintro e w6 ⟨bb, rfl, dc6, hg6⟩
      replace zr := zr.of_block (hg6.block w.heap.size zr.lt (fun e => by have := Option.some.inj e; omega))
      replace zb := zb.of_block (hg6.block b5 zb.lt (fun e => by have := Option.some.inj e; omega))
      replace oY : OwnDv w6 w1.heap.size ⟨.slice va sn vc, .slice la ln lc, secs, late⟩ := ⟨row_kept oY.secs hg6 (fun k hk e => by have := (World.ownsRow.lt oY.secs k hk).1; have := Option.some.inj e; omega), row_kept oY.late hg6 (fun k hk e => by have := (World.ownsRow.lt oY.late k hk).1; have := Option.some.inj e; omega)⟩
      replace oB := row_kept oB hg6 (fun k hk e => by have := (World.ownsRow.lt oB k hk).1; have := Option.some.inj e; omega)
      replace bw : Below w.heap.size w w6 := bw.grown hg6 bw.size (fun k hk => by have := Option.some.inj hk; omega)
      replace hsz := Nat.le_trans hsz hg6.size
      clear hg6 dc
      have d1 := below1 w6 (.cells #[.bool bb] 4)
      have qB := ownB_one w6 bb
      have oB7 := OwnB.below oB d1
      have oY7 := oY.below d1
      have zb7 := zb.below d1
      have zr7 := zr.below d1
      have dc7 := dc6.grow (row := none) (gr_belowD (gr_refl _ _) d1) (fun k hk => by cases hk)
      have bw7 := bw.trans (d1.mono bw.size)
      have hsz7 := Nat.le_trans hsz d1.size
      clear d1 oB oY zb zr dc6 bw hsz
      go_wp2_with (at_builtin; (refine wpList_append_bools rfl _ _ rfl w1.heap.size _ _ kp [bb] rfl rfl oB7 qB.rd (by simp; omega) hsz7 ?_))
      intro vQ V8 oQ hg8
      have oY8 : OwnDv V8 w1.heap.size ⟨.slice va sn vc, .slice la ln lc, secs, late⟩ := ⟨row_kept oY7.secs hg8 (fun k hk e => rows_apart oY7.secs oB7 (by decide) k hk e), row_kept oY7.late hg8 (fun k hk e => rows_apart oY7.late oB7 (by decide) k hk e)⟩
      have zb8 := zb7.of_block (hg8.block b5 zb7.lt (fun e => boxDv_row zb7 oB7 (by decide) _ e.symm rfl))
      have zr8 := zr7.of_block (hg8.block w.heap.size zr7.lt (fun e => boxDv_row zr7 oB7 (by decide) _ e.symm rfl))
      have dc8 := dc7.grow hg8 (fun k hk => by have := (World.ownsRow.lt oB7 k hk).1; omega)
      have bw8 : Below w.heap.size w V8 := bw7.grown hg8 bw7.size (fun k hk => by have := (World.ownsRow.lt oB7 k hk).1; omega)
      have hsz8 := Nat.le_trans hsz7 hg8.size
      clear oY7 zb7 zr7 dc7 bw7 hsz7 hg8 oB7 qB
      go_wp2
      go_roundw
      case rel => exact ⟨m - 1, kp ++ [bb], by rw [show ((m - 1 : Nat) : Int) = (m : Int) - 1 by omega], by simp; omega, oQ, oY8, zb8, zr8, dc8, bw8, hsz8⟩
      case measure => simp [intOf]; omega
end Go.Proofs.Ytgmjoejoehhekaa
