/- One Message, by the laws' own helpers: measured, alike. -/
import Derived.Test.YtilhaokiohbeeaaGreatDoorMsgCp
-- UNF Gen
namespace Go.Proofs.YtilhaokiohbeeaaGreatDoor
open Go.RowKit
structure SmallMs (X : MsX) : Prop where
  bl : X.bl.b.p.sv.length + X.bl.b.p.tg.length + X.bl.b.mo.length ≤ 1048576
  pf : X.pf.p.sv.length + X.pf.p.tg.length ≤ 1048576
  tx : SmallB X.bl.b
/-- Its texts are texts of a program. -/
def TxtMs (X : MsX) : Prop := ∀ s ∈ X.bl.b.mo, s.size ≤ maxLen
theorem OwnMg.nod {w : World} {B : Nat} {X : MsX} (h : OwnMg w B X) : (mgB X).Nodup := by
  unfold mgB
  rw [List.nodup_append]
  refine ⟨h.bl.nod, ?_, fun a ha b hb e => by subst e; exact h.ap a ha hb⟩
  unfold prB
  rw [List.nodup_append]
  exact ⟨oneBN _, oneBN _, fun a ha b hb e => by subst e; exact h.pf.two a (mem_oneB.1 ha) (mem_oneB.1 hb)⟩
def SzOneM (w : World) (X : MsX) (l : Int) (e : Ending) (w' : World) : Prop := Below w.heap.size w w' ∧ ∃ z : Int, e = .returned (.int .i64 z) ∧ (z = -1 ∨ 0 ≤ z ∧ z ≤ l ∧ SmallMs X)
set_option maxHeartbeats 2000000 in
set_option maxRecDepth 100000 in
theorem szMsg_one (X : MsX) (l : Int) (w : World) (hx : RdMg w X) (hz : TxtMs X) (hl0 : 0 ≤ l) (hl1 : l ≤ 1048576) :
    Calls Tryz.prog 47 #[.agg #[.int .i64 X.kd, .int .i64 X.fr, .int .i64 X.to', .int .i64 X.vw, .int .i64 X.bl.b.vw, .int .i64 X.bl.b.pa, .int .i64 X.bl.b.p.vw, .int .i64 X.bl.b.p.nm, X.bl.vs, X.bl.vt, X.bl.vm, .int .i64 X.bl.b.sv, .int .i64 X.vo.vw, .int .i64 X.vo.nm, .int .i64 X.vo.sv, .int .i64 X.vo.tg, .int .i64 X.pf.p.vw, .int .i64 X.pf.p.nm, X.pf.vs, X.pf.vt], .int .i64 l] w fun e w' => SzOneM w X l e w' := by
  have t0 := bx_new w 92 #[.int .i64 X.kd, .int .i64 X.fr, .int .i64 X.to', .int .i64 X.vw, .int .i64 X.bl.b.vw, .int .i64 X.bl.b.pa, .int .i64 X.bl.b.p.vw, .int .i64 X.bl.b.p.nm, X.bl.vs, X.bl.vt, X.bl.vm, .int .i64 X.bl.b.sv, .int .i64 X.vo.vw, .int .i64 X.vo.nm, .int .i64 X.vo.sv, .int .i64 X.vo.tg, .int .i64 X.pf.p.vw, .int .i64 X.pf.p.nm, X.pf.vs, X.pf.vt]
  have b0 := below1 w (.cells #[.int .i64 X.kd, .int .i64 X.fr, .int .i64 X.to', .int .i64 X.vw, .int .i64 X.bl.b.vw, .int .i64 X.bl.b.pa, .int .i64 X.bl.b.p.vw, .int .i64 X.bl.b.p.nm, X.bl.vs, X.bl.vt, X.bl.vm, .int .i64 X.bl.b.sv, .int .i64 X.vo.vw, .int .i64 X.vo.nm, .int .i64 X.vo.sv, .int .i64 X.vo.tg, .int .i64 X.pf.p.vw, .int .i64 X.pf.p.nm, X.pf.vs, X.pf.vt] 92)
  have HB : Hid (∀ W, RdBl W X.bl → Calls Tryz.prog 105 #[.agg #[.int .i64 X.bl.b.vw, .int .i64 X.bl.b.pa, .int .i64 X.bl.b.p.vw, .int .i64 X.bl.b.p.nm, X.bl.vs, X.bl.vt, X.bl.vm, .int .i64 X.bl.b.sv], .int .i64 l] W fun e w' => SzBl W X.bl.b l e w') := fun W h => szBlock_any X.bl l W h hz hl0 hl1
  have HP : Hid (∀ l W, RdPr W X.pf → 0 ≤ l → l ≤ 1048576 → Calls Tryz.prog 100 #[.agg #[.int .i64 X.pf.p.vw, .int .i64 X.pf.p.nm, X.pf.vs, X.pf.vt], .int .i64 l] W fun e w' => SzPr W X.pf.p l e w') := fun l W h h0 h1 => szProof_any X.pf l W h h0 h1
  clear hz
  obtain ⟨-, -, -, -, q4, q5, q6, q7, q8, q9, q10, q11, -, -, -, -, -, -, -, -⟩ := t0.c20
  go_enter Tryz.func47, Tryz.ntmps47
  go_wp2_with fail
  refine (HB.out _ (hx.bl.below b0)).mono ?_
  rintro e w1 ⟨hb1, z1, rfl, hz1⟩
  have t1 := t0.below hb1
  have b1 := b0.trans (hb1.mono b0.size)
  clear q4 q5 q6 q7 q8 q9 q10 q11 t0 b0 hb1 HB
  obtain ⟨-, -, -, -, -, -, -, -, -, -, -, -, -, -, -, -, q16, q17, q18, q19⟩ := t1.c20
  rcases hz1 with hz1 | ⟨hz10, hz11, hz12⟩
  · subst hz1
    go_wp2
    go_ret
    exact ⟨b1, -1, rfl, .inl rfl⟩
  have hle1 : z1 ≤ 1048576 := by omega
  have HS1 : Hid (z1 ≤ l ∧ X.bl.b.p.sv.length + X.bl.b.p.tg.length + X.bl.b.mo.length ≤ 1048576) := ⟨by omega, by omega⟩
  have HT1 : Hid (SmallB X.bl.b) := hz12
  clear hz11 hz12 hl0 hl1
  go_wp2_with fail
  refine (HP.out _ _ (hx.pf.below b1) hz10 hle1).mono ?_
  rintro e w2 ⟨hb2, z2, rfl, hz2⟩
  have b2 := b1.trans (hb2.mono b1.size)
  clear q16 q17 q18 q19 t1 b1 hb2 HP
  rcases hz2 with hz2 | ⟨hz20, hz21⟩
  · subst hz2
    go_wp2
    go_ret
    exact ⟨b2, -1, rfl, .inl rfl⟩
  have HF : Hid (SzOneM w X l (.returned (.int .i64 z2)) w2) := by
    have h1 := HS1.out
    exact ⟨b2, z2, rfl, .inr ⟨hz20, by omega, ⟨h1.2, by omega, HT1.out⟩⟩⟩
  clear hz21 HS1 HT1 hle1
  go_wp2
  go_ret
  exact HF.out
set_option maxHeartbeats 2000000 in
set_option maxRecDepth 100000 in
theorem eqMessage_same (Y Z : MsX) (w : World) (hy : RdMg w Y) (hz : RdMg w Z) (hp : Y.m = Z.m) :
    Calls Tryz.prog 52 #[.agg #[.int .i64 Y.kd, .int .i64 Y.fr, .int .i64 Y.to', .int .i64 Y.vw, .int .i64 Y.bl.b.vw, .int .i64 Y.bl.b.pa, .int .i64 Y.bl.b.p.vw, .int .i64 Y.bl.b.p.nm, Y.bl.vs, Y.bl.vt, Y.bl.vm, .int .i64 Y.bl.b.sv, .int .i64 Y.vo.vw, .int .i64 Y.vo.nm, .int .i64 Y.vo.sv, .int .i64 Y.vo.tg, .int .i64 Y.pf.p.vw, .int .i64 Y.pf.p.nm, Y.pf.vs, Y.pf.vt], .agg #[.int .i64 Z.kd, .int .i64 Z.fr, .int .i64 Z.to', .int .i64 Z.vw, .int .i64 Z.bl.b.vw, .int .i64 Z.bl.b.pa, .int .i64 Z.bl.b.p.vw, .int .i64 Z.bl.b.p.nm, Z.bl.vs, Z.bl.vt, Z.bl.vm, .int .i64 Z.bl.b.sv, .int .i64 Z.vo.vw, .int .i64 Z.vo.nm, .int .i64 Z.vo.sv, .int .i64 Z.vo.tg, .int .i64 Z.pf.p.vw, .int .i64 Z.pf.p.nm, Z.pf.vs, Z.pf.vt]] w fun e w' => e = .returned (.bool true) ∧ Below w.heap.size w w' := by
  obtain ⟨k, f, t, v, ⟨⟨bv, ba, ⟨bpv, bpn, bps, bpt⟩, bm, bs⟩, ys, yt, ym⟩, ⟨ov, on, os, ot⟩, ⟨⟨pv, pn, pss, ptt⟩, ps, pt⟩⟩ := Y
  obtain ⟨k2, f2, t2, v2, ⟨b2, zs, zt, zm⟩, o2, ⟨p2, qs, qt⟩⟩ := Z
  simp only [MsX.m, Msg.mk.injEq] at hp
  obtain ⟨rfl, rfl, rfl, rfl, rfl, rfl, rfl⟩ := hp
  have HB : Hid (∀ W, RdBl W ⟨⟨bv, ba, ⟨bpv, bpn, bps, bpt⟩, bm, bs⟩, ys, yt, ym⟩ → RdBl W ⟨⟨bv, ba, ⟨bpv, bpn, bps, bpt⟩, bm, bs⟩, zs, zt, zm⟩ → Calls Tryz.prog 118 #[.agg #[.int .i64 bv, .int .i64 ba, .int .i64 bpv, .int .i64 bpn, ys, yt, ym, .int .i64 bs], .agg #[.int .i64 bv, .int .i64 ba, .int .i64 bpv, .int .i64 bpn, zs, zt, zm, .int .i64 bs]] W fun e w' => e = .returned (.bool true) ∧ Below W.heap.size W w') := fun W h1 h2 => eqBlock_same ⟨⟨bv, ba, ⟨bpv, bpn, bps, bpt⟩, bm, bs⟩, ys, yt, ym⟩ ⟨⟨bv, ba, ⟨bpv, bpn, bps, bpt⟩, bm, bs⟩, zs, zt, zm⟩ W h1 h2 rfl
  have HV : Hid (∀ W, Calls Tryz.prog 119 #[.agg #[.int .i64 ov, .int .i64 on, .int .i64 os, .int .i64 ot], .agg #[.int .i64 ov, .int .i64 on, .int .i64 os, .int .i64 ot]] W fun e w' => e = .returned (.bool true) ∧ Below W.heap.size W w') := fun W => eqVote_same ⟨ov, on, os, ot⟩ W
  have HP : Hid (∀ W, RdPr W ⟨⟨pv, pn, pss, ptt⟩, ps, pt⟩ → RdPr W ⟨⟨pv, pn, pss, ptt⟩, qs, qt⟩ → Calls Tryz.prog 113 #[.agg #[.int .i64 pv, .int .i64 pn, ps, pt], .agg #[.int .i64 pv, .int .i64 pn, qs, qt]] W fun e w' => e = .returned (.bool true) ∧ Below W.heap.size W w') := fun W h1 h2 => eqProof_same ⟨⟨pv, pn, pss, ptt⟩, ps, pt⟩ ⟨⟨pv, pn, pss, ptt⟩, qs, qt⟩ W h1 h2 rfl
  obtain ⟨hy1, hy2⟩ := hy
  obtain ⟨hz1, hz2⟩ := hz
  simp only at hy1 hy2 hz1 hz2 ⊢
  obtain ⟨A, hA⟩ : ∃ A, A = Obj.cells #[.int .i64 k, .int .i64 f, .int .i64 t, .int .i64 v, .int .i64 bv, .int .i64 ba, .int .i64 bpv, .int .i64 bpn, ys, yt, ym, .int .i64 bs, .int .i64 ov, .int .i64 on, .int .i64 os, .int .i64 ot, .int .i64 pv, .int .i64 pn, ps, pt] 38 := ⟨_, rfl⟩
  obtain ⟨B, hB⟩ : ∃ B, B = Obj.cells #[.int .i64 k, .int .i64 f, .int .i64 t, .int .i64 v, .int .i64 bv, .int .i64 ba, .int .i64 bpv, .int .i64 bpn, zs, zt, zm, .int .i64 bs, .int .i64 ov, .int .i64 on, .int .i64 os, .int .i64 ot, .int .i64 pv, .int .i64 pn, qs, qt] 38 := ⟨_, rfl⟩
  have t0 : Bx ((w.alloc A).alloc B) w.heap.size 38 #[.int .i64 k, .int .i64 f, .int .i64 t, .int .i64 v, .int .i64 bv, .int .i64 ba, .int .i64 bpv, .int .i64 bpn, ys, yt, ym, .int .i64 bs, .int .i64 ov, .int .i64 on, .int .i64 os, .int .i64 ot, .int .i64 pv, .int .i64 pn, ps, pt] := by rw [hA]; exact (bx_new w _ _).below (below1 _ _)
  have u0 : Bx ((w.alloc A).alloc B) (w.heap.size + 1) 38 #[.int .i64 k, .int .i64 f, .int .i64 t, .int .i64 v, .int .i64 bv, .int .i64 ba, .int .i64 bpv, .int .i64 bpn, zs, zt, zm, .int .i64 bs, .int .i64 ov, .int .i64 on, .int .i64 os, .int .i64 ot, .int .i64 pv, .int .i64 pn, qs, qt] := by
    have h := bx_new (w.alloc A) 38 #[.int .i64 k, .int .i64 f, .int .i64 t, .int .i64 v, .int .i64 bv, .int .i64 ba, .int .i64 bpv, .int .i64 bpn, zs, zt, zm, .int .i64 bs, .int .i64 ov, .int .i64 on, .int .i64 os, .int .i64 ot, .int .i64 pv, .int .i64 pn, qs, qt]
    rw [szQ] at h
    rw [hB]; exact h
  have b0 : Below w.heap.size w ((w.alloc A).alloc B) := below2 w A B
  obtain ⟨W0, hW0⟩ : ∃ W0, W0 = (w.alloc A).alloc B := ⟨_, rfl⟩
  rw [← hW0] at t0 u0 b0
  rw [hA, hB] at hW0
  obtain ⟨c0, c1, c2, c3, c4, c5, c6, c7, c8, c9, c10, c11, c12, c13, c14, c15, c16, c17, c18, c19⟩ := t0.c20
  obtain ⟨d0, d1, d2, d3, d4, d5, d6, d7, d8, d9, d10, d11, d12, d13, d14, d15, d16, d17, d18, d19⟩ := u0.c20
  rw [hW0] at c0 c1 c2 c3 c4 c5 c6 c7 c8 c9 c10 c11 c12 c13 c14 c15 c16 c17 c18 c19 d0 d1 d2 d3 d4 d5 d6 d7 d8 d9 d10 d11 d12 d13 d14 d15 d16 d17 d18 d19
  have n0 : (k != k) = false := by simp
  have n1 : (f != f) = false := by simp
  have n2 : (t != t) = false := by simp
  have n3 : (v != v) = false := by simp
  have HW0 : Hid (((w.alloc (Obj.cells #[.int .i64 k, .int .i64 f, .int .i64 t, .int .i64 v, .int .i64 bv, .int .i64 ba, .int .i64 bpv, .int .i64 bpn, ys, yt, ym, .int .i64 bs, .int .i64 ov, .int .i64 on, .int .i64 os, .int .i64 ot, .int .i64 pv, .int .i64 pn, ps, pt] 38)).alloc (Obj.cells #[.int .i64 k, .int .i64 f, .int .i64 t, .int .i64 v, .int .i64 bv, .int .i64 ba, .int .i64 bpv, .int .i64 bpn, zs, zt, zm, .int .i64 bs, .int .i64 ov, .int .i64 on, .int .i64 os, .int .i64 ot, .int .i64 pv, .int .i64 pn, qs, qt] 38)) = W0) := hW0.symm
  clear hA hB hW0
  go_enter Tryz.func52, Tryz.ntmps52
  go_wp2_with fail
  rw [HW0.out]
  refine (HB.out _ (hy1.below b0) (hz1.below b0)).mono ?_
  rintro e w1 ⟨rfl, hb1⟩
  have t1 := t0.below hb1
  have u1 := u0.below hb1
  have b1 := b0.trans (hb1.mono b0.size)
  clear c0 c1 c2 c3 c4 c5 c6 c7 c8 c9 c10 c11 c12 c13 c14 c15 c16 c17 c18 c19 d0 d1 d2 d3 d4 d5 d6 d7 d8 d9 d10 d11 d12 d13 d14 d15 d16 d17 d18 d19 t0 u0 b0 hb1 HW0 HB n0 n1 n2 n3
  obtain ⟨-, -, -, -, -, -, -, -, -, -, -, -, c12, c13, c14, c15, -, -, -, -⟩ := t1.c20
  obtain ⟨-, -, -, -, -, -, -, -, -, -, -, -, d12, d13, d14, d15, -, -, -, -⟩ := u1.c20
  go_wp2_with fail
  refine (HV.out _).mono ?_
  rintro e w2 ⟨rfl, hb2⟩
  have t2 := t1.below hb2
  have u2 := u1.below hb2
  have b2 := b1.trans (hb2.mono b1.size)
  clear c12 c13 c14 c15 d12 d13 d14 d15 t1 u1 b1 hb2 HV
  obtain ⟨-, -, -, -, -, -, -, -, -, -, -, -, -, -, -, -, c16, c17, c18, c19⟩ := t2.c20
  obtain ⟨-, -, -, -, -, -, -, -, -, -, -, -, -, -, -, -, d16, d17, d18, d19⟩ := u2.c20
  go_wp2_with fail
  refine (HP.out _ (hy2.below b2) (hz2.below b2)).mono ?_
  rintro e w3 ⟨rfl, hb3⟩
  have b3 := b2.trans (hb3.mono b2.size)
  clear c16 c17 c18 c19 d16 d17 d18 d19 t2 u2 b2 hb3 HP
  go_wp2
  go_ret
  exact ⟨rfl, b3⟩
end Go.Proofs.YtilhaokiohbeeaaGreatDoor
