/- The contract of the model's copy of a Replica. -/
import Derived.Test.YtilhaokiohbeeaaGreatDoorG43
import Derived.Test.YtilhaokiohbeeaaGreatDoorRepCp
-- UNF Gen
namespace Go.Proofs.YtilhaokiohbeeaaGreatDoor
open Go.RowKit
set_option maxHeartbeats 4000000 in
set_option maxRecDepth 100000 in
theorem cpReplicaS_any (X : RepX) (w : World) (hx : RdRep w X) (hnil : ∀ M ∈ X.bs, NilOk M.vm) (hs : SmallRep X) :
    Calls Tryz.prog 69 #[.agg #[.int .i64 X.idn, .int .i64 X.n, .int .i64 X.vw, .int .i64 X.vo, .int .i64 X.lo, .int .i64 X.pr, .int .i64 X.hi.p.vw, .int .i64 X.hi.p.nm, X.hi.vs, X.hi.vt, X.vb, X.vv, X.vn, X.vd]] w fun e w' => ToRep w X.rep e w' := by
  have hsum := hs.sum
  obtain ⟨d, n, v, o, l, r, ⟨hp, hvs, hvt⟩, vb, bs, vv, vs, vn, ns, vd, dn⟩ := X
  obtain ⟨hx1, hx2, hx3, hx4, hx5, hx6⟩ := hx
  simp only at hx1 hx2 hx3 hx4 hx5 hx6 hnil hsum ⊢
  have HP : Hid (∀ W, RdPr W ⟨hp, hvs, hvt⟩ → Calls Tryz.prog 143 #[.agg #[.int .i64 hp.vw, .int .i64 hp.nm, hvs, hvt]] W fun e w' => ToPr W hp e w') := fun W h => cpProofS_any ⟨hp, hvs, hvt⟩ W h (by simp only; omega) (by simp only; omega)
  have HB : Hid (∀ W, RdBs W vb bs → InBs W bs → Calls Tryz.prog 156 #[vb] W fun e w' => TosB W bs e w') := fun W h hi => cpBlocksS_any vb bs W h hi hnil (by omega)
  have HR : Hid (RepX.rep ⟨d, n, v, o, l, r, ⟨hp, hvs, hvt⟩, vb, bs, vv, vs, vn, ns, vd, dn⟩ = ⟨d, n, v, o, l, r, hp, bs.map (·.b), vs, ns, dn⟩) := rfl
  have lv : vs.length ≤ 1048576 := by omega
  have ln : ns.length ≤ 1048576 := by omega
  have ld : dn.length ≤ 1048576 := by omega
  rw [HR.out]
  clear hsum hs hnil HR
  have t := (bx_new w 31 #[.int .i64 d, .int .i64 n, .int .i64 v, .int .i64 o, .int .i64 l, .int .i64 r, .int .i64 hp.vw, .int .i64 hp.nm, hvs, hvt, vb, vv, vn, vd]).below (below1 _ (.cells #[.int .i64 0, .int .i64 0, .int .i64 0, .int .i64 0, .int .i64 0, .int .i64 0, .int .i64 0, .int .i64 0, .slice none 0 0, .slice none 0 0, .slice none 0 0, .slice none 0 0, .slice none 0 0, .slice none 0 0] 31))
  have rr := bx_new (w.alloc (.cells #[.int .i64 d, .int .i64 n, .int .i64 v, .int .i64 o, .int .i64 l, .int .i64 r, .int .i64 hp.vw, .int .i64 hp.nm, hvs, hvt, vb, vv, vn, vd] 31)) 31 #[.int .i64 0, .int .i64 0, .int .i64 0, .int .i64 0, .int .i64 0, .int .i64 0, .int .i64 0, .int .i64 0, .slice none 0 0, .slice none 0 0, .slice none 0 0, .slice none 0 0, .slice none 0 0, .slice none 0 0]
  have b := below2 w (.cells #[.int .i64 d, .int .i64 n, .int .i64 v, .int .i64 o, .int .i64 l, .int .i64 r, .int .i64 hp.vw, .int .i64 hp.nm, hvs, hvt, vb, vv, vn, vd] 31) (.cells #[.int .i64 0, .int .i64 0, .int .i64 0, .int .i64 0, .int .i64 0, .int .i64 0, .int .i64 0, .int .i64 0, .slice none 0 0, .slice none 0 0, .slice none 0 0, .slice none 0 0, .slice none 0 0, .slice none 0 0] 31)
  have s : w.heap.size + 2 ≤ ((w.alloc (.cells #[.int .i64 d, .int .i64 n, .int .i64 v, .int .i64 o, .int .i64 l, .int .i64 r, .int .i64 hp.vw, .int .i64 hp.nm, hvs, hvt, vb, vv, vn, vd] 31)).alloc (.cells #[.int .i64 0, .int .i64 0, .int .i64 0, .int .i64 0, .int .i64 0, .int .i64 0, .int .i64 0, .int .i64 0, .slice none 0 0, .slice none 0 0, .slice none 0 0, .slice none 0 0, .slice none 0 0, .slice none 0 0] 31)).heap.size := by simp
  rw [show (w.alloc (.cells #[.int .i64 d, .int .i64 n, .int .i64 v, .int .i64 o, .int .i64 l, .int .i64 r, .int .i64 hp.vw, .int .i64 hp.nm, hvs, hvt, vb, vv, vn, vd] 31)).heap.size = w.heap.size + 1 by simp] at rr
  have O2 : Hid (OwnRep ((w.alloc (.cells #[.int .i64 d, .int .i64 n, .int .i64 v, .int .i64 o, .int .i64 l, .int .i64 r, .int .i64 hp.vw, .int .i64 hp.nm, hvs, hvt, vb, vv, vn, vd] 31)).alloc (.cells #[.int .i64 0, .int .i64 0, .int .i64 0, .int .i64 0, .int .i64 0, .int .i64 0, .int .i64 0, .int .i64 0, .slice none 0 0, .slice none 0 0, .slice none 0 0, .slice none 0 0, .slice none 0 0, .slice none 0 0] 31)) (w.heap.size + 2) (rexZ d n v o l r 0 0)) := ownRep_zero _ _ _ _ _ _ _ _ _ _
  obtain ⟨q0, q1, q2, q3, q4, q5, q6, q7, q8, q9, q10, q11, q12, q13⟩ := t.c14
  go_enter Tryz.func69, Tryz.ntmps69
  go_wp2_with fail
  generalize (w.alloc (.cells #[.int .i64 d, .int .i64 n, .int .i64 v, .int .i64 o, .int .i64 l, .int .i64 r, .int .i64 hp.vw, .int .i64 hp.nm, hvs, hvt, vb, vv, vn, vd] 31)).alloc (.cells #[.int .i64 0, .int .i64 0, .int .i64 0, .int .i64 0, .int .i64 0, .int .i64 0, .int .i64 0, .int .i64 0, .slice none 0 0, .slice none 0 0, .slice none 0 0, .slice none 0 0, .slice none 0 0, .slice none 0 0] 31) = W2 at t rr b s O2 q0 q1 q2 q3 q4 q5 q6 q7 q8 q9 q10 q11 q12 q13 ⊢
  refine (HP.out _ (hx1.below b)).mono ?_
  rintro e u3 ⟨Y, rfl, hY, hO3, hb3⟩
  have t3 := t.below hb3
  have r3 := rr.below hb3
  have b3 := b.trans (hb3.mono b.size)
  have s3 : w.heap.size + 2 ≤ u3.heap.size := Nat.le_trans s hb3.size
  have O3 := O2.out.putHi Y rfl hb3 hO3 s
  obtain ⟨a1, c1, a2, c2, e1, e2⟩ := hO3.slices
  obtain ⟨yp, yvs, yvt⟩ := Y
  simp only at hY e1 e2 O3 ⊢
  replace hY := hY.symm
  subst hY
  obtain ⟨n1, hn1⟩ : ∃ n, n = hp.sv.length := ⟨_, rfl⟩
  obtain ⟨n2, hn2⟩ : ∃ n, n = hp.tg.length := ⟨_, rfl⟩
  rw [← hn1] at e1
  rw [← hn2] at e2
  clear hn1 hn2
  subst e1 e2
  clear t rr b s hb3 hO3 HP O2 q0 q1 q2 q3 q4 q5 q6 q7 q8 q9 q10 q11 q12 q13
  obtain ⟨f0, f1, f2, f3, f4, f5, f6, f7, f8, f9, f10, f11, f12, f13⟩ := t3.f14
  obtain ⟨g0, g1, g2, g3, g4, g5, g6, g7, g8, g9, g10, g11, g12, g13⟩ := t3.c14
  have hin : w.heap.size ∈ [w.heap.size] := List.mem_singleton.2 rfl
  have HT : Touch [w.heap.size] u3 ((((u3.setCell ⟨w.heap.size, 6, none⟩ (.int .i64 hp.vw)).setCell ⟨w.heap.size, 7, none⟩ (.int .i64 hp.nm)).setCell ⟨w.heap.size, 8, none⟩ (.slice a1 n1 c1)).setCell ⟨w.heap.size, 9, none⟩ (.slice a2 n2 c2)) := ((((Touch.set hin).trans (Touch.set hin)).trans (Touch.set hin)).trans (Touch.set hin))
  have p0 : Bx _ w.heap.size 31 #[.int .i64 d, .int .i64 n, .int .i64 v, .int .i64 o, .int .i64 l, .int .i64 r, .int .i64 hp.vw, .int .i64 hp.nm, hvs, hvt, vb, vv, vn, vd] := t3.set 6 (.int .i64 hp.vw)
  have p1 : Bx _ w.heap.size 31 #[.int .i64 d, .int .i64 n, .int .i64 v, .int .i64 o, .int .i64 l, .int .i64 r, .int .i64 hp.vw, .int .i64 hp.nm, hvs, hvt, vb, vv, vn, vd] := p0.set 7 (.int .i64 hp.nm)
  have p2 : Bx _ w.heap.size 31 #[.int .i64 d, .int .i64 n, .int .i64 v, .int .i64 o, .int .i64 l, .int .i64 r, .int .i64 hp.vw, .int .i64 hp.nm, .slice a1 n1 c1, hvt, vb, vv, vn, vd] := p1.set 8 (.slice a1 n1 c1)
  have p3 : Bx _ w.heap.size 31 #[.int .i64 d, .int .i64 n, .int .i64 v, .int .i64 o, .int .i64 l, .int .i64 r, .int .i64 hp.vw, .int .i64 hp.nm, .slice a1 n1 c1, .slice a2 n2 c2, vb, vv, vn, vd] := p2.set 9 (.slice a2 n2 c2)
  have t4 : Bx ((((u3.setCell ⟨w.heap.size, 6, none⟩ (.int .i64 hp.vw)).setCell ⟨w.heap.size, 7, none⟩ (.int .i64 hp.nm)).setCell ⟨w.heap.size, 8, none⟩ (.slice a1 n1 c1)).setCell ⟨w.heap.size, 9, none⟩ (.slice a2 n2 c2)) w.heap.size 31 #[.int .i64 d, .int .i64 n, .int .i64 v, .int .i64 o, .int .i64 l, .int .i64 r, .int .i64 hp.vw, .int .i64 hp.nm, .slice a1 n1 c1, .slice a2 n2 c2, vb, vv, vn, vd] := p3
  have r4 := r3.of_block (HT.block _ r3.lt (by simp))
  have b4 : Below w.heap.size w ((((u3.setCell ⟨w.heap.size, 6, none⟩ (.int .i64 hp.vw)).setCell ⟨w.heap.size, 7, none⟩ (.int .i64 hp.nm)).setCell ⟨w.heap.size, 8, none⟩ (.slice a1 n1 c1)).setCell ⟨w.heap.size, 9, none⟩ (.slice a2 n2 c2)) := HT.below b3 (fun q hq => by have := List.mem_singleton.1 hq; omega)
  have s4 : w.heap.size + 2 ≤ (World.heap ((((u3.setCell ⟨w.heap.size, 6, none⟩ (.int .i64 hp.vw)).setCell ⟨w.heap.size, 7, none⟩ (.int .i64 hp.nm)).setCell ⟨w.heap.size, 8, none⟩ (.slice a1 n1 c1)).setCell ⟨w.heap.size, 9, none⟩ (.slice a2 n2 c2))).size := Nat.le_trans s3 HT.size
  have O4 : Hid (OwnRep ((((u3.setCell ⟨w.heap.size, 6, none⟩ (.int .i64 hp.vw)).setCell ⟨w.heap.size, 7, none⟩ (.int .i64 hp.nm)).setCell ⟨w.heap.size, 8, none⟩ (.slice a1 n1 c1)).setCell ⟨w.heap.size, 9, none⟩ (.slice a2 n2 c2)) (w.heap.size + 2) _) := OwnRep.touch O3 HT (fun q hq e => by have h1 := (OwnRep.bound O3 hq).1; have h2 := List.mem_singleton.1 e; omega)
  clear HT hin p0 p1 p2 p3 t3 r3 b3 s3 O3
  obtain ⟨-, -, -, -, -, -, -, -, -, -, q10, -, -, -⟩ := t4.c14
  go_wp2_with fail
  clear f0 f1 f2 f3 f4 f5 f6 f7 f8 f9 f10 f11 f12 f13 g0 g1 g2 g3 g4 g5 g6 g7 g8 g9 g10 g11 g12 g13
  generalize ((((u3.setCell ⟨w.heap.size, 6, none⟩ (.int .i64 hp.vw)).setCell ⟨w.heap.size, 7, none⟩ (.int .i64 hp.nm)).setCell ⟨w.heap.size, 8, none⟩ (.slice a1 n1 c1)).setCell ⟨w.heap.size, 9, none⟩ (.slice a2 n2 c2)) = W4 at t4 r4 b4 s4 O4 q10 ⊢
  refine (HB.out _ (hx2.below b4) (hx3.below b4)).mono ?_
  rintro e u5 ⟨u, us, rfl, hus, hOn, hbn⟩
  have t5 := t4.below hbn
  have r5 := r4.below hbn
  have b5 := b4.trans (hbn.mono b4.size)
  have s5 : w.heap.size + 2 ≤ u5.heap.size := Nat.le_trans s4 hbn.size
  have O5 := O4.out.putBl u us rfl hbn hOn s4
  have eb : ∃ a n c, u = .slice a n c := by obtain ⟨a, c, h⟩ := ownSlX hOn.row; exact ⟨a, _, c, h⟩
  obtain ⟨a3, n3, c3, eb⟩ := eb
  subst eb
  simp only at O5
  clear hOn hbn t4 r4 b4 s4 O4 q10 HB
  obtain ⟨f0, f1, f2, f3, f4, f5, f6, f7, f8, f9, f10, f11, f12, f13⟩ := t5.f14
  obtain ⟨g0, g1, g2, g3, g4, g5, g6, g7, g8, g9, g10, g11, g12, g13⟩ := t5.c14
  have hin : w.heap.size ∈ [w.heap.size] := List.mem_singleton.2 rfl
  have HT : Touch [w.heap.size] u5 (u5.setCell ⟨w.heap.size, 10, none⟩ (.slice a3 n3 c3)) := (Touch.set hin)
  have p0 : Bx _ w.heap.size 31 #[.int .i64 d, .int .i64 n, .int .i64 v, .int .i64 o, .int .i64 l, .int .i64 r, .int .i64 hp.vw, .int .i64 hp.nm, .slice a1 n1 c1, .slice a2 n2 c2, .slice a3 n3 c3, vv, vn, vd] := t5.set 10 (.slice a3 n3 c3)
  have t6 : Bx (u5.setCell ⟨w.heap.size, 10, none⟩ (.slice a3 n3 c3)) w.heap.size 31 #[.int .i64 d, .int .i64 n, .int .i64 v, .int .i64 o, .int .i64 l, .int .i64 r, .int .i64 hp.vw, .int .i64 hp.nm, .slice a1 n1 c1, .slice a2 n2 c2, .slice a3 n3 c3, vv, vn, vd] := p0
  have r6 := r5.of_block (HT.block _ r5.lt (by simp))
  have b6 : Below w.heap.size w (u5.setCell ⟨w.heap.size, 10, none⟩ (.slice a3 n3 c3)) := HT.below b5 (fun q hq => by have := List.mem_singleton.1 hq; omega)
  have s6 : w.heap.size + 2 ≤ (World.heap (u5.setCell ⟨w.heap.size, 10, none⟩ (.slice a3 n3 c3))).size := Nat.le_trans s5 HT.size
  have O6 : Hid (OwnRep (u5.setCell ⟨w.heap.size, 10, none⟩ (.slice a3 n3 c3)) (w.heap.size + 2) _) := OwnRep.touch O5 HT (fun q hq e => by have h1 := (OwnRep.bound O5 hq).1; have h2 := List.mem_singleton.1 e; omega)
  clear HT hin p0 t5 r5 b5 s5 O5
  obtain ⟨V, hV⟩ : ∃ V, V = (u5.setCell ⟨w.heap.size, 10, none⟩ (.slice a3 n3 c3)) := ⟨_, rfl⟩
  have szV : V.heap.size = u5.heap.size := by rw [hV]; simp
  rw [← hV] at t6 r6 b6 s6 O6
  have z : OwnVo (World.alloc (u5.setCell ⟨w.heap.size, 10, none⟩ (.slice a3 n3 c3)) (.cells #[] 36)) u5.heap.size (.slice (some ⟨u5.heap.size, 0, none⟩) 0 0) [] := by
    rw [← hV, ← szV]; exact ownVo_none V
  have tA := t6.below (below1 V (.cells #[] 36))
  have bA := b6.alloc b6.size (.cells #[] 36)
  have hrA := hx4.below bA
  rw [hV] at tA hrA
  obtain ⟨q0, q1, q2, q3, q4, q5, q6, q7, q8, q9, q10, q11, q12, q13⟩ := tA.c14
  go_wp2_with (at_builtin; (refine wpList_append_votes rfl _ _ rfl u5.heap.size _ _ [] vs rfl rfl z hrA (by simp; omega) (by simp) ?_))
  intro u u7 ho hg
  rw [← hV] at hg
  have hbn : Below V.heap.size V u7 := (below1 V (.cells #[] 36)).grown hg (by simp) (fun k hk => by have : u5.heap.size = k := Option.some.inj hk; omega)
  rw [← szV] at ho
  obtain ⟨a4, c4, e3⟩ := ownSlX ho
  have t7 := t6.below hbn
  have r7 := r6.below hbn
  have b7 := b6.trans (hbn.mono b6.size)
  have s7 : w.heap.size + 2 ≤ u7.heap.size := Nat.le_trans s6 hbn.size
  have O7 := O6.out.putVo u vs rfl hbn ho s6
  obtain ⟨n4, hn4⟩ : ∃ n, n = vs.length := ⟨_, rfl⟩
  rw [← hn4] at e3
  subst e3
  simp only at O7
  clear hn4 z tA bA hrA q0 q1 q2 q3 q4 q5 q6 q7 q8 q9 q10 q11 q12 q13 hg t6 r6 b6 s6 O6 hbn hV szV V ho f0 f1 f2 f3 f4 f5 f6 f7 f8 f9 f10 f11 f12 f13 g0 g1 g2 g3 g4 g5 g6 g7 g8 g9 g10 g11 g12 g13
  obtain ⟨f0, f1, f2, f3, f4, f5, f6, f7, f8, f9, f10, f11, f12, f13⟩ := t7.f14
  obtain ⟨g0, g1, g2, g3, g4, g5, g6, g7, g8, g9, g10, g11, g12, g13⟩ := t7.c14
  have hin : w.heap.size ∈ [w.heap.size] := List.mem_singleton.2 rfl
  have HT : Touch [w.heap.size] u7 (u7.setCell ⟨w.heap.size, 11, none⟩ (.slice a4 n4 c4)) := (Touch.set hin)
  have p0 : Bx _ w.heap.size 31 #[.int .i64 d, .int .i64 n, .int .i64 v, .int .i64 o, .int .i64 l, .int .i64 r, .int .i64 hp.vw, .int .i64 hp.nm, .slice a1 n1 c1, .slice a2 n2 c2, .slice a3 n3 c3, .slice a4 n4 c4, vn, vd] := t7.set 11 (.slice a4 n4 c4)
  have t8 : Bx (u7.setCell ⟨w.heap.size, 11, none⟩ (.slice a4 n4 c4)) w.heap.size 31 #[.int .i64 d, .int .i64 n, .int .i64 v, .int .i64 o, .int .i64 l, .int .i64 r, .int .i64 hp.vw, .int .i64 hp.nm, .slice a1 n1 c1, .slice a2 n2 c2, .slice a3 n3 c3, .slice a4 n4 c4, vn, vd] := p0
  have r8 := r7.of_block (HT.block _ r7.lt (by simp))
  have b8 : Below w.heap.size w (u7.setCell ⟨w.heap.size, 11, none⟩ (.slice a4 n4 c4)) := HT.below b7 (fun q hq => by have := List.mem_singleton.1 hq; omega)
  have s8 : w.heap.size + 2 ≤ (World.heap (u7.setCell ⟨w.heap.size, 11, none⟩ (.slice a4 n4 c4))).size := Nat.le_trans s7 HT.size
  have O8 : Hid (OwnRep (u7.setCell ⟨w.heap.size, 11, none⟩ (.slice a4 n4 c4)) (w.heap.size + 2) _) := OwnRep.touch O7 HT (fun q hq e => by have h1 := (OwnRep.bound O7 hq).1; have h2 := List.mem_singleton.1 e; omega)
  clear HT hin p0 t7 r7 b7 s7 O7
  obtain ⟨V, hV⟩ : ∃ V, V = (u7.setCell ⟨w.heap.size, 11, none⟩ (.slice a4 n4 c4)) := ⟨_, rfl⟩
  have szV : V.heap.size = u7.heap.size := by rw [hV]; simp
  rw [← hV] at t8 r8 b8 s8 O8
  have z : OwnNw (World.alloc (u7.setCell ⟨w.heap.size, 11, none⟩ (.slice a4 n4 c4)) (.cells #[] 128)) u7.heap.size (.slice (some ⟨u7.heap.size, 0, none⟩) 0 0) [] := by
    rw [← hV, ← szV]; exact ownNw_none V
  have tA := t8.below (below1 V (.cells #[] 128))
  have bA := b8.alloc b8.size (.cells #[] 128)
  have hrA := hx5.below bA
  rw [hV] at tA hrA
  obtain ⟨q0, q1, q2, q3, q4, q5, q6, q7, q8, q9, q10, q11, q12, q13⟩ := tA.c14
  go_wp2_with (at_builtin; (refine wpList_append_news rfl _ _ rfl u7.heap.size _ _ [] ns rfl rfl z hrA (by simp; omega) (by simp) ?_))
  intro u u9 ho hg
  rw [← hV] at hg
  have hbn : Below V.heap.size V u9 := (below1 V (.cells #[] 128)).grown hg (by simp) (fun k hk => by have : u7.heap.size = k := Option.some.inj hk; omega)
  rw [← szV] at ho
  obtain ⟨a5, c5, e3⟩ := ownSlX ho
  have t9 := t8.below hbn
  have r9 := r8.below hbn
  have b9 := b8.trans (hbn.mono b8.size)
  have s9 : w.heap.size + 2 ≤ u9.heap.size := Nat.le_trans s8 hbn.size
  have O9 := O8.out.putNw u ns rfl hbn ho s8
  obtain ⟨n5, hn5⟩ : ∃ n, n = ns.length := ⟨_, rfl⟩
  rw [← hn5] at e3
  subst e3
  simp only at O9
  clear hn5 z tA bA hrA q0 q1 q2 q3 q4 q5 q6 q7 q8 q9 q10 q11 q12 q13 hg t8 r8 b8 s8 O8 hbn hV szV V ho f0 f1 f2 f3 f4 f5 f6 f7 f8 f9 f10 f11 f12 f13 g0 g1 g2 g3 g4 g5 g6 g7 g8 g9 g10 g11 g12 g13
  obtain ⟨f0, f1, f2, f3, f4, f5, f6, f7, f8, f9, f10, f11, f12, f13⟩ := t9.f14
  obtain ⟨g0, g1, g2, g3, g4, g5, g6, g7, g8, g9, g10, g11, g12, g13⟩ := t9.c14
  have hin : w.heap.size ∈ [w.heap.size] := List.mem_singleton.2 rfl
  have HT : Touch [w.heap.size] u9 (u9.setCell ⟨w.heap.size, 12, none⟩ (.slice a5 n5 c5)) := (Touch.set hin)
  have p0 : Bx _ w.heap.size 31 #[.int .i64 d, .int .i64 n, .int .i64 v, .int .i64 o, .int .i64 l, .int .i64 r, .int .i64 hp.vw, .int .i64 hp.nm, .slice a1 n1 c1, .slice a2 n2 c2, .slice a3 n3 c3, .slice a4 n4 c4, .slice a5 n5 c5, vd] := t9.set 12 (.slice a5 n5 c5)
  have t10 : Bx (u9.setCell ⟨w.heap.size, 12, none⟩ (.slice a5 n5 c5)) w.heap.size 31 #[.int .i64 d, .int .i64 n, .int .i64 v, .int .i64 o, .int .i64 l, .int .i64 r, .int .i64 hp.vw, .int .i64 hp.nm, .slice a1 n1 c1, .slice a2 n2 c2, .slice a3 n3 c3, .slice a4 n4 c4, .slice a5 n5 c5, vd] := p0
  have r10 := r9.of_block (HT.block _ r9.lt (by simp))
  have b10 : Below w.heap.size w (u9.setCell ⟨w.heap.size, 12, none⟩ (.slice a5 n5 c5)) := HT.below b9 (fun q hq => by have := List.mem_singleton.1 hq; omega)
  have s10 : w.heap.size + 2 ≤ (World.heap (u9.setCell ⟨w.heap.size, 12, none⟩ (.slice a5 n5 c5))).size := Nat.le_trans s9 HT.size
  have O10 : Hid (OwnRep (u9.setCell ⟨w.heap.size, 12, none⟩ (.slice a5 n5 c5)) (w.heap.size + 2) _) := OwnRep.touch O9 HT (fun q hq e => by have h1 := (OwnRep.bound O9 hq).1; have h2 := List.mem_singleton.1 e; omega)
  clear HT hin p0 t9 r9 b9 s9 O9
  obtain ⟨V, hV⟩ : ∃ V, V = (u9.setCell ⟨w.heap.size, 12, none⟩ (.slice a5 n5 c5)) := ⟨_, rfl⟩
  have szV : V.heap.size = u9.heap.size := by rw [hV]; simp
  rw [← hV] at t10 r10 b10 s10 O10
  have z : OwnI (World.alloc (u9.setCell ⟨w.heap.size, 12, none⟩ (.slice a5 n5 c5)) (.cells #[] 2)) u9.heap.size (.slice (some ⟨u9.heap.size, 0, none⟩) 0 0) [] := by
    rw [← hV, ← szV]; exact ownIn_none V
  have tA := t10.below (below1 V (.cells #[] 2))
  have bA := b10.alloc b10.size (.cells #[] 2)
  have hrA := hx6.below bA
  rw [hV] at tA hrA
  obtain ⟨q0, q1, q2, q3, q4, q5, q6, q7, q8, q9, q10, q11, q12, q13⟩ := tA.c14
  go_wp2_with (at_builtin; (refine wpList_append_ints rfl _ _ rfl u9.heap.size _ _ [] dn rfl rfl z hrA (by simp; omega) (by simp) ?_))
  intro u u11 ho hg
  rw [← hV] at hg
  have hbn : Below V.heap.size V u11 := (below1 V (.cells #[] 2)).grown hg (by simp) (fun k hk => by have : u9.heap.size = k := Option.some.inj hk; omega)
  rw [← szV] at ho
  obtain ⟨a6, c6, e3⟩ := ownSlX ho
  have t11 := t10.below hbn
  have r11 := r10.below hbn
  have b11 := b10.trans (hbn.mono b10.size)
  have s11 : w.heap.size + 2 ≤ u11.heap.size := Nat.le_trans s10 hbn.size
  have O11 := O10.out.putDn u dn rfl hbn ho s10
  obtain ⟨n6, hn6⟩ : ∃ n, n = dn.length := ⟨_, rfl⟩
  rw [← hn6] at e3
  subst e3
  simp only at O11
  clear hn6 z tA bA hrA q0 q1 q2 q3 q4 q5 q6 q7 q8 q9 q10 q11 q12 q13 hg t10 r10 b10 s10 O10 hbn hV szV V ho f0 f1 f2 f3 f4 f5 f6 f7 f8 f9 f10 f11 f12 f13 g0 g1 g2 g3 g4 g5 g6 g7 g8 g9 g10 g11 g12 g13
  obtain ⟨f0, f1, f2, f3, f4, f5, f6, f7, f8, f9, f10, f11, f12, f13⟩ := t11.f14
  obtain ⟨g0, g1, g2, g3, g4, g5, g6, g7, g8, g9, g10, g11, g12, g13⟩ := t11.c14
  have hin : w.heap.size ∈ [w.heap.size] := List.mem_singleton.2 rfl
  have HT : Touch [w.heap.size] u11 (u11.setCell ⟨w.heap.size, 13, none⟩ (.slice a6 n6 c6)) := (Touch.set hin)
  have p0 : Bx _ w.heap.size 31 #[.int .i64 d, .int .i64 n, .int .i64 v, .int .i64 o, .int .i64 l, .int .i64 r, .int .i64 hp.vw, .int .i64 hp.nm, .slice a1 n1 c1, .slice a2 n2 c2, .slice a3 n3 c3, .slice a4 n4 c4, .slice a5 n5 c5, .slice a6 n6 c6] := t11.set 13 (.slice a6 n6 c6)
  have t12 : Bx (u11.setCell ⟨w.heap.size, 13, none⟩ (.slice a6 n6 c6)) w.heap.size 31 #[.int .i64 d, .int .i64 n, .int .i64 v, .int .i64 o, .int .i64 l, .int .i64 r, .int .i64 hp.vw, .int .i64 hp.nm, .slice a1 n1 c1, .slice a2 n2 c2, .slice a3 n3 c3, .slice a4 n4 c4, .slice a5 n5 c5, .slice a6 n6 c6] := p0
  have r12 := r11.of_block (HT.block _ r11.lt (by simp))
  have b12 : Below w.heap.size w (u11.setCell ⟨w.heap.size, 13, none⟩ (.slice a6 n6 c6)) := HT.below b11 (fun q hq => by have := List.mem_singleton.1 hq; omega)
  have s12 : w.heap.size + 2 ≤ (World.heap (u11.setCell ⟨w.heap.size, 13, none⟩ (.slice a6 n6 c6))).size := Nat.le_trans s11 HT.size
  have O12 : Hid (OwnRep (u11.setCell ⟨w.heap.size, 13, none⟩ (.slice a6 n6 c6)) (w.heap.size + 2) _) := OwnRep.touch O11 HT (fun q hq e => by have h1 := (OwnRep.bound O11 hq).1; have h2 := List.mem_singleton.1 e; omega)
  clear HT hin p0 t11 r11 b11 s11 O11
  obtain ⟨q0, q1, q2, q3, q4, q5, q6, q7, q8, q9, q10, q11, q12, q13⟩ := t12.c14
  obtain ⟨x0, x1, x2, x3, x4, x5, x6, x7, x8, x9, x10, x11, x12, x13⟩ := r12.c14
  obtain ⟨y0, y1, y2, y3, y4, y5, y6, y7, y8, y9, y10, y11, y12, y13⟩ := r12.f14
  obtain ⟨k0, k1, k2, k3, k4, k5, k6, k7, k8, k9, k10, k11, k12, k13⟩ := (r12.put14 (.int .i64 d) (.int .i64 n) (.int .i64 v) (.int .i64 o) (.int .i64 l) (.int .i64 r) (.int .i64 hp.vw) (.int .i64 hp.nm) (.slice a1 n1 c1) (.slice a2 n2 c2) (.slice a3 n3 c3) (.slice a4 n4 c4) (.slice a5 n5 c5) (.slice a6 n6 c6)).c14
  have HF : Hid (ToRep w ⟨d, n, v, o, l, r, hp, bs.map (·.b), vs, ns, dn⟩ (.returned (.agg #[.int .i64 d, .int .i64 n, .int .i64 v, .int .i64 o, .int .i64 l, .int .i64 r, .int .i64 hp.vw, .int .i64 hp.nm, .slice a1 n1 c1, .slice a2 n2 c2, .slice a3 n3 c3, .slice a4 n4 c4, .slice a5 n5 c5, .slice a6 n6 c6])) (put14 (u11.setCell ⟨w.heap.size, 13, none⟩ (.slice a6 n6 c6)) (w.heap.size + 1) (.int .i64 d) (.int .i64 n) (.int .i64 v) (.int .i64 o) (.int .i64 l) (.int .i64 r) (.int .i64 hp.vw) (.int .i64 hp.nm) (.slice a1 n1 c1) (.slice a2 n2 c2) (.slice a3 n3 c3) (.slice a4 n4 c4) (.slice a5 n5 c5) (.slice a6 n6 c6))) :=
    ⟨⟨d, n, v, o, l, r, ⟨hp, .slice a1 n1 c1, .slice a2 n2 c2⟩, .slice a3 n3 c3, us, .slice a4 n4 c4, vs, .slice a5 n5 c5, ns, .slice a6 n6 c6, dn⟩, rfl, by simp only [RepX.rep]; rw [hus], (OwnRep.touch O12.out put14_touch (fun q hq e => by have h1 := (OwnRep.bound O12.out hq).1; have h2 := List.mem_singleton.1 e; omega)).mono (by omega), put14_below b12 (by omega)⟩
  unfold put14 at k0 k1 k2 k3 k4 k5 k6 k7 k8 k9 k10 k11 k12 k13 HF
  clear t12 r12 b12 s12 O12 hx1 hx2 hx3 hx4 hx5 hx6 hus
  go_wp2
  exact bodyPost_ret (v := .agg #[.int .i64 d, .int .i64 n, .int .i64 v, .int .i64 o, .int .i64 l, .int .i64 r, .int .i64 hp.vw, .int .i64 hp.nm, .slice a1 n1 c1, .slice a2 n2 c2, .slice a3 n3 c3, .slice a4 n4 c4, .slice a5 n5 c5, .slice a6 n6 c6]) (by simp [results, Tryz.results69, go_sem, k0, k1, k2, k3, k4, k5, k6, k7, k8, k9, k10, k11, k12, k13]) rfl HF.out
end Go.Proofs.YtilhaokiohbeeaaGreatDoor
