/- The laws' own helpers over a Message: measured, copied, alike. -/
import Derived.Test.YtilhaokiohbeeaaGreatDoorG13
import Derived.Test.YtilhaokiohbeeaaGreatDoorG14
import Derived.Test.YtilhaokiohbeeaaGreatDoorBlsCp
import Derived.Test.YtilhaokiohbeeaaGreatDoorG08
import Derived.Deep.Cut
-- UNF Gen
namespace Go.Proofs.YtilhaokiohbeeaaGreatDoor
open Go.RowKit
/-- A Message, plain. -/
structure Msg where
  kd : Int
  fr : Int
  to' : Int
  vw : Int
  b : Blk
  vo : Vot
  p : Prf
def MsX.m (X : MsX) : Msg := ⟨X.kd, X.fr, X.to', X.vw, X.bl.b, X.vo, X.pf.p⟩
def mgB (X : MsX) : List Nat := blB X.bl ++ prB X.pf
/-- A Message in rows of the call's own, no two in one block. -/
structure OwnMg (w : World) (B : Nat) (X : MsX) : Prop where
  bl : OwnBl w B X.bl
  pf : OwnPr w B X.pf
  ap : ∀ q ∈ blB X.bl, q ∉ prB X.pf
theorem OwnMg.below {w w' : World} {B : Nat} {X : MsX} (h : OwnMg w B X) (hb : Below w.heap.size w w') : OwnMg w' B X := ⟨h.bl.below hb, h.pf.below hb, h.ap⟩
theorem OwnMg.mono {w : World} {B B' : Nat} {X : MsX} (h : OwnMg w B X) (hb : B' ≤ B) : OwnMg w B' X := ⟨h.bl.mono hb, h.pf.mono hb, h.ap⟩
theorem OwnMg.rd {w : World} {B : Nat} {X : MsX} (h : OwnMg w B X) : RdMg w X := ⟨h.bl.rd, h.pf.rd⟩
theorem OwnMg.bound {w : World} {B : Nat} {X : MsX} (h : OwnMg w B X) {k : Nat} (hk : k ∈ mgB X) : B ≤ k ∧ k < w.heap.size := by
  rcases List.mem_append.1 hk with hk | hk
  · exact h.bl.bound hk
  · exact h.pf.bound hk
theorem OwnMg.touch {bs : List Nat} {w w' : World} {B : Nat} {X : MsX} (h : OwnMg w B X) (ht : Touch bs w w') (hn : ∀ k ∈ mgB X, k ∉ bs) : OwnMg w' B X :=
  ⟨h.bl.touch ht (fun k hk => hn k (List.mem_append_left _ hk)), h.pf.touch ht (fun k hk => hn k (List.mem_append_right _ hk)), h.ap⟩
def ToMg (w : World) (m : Msg) (e : Ending) (w' : World) : Prop := ∃ Y : MsX, e = .returned (.agg #[.int .i64 Y.kd, .int .i64 Y.fr, .int .i64 Y.to', .int .i64 Y.vw, .int .i64 Y.bl.b.vw, .int .i64 Y.bl.b.pa, .int .i64 Y.bl.b.p.vw, .int .i64 Y.bl.b.p.nm, Y.bl.vs, Y.bl.vt, Y.bl.vm, .int .i64 Y.bl.b.sv, .int .i64 Y.vo.vw, .int .i64 Y.vo.nm, .int .i64 Y.vo.sv, .int .i64 Y.vo.tg, .int .i64 Y.pf.p.vw, .int .i64 Y.pf.p.nm, Y.pf.vs, Y.pf.vt]) ∧ Y.m = m ∧ OwnMg w' w.heap.size Y ∧ Below w.heap.size w w'
set_option maxHeartbeats 40000000 in
set_option maxRecDepth 100000 in
theorem toMessage_any (X : MsX) (w : World) (hx : RdMg w X) (hs1 : X.bl.b.p.sv.length + X.bl.b.p.tg.length + X.bl.b.mo.length ≤ 1048576) (hs2 : X.pf.p.sv.length + X.pf.p.tg.length ≤ 1048576) :
    Calls Tryz.prog 49 #[.agg #[.int .i64 X.kd, .int .i64 X.fr, .int .i64 X.to', .int .i64 X.vw, .int .i64 X.bl.b.vw, .int .i64 X.bl.b.pa, .int .i64 X.bl.b.p.vw, .int .i64 X.bl.b.p.nm, X.bl.vs, X.bl.vt, X.bl.vm, .int .i64 X.bl.b.sv, .int .i64 X.vo.vw, .int .i64 X.vo.nm, .int .i64 X.vo.sv, .int .i64 X.vo.tg, .int .i64 X.pf.p.vw, .int .i64 X.pf.p.nm, X.pf.vs, X.pf.vt]] w fun e w' => ToMg w X.m e w' := by
  obtain ⟨kd, fr, to', vw, ⟨b, bs, bt, bm⟩, vo, ⟨p, ps, pt⟩⟩ := X
  obtain ⟨hx1, hx2⟩ := hx
  simp only at hx1 hx2 hs1 hs2 ⊢
  have HB : Hid (∀ W, RdBl W ⟨b, bs, bt, bm⟩ → Calls Tryz.prog 111 #[.agg #[.int .i64 b.vw, .int .i64 b.pa, .int .i64 b.p.vw, .int .i64 b.p.nm, bs, bt, bm, .int .i64 b.sv]] W fun e w' => ToBl W b e w') := fun W h => toBlock_any ⟨b, bs, bt, bm⟩ W h hs1
  have HV : Hid (∀ W, Calls Tryz.prog 112 #[.agg #[.int .i64 vo.vw, .int .i64 vo.nm, .int .i64 vo.sv, .int .i64 vo.tg]] W fun e w' => e = .returned (.agg #[.int .i64 vo.vw, .int .i64 vo.nm, .int .i64 vo.sv, .int .i64 vo.tg]) ∧ Below W.heap.size W w') := fun W => toVote_any vo W
  have HP : Hid (∀ W, RdPr W ⟨p, ps, pt⟩ → Calls Tryz.prog 106 #[.agg #[.int .i64 p.vw, .int .i64 p.nm, ps, pt]] W fun e w' => ToPr W p e w') := fun W h => toProof_any ⟨p, ps, pt⟩ W h hs2
  clear hs1 hs2
  obtain ⟨A, hA⟩ : ∃ A, A = Obj.cells #[.int .i64 kd, .int .i64 fr, .int .i64 to', .int .i64 vw, .int .i64 b.vw, .int .i64 b.pa, .int .i64 b.p.vw, .int .i64 b.p.nm, bs, bt, bm, .int .i64 b.sv, .int .i64 vo.vw, .int .i64 vo.nm, .int .i64 vo.sv, .int .i64 vo.tg, .int .i64 p.vw, .int .i64 p.nm, ps, pt] 92 := ⟨_, rfl⟩
  obtain ⟨Z, hZ⟩ : ∃ Z, Z = Obj.cells #[.int .i64 0, .int .i64 0, .int .i64 0, .int .i64 0, .int .i64 0, .int .i64 0, .int .i64 0, .int .i64 0, .slice none 0 0, .slice none 0 0, .slice none 0 0, .int .i64 0, .int .i64 0, .int .i64 0, .int .i64 0, .int .i64 0, .int .i64 0, .int .i64 0, .slice none 0 0, .slice none 0 0] 38 := ⟨_, rfl⟩
  obtain ⟨C, hC⟩ : ∃ C, C = Obj.cells #[.int .i64 kd, .int .i64 fr, .int .i64 to', .int .i64 vw, .int .i64 0, .int .i64 0, .int .i64 0, .int .i64 0, .slice none 0 0, .slice none 0 0, .slice none 0 0, .int .i64 0, .int .i64 0, .int .i64 0, .int .i64 0, .int .i64 0, .int .i64 0, .int .i64 0, .slice none 0 0, .slice none 0 0] 38 := ⟨_, rfl⟩
  obtain ⟨W2, hW2⟩ : ∃ W2, W2 = ((w.alloc A).alloc Z).alloc C := ⟨_, rfl⟩
  have szQ : ∀ (v : World) (o : Obj), (v.alloc o).heap.size = v.heap.size + 1 := fun v o => by simp
  have t2 : Bx W2 w.heap.size 92 #[.int .i64 kd, .int .i64 fr, .int .i64 to', .int .i64 vw, .int .i64 b.vw, .int .i64 b.pa, .int .i64 b.p.vw, .int .i64 b.p.nm, bs, bt, bm, .int .i64 b.sv, .int .i64 vo.vw, .int .i64 vo.nm, .int .i64 vo.sv, .int .i64 vo.tg, .int .i64 p.vw, .int .i64 p.nm, ps, pt] := by rw [hW2, hA]; exact ((bx_new w _ _).below (below1 _ _)).below (below1 _ _)
  have r2 : Bx W2 (w.heap.size + 1) 38 #[.int .i64 0, .int .i64 0, .int .i64 0, .int .i64 0, .int .i64 0, .int .i64 0, .int .i64 0, .int .i64 0, .slice none 0 0, .slice none 0 0, .slice none 0 0, .int .i64 0, .int .i64 0, .int .i64 0, .int .i64 0, .int .i64 0, .int .i64 0, .int .i64 0, .slice none 0 0, .slice none 0 0] := by
    have h := (bx_new (w.alloc A) 38 #[.int .i64 0, .int .i64 0, .int .i64 0, .int .i64 0, .int .i64 0, .int .i64 0, .int .i64 0, .int .i64 0, .slice none 0 0, .slice none 0 0, .slice none 0 0, .int .i64 0, .int .i64 0, .int .i64 0, .int .i64 0, .int .i64 0, .int .i64 0, .int .i64 0, .slice none 0 0, .slice none 0 0]).below (below1 _ C)
    rw [szQ] at h
    rw [hW2, hZ]; exact h
  have o2 : Bx W2 (w.heap.size + 2) 38 #[.int .i64 kd, .int .i64 fr, .int .i64 to', .int .i64 vw, .int .i64 0, .int .i64 0, .int .i64 0, .int .i64 0, .slice none 0 0, .slice none 0 0, .slice none 0 0, .int .i64 0, .int .i64 0, .int .i64 0, .int .i64 0, .int .i64 0, .int .i64 0, .int .i64 0, .slice none 0 0, .slice none 0 0] := by
    have h := bx_new ((w.alloc A).alloc Z) 38 #[.int .i64 kd, .int .i64 fr, .int .i64 to', .int .i64 vw, .int .i64 0, .int .i64 0, .int .i64 0, .int .i64 0, .slice none 0 0, .slice none 0 0, .slice none 0 0, .int .i64 0, .int .i64 0, .int .i64 0, .int .i64 0, .int .i64 0, .int .i64 0, .int .i64 0, .slice none 0 0, .slice none 0 0]
    rw [szQ, szQ] at h
    rw [hW2, hC]; exact h
  have b2 : Below w.heap.size w W2 := by rw [hW2]; exact ((below1 w A).alloc (by simp) Z).alloc (by simp; omega) C
  have s2 : w.heap.size + 3 ≤ W2.heap.size := by rw [hW2]; simp
  have HWW : Hid (((w.alloc (Obj.cells #[.int .i64 kd, .int .i64 fr, .int .i64 to', .int .i64 vw, .int .i64 b.vw, .int .i64 b.pa, .int .i64 b.p.vw, .int .i64 b.p.nm, bs, bt, bm, .int .i64 b.sv, .int .i64 vo.vw, .int .i64 vo.nm, .int .i64 vo.sv, .int .i64 vo.tg, .int .i64 p.vw, .int .i64 p.nm, ps, pt] 92)).alloc (Obj.cells #[.int .i64 0, .int .i64 0, .int .i64 0, .int .i64 0, .int .i64 0, .int .i64 0, .int .i64 0, .int .i64 0, .slice none 0 0, .slice none 0 0, .slice none 0 0, .int .i64 0, .int .i64 0, .int .i64 0, .int .i64 0, .int .i64 0, .int .i64 0, .int .i64 0, .slice none 0 0, .slice none 0 0] 38)).alloc (Obj.cells #[.int .i64 kd, .int .i64 fr, .int .i64 to', .int .i64 vw, .int .i64 0, .int .i64 0, .int .i64 0, .int .i64 0, .slice none 0 0, .slice none 0 0, .slice none 0 0, .int .i64 0, .int .i64 0, .int .i64 0, .int .i64 0, .int .i64 0, .int .i64 0, .int .i64 0, .slice none 0 0, .slice none 0 0] 38) = W2) := by unfold Hid; rw [hW2, hA, hZ, hC]
  have t1 := (bx_new w 92 #[.int .i64 kd, .int .i64 fr, .int .i64 to', .int .i64 vw, .int .i64 b.vw, .int .i64 b.pa, .int .i64 b.p.vw, .int .i64 b.p.nm, bs, bt, bm, .int .i64 b.sv, .int .i64 vo.vw, .int .i64 vo.nm, .int .i64 vo.sv, .int .i64 vo.tg, .int .i64 p.vw, .int .i64 p.nm, ps, pt])
  obtain ⟨m0, m1, m2, m3, m4, m5, m6, m7, m8, m9, m10, m11, m12, m13, m14, m15, m16, m17, m18, m19⟩ := t1.c20
  obtain ⟨q0, q1, q2, q3, q4, q5, q6, q7, q8, q9, q10, q11, q12, q13, q14, q15, q16, q17, q18, q19⟩ := t2.c20
  clear hA hZ hC hW2 t1 szQ
  go_enter Tryz.func49, Tryz.ntmps49
  go_wp2_with fail
  rw [HWW.out]
  refine (HB.out _ (hx1.below b2)).mono ?_
  rintro e w3 ⟨Y, rfl, hY, hO3, hb3⟩
  have t3 := t2.below hb3
  have r3 := r2.below hb3
  have o3 := o2.below hb3
  have b3 := b2.trans (hb3.mono b2.size)
  have s3 : w.heap.size + 3 ≤ w3.heap.size := Nat.le_trans s2 hb3.size
  have O3 := OwnBl.mono hO3 s2
  clear m0 m1 m2 m3 m4 m5 m6 m7 m8 m9 m10 m11 m12 m13 m14 m15 m16 m17 m18 m19 q0 q1 q2 q3 q4 q5 q6 q7 q8 q9 q10 q11 q12 q13 q14 q15 q16 q17 q18 q19 t2 r2 o2 b2 hb3 HB HWW s2 hO3
  obtain ⟨a1, c1, a2, c2, e1, e2⟩ := O3.pr.slices
  obtain ⟨a3, c3, e3⟩ := ownSlX O3.mo
  obtain ⟨yb, ys, yt, ym⟩ := Y
  simp only [BlX.pr] at hY e1 e2 e3 O3 ⊢
  replace hY := hY.symm
  subst hY
  generalize b.p.sv.length = n1 at e1
  generalize b.p.tg.length = n2 at e2
  generalize b.mo.length = n3 at e3
  subst e1 e2 e3
  obtain ⟨f0, f1, f2, f3, f4, f5, f6, f7, f8, f9, f10, f11, f12, f13, f14, f15, f16, f17, f18, f19⟩ := o3.f20
  obtain ⟨g_0, g_1, g_2, g_3, g_4, g_5, g_6, g_7, g_8, g_9, g_10, g_11, g_12, g_13, g_14, g_15, g_16, g_17, g_18, g_19⟩ := o3.c20
  have p0 : Bx _ (w.heap.size + 2) 38 #[.int .i64 kd, .int .i64 fr, .int .i64 to', .int .i64 vw, .int .i64 b.vw, .int .i64 0, .int .i64 0, .int .i64 0, .slice none 0 0, .slice none 0 0, .slice none 0 0, .int .i64 0, .int .i64 0, .int .i64 0, .int .i64 0, .int .i64 0, .int .i64 0, .int .i64 0, .slice none 0 0, .slice none 0 0] := o3.set 4 (.int .i64 b.vw)
  have p1 : Bx _ (w.heap.size + 2) 38 #[.int .i64 kd, .int .i64 fr, .int .i64 to', .int .i64 vw, .int .i64 b.vw, .int .i64 b.pa, .int .i64 0, .int .i64 0, .slice none 0 0, .slice none 0 0, .slice none 0 0, .int .i64 0, .int .i64 0, .int .i64 0, .int .i64 0, .int .i64 0, .int .i64 0, .int .i64 0, .slice none 0 0, .slice none 0 0] := p0.set 5 (.int .i64 b.pa)
  have p2 : Bx _ (w.heap.size + 2) 38 #[.int .i64 kd, .int .i64 fr, .int .i64 to', .int .i64 vw, .int .i64 b.vw, .int .i64 b.pa, .int .i64 b.p.vw, .int .i64 0, .slice none 0 0, .slice none 0 0, .slice none 0 0, .int .i64 0, .int .i64 0, .int .i64 0, .int .i64 0, .int .i64 0, .int .i64 0, .int .i64 0, .slice none 0 0, .slice none 0 0] := p1.set 6 (.int .i64 b.p.vw)
  have p3 : Bx _ (w.heap.size + 2) 38 #[.int .i64 kd, .int .i64 fr, .int .i64 to', .int .i64 vw, .int .i64 b.vw, .int .i64 b.pa, .int .i64 b.p.vw, .int .i64 b.p.nm, .slice none 0 0, .slice none 0 0, .slice none 0 0, .int .i64 0, .int .i64 0, .int .i64 0, .int .i64 0, .int .i64 0, .int .i64 0, .int .i64 0, .slice none 0 0, .slice none 0 0] := p2.set 7 (.int .i64 b.p.nm)
  have p4 : Bx _ (w.heap.size + 2) 38 #[.int .i64 kd, .int .i64 fr, .int .i64 to', .int .i64 vw, .int .i64 b.vw, .int .i64 b.pa, .int .i64 b.p.vw, .int .i64 b.p.nm, .slice a1 n1 c1, .slice none 0 0, .slice none 0 0, .int .i64 0, .int .i64 0, .int .i64 0, .int .i64 0, .int .i64 0, .int .i64 0, .int .i64 0, .slice none 0 0, .slice none 0 0] := p3.set 8 (.slice a1 n1 c1)
  have p5 : Bx _ (w.heap.size + 2) 38 #[.int .i64 kd, .int .i64 fr, .int .i64 to', .int .i64 vw, .int .i64 b.vw, .int .i64 b.pa, .int .i64 b.p.vw, .int .i64 b.p.nm, .slice a1 n1 c1, .slice a2 n2 c2, .slice none 0 0, .int .i64 0, .int .i64 0, .int .i64 0, .int .i64 0, .int .i64 0, .int .i64 0, .int .i64 0, .slice none 0 0, .slice none 0 0] := p4.set 9 (.slice a2 n2 c2)
  have p6 : Bx _ (w.heap.size + 2) 38 #[.int .i64 kd, .int .i64 fr, .int .i64 to', .int .i64 vw, .int .i64 b.vw, .int .i64 b.pa, .int .i64 b.p.vw, .int .i64 b.p.nm, .slice a1 n1 c1, .slice a2 n2 c2, .slice a3 n3 c3, .int .i64 0, .int .i64 0, .int .i64 0, .int .i64 0, .int .i64 0, .int .i64 0, .int .i64 0, .slice none 0 0, .slice none 0 0] := p5.set 10 (.slice a3 n3 c3)
  have p7 : Bx _ (w.heap.size + 2) 38 #[.int .i64 kd, .int .i64 fr, .int .i64 to', .int .i64 vw, .int .i64 b.vw, .int .i64 b.pa, .int .i64 b.p.vw, .int .i64 b.p.nm, .slice a1 n1 c1, .slice a2 n2 c2, .slice a3 n3 c3, .int .i64 b.sv, .int .i64 0, .int .i64 0, .int .i64 0, .int .i64 0, .int .i64 0, .int .i64 0, .slice none 0 0, .slice none 0 0] := p6.set 11 (.int .i64 b.sv)
  have hin : w.heap.size + 2 ∈ [w.heap.size + 2] := List.mem_singleton.2 rfl
  have HT : Touch [w.heap.size + 2] w3 ((((((((w3.setCell ⟨w.heap.size + 2, 4, none⟩ (.int .i64 b.vw)).setCell ⟨w.heap.size + 2, 5, none⟩ (.int .i64 b.pa)).setCell ⟨w.heap.size + 2, 6, none⟩ (.int .i64 b.p.vw)).setCell ⟨w.heap.size + 2, 7, none⟩ (.int .i64 b.p.nm)).setCell ⟨w.heap.size + 2, 8, none⟩ (.slice a1 n1 c1)).setCell ⟨w.heap.size + 2, 9, none⟩ (.slice a2 n2 c2)).setCell ⟨w.heap.size + 2, 10, none⟩ (.slice a3 n3 c3)).setCell ⟨w.heap.size + 2, 11, none⟩ (.int .i64 b.sv)) := ((((((((Touch.set hin).trans (Touch.set hin)).trans (Touch.set hin)).trans (Touch.set hin)).trans (Touch.set hin)).trans (Touch.set hin)).trans (Touch.set hin)).trans (Touch.set hin))
  have t4 := t3.of_block (HT.block _ t3.lt (by simp))
  have r4 := r3.of_block (HT.block _ r3.lt (by simp))
  have o4 : Bx ((((((((w3.setCell ⟨w.heap.size + 2, 4, none⟩ (.int .i64 b.vw)).setCell ⟨w.heap.size + 2, 5, none⟩ (.int .i64 b.pa)).setCell ⟨w.heap.size + 2, 6, none⟩ (.int .i64 b.p.vw)).setCell ⟨w.heap.size + 2, 7, none⟩ (.int .i64 b.p.nm)).setCell ⟨w.heap.size + 2, 8, none⟩ (.slice a1 n1 c1)).setCell ⟨w.heap.size + 2, 9, none⟩ (.slice a2 n2 c2)).setCell ⟨w.heap.size + 2, 10, none⟩ (.slice a3 n3 c3)).setCell ⟨w.heap.size + 2, 11, none⟩ (.int .i64 b.sv)) (w.heap.size + 2) 38 #[.int .i64 kd, .int .i64 fr, .int .i64 to', .int .i64 vw, .int .i64 b.vw, .int .i64 b.pa, .int .i64 b.p.vw, .int .i64 b.p.nm, .slice a1 n1 c1, .slice a2 n2 c2, .slice a3 n3 c3, .int .i64 b.sv, .int .i64 0, .int .i64 0, .int .i64 0, .int .i64 0, .int .i64 0, .int .i64 0, .slice none 0 0, .slice none 0 0] := p7
  have b4 : Below w.heap.size w ((((((((w3.setCell ⟨w.heap.size + 2, 4, none⟩ (.int .i64 b.vw)).setCell ⟨w.heap.size + 2, 5, none⟩ (.int .i64 b.pa)).setCell ⟨w.heap.size + 2, 6, none⟩ (.int .i64 b.p.vw)).setCell ⟨w.heap.size + 2, 7, none⟩ (.int .i64 b.p.nm)).setCell ⟨w.heap.size + 2, 8, none⟩ (.slice a1 n1 c1)).setCell ⟨w.heap.size + 2, 9, none⟩ (.slice a2 n2 c2)).setCell ⟨w.heap.size + 2, 10, none⟩ (.slice a3 n3 c3)).setCell ⟨w.heap.size + 2, 11, none⟩ (.int .i64 b.sv)) := HT.below b3 (fun q hq => by have := List.mem_singleton.1 hq; omega)
  have s4 : w.heap.size + 3 ≤ (World.heap ((((((((w3.setCell ⟨w.heap.size + 2, 4, none⟩ (.int .i64 b.vw)).setCell ⟨w.heap.size + 2, 5, none⟩ (.int .i64 b.pa)).setCell ⟨w.heap.size + 2, 6, none⟩ (.int .i64 b.p.vw)).setCell ⟨w.heap.size + 2, 7, none⟩ (.int .i64 b.p.nm)).setCell ⟨w.heap.size + 2, 8, none⟩ (.slice a1 n1 c1)).setCell ⟨w.heap.size + 2, 9, none⟩ (.slice a2 n2 c2)).setCell ⟨w.heap.size + 2, 10, none⟩ (.slice a3 n3 c3)).setCell ⟨w.heap.size + 2, 11, none⟩ (.int .i64 b.sv))).size := Nat.le_trans s3 HT.size
  have O4 := O3.touch HT (fun q hq e => by have h1 := (O3.bound hq).1; have h2 := List.mem_singleton.1 e; omega)
  clear HT hin p0 p1 p2 p3 p4 p5 p6 p7 t3 r3 o3 b3 s3 O3
  obtain ⟨-, -, -, -, -, -, -, -, -, -, -, -, q12, q13, q14, q15, -, -, -, -⟩ := t4.c20
  go_wp2_with fail
  clear f0 f1 f2 f3 f4 f5 f6 f7 f8 f9 f10 f11 f12 f13 f14 f15 f16 f17 f18 f19 g_0 g_1 g_2 g_3 g_4 g_5 g_6 g_7 g_8 g_9 g_10 g_11 g_12 g_13 g_14 g_15 g_16 g_17 g_18 g_19
  generalize ((((((((w3.setCell ⟨w.heap.size + 2, 4, none⟩ (.int .i64 b.vw)).setCell ⟨w.heap.size + 2, 5, none⟩ (.int .i64 b.pa)).setCell ⟨w.heap.size + 2, 6, none⟩ (.int .i64 b.p.vw)).setCell ⟨w.heap.size + 2, 7, none⟩ (.int .i64 b.p.nm)).setCell ⟨w.heap.size + 2, 8, none⟩ (.slice a1 n1 c1)).setCell ⟨w.heap.size + 2, 9, none⟩ (.slice a2 n2 c2)).setCell ⟨w.heap.size + 2, 10, none⟩ (.slice a3 n3 c3)).setCell ⟨w.heap.size + 2, 11, none⟩ (.int .i64 b.sv)) = W4 at t4 r4 O4 b4 s4 o4 q12 q13 q14 q15 ⊢
  as_aux_lemma =>
    refine (HV.out _).mono ?_
    rintro e w5 ⟨rfl, hbn⟩
    have t5 := t4.below hbn
    have r5 := r4.below hbn
    have o5 := o4.below hbn
    have O5 := O4.below hbn
    have b5 := b4.trans (hbn.mono b4.size)
    have s5 : w.heap.size + 3 ≤ w5.heap.size := Nat.le_trans s4 hbn.size
    clear q12 q13 q14 q15 t4 r4 o4 O4 b4 s4 hbn HV
    obtain ⟨f0, f1, f2, f3, f4, f5, f6, f7, f8, f9, f10, f11, f12, f13, f14, f15, f16, f17, f18, f19⟩ := o5.f20
    obtain ⟨g_0, g_1, g_2, g_3, g_4, g_5, g_6, g_7, g_8, g_9, g_10, g_11, g_12, g_13, g_14, g_15, g_16, g_17, g_18, g_19⟩ := o5.c20
    have p0 : Bx _ (w.heap.size + 2) 38 #[.int .i64 kd, .int .i64 fr, .int .i64 to', .int .i64 vw, .int .i64 b.vw, .int .i64 b.pa, .int .i64 b.p.vw, .int .i64 b.p.nm, .slice a1 n1 c1, .slice a2 n2 c2, .slice a3 n3 c3, .int .i64 b.sv, .int .i64 vo.vw, .int .i64 0, .int .i64 0, .int .i64 0, .int .i64 0, .int .i64 0, .slice none 0 0, .slice none 0 0] := o5.set 12 (.int .i64 vo.vw)
    have p1 : Bx _ (w.heap.size + 2) 38 #[.int .i64 kd, .int .i64 fr, .int .i64 to', .int .i64 vw, .int .i64 b.vw, .int .i64 b.pa, .int .i64 b.p.vw, .int .i64 b.p.nm, .slice a1 n1 c1, .slice a2 n2 c2, .slice a3 n3 c3, .int .i64 b.sv, .int .i64 vo.vw, .int .i64 vo.nm, .int .i64 0, .int .i64 0, .int .i64 0, .int .i64 0, .slice none 0 0, .slice none 0 0] := p0.set 13 (.int .i64 vo.nm)
    have p2 : Bx _ (w.heap.size + 2) 38 #[.int .i64 kd, .int .i64 fr, .int .i64 to', .int .i64 vw, .int .i64 b.vw, .int .i64 b.pa, .int .i64 b.p.vw, .int .i64 b.p.nm, .slice a1 n1 c1, .slice a2 n2 c2, .slice a3 n3 c3, .int .i64 b.sv, .int .i64 vo.vw, .int .i64 vo.nm, .int .i64 vo.sv, .int .i64 0, .int .i64 0, .int .i64 0, .slice none 0 0, .slice none 0 0] := p1.set 14 (.int .i64 vo.sv)
    have p3 : Bx _ (w.heap.size + 2) 38 #[.int .i64 kd, .int .i64 fr, .int .i64 to', .int .i64 vw, .int .i64 b.vw, .int .i64 b.pa, .int .i64 b.p.vw, .int .i64 b.p.nm, .slice a1 n1 c1, .slice a2 n2 c2, .slice a3 n3 c3, .int .i64 b.sv, .int .i64 vo.vw, .int .i64 vo.nm, .int .i64 vo.sv, .int .i64 vo.tg, .int .i64 0, .int .i64 0, .slice none 0 0, .slice none 0 0] := p2.set 15 (.int .i64 vo.tg)
    have hin : w.heap.size + 2 ∈ [w.heap.size + 2] := List.mem_singleton.2 rfl
    have HT : Touch [w.heap.size + 2] w5 ((((w5.setCell ⟨w.heap.size + 2, 12, none⟩ (.int .i64 vo.vw)).setCell ⟨w.heap.size + 2, 13, none⟩ (.int .i64 vo.nm)).setCell ⟨w.heap.size + 2, 14, none⟩ (.int .i64 vo.sv)).setCell ⟨w.heap.size + 2, 15, none⟩ (.int .i64 vo.tg)) := ((((Touch.set hin).trans (Touch.set hin)).trans (Touch.set hin)).trans (Touch.set hin))
    have t6 := t5.of_block (HT.block _ t5.lt (by simp))
    have r6 := r5.of_block (HT.block _ r5.lt (by simp))
    have o6 : Bx ((((w5.setCell ⟨w.heap.size + 2, 12, none⟩ (.int .i64 vo.vw)).setCell ⟨w.heap.size + 2, 13, none⟩ (.int .i64 vo.nm)).setCell ⟨w.heap.size + 2, 14, none⟩ (.int .i64 vo.sv)).setCell ⟨w.heap.size + 2, 15, none⟩ (.int .i64 vo.tg)) (w.heap.size + 2) 38 #[.int .i64 kd, .int .i64 fr, .int .i64 to', .int .i64 vw, .int .i64 b.vw, .int .i64 b.pa, .int .i64 b.p.vw, .int .i64 b.p.nm, .slice a1 n1 c1, .slice a2 n2 c2, .slice a3 n3 c3, .int .i64 b.sv, .int .i64 vo.vw, .int .i64 vo.nm, .int .i64 vo.sv, .int .i64 vo.tg, .int .i64 0, .int .i64 0, .slice none 0 0, .slice none 0 0] := p3
    have b6 : Below w.heap.size w ((((w5.setCell ⟨w.heap.size + 2, 12, none⟩ (.int .i64 vo.vw)).setCell ⟨w.heap.size + 2, 13, none⟩ (.int .i64 vo.nm)).setCell ⟨w.heap.size + 2, 14, none⟩ (.int .i64 vo.sv)).setCell ⟨w.heap.size + 2, 15, none⟩ (.int .i64 vo.tg)) := HT.below b5 (fun q hq => by have := List.mem_singleton.1 hq; omega)
    have s6 : w.heap.size + 3 ≤ (World.heap ((((w5.setCell ⟨w.heap.size + 2, 12, none⟩ (.int .i64 vo.vw)).setCell ⟨w.heap.size + 2, 13, none⟩ (.int .i64 vo.nm)).setCell ⟨w.heap.size + 2, 14, none⟩ (.int .i64 vo.sv)).setCell ⟨w.heap.size + 2, 15, none⟩ (.int .i64 vo.tg))).size := Nat.le_trans s5 HT.size
    have O6 := O5.touch HT (fun q hq e => by have h1 := (O5.bound hq).1; have h2 := List.mem_singleton.1 e; omega)
    clear HT hin p0 p1 p2 p3 t5 r5 o5 b5 s5 O5
    obtain ⟨-, -, -, -, -, -, -, -, -, -, -, -, -, -, -, -, q16, q17, q18, q19⟩ := t6.c20
    go_wp2_with fail
    clear f0 f1 f2 f3 f4 f5 f6 f7 f8 f9 f10 f11 f12 f13 f14 f15 f16 f17 f18 f19 g_0 g_1 g_2 g_3 g_4 g_5 g_6 g_7 g_8 g_9 g_10 g_11 g_12 g_13 g_14 g_15 g_16 g_17 g_18 g_19
    generalize ((((w5.setCell ⟨w.heap.size + 2, 12, none⟩ (.int .i64 vo.vw)).setCell ⟨w.heap.size + 2, 13, none⟩ (.int .i64 vo.nm)).setCell ⟨w.heap.size + 2, 14, none⟩ (.int .i64 vo.sv)).setCell ⟨w.heap.size + 2, 15, none⟩ (.int .i64 vo.tg)) = W6 at t6 r6 O6 b6 s6 o6 q16 q17 q18 q19 ⊢
    as_aux_lemma =>
      refine (HP.out _ (hx2.below b6)).mono ?_
      rintro e w7 ⟨Y, rfl, hY, hP7, hbn⟩
      have t7 := t6.below hbn
      have r7 := r6.below hbn
      have o7 := o6.below hbn
      have O7 := O6.below hbn
      have b7 := b6.trans (hbn.mono b6.size)
      have s7 : w.heap.size + 3 ≤ w7.heap.size := Nat.le_trans s6 hbn.size
      have AP : Hid (∀ q ∈ blB _, q ∉ prB Y) := fun q h1 h2 => by have := (O6.bound h1).2; have := (hP7.bound h2).1; omega
      have P7 := OwnPr.mono hP7 s6
      clear q16 q17 q18 q19 t6 r6 o6 O6 b6 s6 hbn HP hP7
      obtain ⟨a4, c4, a5, c5, e1, e2⟩ := P7.slices
      obtain ⟨yp, ys, yt⟩ := Y
      simp only at hY e1 e2 P7 AP ⊢
      replace hY := hY.symm
      subst hY
      generalize p.sv.length = n4 at e1
      generalize p.tg.length = n5 at e2
      subst e1 e2
      obtain ⟨f0, f1, f2, f3, f4, f5, f6, f7, f8, f9, f10, f11, f12, f13, f14, f15, f16, f17, f18, f19⟩ := o7.f20
      obtain ⟨g_0, g_1, g_2, g_3, g_4, g_5, g_6, g_7, g_8, g_9, g_10, g_11, g_12, g_13, g_14, g_15, g_16, g_17, g_18, g_19⟩ := o7.c20
      have p0 : Bx _ (w.heap.size + 2) 38 #[.int .i64 kd, .int .i64 fr, .int .i64 to', .int .i64 vw, .int .i64 b.vw, .int .i64 b.pa, .int .i64 b.p.vw, .int .i64 b.p.nm, .slice a1 n1 c1, .slice a2 n2 c2, .slice a3 n3 c3, .int .i64 b.sv, .int .i64 vo.vw, .int .i64 vo.nm, .int .i64 vo.sv, .int .i64 vo.tg, .int .i64 p.vw, .int .i64 0, .slice none 0 0, .slice none 0 0] := o7.set 16 (.int .i64 p.vw)
      have p1 : Bx _ (w.heap.size + 2) 38 #[.int .i64 kd, .int .i64 fr, .int .i64 to', .int .i64 vw, .int .i64 b.vw, .int .i64 b.pa, .int .i64 b.p.vw, .int .i64 b.p.nm, .slice a1 n1 c1, .slice a2 n2 c2, .slice a3 n3 c3, .int .i64 b.sv, .int .i64 vo.vw, .int .i64 vo.nm, .int .i64 vo.sv, .int .i64 vo.tg, .int .i64 p.vw, .int .i64 p.nm, .slice none 0 0, .slice none 0 0] := p0.set 17 (.int .i64 p.nm)
      have p2 : Bx _ (w.heap.size + 2) 38 #[.int .i64 kd, .int .i64 fr, .int .i64 to', .int .i64 vw, .int .i64 b.vw, .int .i64 b.pa, .int .i64 b.p.vw, .int .i64 b.p.nm, .slice a1 n1 c1, .slice a2 n2 c2, .slice a3 n3 c3, .int .i64 b.sv, .int .i64 vo.vw, .int .i64 vo.nm, .int .i64 vo.sv, .int .i64 vo.tg, .int .i64 p.vw, .int .i64 p.nm, .slice a4 n4 c4, .slice none 0 0] := p1.set 18 (.slice a4 n4 c4)
      have p3 : Bx _ (w.heap.size + 2) 38 #[.int .i64 kd, .int .i64 fr, .int .i64 to', .int .i64 vw, .int .i64 b.vw, .int .i64 b.pa, .int .i64 b.p.vw, .int .i64 b.p.nm, .slice a1 n1 c1, .slice a2 n2 c2, .slice a3 n3 c3, .int .i64 b.sv, .int .i64 vo.vw, .int .i64 vo.nm, .int .i64 vo.sv, .int .i64 vo.tg, .int .i64 p.vw, .int .i64 p.nm, .slice a4 n4 c4, .slice a5 n5 c5] := p2.set 19 (.slice a5 n5 c5)
      have hin : w.heap.size + 2 ∈ [w.heap.size + 2] := List.mem_singleton.2 rfl
      have HT : Touch [w.heap.size + 2] w7 ((((w7.setCell ⟨w.heap.size + 2, 16, none⟩ (.int .i64 p.vw)).setCell ⟨w.heap.size + 2, 17, none⟩ (.int .i64 p.nm)).setCell ⟨w.heap.size + 2, 18, none⟩ (.slice a4 n4 c4)).setCell ⟨w.heap.size + 2, 19, none⟩ (.slice a5 n5 c5)) := ((((Touch.set hin).trans (Touch.set hin)).trans (Touch.set hin)).trans (Touch.set hin))
      have t8 := t7.of_block (HT.block _ t7.lt (by simp))
      have r8 := r7.of_block (HT.block _ r7.lt (by simp))
      have o8 : Bx ((((w7.setCell ⟨w.heap.size + 2, 16, none⟩ (.int .i64 p.vw)).setCell ⟨w.heap.size + 2, 17, none⟩ (.int .i64 p.nm)).setCell ⟨w.heap.size + 2, 18, none⟩ (.slice a4 n4 c4)).setCell ⟨w.heap.size + 2, 19, none⟩ (.slice a5 n5 c5)) (w.heap.size + 2) 38 #[.int .i64 kd, .int .i64 fr, .int .i64 to', .int .i64 vw, .int .i64 b.vw, .int .i64 b.pa, .int .i64 b.p.vw, .int .i64 b.p.nm, .slice a1 n1 c1, .slice a2 n2 c2, .slice a3 n3 c3, .int .i64 b.sv, .int .i64 vo.vw, .int .i64 vo.nm, .int .i64 vo.sv, .int .i64 vo.tg, .int .i64 p.vw, .int .i64 p.nm, .slice a4 n4 c4, .slice a5 n5 c5] := p3
      have b8 : Below w.heap.size w ((((w7.setCell ⟨w.heap.size + 2, 16, none⟩ (.int .i64 p.vw)).setCell ⟨w.heap.size + 2, 17, none⟩ (.int .i64 p.nm)).setCell ⟨w.heap.size + 2, 18, none⟩ (.slice a4 n4 c4)).setCell ⟨w.heap.size + 2, 19, none⟩ (.slice a5 n5 c5)) := HT.below b7 (fun q hq => by have := List.mem_singleton.1 hq; omega)
      have s8 : w.heap.size + 3 ≤ (World.heap ((((w7.setCell ⟨w.heap.size + 2, 16, none⟩ (.int .i64 p.vw)).setCell ⟨w.heap.size + 2, 17, none⟩ (.int .i64 p.nm)).setCell ⟨w.heap.size + 2, 18, none⟩ (.slice a4 n4 c4)).setCell ⟨w.heap.size + 2, 19, none⟩ (.slice a5 n5 c5))).size := Nat.le_trans s7 HT.size
      have O8 := O7.touch HT (fun q hq e => by have h1 := (O7.bound hq).1; have h2 := List.mem_singleton.1 e; omega)
      have P8 := P7.touch HT (fun q hq e => by have h1 := (P7.bound hq).1; have h2 := List.mem_singleton.1 e; omega)
      clear HT hin p0 p1 p2 p3 t7 r7 o7 b7 s7 O7 P7
      go_upto_region 9 with fail
      generalize ((((w7.setCell ⟨w.heap.size + 2, 16, none⟩ (.int .i64 p.vw)).setCell ⟨w.heap.size + 2, 17, none⟩ (.int .i64 p.nm)).setCell ⟨w.heap.size + 2, 18, none⟩ (.slice a4 n4 c4)).setCell ⟨w.heap.size + 2, 19, none⟩ (.slice a5 n5 c5)) = W8 at t8 r8 O8 P8 b8 s8 o8 ⊢
      clear t8
      clear f0 f1 f2 f3 f4 f5 f6 f7 f8 f9 f10 f11 f12 f13 f14 f15 f16 f17 f18 f19 g_0 g_1 g_2 g_3 g_4 g_5 g_6 g_7 g_8 g_9 g_10 g_11 g_12 g_13 g_14 g_15 g_16 g_17 g_18 g_19
      as_aux_lemma =>
        have OM : OwnMg W8 (w.heap.size + 3) ⟨kd, fr, to', vw, ⟨b, .slice a1 n1 c1, .slice a2 n2 c2, .slice a3 n3 c3⟩, vo, ⟨p, .slice a4 n4 c4, .slice a5 n5 c5⟩⟩ := ⟨O8, P8, AP.out⟩
        clear O8 P8 AP
        obtain ⟨CC, hCC⟩ : ∃ CC : Array Value, CC = #[.int .i64 kd, .int .i64 fr, .int .i64 to', .int .i64 vw, .int .i64 b.vw, .int .i64 b.pa, .int .i64 b.p.vw, .int .i64 b.p.nm, .slice a1 n1 c1, .slice a2 n2 c2, .slice a3 n3 c3, .int .i64 b.sv, .int .i64 vo.vw, .int .i64 vo.nm, .int .i64 vo.sv, .int .i64 vo.tg, .int .i64 p.vw, .int .i64 p.nm, .slice a4 n4 c4, .slice a5 n5 c5] := ⟨_, rfl⟩
        have hsz : (Tryz.prog.info? 38).map (·.size) = some CC.size := by rw [hCC]; kernel_rfl
        have hos : (#[.int .i64 0, .int .i64 0, .int .i64 0, .int .i64 0, .int .i64 0, .int .i64 0, .int .i64 0, .int .i64 0, .slice none 0 0, .slice none 0 0, .slice none 0 0, .int .i64 0, .int .i64 0, .int .i64 0, .int .i64 0, .int .i64 0, .int .i64 0, .int .i64 0, .slice none 0 0, .slice none 0 0] : Array Value).size = CC.size := by rw [hCC]; rfl
        have hall : CC.all (·.oneCell') = true := by rw [hCC]; simp [Value.oneCell']
        have HF : Hid (ToMg w ⟨kd, fr, to', vw, b, vo, p⟩ (.returned (.agg CC)) (W8.setRow (w.heap.size + 1) CC)) := by
          refine ⟨⟨kd, fr, to', vw, ⟨b, .slice a1 n1 c1, .slice a2 n2 c2, .slice a3 n3 c3⟩, vo, ⟨p, .slice a4 n4 c4, .slice a5 n5 c5⟩⟩, by rw [hCC], rfl, (OM.touch touch_setRow (fun q hq e => by have h1 := (OM.bound hq).1; have h2 := List.mem_singleton.1 e; omega)).mono (by omega), touch_setRow.below b8 (fun q hq => by have := List.mem_singleton.1 hq; omega)⟩
        rw [← hCC] at o8
        have ho9 : W8.heap[w.heap.size + 2]? = some (.cells CC 38 (0, 0)) := o8
        have hr9 : W8.heap[w.heap.size + 1]? = some (.cells #[.int .i64 0, .int .i64 0, .int .i64 0, .int .i64 0, .int .i64 0, .int .i64 0, .int .i64 0, .int .i64 0, .slice none 0 0, .slice none 0 0, .slice none 0 0, .int .i64 0, .int .i64 0, .int .i64 0, .int .i64 0, .int .i64 0, .int .i64 0, .int .i64 0, .slice none 0 0, .slice none 0 0] 38 (0, 0)) := r8
        have hr10 : (W8.setRow (w.heap.size + 1) CC).heap[w.heap.size + 1]? = some (.cells CC 38 (0, 0)) := r8.setRow CC
        clear OM o8 r8 b8 s8 hx1 hx2 hCC
        go_wp2_with (first | (refine wpList_load_row rfl 38 _ rfl (w.heap.size + 2) rfl 38 CC (0, 0) _ ho9 Tryz.underlying38 (by rfl) hsz ?_) | (refine wpList_store_row rfl 38 _ _ rfl (w.heap.size + 1) CC rfl rfl 38 _ hr9 hsz hos hall ?_))
        exact bodyPost_ret (v := .agg CC) (results_cell_row rfl _ _ (w.heap.size + 1) 38 CC (0, 0) _ rfl hr10 Tryz.underlying38 (by rfl) hsz) rfl HF.out
end Go.Proofs.YtilhaokiohbeeaaGreatDoor
