/- The laws' own comparison of two blocks that are the same. -/
import Derived.Test.YtilhaokiohbeeaaGreatDoorG07
-- UNF Gen
namespace Go.Proofs.YtilhaokiohbeeaaGreatDoor
open Go.RowKit Go.ChangeShapes Go.WideShapes
set_option maxHeartbeats 4000000 in
set_option maxRecDepth 100000 in
theorem eqBlock_same (Y Z : BlX) (w : World) (hy : RdBl w Y) (hz : RdBl w Z) (hp : Y.b = Z.b) :
    Calls Tryz.prog 118 #[.agg #[.int .i64 Y.b.vw, .int .i64 Y.b.pa, .int .i64 Y.b.p.vw, .int .i64 Y.b.p.nm, Y.vs, Y.vt, Y.vm, .int .i64 Y.b.sv], .agg #[.int .i64 Z.b.vw, .int .i64 Z.b.pa, .int .i64 Z.b.p.vw, .int .i64 Z.b.p.nm, Z.vs, Z.vt, Z.vm, .int .i64 Z.b.sv]] w fun e w' => e = .returned (.bool true) ∧ Below w.heap.size w w' := by
  obtain ⟨⟨bv, ba, p, mo, sv⟩, ys, yt, ym⟩ := Y
  obtain ⟨p2, zs, zt, zm⟩ := Z
  simp only at hp
  subst hp
  simp only
  have HP : Hid (∀ W, RdPr W ⟨p, ys, yt⟩ → RdPr W ⟨p, zs, zt⟩ → Calls Tryz.prog 113 #[.agg #[.int .i64 p.vw, .int .i64 p.nm, ys, yt], .agg #[.int .i64 p.vw, .int .i64 p.nm, zs, zt]] W fun e w' => e = .returned (.bool true) ∧ Below W.heap.size W w') := fun W h1 h2 => eqProof_same ⟨p, ys, yt⟩ ⟨p, zs, zt⟩ W h1 h2 rfl
  have HM : Hid (∀ W, RdS W ym mo → RdS W zm mo → Calls Tryz.prog 189 #[ym, zm] W fun e w' => e = .returned (.bool true) ∧ ∃ q, w' = W.drewN q) := fun W h1 h2 => eqTexts_same _ _ mo W h1 h2
  obtain ⟨A, hA⟩ : ∃ A, A = Obj.cells #[.int .i64 bv, .int .i64 ba, .int .i64 p.vw, .int .i64 p.nm, ys, yt, ym, .int .i64 sv] 34 := ⟨_, rfl⟩
  obtain ⟨B, hB⟩ : ∃ B, B = Obj.cells #[.int .i64 bv, .int .i64 ba, .int .i64 p.vw, .int .i64 p.nm, zs, zt, zm, .int .i64 sv] 34 := ⟨_, rfl⟩
  have t0 : Bx ((w.alloc A).alloc B) w.heap.size 34 #[.int .i64 bv, .int .i64 ba, .int .i64 p.vw, .int .i64 p.nm, ys, yt, ym, .int .i64 sv] := by rw [hA]; exact (bx_new w _ _).below (below1 _ _)
  have u0 : Bx ((w.alloc A).alloc B) (w.heap.size + 1) 34 #[.int .i64 bv, .int .i64 ba, .int .i64 p.vw, .int .i64 p.nm, zs, zt, zm, .int .i64 sv] := by
    have h := bx_new (w.alloc A) 34 #[.int .i64 bv, .int .i64 ba, .int .i64 p.vw, .int .i64 p.nm, zs, zt, zm, .int .i64 sv]
    rw [szQ] at h
    rw [hB]; exact h
  have b0 : Below w.heap.size w ((w.alloc A).alloc B) := below2 w A B
  obtain ⟨W0, hW0⟩ : ∃ W0, W0 = (w.alloc A).alloc B := ⟨_, rfl⟩
  rw [← hW0] at t0 u0 b0
  rw [hA, hB] at hW0
  obtain ⟨c0, c1, c2, c3, c4, c5, c6, c7⟩ := t0.c8
  obtain ⟨d0, d1, d2, d3, d4, d5, d6, d7⟩ := u0.c8
  rw [hW0] at c0 c1 c2 c3 c4 c5 c6 c7 d0 d1 d2 d3 d4 d5 d6 d7
  have n0 : (bv != bv) = false := by simp
  have n1 : (ba != ba) = false := by simp
  have n2 : (sv != sv) = false := by simp
  have HW0 : Hid (((w.alloc (Obj.cells #[.int .i64 bv, .int .i64 ba, .int .i64 p.vw, .int .i64 p.nm, ys, yt, ym, .int .i64 sv] 34)).alloc (Obj.cells #[.int .i64 bv, .int .i64 ba, .int .i64 p.vw, .int .i64 p.nm, zs, zt, zm, .int .i64 sv] 34)) = W0) := hW0.symm
  clear hA hB hW0
  go_enter Tryz.func118, Tryz.ntmps118
  go_wp2_with fail
  rw [HW0.out]
  refine (HP.out _ (hy.pr.below b0) (hz.pr.below b0)).mono ?_
  rintro e w1 ⟨rfl, hb1⟩
  have t1 := t0.below hb1
  have u1 := u0.below hb1
  have b1 := b0.trans (hb1.mono b0.size)
  clear c0 c1 c2 c3 c4 c5 c6 c7 d0 d1 d2 d3 d4 d5 d6 d7 t0 u0 b0 hb1
  obtain ⟨-, -, -, -, -, -, c6, c7⟩ := t1.c8
  obtain ⟨-, -, -, -, -, -, d6, d7⟩ := u1.c8
  go_wp2_with fail
  refine (HM.out _ (hy.mo.below b1) (hz.mo.below b1)).mono ?_
  rintro e w2 ⟨rfl, q, rfl⟩
  have b2 : Below w.heap.size w (w1.drewN q) := below_drewN b1 q
  clear t1 u1 b1
  go_wp2
  go_ret
  exact ⟨rfl, b2⟩
end Go.Proofs.YtilhaokiohbeeaaGreatDoor
