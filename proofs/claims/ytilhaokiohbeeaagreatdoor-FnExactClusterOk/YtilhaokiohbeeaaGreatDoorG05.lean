/- The contracts of the laws' own helpers over proofs: measured, copied, alike; a proof that came in as an argument. A block that came in as an argument. The contracts of the law's measure and copy of a slice of texts. -/
import Derived.Test.YtilhaokiohbeeaaGreatDoorG03
import Derived.Test.YtilhaokiohbeeaaGreatDoorG04
import Derived.OpenShut
import Derived.SliceStrings
import Derived.Deep.Slices
import Derived.ChangeArms
import Derived.Test.YtilhaokiohbeeaaGreatDoorG00
-- UNF Gen
namespace Go.Proofs.YtilhaokiohbeeaaGreatDoor
open Go.RowKit Go.ChangeShapes Go.WideShapes
theorem szQ (w : World) (o : Obj) : (w.alloc o).heap.size = w.heap.size + 1 := by simp
set_option maxHeartbeats 400000 in
set_option maxRecDepth 100000 in
theorem szIntsP_at (v : Value) (ns : List Int) (l : Int) (w : World) (hr : RdI w v ns) (h0 : 0 ≤ l) (h1 : l ≤ 1048576) :
    Calls Tryz.prog 104 #[v, .int .i64 l] w fun e w' => w' = w ∧ ∃ x : Int, e = .returned (.int .i64 x) ∧ (x = -1 ∨ 0 ≤ x ∧ x + ns.length ≤ l) := by
  obtain ⟨a, cap, hv, hl, hm, _⟩ := id hr
  subst hv
  unfold maxLen at hm
  by_cases hb : l - (ns.length : Int) < 0
  · go_enter Tryz.func104, Tryz.ntmps104
    go_wp2
    go_ret
    exact ⟨rfl, -1, rfl, .inl rfl⟩
  · go_enter Tryz.func104, Tryz.ntmps104
    go_wp2
    go_ret
    exact ⟨rfl, _, rfl, .inr ⟨by omega, by omega⟩⟩
/-- What the measure of a proof leaves. -/
def SzPr (w : World) (p : Prf) (l : Int) (e : Ending) (w' : World) : Prop := Below w.heap.size w w' ∧ ∃ z : Int, e = .returned (.int .i64 z) ∧ (z = -1 ∨ 0 ≤ z ∧ z + p.sv.length + p.tg.length ≤ l)
set_option maxHeartbeats 2000000 in
set_option maxRecDepth 100000 in
theorem szProof_any (X : PrX) (l : Int) (w : World) (hx : RdPr w X) (hl0 : 0 ≤ l) (hl1 : l ≤ 1048576) :
    Calls Tryz.prog 100 #[.agg #[.int .i64 X.p.vw, .int .i64 X.p.nm, X.vs, X.vt], .int .i64 l] w fun e w' => SzPr w X.p l e w' := by
  have t0 := bx_new w 82 #[.int .i64 X.p.vw, .int .i64 X.p.nm, X.vs, X.vt]
  have b0 := below1 w (.cells #[.int .i64 X.p.vw, .int .i64 X.p.nm, X.vs, X.vt] 82)
  have HS : Hid (∀ l W, RdI W X.vs X.p.sv → 0 ≤ l → l ≤ 1048576 → Calls Tryz.prog 104 #[X.vs, .int .i64 l] W fun e w' => w' = W ∧ ∃ x : Int, e = .returned (.int .i64 x) ∧ (x = -1 ∨ 0 ≤ x ∧ x + X.p.sv.length ≤ l)) := fun l W h h0 h1 => szIntsP_at _ _ l W h h0 h1
  have HP : Hid (∀ l W, RdI W X.vt X.p.tg → 0 ≤ l → l ≤ 1048576 → Calls Tryz.prog 104 #[X.vt, .int .i64 l] W fun e w' => w' = W ∧ ∃ x : Int, e = .returned (.int .i64 x) ∧ (x = -1 ∨ 0 ≤ x ∧ x + X.p.tg.length ≤ l)) := fun l W h h0 h1 => szIntsP_at _ _ l W h h0 h1
  obtain ⟨-, -, q2, q3⟩ := t0.c4
  go_enter Tryz.func100, Tryz.ntmps100
  go_wp2_with fail
  refine (HS.out _ _ (hx.sv.below b0) hl0 hl1).mono ?_
  rintro e w1 ⟨hw1, z1, rfl, hz1⟩
  subst hw1
  rcases hz1 with hz1 | ⟨hz10, hz11⟩
  · subst hz1
    go_wp2
    go_ret
    exact ⟨b0, -1, rfl, .inl rfl⟩
  go_wp2_with fail
  refine (HP.out _ _ (hx.tg.below b0) hz10 (by omega)).mono ?_
  rintro e w2 ⟨hw2, z2, rfl, hz2⟩
  subst hw2
  clear q2 q3 t0
  rcases hz2 with hz2 | ⟨hz20, hz21⟩
  · subst hz2
    go_wp2
    go_ret
    exact ⟨b0, -1, rfl, .inl rfl⟩
  · have HSUM : Hid (z2 + X.p.sv.length + X.p.tg.length ≤ l) := by unfold Hid; omega
    clear hz11 hz21
    go_wp2
    go_ret
    exact ⟨b0, z2, rfl, .inr ⟨hz20, HSUM.out⟩⟩
/-- A proof of the call's own, with these numbers. -/
def ToPr (w : World) (p : Prf) (e : Ending) (w' : World) : Prop := ∃ Y : PrX, e = .returned (.agg #[.int .i64 Y.p.vw, .int .i64 Y.p.nm, Y.vs, Y.vt]) ∧ Y.p = p ∧ OwnPr w' w.heap.size Y ∧ Below w.heap.size w w'
theorem setOther {W : World} {b c j : Nat} {u : Value} (h : b ≠ c) : (W.setCell ⟨c, j, none⟩ u).heap[b]? = W.heap[b]? := heap_setCell_other W ⟨c, j, none⟩ b u h
set_option maxHeartbeats 4000000 in
set_option maxRecDepth 100000 in
theorem toProof_any (X : PrX) (w : World) (hx : RdPr w X) (hh : X.p.sv.length + X.p.tg.length ≤ 1048576) :
    Calls Tryz.prog 106 #[.agg #[.int .i64 X.p.vw, .int .i64 X.p.nm, X.vs, X.vt]] w fun e w' => ToPr w X.p e w' := by
  have HS : Hid (∀ W, RdI W X.vs X.p.sv → Calls Tryz.prog 110 #[X.vs] W fun e w' => ∃ u, e = .returned u ∧ OwnI w' W.heap.size u X.p.sv ∧ Below W.heap.size W w') := fun W h => toInts_any _ _ W h (by omega)
  have HP : Hid (∀ W, RdI W X.vt X.p.tg → Calls Tryz.prog 110 #[X.vt] W fun e w' => ∃ u, e = .returned u ∧ OwnI w' W.heap.size u X.p.tg ∧ Below W.heap.size W w') := fun W h => toInts_any _ _ W h (by omega)
  clear hh
  obtain ⟨A, hA⟩ : ∃ A, A = Obj.cells #[.int .i64 X.p.vw, .int .i64 X.p.nm, X.vs, X.vt] 82 := ⟨_, rfl⟩
  obtain ⟨Z, hZ⟩ : ∃ Z, Z = Obj.cells #[.int .i64 0, .int .i64 0, .slice none 0 0, .slice none 0 0] 26 := ⟨_, rfl⟩
  obtain ⟨C, hC⟩ : ∃ C, C = Obj.cells #[.int .i64 X.p.vw, .int .i64 X.p.nm, .slice none 0 0, .slice none 0 0] 26 := ⟨_, rfl⟩
  obtain ⟨W2, hW2⟩ : ∃ W2, W2 = ((w.alloc A).alloc Z).alloc C := ⟨_, rfl⟩
  have t2 : Bx W2 w.heap.size 82 #[.int .i64 X.p.vw, .int .i64 X.p.nm, X.vs, X.vt] := by rw [hW2, hA]; exact ((bx_new w _ _).below (below1 _ _)).below (below1 _ _)
  have r2 : Bx W2 (w.heap.size + 1) 26 #[.int .i64 0, .int .i64 0, .slice none 0 0, .slice none 0 0] := by
    have h := (bx_new (w.alloc A) 26 #[.int .i64 0, .int .i64 0, .slice none 0 0, .slice none 0 0]).below (below1 _ C)
    rw [szQ] at h
    rw [hW2, hZ]; exact h
  have o2 : Bx W2 (w.heap.size + 2) 26 #[.int .i64 X.p.vw, .int .i64 X.p.nm, .slice none 0 0, .slice none 0 0] := by
    have h := bx_new ((w.alloc A).alloc Z) 26 #[.int .i64 X.p.vw, .int .i64 X.p.nm, .slice none 0 0, .slice none 0 0]
    rw [szQ, szQ] at h
    rw [hW2, hC]; exact h
  have b2 : Below w.heap.size w W2 := by rw [hW2]; exact ((below1 w A).alloc (by simp) Z).alloc (by simp; omega) C
  have s2 : W2.heap.size = w.heap.size + 3 := by rw [hW2]; simp
  have HW : Hid (((w.alloc A).alloc Z).alloc C = W2) := hW2.symm
  obtain ⟨q0, q1, q2, q3⟩ := t2.c4
  have HW' := HW.out
  rw [hA, hZ, hC] at HW'
  have HWW : Hid (((w.alloc (Obj.cells #[.int .i64 X.p.vw, .int .i64 X.p.nm, X.vs, X.vt] 82)).alloc (Obj.cells #[.int .i64 0, .int .i64 0, .slice none 0 0, .slice none 0 0] 26)).alloc (Obj.cells #[.int .i64 X.p.vw, .int .i64 X.p.nm, .slice none 0 0, .slice none 0 0] 26) = W2) := HW'
  have t1 := (bx_new w 82 #[.int .i64 X.p.vw, .int .i64 X.p.nm, X.vs, X.vt])
  obtain ⟨m0, m1, m2, m3⟩ := t1.c4
  clear hA hZ hC hW2 HW HW' t1
  go_enter Tryz.func106, Tryz.ntmps106
  go_wp2_with fail
  rw [HWW.out]
  refine (HS.out _ (hx.sv.below b2)).mono ?_
  rintro e w3 ⟨us, rfl, hs3, hb3⟩
  have t3 := t2.below hb3
  have r3 := r2.below hb3
  have o3 := o2.below hb3
  have b3 := b2.trans (hb3.mono b2.size)
  have s3 := hb3.size
  clear q0 q1 q2 q3 t2 r2 o2 b2 hb3 HS HWW m0 m1 m2 m3
  obtain ⟨f0, f1, f2, f3⟩ := o3.f4
  obtain ⟨c0, c1, c2, c3⟩ := o3.c4
  have o4 := o3.set 2 us
  simp only [List.setIfInBounds_toArray, List.set_cons_zero, List.set_cons_succ] at o4
  have t4 : Bx (w3.setCell ⟨w.heap.size + 2, 2, none⟩ us) w.heap.size 82 _ := t3.of_block (setOther (by omega))
  have r4 : Bx (w3.setCell ⟨w.heap.size + 2, 2, none⟩ us) (w.heap.size + 1) 26 _ := r3.of_block (setOther (by omega))
  have hs4 : OwnI (w3.setCell ⟨w.heap.size + 2, 2, none⟩ us) (w.heap.size + 3) us X.p.sv := by rw [s2] at hs3; exact row_base hs3 (by omega)
  have b4 : Below w.heap.size w (w3.setCell ⟨w.heap.size + 2, 2, none⟩ us) := b3.setCell (p := ⟨w.heap.size + 2, 2, none⟩) (by simp) _
  have s4 : W2.heap.size ≤ (w3.setCell ⟨w.heap.size + 2, 2, none⟩ us).heap.size := by simpa using s3
  obtain ⟨as1, cs1, hvs⟩ := ownSlX hs3
  obtain ⟨q0, q1, q2, q3⟩ := t4.c4
  clear t3 r3 o3 b3 hs3
  generalize X.p.sv.length = sn at hvs
  subst hvs
  go_wp2_with fail
  generalize w3.setCell ⟨w.heap.size + 2, 2, none⟩ (.slice as1 sn cs1) = W4 at o4 t4 r4 hs4 b4 s4 q0 q1 q2 q3 ⊢
  refine (HP.out _ (hx.tg.below b4)).mono ?_
  rintro e w5 ⟨ul, rfl, hl5, hb5⟩
  have r5 := r4.below hb5
  have o5 := o4.below hb5
  have b5 := b4.trans (hb5.mono b4.size)
  have hs5 := hs4.below hb5
  have TWO : Hid (∀ q, (Value.slice as1 sn cs1).ownBlock = some q → ul.ownBlock = some q → False) := fun q h1 h2 => by have := (World.ownsRow.lt hs4 q h1).2; have := (World.ownsRow.lt hl5 q h2).1; omega
  clear q0 q1 q2 q3 t4 r4 o4 b4 hs4 hb5 HP f0 f1 f2 f3 c0 c1 c2 c3
  obtain ⟨al1, cl1, hvl⟩ := ownSlX hl5
  obtain ⟨f0, f1, f2, f3⟩ := o5.f4
  obtain ⟨c0, c1, c2, c3⟩ := o5.c4
  have o6 := o5.set 3 ul
  simp only [List.setIfInBounds_toArray, List.set_cons_zero, List.set_cons_succ] at o6
  have r6 : Bx (w5.setCell ⟨w.heap.size + 2, 3, none⟩ ul) (w.heap.size + 1) 26 _ := r5.of_block (setOther (by omega))
  have hs6 : OwnI (w5.setCell ⟨w.heap.size + 2, 3, none⟩ ul) (w.heap.size + 3) (.slice as1 sn cs1) X.p.sv := row_base hs5 (by omega)
  have hl6 : OwnI (w5.setCell ⟨w.heap.size + 2, 3, none⟩ ul) (w.heap.size + 3) ul X.p.tg := row_base (OwnI.mono hl5 (by omega)) (by omega)
  have b6 : Below w.heap.size w (w5.setCell ⟨w.heap.size + 2, 3, none⟩ ul) := b5.setCell (p := ⟨w.heap.size + 2, 3, none⟩) (by simp) _
  generalize X.p.tg.length = ln at hvl
  subst hvl
  obtain ⟨g0, g1, g2, g3⟩ := o6.c4
  obtain ⟨h0, h1, h2, h3⟩ := r6.c4
  obtain ⟨e0, e1, e2, e3⟩ := r6.f4
  obtain ⟨k0, k1, k2, k3⟩ := (r6.put4 (.int .i64 X.p.vw) (.int .i64 X.p.nm) (.slice as1 sn cs1) (.slice al1 ln cl1)).c4
  have HF : Hid (ToPr w X.p (.returned (.agg #[.int .i64 X.p.vw, .int .i64 X.p.nm, .slice as1 sn cs1, .slice al1 ln cl1])) (put4B (w5.setCell ⟨w.heap.size + 2, 3, none⟩ (.slice al1 ln cl1)) (w.heap.size + 1) (.int .i64 X.p.vw) (.int .i64 X.p.nm) (.slice as1 sn cs1) (.slice al1 ln cl1))) :=
    ⟨⟨X.p, .slice as1 sn cs1, .slice al1 ln cl1⟩, rfl, rfl, (OwnPr.touch (B := w.heap.size + 3) ⟨hs6, hl6, TWO.out⟩ put4B_touch (fun q hq e => by have h1 := (OwnPr.bound (B := w.heap.size + 3) ⟨hs6, hl6, TWO.out⟩ hq).1; have h2 := List.mem_singleton.1 e; omega)).mono (by omega), put4B_below b6 (by omega)⟩
  unfold put4B at k0 k1 k2 k3 HF
  clear o5 r5 hs5 hl5 b5 o6 r6 hs6 hl6 b6
  go_wp2
  exact bodyPost_ret (v := .agg #[.int .i64 X.p.vw, .int .i64 X.p.nm, .slice as1 sn cs1, .slice al1 ln cl1]) (by simp [results, Tryz.results106, go_sem, k0, k1, k2, k3]) rfl HF.out
set_option maxHeartbeats 2000000 in
set_option maxRecDepth 100000 in
theorem eqProof_same (Y Z : PrX) (w : World) (hy : RdPr w Y) (hz : RdPr w Z) (hp : Y.p = Z.p) :
    Calls Tryz.prog 113 #[.agg #[.int .i64 Y.p.vw, .int .i64 Y.p.nm, Y.vs, Y.vt], .agg #[.int .i64 Z.p.vw, .int .i64 Z.p.nm, Z.vs, Z.vt]] w fun e w' => e = .returned (.bool true) ∧ Below w.heap.size w w' := by
  obtain ⟨p, ys, yt⟩ := Y
  obtain ⟨p2, zs, zt⟩ := Z
  simp only at hp
  subst hp
  simp only
  have HS : Hid (∀ W, RdI W ys p.sv → RdI W zs p.sv → Calls Tryz.prog 117 #[ys, zs] W fun e w' => e = .returned (.bool true) ∧ Below W.heap.size W w') := fun W h1 h2 => eqIntsZ _ _ p.sv W h1 h2
  have HP : Hid (∀ W, RdI W yt p.tg → RdI W zt p.tg → Calls Tryz.prog 117 #[yt, zt] W fun e w' => e = .returned (.bool true) ∧ Below W.heap.size W w') := fun W h1 h2 => eqIntsZ _ _ p.tg W h1 h2
  obtain ⟨A, hA⟩ : ∃ A, A = Obj.cells #[.int .i64 p.vw, .int .i64 p.nm, ys, yt] 26 := ⟨_, rfl⟩
  obtain ⟨B, hB⟩ : ∃ B, B = Obj.cells #[.int .i64 p.vw, .int .i64 p.nm, zs, zt] 26 := ⟨_, rfl⟩
  have t0 : Bx ((w.alloc A).alloc B) w.heap.size 26 #[.int .i64 p.vw, .int .i64 p.nm, ys, yt] := by rw [hA]; exact (bx_new w _ _).below (below1 _ _)
  have u0 : Bx ((w.alloc A).alloc B) (w.heap.size + 1) 26 #[.int .i64 p.vw, .int .i64 p.nm, zs, zt] := by
    have h := bx_new (w.alloc A) 26 #[.int .i64 p.vw, .int .i64 p.nm, zs, zt]
    rw [szQ] at h
    rw [hB]; exact h
  have b0 : Below w.heap.size w ((w.alloc A).alloc B) := below2 w A B
  obtain ⟨W0, hW0⟩ : ∃ W0, W0 = (w.alloc A).alloc B := ⟨_, rfl⟩
  rw [← hW0] at t0 u0 b0
  rw [hA, hB] at hW0
  obtain ⟨c0, c1, c2, c3⟩ := t0.c4
  obtain ⟨d0, d1, d2, d3⟩ := u0.c4
  rw [hW0] at c0 c1 c2 c3 d0 d1 d2 d3
  have n0 : (p.vw != p.vw) = false := by simp
  have n1 : (p.nm != p.nm) = false := by simp
  have HW0 : Hid (((w.alloc (Obj.cells #[.int .i64 p.vw, .int .i64 p.nm, ys, yt] 26)).alloc (Obj.cells #[.int .i64 p.vw, .int .i64 p.nm, zs, zt] 26)) = W0) := hW0.symm
  clear hA hB hW0
  go_enter Tryz.func113, Tryz.ntmps113
  go_wp2_with fail
  rw [HW0.out]
  refine (HS.out _ (hy.sv.below b0) (hz.sv.below b0)).mono ?_
  rintro e w1 ⟨rfl, hb1⟩
  have t1 := t0.below hb1
  have u1 := u0.below hb1
  have b1 := b0.trans (hb1.mono b0.size)
  clear c0 c1 c2 c3 d0 d1 d2 d3 t0 u0 b0 hb1
  obtain ⟨c0, c1, c2, c3⟩ := t1.c4
  obtain ⟨d0, d1, d2, d3⟩ := u1.c4
  go_wp2_with fail
  refine (HP.out _ (hy.tg.below b1) (hz.tg.below b1)).mono ?_
  rintro e w2 ⟨rfl, hb2⟩
  have b2 := b1.trans (hb2.mono b1.size)
  clear c0 c1 c2 c3 d0 d1 d2 d3 t1 u1 b1 hb2
  go_wp2
  go_ret
  exact ⟨rfl, b2⟩
theorem cellsP2 : Tryz.prog.cellsOf 2 = 1 := by kernel_rfl
theorem cellsP24 : Tryz.prog.cellsOf 24 = 1 := by kernel_rfl
theorem cellsPP : Tryz.prog.cellsOf 82 = 4 := by kernel_rfl
theorem open_rowP {H : Type} {enc : TypeId × Value → H} {w : World} {fuel : Nat} {v : Value} {x : DataW H × List MemPlace} (h : DataW.trod enc Tryz.prog w 0 (fun _ => true) true fuel 24 [v] = some x) : ∃ ns, RdI w v ns ∧ ∀ s ∈ ns, -9223372036854775808 ≤ s ∧ s ≤ 9223372036854775807 := by
  rcases open_ints Tryz.underlying24 Tryz.underlying2 (by kernel_rfl) h with ⟨hcs, _⟩ | ⟨x, l, c, zs, hcs, _, hl, hm, hz, _, hcell, hwz⟩
  · simp at hcs
    subst hcs
    exact ⟨[], rdI_nil w, fun s hs => by cases hs⟩
  · simp at hcs
    subst hcs
    have hzl : zs.length = c := by simpa using hz
    have htl : (zs.take l).length = l := by rw [List.length_take]; omega
    refine ⟨zs.take l, ⟨some x, c, by rw [htl], by rw [htl]; exact hl, hm, (fun e => by cases e), ?_⟩, fun s hs => bounds_i64 (hwz s (List.mem_of_mem_take hs))⟩
    by_cases h0 : l = 0
    · left; subst h0; simp
    · right
      obtain ⟨b, off, spot⟩ := x
      have hc := hcell 0 (by omega)
      have hspot : spot = none := by simpa [Addr.add] using World.cell?_spot hc
      subst hspot
      refine ⟨b, off, rfl, fun i hi => ?_⟩
      have hi' : i < l := by rw [htl] at hi; exact hi
      have h := hcell i (by omega)
      have hg : zs.getD i 0 = zs[i]'(by omega) := by simp [List.getD, List.getElem?_eq_getElem (show i < zs.length by omega)]
      rw [Addr.add_lit] at h
      rw [h, hg, List.getElem_take]
set_option maxRecDepth 100000 in
theorem open_proof {H : Type} {enc : TypeId × Value → H} {w : World} {fuel : Nat} {cs : List Value} {x : DataW H × List MemPlace} (h : DataW.trod enc Tryz.prog w 0 (fun _ => true) true fuel 82 cs = some x) :
    ∃ X : PrX, cs = X.cs ∧ RdPr w X ∧ FitPr X.p := by
  obtain ⟨xs, n, _, _, hl, hxl, hf⟩ := DataW.trod_struct Tryz.underlying82 h
  rw [cellsPP] at hl
  match xs, hxl, cs, hl with
  | [y0, y1, y2, y3], _, [v0, v1, v2, v3], _ =>
    have g0 := hf 0 _ rfl
    have g1 := hf 1 _ rfl
    have g2 := hf 2 _ rfl
    have g3 := hf 3 _ rfl
    simp [cellsP2, cellsP24] at g0 g1 g2 g3
    obtain ⟨n0, h0, _, z0⟩ := DataW.trod_int Tryz.underlying2 g0
    obtain ⟨n1, h1, _, z1⟩ := DataW.trod_int Tryz.underlying2 g1
    obtain ⟨ms, hm, km⟩ := open_rowP g2
    obtain ⟨ts, ht, kt⟩ := open_rowP g3
    simp only [List.cons.injEq, and_true] at h0 h1
    subst h0 h1
    exact ⟨⟨⟨n0, n1, ms, ts⟩, v2, v3⟩, rfl, ⟨hm, ht⟩, ⟨bounds_i64 z0, bounds_i64 z1, km, kt⟩⟩
end Go.Proofs.YtilhaokiohbeeaaGreatDoor
namespace Go.Proofs.YtilhaokiohbeeaaGreatDoor
open Go.RowKit Go.ChangeShapes Go.WideShapes
theorem cellsB32 : Tryz.prog.cellsOf 32 = 1 := by kernel_rfl
theorem cellsBP : Tryz.prog.cellsOf 89 = 8 := by kernel_rfl
theorem open_rowS {H : Type} {enc : TypeId × Value → H} {w : World} {fuel : Nat} {v : Value} {x : DataW H × List MemPlace} (h : DataW.trod enc Tryz.prog w 0 (fun _ => true) true fuel 32 [v] = some x) : ∃ ss, RdS w v ss ∧ ∀ s ∈ ss, s.size ≤ maxLen := by
  rcases open_strings Tryz.underlying32 Tryz.underlying9 (by kernel_rfl) h with ⟨hcs, _⟩ | ⟨x, l, c, zs, hcs, _, hl, hm, hz, _, hcell, hwz⟩
  · simp at hcs
    subst hcs
    exact ⟨[], rdS_nil w, fun s hs => by cases hs⟩
  · simp at hcs
    subst hcs
    have hzl : zs.length = c := by simpa using hz
    have htl : (zs.take l).length = l := by rw [List.length_take]; omega
    refine ⟨zs.take l, ⟨some x, c, by rw [htl], by rw [htl]; exact hl, hm, ?_⟩, fun s hs => hwz s (List.mem_of_mem_take hs)⟩
    by_cases h0 : l = 0
    · left; subst h0; simp
    · right
      obtain ⟨b, off, spot⟩ := x
      have hc := hcell 0 (by omega)
      have hspot : spot = none := by simpa [Addr.add] using World.cell?_spot hc
      subst hspot
      refine ⟨b, off, rfl, fun i hi => ?_⟩
      have hi' : i < l := by rw [htl] at hi; exact hi
      have h := hcell i (by omega)
      have hg : zs.getD i ByteArray.empty = zs[i]'(by omega) := by simp [List.getD, List.getElem?_eq_getElem (show i < zs.length by omega)]
      rw [Addr.add_lit] at h
      rw [h, hg, List.getElem_take]
set_option maxRecDepth 100000 in
theorem open_block {H : Type} {enc : TypeId × Value → H} {w : World} {fuel : Nat} {cs : List Value} {x : DataW H × List MemPlace} (h : DataW.trod enc Tryz.prog w 0 (fun _ => true) true fuel 89 cs = some x) :
    ∃ X : BlX, cs = X.cs ∧ RdBl w X ∧ FitBl X.b := by
  obtain ⟨xs, n, _, _, hl, hxl, hf⟩ := DataW.trod_struct Tryz.underlying89 h
  rw [cellsBP] at hl
  match xs, hxl, cs, hl with
  | [y0, y1, y2, y3, y4], _, [v0, v1, v2, v3, v4, v5, v6, v7], _ =>
    have g0 := hf 0 _ rfl
    have g1 := hf 1 _ rfl
    have g2 := hf 2 _ rfl
    have g3 := hf 3 _ rfl
    have g4 := hf 4 _ rfl
    simp [cellsP2, cellsPP, cellsB32] at g0 g1 g2 g3 g4
    obtain ⟨n0, h0, _, z0⟩ := DataW.trod_int Tryz.underlying2 g0
    obtain ⟨n1, h1, _, z1⟩ := DataW.trod_int Tryz.underlying2 g1
    obtain ⟨P, hP, rP, fP⟩ := open_proof g2
    obtain ⟨ss, hs, ks⟩ := open_rowS g3
    obtain ⟨n4, h4, _, z4⟩ := DataW.trod_int Tryz.underlying2 g4
    simp only [PrX.cs, List.cons.injEq, and_true] at h0 h1 hP h4
    obtain ⟨hp0, hp1, hp2, hp3⟩ := hP
    subst h0 h1 h4 hp0 hp1 hp2 hp3
    exact ⟨⟨⟨n0, n1, P.p, ss, n4⟩, P.vs, P.vt, v6⟩, rfl, ⟨rP, hs⟩, ⟨bounds_i64 z0, bounds_i64 z1, fP, ks, bounds_i64 z4⟩⟩
end Go.Proofs.YtilhaokiohbeeaaGreatDoor
namespace Go.Proofs.YtilhaokiohbeeaaGreatDoor
open Go.RowKit
theorem made_SV (n : Nat) : (madeCells #[Value.string ⟨#[]⟩] n).toList = SV (List.replicate n ⟨#[]⟩) := by
  rw [toList_madeCells_one]
  simp [SV]
theorem cpS_step (bs : List ByteArray) (z : ByteArray) (k : Nat) (h : k < bs.length) : (bs.take k ++ List.replicate (bs.length - k) z).set k bs[k] = bs.take (k + 1) ++ List.replicate (bs.length - (k + 1)) z := by
  have hl : (bs.take k).length = k := by rw [List.length_take]; omega
  rw [List.set_append_right _ _ (by omega), hl, Nat.sub_self]
  obtain ⟨m, hm⟩ : ∃ m, bs.length - k = m + 1 := ⟨bs.length - k - 1, by omega⟩
  have hm2 : bs.length - (k + 1) = m := by omega
  rw [hm, hm2, List.replicate_succ, List.set_cons_zero, List.take_succ_eq_append_getElem h, List.append_assoc, List.singleton_append]
theorem cpS_len (bs : List ByteArray) (z : ByteArray) (k : Nat) (h : k ≤ bs.length) : (bs.take k ++ List.replicate (bs.length - k) z).length = bs.length := by
  rw [List.length_append, List.length_take, List.length_replicate]; omega

set_option maxHeartbeats 400000 in
set_option maxRecDepth 100000 in
theorem toTexts_any (v : Value) (bs : List ByteArray) (w : World) (hr : RdS w v bs) (hs : bs.length ≤ 1073741824) :
    Calls Tryz.prog 187 #[v] w fun e w' => ∃ u, e = .returned u ∧ OwnS w' w.heap.size u bs ∧ Below w.heap.size w w' := by
  obtain ⟨i0, hi, hz0, hz1, hz2⟩ := info_parts Tryz.info9
  obtain ⟨a, cap, rfl, hl, hm, hA⟩ := hr
  go_enter Tryz.func187, Tryz.ntmps187
  go_wp2_with (at_make; (refine wpList_make_full _ rfl _ _ 32 rfl w.heap.size 9 i0 (.string ⟨#[]⟩) 1 Tryz.underlying32 hi hz0 hz1 .i64 .i64 (bs.length : Int) (bs.length : Int) bs.length rfl rfl rfl rfl ?c1 ?c2 ?c3 ?_))
  case c1 => rw [hz2]; omega
  case c2 => unfold maxLen; omega
  case c3 => omega
  intro w1 ho1 hg1
  rw [made_SV] at ho1
  have hb1 : Below w.heap.size w w1 := (Below.refl _ _).grown hg1 (Nat.le_refl _) (fun k hk => by cases hk)
  clear hg1
  go_wp2
  go_loopw [4] (fun i wr => ∃ k : Nat, k ≤ bs.length ∧ i = .int .i64 k ∧ wr.ownsRow w.heap.size 9 1 (.slice (some ⟨w.heap.size, 0, none⟩) bs.length bs.length) bs.length (SV (bs.take k ++ List.replicate (bs.length - k) ⟨#[]⟩)) ∧ Below w.heap.size w wr) (fun i _ => bs.length - (intOf i).toNat)
  case atStart => exact ⟨0, Nat.zero_le _, rfl, by simpa using ho1, hb1⟩
  case round =>
    obtain ⟨k, hk, rfl, ho, hb⟩ := hrel
    clear ho1 hb1
    by_cases hlt : k < bs.length
    · obtain ⟨b, off, ha, hc⟩ : ∃ b off, a = some ⟨b, off, none⟩ ∧ wr.cell? ⟨b, off + k, none⟩ = some (.string bs[k]) := by
        rcases hA with h | ⟨b, off, ha, hc⟩
        · subst h; simp at hlt
        · exact ⟨b, off, ha, by rw [hb.cell (World.block_lt_of_cell? w _ (hc k hlt))]; exact hc k hlt⟩
      rw [ha]
      have hc2 := (ho.cellAt k (by omega)).trans (SV_get _ k (by rw [cpS_len bs _ k hk]; exact hlt))
      have hf := ho.frozenAt k
      have R1 := (ho.stored k (.string bs[k])).1
      rw [← SV_set, cpS_step bs _ k hlt] at R1
      have R2 : Below w.heap.size w (wr.setCell ⟨w.heap.size, k, none⟩ (.string bs[k])) := hb.setCell (Nat.le_refl _) _
      have H1 : Hid (World.ownsRow _ _ _ _ _ _ _) := R1
      clear ho hA hb R1
      go_wp2
      go_roundw
      case rel => exact ⟨k + 1, by omega, by go_num, H1.out, R2⟩
      case measure => simp [intOf]; omega
    · have hke : k = bs.length := by omega
      subst hke
      have H1 : OwnS wr w.heap.size (.slice (some ⟨w.heap.size, 0, none⟩) bs.length bs.length) bs := by unfold OwnS; simpa using ho
      clear ho
      go_wp2
      go_ret
      exact ⟨_, rfl, H1, hb⟩

/-- What the measure leaves: a number below 0, or the list and each of its texts are small. -/
def SzPost (w : World) (ss : List ByteArray) (e : Ending) (w' : World) : Prop :=
  w' = w ∧ ∃ x : Int, e = .returned (.int .i64 x) ∧ (x < 0 ∨ 0 ≤ x ∧ ss.length ≤ 1048576 ∧ ∀ s ∈ ss, s.size ≤ 1048576)
set_option maxHeartbeats 400000 in
set_option maxRecDepth 100000 in
theorem sz_gen (v : Value) (ss : List ByteArray) (lf : Int) (w : World) (hr : RdS w v ss) (hsz : ∀ s ∈ ss, s.size ≤ maxLen) (hlf0 : 0 ≤ lf) (hlf1 : lf ≤ 1048576) :
    Calls Tryz.prog 185 #[v, .int .i64 lf] w fun e w' => SzPost w ss e w' := by
  obtain ⟨a, cap, rfl, hl, hm, hA⟩ := hr
  unfold maxLen at hm
  have HSZ : Hid (∀ s ∈ ss, s.size ≤ maxLen) := hsz
  clear hsz
  by_cases hbig : lf < (ss.length : Int)
  · clear hA
    have hbn : lf - (ss.length : Int) < 0 := by omega
    go_enter Tryz.func185, Tryz.ntmps185
    go_wp2
    go_ret
    exact ⟨rfl, -1, rfl, .inl (by omega)⟩
  · have hbn : ¬ lf - (ss.length : Int) < 0 := by omega
    go_enter Tryz.func185, Tryz.ntmps185
    go_wp2
    go_loop [1, 5] (fun l i => ∃ (k : Nat) (x : Int), k ≤ ss.length ∧ i = .int .i64 k ∧ l = .int .i64 x ∧ 0 ≤ x ∧ x ≤ 1048576 ∧ Hid (∀ j (h : j < ss.length), j < k → ss[j].size ≤ 1048576)) (fun _ i => ss.length - (intOf i).toNat)
    case atStart => exact ⟨0, _, Nat.zero_le _, rfl, rfl, by omega, by omega, fun j h h' => by omega⟩
    case round =>
      obtain ⟨k, x, hk, rfl, rfl, hx0, hx1, HJ⟩ := hrel
      by_cases hlt : k < ss.length
      · obtain ⟨b, off, ha, hc⟩ : ∃ b off, a = some ⟨b, off, none⟩ ∧ w.cell? ⟨b, off + k, none⟩ = some (.string ss[k]) := by
          rcases hA with h | ⟨b, off, ha, hc⟩
          · subst h; simp at hlt
          · exact ⟨b, off, ha, hc k hlt⟩
        rw [ha]
        have hsk := HSZ.out _ (List.getElem_mem hlt)
        unfold maxLen at hsk
        obtain ⟨s, hs⟩ : ∃ s, s = ss[k] := ⟨_, rfl⟩
        rw [← hs] at hc hsk
        have Hs : Hid (s = ss[k]) := hs
        clear hs hA
        by_cases hneg : x - (s.size : Int) < 0
        · go_wp2
          go_ret
          exact ⟨rfl, -1, rfl, .inl (by omega)⟩
        · go_wp2
          go_round
          case rel =>
            refine ⟨k + 1, _, by omega, by go_num, rfl, by omega, by omega, fun j h h' => ?_⟩
            by_cases hjk : j = k
            · subst hjk; rw [← Hs.out]; omega
            · exact HJ.out j h (by omega)
          case measure => simp [intOf]; omega
      · have hke : k = ss.length := by omega
        subst hke
        go_wp2
        go_ret
        refine ⟨rfl, x, rfl, .inr ⟨hx0, by omega, fun s hs => ?_⟩⟩
        obtain ⟨j, hj, rfl⟩ := List.getElem_of_mem hs
        exact HJ.out j hj hj
theorem sz_any (v : Value) (ss : List ByteArray) (w : World) (hr : RdS w v ss) (hsz : ∀ s ∈ ss, s.size ≤ maxLen) :
    Calls Tryz.prog 185 #[v, .int .i64 1048576] w fun e w' => SzPost w ss e w' := sz_gen v ss 1048576 w hr hsz (by omega) (by omega)
set_option maxHeartbeats 400000 in
set_option maxRecDepth 100000 in
theorem szTexts_at (v : Value) (ss : List ByteArray) (lf : Int) (w : World) (hr : RdS w v ss) (hsz : ∀ s ∈ ss, s.size ≤ maxLen) (hlf0 : 0 ≤ lf) (hlf1 : lf ≤ 1048576) :
    Calls Tryz.prog 185 #[v, .int .i64 lf] w fun e w' => w' = w ∧ ∃ x : Int, e = .returned (.int .i64 x) ∧ (x = -1 ∨ 0 ≤ x ∧ x + ss.length ≤ lf ∧ ∀ s ∈ ss, s.size ≤ 1048576) := by
  obtain ⟨a, cap, rfl, hl, hm, hA⟩ := hr
  unfold maxLen at hm
  have HSZ : Hid (∀ s ∈ ss, s.size ≤ maxLen) := hsz
  clear hsz
  by_cases hbig : lf < (ss.length : Int)
  · clear hA
    have hbn : lf - (ss.length : Int) < 0 := by omega
    go_enter Tryz.func185, Tryz.ntmps185
    go_wp2
    go_ret
    exact ⟨rfl, -1, rfl, .inl rfl⟩
  · have hbn : ¬ lf - (ss.length : Int) < 0 := by omega
    go_enter Tryz.func185, Tryz.ntmps185
    go_wp2
    go_loop [1, 5] (fun l i => ∃ (k : Nat) (x : Int), k ≤ ss.length ∧ i = .int .i64 k ∧ l = .int .i64 x ∧ 0 ≤ x ∧ x ≤ lf - (ss.length : Int) ∧ Hid (∀ j (h : j < ss.length), j < k → ss[j].size ≤ 1048576)) (fun _ i => ss.length - (intOf i).toNat)
    case atStart => exact ⟨0, _, Nat.zero_le _, rfl, rfl, by omega, by omega, fun j h h' => by omega⟩
    case round =>
      obtain ⟨k, x, hk, rfl, rfl, hx0, hx1, HJ⟩ := hrel
      by_cases hlt : k < ss.length
      · obtain ⟨b, off, ha, hc⟩ : ∃ b off, a = some ⟨b, off, none⟩ ∧ w.cell? ⟨b, off + k, none⟩ = some (.string ss[k]) := by
          rcases hA with h | ⟨b, off, ha, hc⟩
          · subst h; simp at hlt
          · exact ⟨b, off, ha, hc k hlt⟩
        rw [ha]
        have hsk := HSZ.out _ (List.getElem_mem hlt)
        unfold maxLen at hsk
        obtain ⟨s, hs⟩ : ∃ s, s = ss[k] := ⟨_, rfl⟩
        rw [← hs] at hc hsk
        have Hs : Hid (s = ss[k]) := hs
        clear hs hA
        by_cases hneg : x - (s.size : Int) < 0
        · go_wp2
          go_ret
          exact ⟨rfl, -1, rfl, .inl rfl⟩
        · go_wp2
          go_round
          case rel =>
            refine ⟨k + 1, _, by omega, by go_num, rfl, by omega, by omega, fun j h h' => ?_⟩
            by_cases hjk : j = k
            · subst hjk; rw [← Hs.out]; omega
            · exact HJ.out j h (by omega)
          case measure => simp [intOf]; omega
      · have hke : k = ss.length := by omega
        subst hke
        go_wp2
        go_ret
        refine ⟨rfl, x, rfl, .inr ⟨hx0, by omega, fun s hs => ?_⟩⟩
        obtain ⟨j, hj, rfl⟩ := List.getElem_of_mem hs
        exact HJ.out j hj hj
end Go.Proofs.YtilhaokiohbeeaaGreatDoor
