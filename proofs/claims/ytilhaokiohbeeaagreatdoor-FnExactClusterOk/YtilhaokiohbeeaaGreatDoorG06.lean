/- The contracts of the laws' own helpers over blocks: measured, copied. Plain facts on the number with which some bytes begin. The contract of the model's ReadNumber over any slice of bytes that can be read. The contract of the model's ReadText over any slice of bytes that can be read. The contracts of the laws' own helpers over slices of texts, over MarkText: alike, marked, held. The laws' own comparison of two blocks that are the same. -/
import Derived.Test.YtilhaokiohbeeaaGreatDoorG05
import Derived.OpenShut
import Derived.Test.YtilhaokiohbeeaaGreatDoorG00
import Derived.Laws.IdiomStrings
import Derived.Laws.BytesArg
import Derived.Test.YtilhaokiohbeeaaGreatDoorG04
import Derived.BigQuiet
import Derived.Deep.RegionWith
-- UNF Gen
namespace Go.Proofs.YtilhaokiohbeeaaGreatDoor
open Go.RowKit Go.ChangeShapes Go.WideShapes
/-- What the measure of a block leaves. -/
def SzBl (w : World) (b : Blk) (l : Int) (e : Ending) (w' : World) : Prop := Below w.heap.size w w' ∧ ∃ z : Int, e = .returned (.int .i64 z) ∧ (z = -1 ∨ 0 ≤ z ∧ z + b.p.sv.length + b.p.tg.length + b.mo.length ≤ l ∧ ∀ s ∈ b.mo, s.size ≤ 1048576)
set_option maxHeartbeats 2000000 in
set_option maxRecDepth 100000 in
theorem szBlock_any (X : BlX) (l : Int) (w : World) (hx : RdBl w X) (hz : ∀ s ∈ X.b.mo, s.size ≤ maxLen) (hl0 : 0 ≤ l) (hl1 : l ≤ 1048576) :
    Calls Tryz.prog 105 #[.agg #[.int .i64 X.b.vw, .int .i64 X.b.pa, .int .i64 X.b.p.vw, .int .i64 X.b.p.nm, X.vs, X.vt, X.vm, .int .i64 X.b.sv], .int .i64 l] w fun e w' => SzBl w X.b l e w' := by
  have t0 := bx_new w 89 #[.int .i64 X.b.vw, .int .i64 X.b.pa, .int .i64 X.b.p.vw, .int .i64 X.b.p.nm, X.vs, X.vt, X.vm, .int .i64 X.b.sv]
  have b0 := below1 w (.cells #[.int .i64 X.b.vw, .int .i64 X.b.pa, .int .i64 X.b.p.vw, .int .i64 X.b.p.nm, X.vs, X.vt, X.vm, .int .i64 X.b.sv] 89)
  have HP : Hid (∀ l W, RdPr W X.pr → 0 ≤ l → l ≤ 1048576 → Calls Tryz.prog 100 #[.agg #[.int .i64 X.b.p.vw, .int .i64 X.b.p.nm, X.vs, X.vt], .int .i64 l] W fun e w' => SzPr W X.b.p l e w') := fun l W h h0 h1 => szProof_any X.pr l W h h0 h1
  have HM : Hid (∀ l W, RdS W X.vm X.b.mo → 0 ≤ l → l ≤ 1048576 → Calls Tryz.prog 185 #[X.vm, .int .i64 l] W fun e w' => w' = W ∧ ∃ x : Int, e = .returned (.int .i64 x) ∧ (x = -1 ∨ 0 ≤ x ∧ x + X.b.mo.length ≤ l ∧ ∀ s ∈ X.b.mo, s.size ≤ 1048576)) := fun l W h h0 h1 => szTexts_at _ _ l W h hz h0 h1
  obtain ⟨-, -, q2, q3, q4, q5, q6, -⟩ := t0.c8
  go_enter Tryz.func105, Tryz.ntmps105
  go_wp2_with fail
  refine (HP.out _ _ (hx.pr.below b0) hl0 hl1).mono ?_
  rintro e w1 ⟨hb1, z1, rfl, hz1⟩
  have t1 := t0.below hb1
  have b1 := b0.trans (hb1.mono b0.size)
  clear q2 q3 q4 q5 q6 t0
  obtain ⟨-, -, -, -, -, -, q6, -⟩ := t1.c8
  rcases hz1 with hz1 | ⟨hz10, hz11⟩
  · subst hz1
    go_wp2
    go_ret
    exact ⟨b1, -1, rfl, .inl rfl⟩
  go_wp2_with fail
  refine (HM.out _ _ (hx.mo.below b1) hz10 (by omega)).mono ?_
  rintro e w2 ⟨hw2, z2, rfl, hz2⟩
  subst hw2
  clear q6 t1
  rcases hz2 with hz2 | ⟨hz20, hz21, hz22⟩
  · subst hz2
    go_wp2
    go_ret
    exact ⟨b1, -1, rfl, .inl rfl⟩
  · have HSUM : Hid (z2 + X.b.p.sv.length + X.b.p.tg.length + X.b.mo.length ≤ l) := by unfold Hid; omega
    have HZ : Hid (∀ s ∈ X.b.mo, s.size ≤ 1048576) := hz22
    clear hz11 hz21 hz22
    go_wp2
    go_ret
    exact ⟨b1, z2, rfl, .inr ⟨hz20, HSUM.out, HZ.out⟩⟩
/-- The four cells of a block's proof written. -/
def putPB (W : World) (b : Nat) (a0 a1 a2 a3 : Value) : World := (((W.setCell ⟨b, 2, none⟩ a0).setCell ⟨b, 3, none⟩ a1).setCell ⟨b, 4, none⟩ a2).setCell ⟨b, 5, none⟩ a3
theorem Bx.putP {W : World} {b t : Nat} {u0 u1 u2 u3 u4 u5 u6 u7 : Value} (h : Bx W b t #[u0, u1, u2, u3, u4, u5, u6, u7]) (a0 a1 a2 a3 : Value) : Bx (putPB W b a0 a1 a2 a3) b t #[u0, u1, a0, a1, a2, a3, u6, u7] := by
  have h1 := (((h.set 2 a0).set 3 a1).set 4 a2).set 5 a3
  unfold putPB
  simpa using h1
theorem putPB_below {B : Nat} {a W : World} {b : Nat} {u0 u1 u2 u3 : Value} (h : Below B a W) (hb : B ≤ b) : Below B a (putPB W b u0 u1 u2 u3) := (((h.setCell hb _).setCell hb _).setCell hb _).setCell hb _
theorem putPB_touch {W : World} {b : Nat} {u0 u1 u2 u3 : Value} : Touch [b] W (putPB W b u0 u1 u2 u3) := by
  have hm : b ∈ [b] := List.mem_singleton.2 rfl
  exact ((Touch.set hm).trans (Touch.set hm)).trans ((Touch.set hm).trans (Touch.set hm))
/-- All eight cells written. -/
def put8B (W : World) (b : Nat) (a0 a1 a2 a3 a4 a5 a6 a7 : Value) : World := (((((((W.setCell ⟨b, 0, none⟩ a0).setCell ⟨b, 1, none⟩ a1).setCell ⟨b, 2, none⟩ a2).setCell ⟨b, 3, none⟩ a3).setCell ⟨b, 4, none⟩ a4).setCell ⟨b, 5, none⟩ a5).setCell ⟨b, 6, none⟩ a6).setCell ⟨b, 7, none⟩ a7
theorem Bx.put8 {W : World} {b t : Nat} {u0 u1 u2 u3 u4 u5 u6 u7 : Value} (h : Bx W b t #[u0, u1, u2, u3, u4, u5, u6, u7]) (a0 a1 a2 a3 a4 a5 a6 a7 : Value) : Bx (put8B W b a0 a1 a2 a3 a4 a5 a6 a7) b t #[a0, a1, a2, a3, a4, a5, a6, a7] := by
  have h1 := (((((((h.set 0 a0).set 1 a1).set 2 a2).set 3 a3).set 4 a4).set 5 a5).set 6 a6).set 7 a7
  unfold put8B
  simpa using h1
theorem put8B_below {B : Nat} {a W : World} {b : Nat} {u0 u1 u2 u3 u4 u5 u6 u7 : Value} (h : Below B a W) (hb : B ≤ b) : Below B a (put8B W b u0 u1 u2 u3 u4 u5 u6 u7) := (((((((h.setCell hb _).setCell hb _).setCell hb _).setCell hb _).setCell hb _).setCell hb _).setCell hb _).setCell hb _
theorem put8B_touch {W : World} {b : Nat} {u0 u1 u2 u3 u4 u5 u6 u7 : Value} : Touch [b] W (put8B W b u0 u1 u2 u3 u4 u5 u6 u7) := by
  have hm : b ∈ [b] := List.mem_singleton.2 rfl
  exact (((Touch.set hm).trans (Touch.set hm)).trans ((Touch.set hm).trans (Touch.set hm))).trans (((Touch.set hm).trans (Touch.set hm)).trans ((Touch.set hm).trans (Touch.set hm)))
/-- A block of the call's own, with these parts. -/
def ToBl (w : World) (b : Blk) (e : Ending) (w' : World) : Prop := ∃ Y : BlX, e = .returned (.agg #[.int .i64 Y.b.vw, .int .i64 Y.b.pa, .int .i64 Y.b.p.vw, .int .i64 Y.b.p.nm, Y.vs, Y.vt, Y.vm, .int .i64 Y.b.sv]) ∧ Y.b = b ∧ OwnBl w' w.heap.size Y ∧ Below w.heap.size w w'
set_option maxHeartbeats 4000000 in
set_option maxRecDepth 100000 in
theorem toBlock_any (X : BlX) (w : World) (hx : RdBl w X) (hh : X.b.p.sv.length + X.b.p.tg.length + X.b.mo.length ≤ 1048576) :
    Calls Tryz.prog 111 #[.agg #[.int .i64 X.b.vw, .int .i64 X.b.pa, .int .i64 X.b.p.vw, .int .i64 X.b.p.nm, X.vs, X.vt, X.vm, .int .i64 X.b.sv]] w fun e w' => ToBl w X.b e w' := by
  have HP : Hid (∀ W, RdPr W X.pr → Calls Tryz.prog 106 #[.agg #[.int .i64 X.b.p.vw, .int .i64 X.b.p.nm, X.vs, X.vt]] W fun e w' => ToPr W X.b.p e w') := fun W h => toProof_any X.pr W h (by simp only [BlX.pr]; omega)
  have HM : Hid (∀ W, RdS W X.vm X.b.mo → Calls Tryz.prog 187 #[X.vm] W fun e w' => ∃ u, e = .returned u ∧ OwnS w' W.heap.size u X.b.mo ∧ Below W.heap.size W w') := fun W h => toTexts_any _ _ W h (by omega)
  clear hh
  obtain ⟨A, hA⟩ : ∃ A, A = Obj.cells #[.int .i64 X.b.vw, .int .i64 X.b.pa, .int .i64 X.b.p.vw, .int .i64 X.b.p.nm, X.vs, X.vt, X.vm, .int .i64 X.b.sv] 89 := ⟨_, rfl⟩
  obtain ⟨Z, hZ⟩ : ∃ Z, Z = Obj.cells #[.int .i64 0, .int .i64 0, .int .i64 0, .int .i64 0, .slice none 0 0, .slice none 0 0, .slice none 0 0, .int .i64 0] 34 := ⟨_, rfl⟩
  obtain ⟨C, hC⟩ : ∃ C, C = Obj.cells #[.int .i64 X.b.vw, .int .i64 X.b.pa, .int .i64 0, .int .i64 0, .slice none 0 0, .slice none 0 0, .slice none 0 0, .int .i64 0] 34 := ⟨_, rfl⟩
  obtain ⟨W2, hW2⟩ : ∃ W2, W2 = ((w.alloc A).alloc Z).alloc C := ⟨_, rfl⟩
  have t2 : Bx W2 w.heap.size 89 #[.int .i64 X.b.vw, .int .i64 X.b.pa, .int .i64 X.b.p.vw, .int .i64 X.b.p.nm, X.vs, X.vt, X.vm, .int .i64 X.b.sv] := by rw [hW2, hA]; exact ((bx_new w _ _).below (below1 _ _)).below (below1 _ _)
  have r2 : Bx W2 (w.heap.size + 1) 34 #[.int .i64 0, .int .i64 0, .int .i64 0, .int .i64 0, .slice none 0 0, .slice none 0 0, .slice none 0 0, .int .i64 0] := by
    have h := (bx_new (w.alloc A) 34 #[.int .i64 0, .int .i64 0, .int .i64 0, .int .i64 0, .slice none 0 0, .slice none 0 0, .slice none 0 0, .int .i64 0]).below (below1 _ C)
    rw [szQ] at h
    rw [hW2, hZ]; exact h
  have o2 : Bx W2 (w.heap.size + 2) 34 #[.int .i64 X.b.vw, .int .i64 X.b.pa, .int .i64 0, .int .i64 0, .slice none 0 0, .slice none 0 0, .slice none 0 0, .int .i64 0] := by
    have h := bx_new ((w.alloc A).alloc Z) 34 #[.int .i64 X.b.vw, .int .i64 X.b.pa, .int .i64 0, .int .i64 0, .slice none 0 0, .slice none 0 0, .slice none 0 0, .int .i64 0]
    rw [szQ, szQ] at h
    rw [hW2, hC]; exact h
  have b2 : Below w.heap.size w W2 := by rw [hW2]; exact ((below1 w A).alloc (by simp) Z).alloc (by simp; omega) C
  have s2 : W2.heap.size = w.heap.size + 3 := by rw [hW2]; simp
  have HW : Hid (((w.alloc A).alloc Z).alloc C = W2) := hW2.symm
  have HW' := HW.out
  rw [hA, hZ, hC] at HW'
  have HWW : Hid (((w.alloc (Obj.cells #[.int .i64 X.b.vw, .int .i64 X.b.pa, .int .i64 X.b.p.vw, .int .i64 X.b.p.nm, X.vs, X.vt, X.vm, .int .i64 X.b.sv] 89)).alloc (Obj.cells #[.int .i64 0, .int .i64 0, .int .i64 0, .int .i64 0, .slice none 0 0, .slice none 0 0, .slice none 0 0, .int .i64 0] 34)).alloc (Obj.cells #[.int .i64 X.b.vw, .int .i64 X.b.pa, .int .i64 0, .int .i64 0, .slice none 0 0, .slice none 0 0, .slice none 0 0, .int .i64 0] 34) = W2) := HW'
  have t1 := (bx_new w 89 #[.int .i64 X.b.vw, .int .i64 X.b.pa, .int .i64 X.b.p.vw, .int .i64 X.b.p.nm, X.vs, X.vt, X.vm, .int .i64 X.b.sv])
  obtain ⟨m0, m1, m2, m3, m4, m5, m6, m7⟩ := t1.c8
  obtain ⟨q0, q1, q2, q3, q4, q5, q6, q7⟩ := t2.c8
  clear hA hZ hC hW2 HW HW' t1
  go_enter Tryz.func111, Tryz.ntmps111
  go_wp2_with fail
  rw [HWW.out]
  refine (HP.out _ (hx.pr.below b2)).mono ?_
  rintro e w3 ⟨Y, rfl, hY, hO3, hb3⟩
  have t3 := t2.below hb3
  have r3 := r2.below hb3
  have o3 := o2.below hb3
  have b3 := b2.trans (hb3.mono b2.size)
  have s3 := hb3.size
  clear q0 q1 q2 q3 q4 q5 q6 q7 t2 r2 o2 b2 hb3 HP HWW m0 m1 m2 m3 m4 m5 m6 m7
  obtain ⟨as1, cs1, al1, cl1, hvs, hvt⟩ := hO3.slices
  obtain ⟨⟨yv, yn, ys, yt⟩, yvs, yvt⟩ := Y
  simp only at hY hvs hvt ⊢
  obtain ⟨f0, f1, f2, f3, f4, f5, f6, f7⟩ := o3.f8
  obtain ⟨c0, c1, c2, c3, c4, c5, c6, c7⟩ := o3.c8
  have o4 := o3.putP (.int .i64 yv) (.int .i64 yn) yvs yvt
  have ht4 : Touch [w.heap.size + 2] w3 (putPB w3 (w.heap.size + 2) (.int .i64 yv) (.int .i64 yn) yvs yvt) := putPB_touch
  have t4 : Bx (putPB w3 (w.heap.size + 2) (.int .i64 yv) (.int .i64 yn) yvs yvt) w.heap.size 89 _ := t3.of_block (ht4.block _ t3.lt (by simp))
  have r4 : Bx (putPB w3 (w.heap.size + 2) (.int .i64 yv) (.int .i64 yn) yvs yvt) (w.heap.size + 1) 34 _ := r3.of_block (ht4.block _ r3.lt (by simp))
  have hO4 := hO3.touch ht4 (fun k hk e => by have h1 := (hO3.bound hk).1; have h2 := List.mem_singleton.1 e; omega)
  have b4 : Below w.heap.size w (putPB w3 (w.heap.size + 2) (.int .i64 yv) (.int .i64 yn) yvs yvt) := putPB_below b3 (by omega)
  have s4 : W2.heap.size ≤ (putPB w3 (w.heap.size + 2) (.int .i64 yv) (.int .i64 yn) yvs yvt).heap.size := Nat.le_trans s3 ht4.size
  obtain ⟨-, -, -, -, -, -, q6, -⟩ := t4.c8
  have HQ : Hid (putPB w3 (w.heap.size + 2) (.int .i64 yv) (.int .i64 yn) yvs yvt = (((w3.setCell ⟨w.heap.size + 2, 2, none⟩ (.int .i64 yv)).setCell ⟨w.heap.size + 2, 3, none⟩ (.int .i64 yn)).setCell ⟨w.heap.size + 2, 4, none⟩ yvs).setCell ⟨w.heap.size + 2, 5, none⟩ yvt) := rfl
  clear t3 r3 o3 b3 hO3
  have HL : Hid (ys.length = ys.length ∧ yt.length = yt.length) := ⟨rfl, rfl⟩
  generalize hsn : ys.length = sn at hvs
  generalize hln : yt.length = ln at hvt
  subst hvs hvt
  clear hsn hln HL
  obtain ⟨W4, hW4⟩ : ∃ W4, W4 = putPB w3 (w.heap.size + 2) (.int .i64 yv) (.int .i64 yn) (.slice as1 sn cs1) (.slice al1 ln cl1) := ⟨_, rfl⟩
  have HQ' : Hid ((((w3.setCell ⟨w.heap.size + 2, 2, none⟩ (.int .i64 yv)).setCell ⟨w.heap.size + 2, 3, none⟩ (.int .i64 yn)).setCell ⟨w.heap.size + 2, 4, none⟩ (.slice as1 sn cs1)).setCell ⟨w.heap.size + 2, 5, none⟩ (.slice al1 ln cl1) = W4) := hW4.symm
  rw [← hW4] at o4 ht4 t4 r4 hO4 b4 s4
  unfold putPB at q6
  clear hW4 HQ
  go_wp2_with fail
  rw [HQ'.out]
  refine (HM.out _ (hx.mo.below b4)).mono ?_
  rintro e w5 ⟨um, rfl, hm5, hb5⟩
  have t5 := t4.below hb5
  have r5 := r4.below hb5
  have o5 := o4.below hb5
  have b5 := b4.trans (hb5.mono b4.size)
  have hO5 := hO4.below hb5
  have s5 := hb5.size
  have AP : Hid (∀ q, (Value.slice as1 sn cs1).ownBlock = some q → um.ownBlock = some q → False) := fun q h1 h2 => by have := (World.ownsRow.lt hO4.sv q h1).2; have := (World.ownsRow.lt hm5 q h2).1; omega
  have AQ : Hid (∀ q, (Value.slice al1 ln cl1).ownBlock = some q → um.ownBlock = some q → False) := fun q h1 h2 => by have := (World.ownsRow.lt hO4.tg q h1).2; have := (World.ownsRow.lt hm5 q h2).1; omega
  clear q6 t4 r4 o4 b4 hO4 ht4 hb5 HM HQ' f0 f1 f2 f3 f4 f5 f6 f7 c0 c1 c2 c3 c4 c5 c6 c7
  obtain ⟨am, cm, hvm⟩ := ownSlX hm5
  obtain ⟨f0, f1, f2, f3, f4, f5, f6, f7⟩ := o5.f8
  obtain ⟨c0, c1, c2, c3, c4, c5, c6, c7⟩ := o5.c8
  have o6 := (o5.set 6 um).set 7 (.int .i64 X.b.sv)
  simp only [List.setIfInBounds_toArray, List.set_cons_zero, List.set_cons_succ] at o6
  have hin : w.heap.size + 2 ∈ [w.heap.size + 2] := List.mem_singleton.2 rfl
  have ht6 : Touch [w.heap.size + 2] w5 ((w5.setCell ⟨w.heap.size + 2, 6, none⟩ um).setCell ⟨w.heap.size + 2, 7, none⟩ (.int .i64 X.b.sv)) := (Touch.set hin).trans (Touch.set hin)
  have t6 : Bx (w5.setCell ⟨w.heap.size + 2, 6, none⟩ um) w.heap.size 89 _ := t5.of_block (setOther (by omega))
  obtain ⟨-, -, -, -, -, -, -, q7⟩ := t6.c8
  have r6 : Bx ((w5.setCell ⟨w.heap.size + 2, 6, none⟩ um).setCell ⟨w.heap.size + 2, 7, none⟩ (.int .i64 X.b.sv)) (w.heap.size + 1) 34 _ := r5.of_block (ht6.block _ r5.lt (by simp))
  have hO6 := hO5.touch ht6 (fun k hk e => by have h1 := (hO5.bound hk).1; have h2 := List.mem_singleton.1 e; omega)
  have hm6 : OwnS ((w5.setCell ⟨w.heap.size + 2, 6, none⟩ um).setCell ⟨w.heap.size + 2, 7, none⟩ (.int .i64 X.b.sv)) (w.heap.size + 3) um X.b.mo := ht6.row (hm5.mono (by omega)) (fun k hk e => by have h1 := (World.ownsRow.lt hm5 k hk).1; have h2 := List.mem_singleton.1 e; omega)
  have b6 : Below w.heap.size w ((w5.setCell ⟨w.heap.size + 2, 6, none⟩ um).setCell ⟨w.heap.size + 2, 7, none⟩ (.int .i64 X.b.sv)) := (b5.setCell (p := ⟨w.heap.size + 2, 6, none⟩) (by simp) _).setCell (p := ⟨w.heap.size + 2, 7, none⟩) (by simp) _
  generalize X.b.mo.length = mn at hvm
  subst hvm
  obtain ⟨g0, g1, g2, g3, g4, g5, g6, g7⟩ := o6.c8
  obtain ⟨h0, h1, h2, h3, h4, h5, h6, h7⟩ := r6.c8
  obtain ⟨e0, e1, e2, e3, e4, e5, e6, e7⟩ := r6.f8
  obtain ⟨k0, k1, k2, k3, k4, k5, k6, k7⟩ := (r6.put8 (.int .i64 X.b.vw) (.int .i64 X.b.pa) (.int .i64 yv) (.int .i64 yn) (.slice as1 sn cs1) (.slice al1 ln cl1) (.slice am mn cm) (.int .i64 X.b.sv)).c8
  have HF : Hid (ToBl w X.b (.returned (.agg #[.int .i64 X.b.vw, .int .i64 X.b.pa, .int .i64 yv, .int .i64 yn, .slice as1 sn cs1, .slice al1 ln cl1, .slice am mn cm, .int .i64 X.b.sv])) (put8B ((w5.setCell ⟨w.heap.size + 2, 6, none⟩ (.slice am mn cm)).setCell ⟨w.heap.size + 2, 7, none⟩ (.int .i64 X.b.sv)) (w.heap.size + 1) (.int .i64 X.b.vw) (.int .i64 X.b.pa) (.int .i64 yv) (.int .i64 yn) (.slice as1 sn cs1) (.slice al1 ln cl1) (.slice am mn cm) (.int .i64 X.b.sv))) := by
    have hown : OwnBl ((w5.setCell ⟨w.heap.size + 2, 6, none⟩ (.slice am mn cm)).setCell ⟨w.heap.size + 2, 7, none⟩ (.int .i64 X.b.sv)) (w.heap.size + 3) ⟨⟨X.b.vw, X.b.pa, ⟨yv, yn, ys, yt⟩, X.b.mo, X.b.sv⟩, .slice as1 sn cs1, .slice al1 ln cl1, .slice am mn cm⟩ := ⟨OwnPr.mono hO6 (by omega), hm6, AP.out, AQ.out⟩
    refine ⟨⟨⟨X.b.vw, X.b.pa, ⟨yv, yn, ys, yt⟩, X.b.mo, X.b.sv⟩, .slice as1 sn cs1, .slice al1 ln cl1, .slice am mn cm⟩, rfl, by rw [hY], (hown.touch put8B_touch (fun q hq e => by have h1 := (hown.bound hq).1; have h2 := List.mem_singleton.1 e; omega)).mono (by omega), put8B_below b6 (by omega)⟩
  unfold put8B at k0 k1 k2 k3 k4 k5 k6 k7 HF
  clear o5 r5 hO5 hm5 b5 o6 r6 hO6 hm6 b6 t5 t6 ht6 AP AQ s2 s3 s5 hin hx
  go_wp2
  exact bodyPost_ret (v := .agg #[.int .i64 X.b.vw, .int .i64 X.b.pa, .int .i64 yv, .int .i64 yn, .slice as1 sn cs1, .slice al1 ln cl1, .slice am mn cm, .int .i64 X.b.sv]) (by simp [results, Tryz.results111, go_sem, k0, k1, k2, k3, k4, k5, k6, k7]) rfl HF.out
end Go.Proofs.YtilhaokiohbeeaaGreatDoor
namespace Go.Proofs.YtilhaokiohbeeaaGreatDoor
open Go.RowKit
/-- The number that the bytes go on with behind i of them that make n, the next one weighing p; and how many bytes it takes. -/
def rdF : Nat → Nat → Nat → Nat → List UInt8 → Nat × Nat
  | 0, _, _, _, _ => (0, 0)
  | _ + 1, _, _, _, [] => (0, 0)
  | f + 1, i, n, p, b :: r => if b.toNat < 128 then (if 1099511627776 < n + b.toNat % 128 * p ∨ 0 < i ∧ b.toNat = 0 then (0, 0) else (n + b.toNat % 128 * p, i + 1)) else rdF f (i + 1) (n + b.toNat % 128 * p) (p * 128) r
/-- The number with which the bytes begin, and how many bytes it takes; 0 and 0 where there is none. -/
def rdNum (bs : List UInt8) : Nat × Nat := rdF 6 0 0 1 bs
theorem rdF_end (f i n p : Nat) (bs : List UInt8) (k : Nat) (h : bs.length ≤ k) : rdF f i n p (bs.drop k) = (0, 0) := by
  rw [List.drop_eq_nil_of_le h]; cases f <;> rfl
theorem rdF_more (f i n p k b : Nat) (bs : List UInt8) (h : k < bs.length) (hb : b = bs[k].toNat) (h1 : 128 ≤ b) : rdF (f + 1) i n p (bs.drop k) = rdF f (i + 1) (n + b % 128 * p) (p * 128) (bs.drop (k + 1)) := by
  subst hb
  rw [List.drop_eq_getElem_cons h, rdF, if_neg (by omega)]
theorem rdF_no (f i n p k b : Nat) (bs : List UInt8) (h : k < bs.length) (hb : b = bs[k].toNat) (h1 : b < 128) (h2 : 1099511627776 < n + b % 128 * p ∨ 0 < i ∧ b = 0) : rdF (f + 1) i n p (bs.drop k) = (0, 0) := by
  subst hb
  rw [List.drop_eq_getElem_cons h, rdF, if_pos h1, if_pos h2]
theorem rdF_yes (f i n p k b : Nat) (bs : List UInt8) (h : k < bs.length) (hb : b = bs[k].toNat) (h1 : b < 128) (h2 : ¬ (1099511627776 < n + b % 128 * p ∨ 0 < i ∧ b = 0)) : rdF (f + 1) i n p (bs.drop k) = (n + b % 128 * p, i + 1) := by
  subst hb
  rw [List.drop_eq_getElem_cons h, rdF, if_pos h1, if_neg h2]
theorem rdF_len (f : Nat) : ∀ (i n p : Nat) (bs : List UInt8), (rdF f i n p bs).2 ≤ i + bs.length ∧ (rdF f i n p bs).1 ≤ 1099511627776 ∧ (rdF f i n p bs).2 ≤ i + f := by
  induction f with
  | zero => intro i n p bs; simp [rdF]
  | succ f ih =>
    intro i n p bs
    cases bs with
    | nil => simp [rdF]
    | cons b r =>
      rw [rdF]
      split
      · split
        · simp
        · simp only [List.length_cons]; omega
      · have := ih (i + 1) (n + b.toNat % 128 * p) (p * 128) r
        simp only [List.length_cons]; omega
theorem rdNum_len (bs : List UInt8) : (rdNum bs).2 ≤ bs.length ∧ (rdNum bs).1 ≤ 1099511627776 ∧ (rdNum bs).2 ≤ 6 := by have := rdF_len 6 0 0 1 bs; unfold rdNum; omega
theorem rdF_zero (f : Nat) : ∀ (i n p : Nat) (bs : List UInt8), (rdF f i n p bs).2 = 0 → (rdF f i n p bs).1 = 0 := by
  induction f with
  | zero => intro i n p bs _; simp [rdF]
  | succ f ih =>
    intro i n p bs
    cases bs with
    | nil => simp [rdF]
    | cons b r =>
      rw [rdF]
      split
      · split
        · simp
        · simp
      · exact ih (i + 1) (n + b.toNat % 128 * p) (p * 128) r
theorem rdNum_zero (bs : List UInt8) (h : (rdNum bs).2 = 0) : (rdNum bs).1 = 0 := rdF_zero 6 0 0 1 bs h
/-- The weights and sums that a round meets. -/
theorem mul_le (b p : Nat) : b % 128 * p ≤ 127 * p := Nat.mul_le_mul_right p (by omega)
end Go.Proofs.YtilhaokiohbeeaaGreatDoor
namespace Go.Proofs.YtilhaokiohbeeaaGreatDoor
open Go.RowKit
theorem ret2_int {k l : IntKind} {a b c d : Int} (h : a = c) (h2 : b = d) : Ending.returned (.tuple #[.int k a, .int l b]) = .returned (.tuple #[.int k c, .int l d]) := by rw [h, h2]
end Go.Proofs.YtilhaokiohbeeaaGreatDoor
namespace Go.Proofs.YtilhaokiohbeeaaGreatDoor
open Go.RowKit
/-- The text with which the bytes begin, and how many bytes it takes with its number; none and 0 where there is none. -/
def rdText (bs : List UInt8) : List UInt8 × Nat :=
  if (rdNum bs).2 = 0 ∨ 3000 < (rdNum bs).1 ∨ bs.length < (rdNum bs).2 + (rdNum bs).1 then ([], 0) else ((bs.drop (rdNum bs).2).take (rdNum bs).1, (rdNum bs).2 + (rdNum bs).1)
theorem cut_len (bs : List UInt8) (k n : Nat) (h : k + n ≤ bs.length) : ((bs.drop k).take n).length = n := by rw [List.length_take, List.length_drop]; omega
theorem conv_cut (w : World) (b off k n c : Nat) (bs : List UInt8) (h : k + n ≤ bs.length) (hc : ∀ i (h : i < bs.length), w.cell? ⟨b, off + i, none⟩ = some (.int .u8 (bs[i].toNat : Int))) :
    (convert 22 9 (.slice (some ⟨b, off + k, none⟩) n c)).run Tryz.prog w = .ok (.string ⟨((bs.drop k).take n).toArray⟩) w :=
  conv_at w b (off + k) n c _ (cut_len bs k n h) fun j hj => by
    rw [cut_len bs k n h] at hj
    have := hc (k + j) (by omega)
    rw [← Nat.add_assoc] at this
    rw [this]
    simp
theorem conv_none (w : World) (b off n c : Nat) (h : n = 0) (l : List UInt8) (hl : l = []) : (convert 22 9 (.slice (some ⟨b, off, none⟩) n c)).run Tryz.prog w = .ok (.string ⟨l.toArray⟩) w := by
  subst h
  subst hl
  exact conv_at w b off 0 c [] rfl fun j hj => by simp at hj
end Go.Proofs.YtilhaokiohbeeaaGreatDoor
namespace Go.Proofs.YtilhaokiohbeeaaGreatDoor
open Go.RowKit
set_option maxHeartbeats 400000 in
set_option maxRecDepth 100000 in
theorem eqTexts_same (va vb : Value) (bs : List ByteArray) (w : World) (ha : RdS w va bs) (hb : RdS w vb bs) :
    Calls Tryz.prog 189 #[va, vb] w fun e w' => e = .returned (.bool true) ∧ ∃ q, w' = w.drewN q := by
  obtain ⟨aa, ca, rfl, hla, hma, hA⟩ := ha
  obtain ⟨ab, cb, rfl, hlb, hmb, hB⟩ := hb
  unfold maxLen at hma hmb
  have hne : ((bs.length : Int) != (bs.length : Int)) = false := by simp
  rcases hA with rfl | ⟨ba, offa, rfl, hA⟩
  · go_enter Tryz.func189, Tryz.ntmps189
    go_wp2
    refine wp_loop_rounds 1 ?_
    rw [rounds_succ]
    go_wp2
    go_ret
    exact ⟨rfl, 0, rfl⟩
  · rcases hB with rfl | ⟨bb, offb, rfl, hB⟩
    · go_enter Tryz.func189, Tryz.ntmps189
      go_wp2
      refine wp_loop_rounds 1 ?_
      rw [rounds_succ]
      go_wp2
      go_ret
      exact ⟨rfl, 0, rfl⟩
    · go_enter Tryz.func189, Tryz.ntmps189
      go_wp2
      go_loopw [5] (fun i wr => ∃ k : Nat, k ≤ bs.length ∧ i = .int .i64 k ∧ ∃ q, wr = w.drewN q) (fun i _ => bs.length - (intOf i).toNat)
      case atStart => exact ⟨0, Nat.zero_le _, rfl, 0, rfl⟩
      case round =>
        obtain ⟨k, hk, rfl, q, rfl⟩ := hrel
        by_cases hlt : k < bs.length
        · have h1 := hA k hlt
          have h2 := hB k hlt
          clear hA hB
          go_wp2
          go_quiet (fail)
          go_wp2
          go_roundw
          case rel => exact ⟨k + 1, by omega, by go_num, _, rfl⟩
          case measure => simp [intOf]; omega
        · go_wp2
          go_ret
          exact ⟨rfl, q, rfl⟩

def smarks (k n : Nat) : List ByteArray := (List.range n).map fun i => mk (k + i)
theorem smarks_length (k n : Nat) : (smarks k n).length = n := by simp [smarks]
theorem smarks_succ (k n : Nat) : smarks k (n + 1) = smarks k n ++ [mk (k + n)] := by simp [smarks, List.range_succ]
theorem smarks_get (k n i : Nat) (h : i < (smarks k n).length) : (smarks k n)[i] = mk (k + i) := by simp [smarks]
theorem smark_step (k i : Nat) (bs : List ByteArray) (h : i < bs.length) : (smarks k i ++ bs.drop i).set i (mk (k + i)) = smarks k (i + 1) ++ bs.drop (i + 1) := by
  rw [smarks_succ, List.set_append_right _ _ (by rw [smarks_length]; omega), smarks_length, Nat.sub_self, List.drop_eq_getElem_cons h, List.set_cons_zero]
  simp
/-- What the marking leaves: nothing below the row's base has turned but for new blocks and the row itself. -/
theorem smark_frame {w wr w1 : World} {g : Nat} {u : Value} {j : Nat} (hg : w.grownBy wr (some g)) (hb : Below wr.heap.size wr w1) : w.grownBy (w1.setCell ⟨g, j, none⟩ u) (some g) :=
  ⟨hb.os.trans hg.os, hb.tape.trans hg.tape, hb.output.trans hg.output, by have := hg.size; have := hb.size; simp; omega, fun k hk hr => by
    rw [heap_setCell_other w1 ⟨g, j, none⟩ k u (fun e => hr (by simp [e])), hb.block k (by have := hg.size; omega)]
    exact hg.block k hk hr⟩
theorem grownBy_one (a : World) (row : Option Nat) : a.grownBy a row := ⟨rfl, rfl, rfl, Nat.le_refl _, fun _ _ _ => rfl⟩

set_option maxHeartbeats 400000 in
set_option maxRecDepth 100000 in
theorem smark_any (v : Value) (bs : List ByteArray) (base k : Nat) (w : World) (hk0 : 0 < k) (hk : k + bs.length ≤ 4194304) (hown : OwnS w base v bs) :
    Calls Tryz.prog 126 #[v, .int .i64 k] w fun e w' => e = .returned (.int .i64 ((k + bs.length : Nat) : Int)) ∧ OwnS w' base v (smarks k bs.length) ∧ w.grownBy w' v.ownBlock := by
  obtain ⟨g, cap, hv⟩ | ⟨hv, h0⟩ : (∃ g cap, v = .slice (some ⟨g, 0, none⟩) bs.length cap) ∨ (v = .slice none 0 0 ∧ bs = []) := by
    rcases hown.2 with ⟨rfl, h0⟩ | ⟨g, cap, cur, rfl, _⟩
    · exact .inr ⟨rfl, List.length_eq_zero_iff.1 h0⟩
    · exact .inl ⟨g, cap, rfl⟩
  · subst hv
    go_enter Tryz.func126, Tryz.ntmps126
    go_wp2
    go_loopw [1, 5] (fun kk i wr => ∃ j : Nat, j ≤ bs.length ∧ i = .int .i64 j ∧ kk = .int .i64 ((k : Int) + (j : Int)) ∧ OwnS wr base (.slice (some ⟨g, 0, none⟩) bs.length cap) (smarks k j ++ bs.drop j) ∧ w.grownBy wr (some g)) (fun _ i _ => bs.length - (intOf i).toNat)
    case atStart => exact ⟨0, Nat.zero_le _, rfl, by simp, by simpa [smarks] using hown, grownBy_one _ _⟩
    case round =>
      obtain ⟨j, hj, rfl, rfl, ho, hg⟩ := hrel
      have hlen : (smarks k j ++ bs.drop j).length = bs.length := by simp [smarks_length]; omega
      by_cases hlt : j < bs.length
      · go_wp2_with fail
        refine (markText_at _ (k + j) _ (by omega) (by omega) (by omega)).mono ?_
        rintro e1 w1 ⟨rfl, hb1⟩
        have ho1 := ho.below hb1
        have ho' : w1.ownsRow base 9 1 (.slice (some ⟨g, 0, none⟩) bs.length cap) bs.length (SV (smarks k j ++ bs.drop j)) := by have h := ho1; unfold OwnS at h; rwa [hlen] at h
        have hc := (ho'.cellAt j (by omega)).trans (SV_get _ j (by omega))
        have hf := ho'.frozenAt j
        have R1 : OwnS (w1.setCell ⟨g, j, none⟩ (.string (mk (k + j)))) base (.slice (some ⟨g, 0, none⟩) bs.length cap) (smarks k (j + 1) ++ bs.drop (j + 1)) := by
          have h := (ho'.stored j (.string (mk (k + j)))).1
          rw [← SV_set, smark_step k j bs hlt] at h
          have hl : (smarks k (j + 1) ++ bs.drop (j + 1)).length = bs.length := by simp [smarks_length]; omega
          unfold OwnS
          rw [hl]
          exact h
        have R2 : w.grownBy (w1.setCell ⟨g, j, none⟩ (.string (mk (k + j)))) (some g) := smark_frame hg hb1
        clear ho ho' ho1 hg hb1
        go_wp2
        go_roundw
        case rel => exact ⟨j + 1, by omega, by go_num, by go_num, R1, R2⟩
        case measure => simp [intOf]; omega
      · have hje : j = bs.length := by omega
        subst hje
        go_wp2
        go_ret
        exact ⟨by simp, by simpa using ho, hg⟩
  · subst hv
    subst h0
    go_enter Tryz.func126, Tryz.ntmps126
    go_wp2
    refine wp_loop_rounds 1 ?_
    rw [rounds_succ]
    go_wp2
    go_ret
    exact ⟨rfl, hown, grownBy_one _ _⟩

set_option maxHeartbeats 400000 in
set_option maxRecDepth 100000 in
theorem sheld_any (v : Value) (n k : Nat) (w : World) (hk0 : 0 < k) (hk : k + n ≤ 4194304) (hr : RdS w v (smarks k n)) :
    Calls Tryz.prog 132 #[v, .int .i64 k] w fun e w' => e = .returned (.int .i64 ((k + n : Nat) : Int)) ∧ Below w.heap.size w w' := by
  obtain ⟨a, cap, hv, hl, hm, hA⟩ := hr
  rw [smarks_length] at hv hl
  subst hv
  by_cases h0 : n = 0
  · subst h0
    go_enter Tryz.func132, Tryz.ntmps132
    go_wp2
    refine wp_loop_rounds 1 ?_
    rw [rounds_succ]
    go_wp2
    go_ret
    exact ⟨rfl, Below.refl _ _⟩
  · obtain ⟨b, off, rfl, hc⟩ : ∃ b off, a = some ⟨b, off, none⟩ ∧ ∀ i, i < n → w.cell? ⟨b, off + i, none⟩ = some (.string (mk (k + i))) := by
      rcases hA with h | ⟨b, off, ha, hc⟩
      · have := congrArg List.length h; rw [smarks_length] at this; exact absurd this h0
      · refine ⟨b, off, ha, fun i hi => ?_⟩
        have h := hc i (by rw [smarks_length]; exact hi)
        rw [smarks_get] at h
        exact h
    clear hA
    go_enter Tryz.func132, Tryz.ntmps132
    go_wp2
    go_loopw [1, 5] (fun kk i wr => ∃ j : Nat, j ≤ n ∧ i = .int .i64 j ∧ kk = .int .i64 ((k : Int) + (j : Int)) ∧ Below w.heap.size w wr) (fun _ i _ => n - (intOf i).toNat)
    case atStart => exact ⟨0, Nat.zero_le _, rfl, by simp, Below.refl _ _⟩
    case round =>
      obtain ⟨j, hj, rfl, rfl, hb⟩ := hrel
      by_cases hlt : j < n
      · have h1 : wr.cell? ⟨b, off + j, none⟩ = some (.string (mk (k + j))) := by rw [hb.cell (World.block_lt_of_cell? w _ (hc j hlt))]; exact hc j hlt
        have hlt2 := World.block_lt_of_cell? wr _ h1
        clear hc
        go_wp2
        go_region_with (go_at_call 190; refine (markText_at _ (k + j) _ (by omega) (by omega) (by omega)).mono ?_; rintro e w' ⟨rfl, hb'⟩; have h2 : w'.cell? ⟨b, off + j, none⟩ = some (.string (mk (k + j))) := (hb'.cell (by simpa using hlt2)).trans (by simpa using h1); have hbw : Below w.heap.size w w' := (Below.drew hb).trans (hb'.mono (by simpa using hb.size)))
        all_goals
          clear hb h1
          go_wp2
          go_roundw
          case rel => exact ⟨j + 1, by omega, by go_num, by go_num, by assumption⟩
          case measure => simp [intOf]; omega
      · have hje : j = n := by omega
        subst hje
        go_wp2
        go_ret
        exact ⟨by simp, hb⟩
theorem smark_one (v : Value) (bs : List ByteArray) (base : Nat) (w : World) (hk : bs.length ≤ 2097152) (hown : OwnS w base v bs) :
    Calls Tryz.prog 126 #[v, .int .i64 1] w fun e w' => e = .returned (.int .i64 (1 + (bs.length : Int))) ∧ OwnS w' base v (smarks 1 bs.length) ∧ w.grownBy w' v.ownBlock := by
  have h := smark_any v bs base 1 w (by omega) (by omega) hown
  rw [Int.natCast_add] at h
  exact h
theorem sheld_one (v : Value) (n : Nat) (w : World) (hk : n ≤ 2097152) (hr : RdS w v (smarks 1 n)) :
    Calls Tryz.prog 132 #[v, .int .i64 1] w fun e w' => e = .returned (.int .i64 (1 + (n : Int))) ∧ Below w.heap.size w w' := by
  have h := sheld_any v n 1 w (by omega) (by omega) hr
  rw [Int.natCast_add] at h
  exact h
end Go.Proofs.YtilhaokiohbeeaaGreatDoor
-- UNF Gen
namespace Go.Proofs.YtilhaokiohbeeaaGreatDoor
open Go.RowKit Go.ChangeShapes Go.WideShapes
set_option maxHeartbeats 4000000 in
set_option maxRecDepth 100000 in
theorem eqBlock_same (Y Z : BlX) (w : World) (hy : RdBl w Y) (hz : RdBl w Z) (hp : Y.b = Z.b) :
    Calls Tryz.prog 118 #[.agg #[.int .i64 Y.b.vw, .int .i64 Y.b.pa, .int .i64 Y.b.p.vw, .int .i64 Y.b.p.nm, Y.vs, Y.vt, Y.vm, .int .i64 Y.b.sv], .agg #[.int .i64 Z.b.vw, .int .i64 Z.b.pa, .int .i64 Z.b.p.vw, .int .i64 Z.b.p.nm, Z.vs, Z.vt, Z.vm, .int .i64 Z.b.sv]] w fun e w' => e = .returned (.bool true) ∧ Below w.heap.size w w' := by
  obtain ⟨⟨bv, ba, p, mo, sv⟩, ys, yt, ym⟩ := Y
  obtain ⟨p2, zs, zt, zm⟩ := Z
  simp only at hp
  subst hp
  simp only
  have HP : Hid (∀ W, RdPr W ⟨p, ys, yt⟩ → RdPr W ⟨p, zs, zt⟩ → Calls Tryz.prog 113 #[.agg #[.int .i64 p.vw, .int .i64 p.nm, ys, yt], .agg #[.int .i64 p.vw, .int .i64 p.nm, zs, zt]] W fun e w' => e = .returned (.bool true) ∧ Below W.heap.size W w') := fun W h1 h2 => eqProof_same ⟨p, ys, yt⟩ ⟨p, zs, zt⟩ W h1 h2 rfl
  have HM : Hid (∀ W, RdS W ym mo → RdS W zm mo → Calls Tryz.prog 189 #[ym, zm] W fun e w' => e = .returned (.bool true) ∧ ∃ q, w' = W.drewN q) := fun W h1 h2 => eqTexts_same _ _ mo W h1 h2
  obtain ⟨A, hA⟩ : ∃ A, A = Obj.cells #[.int .i64 bv, .int .i64 ba, .int .i64 p.vw, .int .i64 p.nm, ys, yt, ym, .int .i64 sv] 34 := ⟨_, rfl⟩
  obtain ⟨B, hB⟩ : ∃ B, B = Obj.cells #[.int .i64 bv, .int .i64 ba, .int .i64 p.vw, .int .i64 p.nm, zs, zt, zm, .int .i64 sv] 34 := ⟨_, rfl⟩
  have t0 : Bx ((w.alloc A).alloc B) w.heap.size 34 #[.int .i64 bv, .int .i64 ba, .int .i64 p.vw, .int .i64 p.nm, ys, yt, ym, .int .i64 sv] := by rw [hA]; exact (bx_new w _ _).below (below1 _ _)
  have u0 : Bx ((w.alloc A).alloc B) (w.heap.size + 1) 34 #[.int .i64 bv, .int .i64 ba, .int .i64 p.vw, .int .i64 p.nm, zs, zt, zm, .int .i64 sv] := by
    have h := bx_new (w.alloc A) 34 #[.int .i64 bv, .int .i64 ba, .int .i64 p.vw, .int .i64 p.nm, zs, zt, zm, .int .i64 sv]
    rw [szQ] at h
    rw [hB]; exact h
  have b0 : Below w.heap.size w ((w.alloc A).alloc B) := below2 w A B
  obtain ⟨W0, hW0⟩ : ∃ W0, W0 = (w.alloc A).alloc B := ⟨_, rfl⟩
  rw [← hW0] at t0 u0 b0
  rw [hA, hB] at hW0
  obtain ⟨c0, c1, c2, c3, c4, c5, c6, c7⟩ := t0.c8
  obtain ⟨d0, d1, d2, d3, d4, d5, d6, d7⟩ := u0.c8
  rw [hW0] at c0 c1 c2 c3 c4 c5 c6 c7 d0 d1 d2 d3 d4 d5 d6 d7
  have n0 : (bv != bv) = false := by simp
  have n1 : (ba != ba) = false := by simp
  have n2 : (sv != sv) = false := by simp
  have HW0 : Hid (((w.alloc (Obj.cells #[.int .i64 bv, .int .i64 ba, .int .i64 p.vw, .int .i64 p.nm, ys, yt, ym, .int .i64 sv] 34)).alloc (Obj.cells #[.int .i64 bv, .int .i64 ba, .int .i64 p.vw, .int .i64 p.nm, zs, zt, zm, .int .i64 sv] 34)) = W0) := hW0.symm
  clear hA hB hW0
  go_enter Tryz.func118, Tryz.ntmps118
  go_wp2_with fail
  rw [HW0.out]
  refine (HP.out _ (hy.pr.below b0) (hz.pr.below b0)).mono ?_
  rintro e w1 ⟨rfl, hb1⟩
  have t1 := t0.below hb1
  have u1 := u0.below hb1
  have b1 := b0.trans (hb1.mono b0.size)
  clear c0 c1 c2 c3 c4 c5 c6 c7 d0 d1 d2 d3 d4 d5 d6 d7 t0 u0 b0 hb1
  obtain ⟨-, -, -, -, -, -, c6, c7⟩ := t1.c8
  obtain ⟨-, -, -, -, -, -, d6, d7⟩ := u1.c8
  go_wp2_with fail
  refine (HM.out _ (hy.mo.below b1) (hz.mo.below b1)).mono ?_
  rintro e w2 ⟨rfl, q, rfl⟩
  have b2 : Below w.heap.size w (w1.drewN q) := below_drewN b1 q
  clear t1 u1 b1
  go_wp2
  go_ret
  exact ⟨rfl, b2⟩
end Go.Proofs.YtilhaokiohbeeaaGreatDoor
