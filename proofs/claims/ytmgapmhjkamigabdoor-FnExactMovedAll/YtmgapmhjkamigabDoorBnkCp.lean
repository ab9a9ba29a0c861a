/- The contracts of the laws' own helpers over banks: measured, copied, alike, marked, held. -/
-- UNF Gen
import Derived.Test.YtmgapmhjkamigabDoorBnkBase
import Derived.Test.YtmgapmhjkamigabDoorNumZ
namespace Go.Proofs.YtmgapmhjkamigabDoor
open Go.RowKit
set_option maxHeartbeats 400000 in
set_option maxRecDepth 100000 in
theorem szIntsB_at (v : Value) (ns : List Int) (l : Int) (w : World) (hr : RdI w v ns) (h0 : 0 ≤ l) (h1 : l ≤ 1048576) :
    Calls Tryd.prog 28 #[v, .int .i64 l] w fun e w' => w' = w ∧ ∃ x : Int, e = .returned (.int .i64 x) ∧ (x = -1 ∨ 0 ≤ x ∧ x + ns.length ≤ l) := by
  obtain ⟨a, cap, hv, hl, hm, _⟩ := id hr
  subst hv
  unfold maxLen at hm
  by_cases hb : l - (ns.length : Int) < 0
  · go_enter Tryd.func28, Tryd.ntmps28
    go_wp2
    go_ret
    exact ⟨rfl, -1, rfl, .inl rfl⟩
  · go_enter Tryd.func28, Tryd.ntmps28
    go_wp2
    go_ret
    exact ⟨rfl, _, rfl, .inr ⟨by omega, by omega⟩⟩
def SmallBk (X : BkX) (z : Int) : Prop := z + X.mon.length + X.cnt.length ≤ 1048576
def SzBk (w : World) (X : BkX) (e : Ending) (w' : World) : Prop := Below w.heap.size w w' ∧ ∃ z : Int, e = .returned (.int .i64 z) ∧ (z = -1 ∨ 0 ≤ z ∧ SmallBk X z)
set_option maxHeartbeats 2000000 in
set_option maxRecDepth 100000 in
theorem szBank_any (X : BkX) (w : World) (hx : RdBk w X) :
    Calls Tryd.prog 8 #[.agg #[X.vm, X.vc], .int .i64 1048576] w fun e w' => SzBk w X e w' := by
  have t0 := bkAt_new w X 30
  have b0 := below1 w (.cells #[X.vm, X.vc] 30)
  have HS : Hid (∀ l W, RdI W X.vm X.mon → 0 ≤ l → l ≤ 1048576 → Calls Tryd.prog 28 #[X.vm, .int .i64 l] W fun e w' => w' = W ∧ ∃ x : Int, e = .returned (.int .i64 x) ∧ (x = -1 ∨ 0 ≤ x ∧ x + X.mon.length ≤ l)) := fun l W h h0 h1 => szIntsB_at _ _ l W h h0 h1
  have HP : Hid (∀ l W, RdI W X.vc X.cnt → 0 ≤ l → l ≤ 1048576 → Calls Tryd.prog 28 #[X.vc, .int .i64 l] W fun e w' => w' = W ∧ ∃ x : Int, e = .returned (.int .i64 x) ∧ (x = -1 ∨ 0 ≤ x ∧ x + X.cnt.length ≤ l)) := fun l W h h0 h1 => szIntsB_at _ _ l W h h0 h1
  obtain ⟨q0, q1⟩ := id t0
  go_enter Tryd.func8, Tryd.ntmps8
  go_wp2_with fail
  refine (HS.out _ _ (hx.mon.below b0) (by omega) (by omega)).mono ?_
  rintro e w1 ⟨hw1, z1, rfl, hz1⟩
  subst hw1
  rcases hz1 with hz1 | ⟨hz10, hz11⟩
  · subst hz1
    go_wp2
    go_ret
    exact ⟨b0, -1, rfl, .inl rfl⟩
  go_wp2_with fail
  refine (HP.out _ _ (hx.cnt.below b0) hz10 (by omega)).mono ?_
  rintro e w2 ⟨hw2, z2, rfl, hz2⟩
  subst hw2
  clear q0 q1 t0
  rcases hz2 with hz2 | ⟨hz20, hz21⟩
  · subst hz2
    go_wp2
    go_ret
    exact ⟨b0, -1, rfl, .inl rfl⟩
  · have HSUM : Hid (SmallBk X z2) := by unfold Hid SmallBk; omega
    clear hz11 hz21
    go_wp2
    go_ret
    exact ⟨b0, z2, rfl, .inr ⟨hz20, HSUM.out⟩⟩
set_option maxHeartbeats 4000000 in
set_option maxRecDepth 100000 in
theorem toBank_any (X : BkX) (w : World) (hx : RdBk w X) (hh : X.mon.length + X.cnt.length ≤ 1048576) :
    Calls Tryd.prog 11 #[.agg #[X.vm, X.vc]] w fun e w' => ToBk w X.mon X.cnt e w' := by
  have HS : Hid (∀ W, RdI W X.vm X.mon → Calls Tryd.prog 32 #[X.vm] W fun e w' => ∃ u, e = .returned u ∧ OwnI w' W.heap.size u X.mon ∧ Below W.heap.size W w') := fun W h => toInts_any _ _ W h (by omega)
  have HP : Hid (∀ W, RdI W X.vc X.cnt → Calls Tryd.prog 32 #[X.vc] W fun e w' => ∃ u, e = .returned u ∧ OwnI w' W.heap.size u X.cnt ∧ Below W.heap.size W w') := fun W h => toInts_any _ _ W h (by omega)
  clear hh
  have t0 := bkAt_new w X 30
  have b0 := below1 w (.cells #[X.vm, X.vc] 30)
  obtain ⟨W0, hW0⟩ : ∃ W0, W0 = w.alloc (.cells #[X.vm, X.vc] 30) := ⟨_, rfl⟩
  have s0 : W0.heap.size = w.heap.size + 1 := by rw [hW0]; simp
  rw [← hW0] at t0 b0
  have r1 := boxBk_new W0 (.slice none 0 0) (.slice none 0 0)
  have bb1 := below1 W0 (.cells #[.slice none 0 0, .slice none 0 0] 34)
  obtain ⟨W1, hW1⟩ : ∃ W1, W1 = W0.alloc (.cells #[.slice none 0 0, .slice none 0 0] 34) := ⟨_, rfl⟩
  have s1 : W1.heap.size = w.heap.size + 2 := by rw [hW1]; simp [s0]
  rw [← hW1] at r1 bb1
  have o2 := boxBk_new W1 (.slice none 0 0) (.slice none 0 0)
  have bb2 := below1 W1 (.cells #[.slice none 0 0, .slice none 0 0] 34)
  obtain ⟨W2, hW2⟩ : ∃ W2, W2 = W1.alloc (.cells #[.slice none 0 0, .slice none 0 0] 34) := ⟨_, rfl⟩
  have s2 : W2.heap.size = w.heap.size + 3 := by rw [hW2]; simp [s1]
  rw [← hW2] at o2 bb2
  have t2 := (t0.below bb1).below bb2
  have r2 := r1.below bb2
  rw [s0] at r2
  rw [s1] at o2
  have b2 : Below w.heap.size w W2 := (b0.trans (bb1.mono b0.size)).trans (bb2.mono (by omega))
  have HW : Hid (((w.alloc (.cells #[X.vm, X.vc] 30)).alloc (.cells #[.slice none 0 0, .slice none 0 0] 34)).alloc (.cells #[.slice none 0 0, .slice none 0 0] 34) = W2) := by unfold Hid; rw [hW2, hW1, hW0]
  obtain ⟨q0, q1⟩ := id t2
  rw [← HW.out] at q0 q1
  clear t0 b0 r1 bb1 bb2 hW0 hW1 hW2 s0 s1
  go_enter Tryd.func11, Tryd.ntmps11
  go_wp2_with fail
  rw [HW.out]
  refine (HS.out _ (hx.mon.below b2)).mono ?_
  rintro e w3 ⟨us, rfl, hs3, hb3⟩
  have t3 := t2.below hb3
  have r3 := r2.below hb3
  have o3 := o2.below hb3
  have b3 := b2.trans (hb3.mono b2.size)
  have s3 := hb3.size
  clear q0 q1 t2 r2 o2 b2 hb3 HS HW
  obtain ⟨f0, f1, f2, f3⟩ := o3.facts
  have o4 := o3.set0 (u := us)
  have t4 : BkAt (w3.setCell ⟨w.heap.size + 2, 0, none⟩ us) w.heap.size X := t3.of_block (blkSet (by omega))
  have r4 : BoxBk (w3.setCell ⟨w.heap.size + 2, 0, none⟩ us) (w.heap.size + 1) _ _ := r3.of_block (blkSet (by omega))
  have hs4 : OwnI (w3.setCell ⟨w.heap.size + 2, 0, none⟩ us) (w.heap.size + 3) us X.mon := by rw [s2] at hs3; exact row_base hs3 (by omega)
  have b4 : Below w.heap.size w (w3.setCell ⟨w.heap.size + 2, 0, none⟩ us) := b3.setCell (p := ⟨w.heap.size + 2, 0, none⟩) (by simp) _
  have s4 : W2.heap.size ≤ (w3.setCell ⟨w.heap.size + 2, 0, none⟩ us).heap.size := by simpa using s3
  obtain ⟨as1, cs1, hvs⟩ := ownSl hs3
  obtain ⟨q0, q1⟩ := id t4
  clear t3 r3 o3 b3 hs3
  generalize X.mon.length = sn at hvs
  subst hvs
  go_wp2_with fail
  generalize w3.setCell ⟨w.heap.size + 2, 0, none⟩ (.slice as1 sn cs1) = W4 at o4 t4 r4 hs4 b4 s4 q0 q1 ⊢
  refine (HP.out _ (hx.cnt.below b4)).mono ?_
  rintro e w5 ⟨ul, rfl, hl5, hb5⟩
  have r5 := r4.below hb5
  have o5 := o4.below hb5
  have b5 := b4.trans (hb5.mono b4.size)
  have hs5 := hs4.below hb5
  have TWO : Hid (∀ q, (Value.slice as1 sn cs1).ownBlock = some q → ul.ownBlock = some q → False) := fun q h1 h2 => by have := (World.ownsRow.lt hs4 q h1).2; have := (World.ownsRow.lt hl5 q h2).1; omega
  clear q0 q1 t4 r4 o4 b4 hs4 hb5 HP f0 f1 f2 f3
  obtain ⟨al1, cl1, hvl⟩ := ownSl hl5
  obtain ⟨f0, f1, f2, f3⟩ := o5.facts
  have o6 := o5.set1 (u := ul)
  have r6 : BoxBk (w5.setCell ⟨w.heap.size + 2, 1, none⟩ ul) (w.heap.size + 1) _ _ := r5.of_block (blkSet (by omega))
  have hs6 : OwnI (w5.setCell ⟨w.heap.size + 2, 1, none⟩ ul) (w.heap.size + 3) (.slice as1 sn cs1) X.mon := row_base hs5 (by omega)
  have hl6 : OwnI (w5.setCell ⟨w.heap.size + 2, 1, none⟩ ul) (w.heap.size + 3) ul X.cnt := row_base (OwnI.mono hl5 (by omega)) (by omega)
  have b6 : Below w.heap.size w (w5.setCell ⟨w.heap.size + 2, 1, none⟩ ul) := b5.setCell (p := ⟨w.heap.size + 2, 1, none⟩) (by simp) _
  obtain ⟨g0, g1, g2, g3⟩ := o6.facts
  obtain ⟨h0, h1, h2, h3⟩ := r6.facts
  clear o5 r5 hs5 hl5 b5
  generalize X.cnt.length = ln at hvl
  subst hvl
  have HF : Hid (ToBk w X.mon X.cnt (.returned (.agg #[.slice as1 sn cs1, .slice al1 ln cl1])) (((w5.setCell ⟨w.heap.size + 2, 1, none⟩ (.slice al1 ln cl1)).setCell ⟨w.heap.size + 1, 0, none⟩ (.slice as1 sn cs1)).setCell ⟨w.heap.size + 1, 1, none⟩ (.slice al1 ln cl1))) :=
    ⟨⟨.slice as1 sn cs1, .slice al1 ln cl1, X.mon, X.cnt⟩, rfl, rfl, rfl, ⟨OwnI.mono (row_base (row_base hs6 (by omega)) (by omega)) (by omega), OwnI.mono (row_base (row_base hl6 (by omega)) (by omega)) (by omega), TWO.out⟩, (b6.setCell (p := ⟨w.heap.size + 1, 0, none⟩) (by simp) _).setCell (p := ⟨w.heap.size + 1, 1, none⟩) (by simp) _⟩
  have z := (r6.set0 (u := .slice as1 sn cs1)).set1 (u := .slice al1 ln cl1)
  obtain ⟨k0, k1, -, -⟩ := z.facts
  clear z o6 r6 hs6 hl6 b6
  go_wp2
  exact bodyPost_ret (v := .agg #[.slice as1 sn cs1, .slice al1 ln cl1]) (by simp [results, Tryd.results11, go_sem, k0, k1]) rfl HF.out
set_option maxHeartbeats 2000000 in
set_option maxRecDepth 100000 in
theorem eqBank_same (Y Z : BkX) (w : World) (hy : RdBk w Y) (hz : RdBk w Z) (hs : Y.mon = Z.mon) (hl : Y.cnt = Z.cnt) :
    Calls Tryd.prog 14 #[.agg #[Y.vm, Y.vc], .agg #[Z.vm, Z.vc]] w fun e w' => e = .returned (.bool true) ∧ Below w.heap.size w w' := by
  have HS : Hid (∀ W, RdBk W Y → RdBk W Z → Calls Tryd.prog 15 #[Y.vm, Z.vm] W fun e w' => e = .returned (.bool true) ∧ Below W.heap.size W w') := fun W h1 h2 => eqIntsZ _ _ Y.mon W h1.mon (by rw [hs]; exact h2.mon)
  have HP : Hid (∀ W, RdBk W Y → RdBk W Z → Calls Tryd.prog 15 #[Y.vc, Z.vc] W fun e w' => e = .returned (.bool true) ∧ Below W.heap.size W w') := fun W h1 h2 => eqIntsZ _ _ Y.cnt W h1.cnt (by rw [hl]; exact h2.cnt)
  clear hs hl
  have t0 := bkAt_new w Y 34
  have b0 := below1 w (.cells #[Y.vm, Y.vc] 34)
  obtain ⟨W0, hW0⟩ : ∃ W0, W0 = w.alloc (.cells #[Y.vm, Y.vc] 34) := ⟨_, rfl⟩
  have s0 : W0.heap.size = w.heap.size + 1 := by rw [hW0]; simp
  rw [← hW0] at t0 b0
  have u1 := bkAt_new W0 Z 34
  have b1 := below1 W0 (.cells #[Z.vm, Z.vc] 34)
  obtain ⟨W1, hW1⟩ : ∃ W1, W1 = W0.alloc (.cells #[Z.vm, Z.vc] 34) := ⟨_, rfl⟩
  rw [← hW1] at u1 b1
  rw [s0] at u1
  have t1 := t0.below b1
  have bw1 : Below w.heap.size w W1 := b0.trans (b1.mono (by omega))
  have HW1 : Hid ((w.alloc (.cells #[Y.vm, Y.vc] 34)).alloc (.cells #[Z.vm, Z.vc] 34) = W1) := by unfold Hid; rw [hW1, hW0]
  obtain ⟨d0, d1⟩ := id t1
  obtain ⟨e0, e1⟩ := id u1
  rw [← HW1.out] at d0 d1 e0 e1
  clear t0 b0 b1 hW0 hW1 s0
  go_enter Tryd.func14, Tryd.ntmps14
  go_wp2_with fail
  rw [HW1.out]
  refine (HS.out _ (hy.below bw1) (hz.below bw1)).mono ?_
  rintro e w2 ⟨rfl, hb2⟩
  have t2 := t1.below hb2
  have u2 := u1.below hb2
  have b2 := bw1.trans (hb2.mono bw1.size)
  clear d0 d1 e0 e1 t1 u1 bw1 hb2 HS HW1
  obtain ⟨d0, d1⟩ := id t2
  obtain ⟨e0, e1⟩ := id u2
  go_wp2_with fail
  refine (HP.out _ (hy.below b2) (hz.below b2)).mono ?_
  rintro e w3 ⟨rfl, hb3⟩
  have b3 := b2.trans (hb3.mono b2.size)
  clear d0 d1 e0 e1 t2 u2 b2 hb3 HP
  go_wp2
  go_ret
  exact ⟨rfl, b3⟩
/-- A bank whose rows are marked from k on. -/
def mkBk (k : Nat) (X : BkX) : BkX := ⟨X.vm, X.vc, imarks k X.mon.length, imarks (k + X.mon.length) X.cnt.length⟩
def cntBk (X : BkX) : Nat := X.mon.length + X.cnt.length
theorem bkB_mk (k : Nat) (X : BkX) : bkB (mkBk k X) = bkB X := rfl
def MarkBk (w : World) (B k : Nat) (X : BkX) (e : Ending) (w' : World) : Prop := e = .returned (.int .i64 ((k + cntBk X : Nat) : Int)) ∧ OwnBk w' B (mkBk k X) ∧ Touch (bkB X) w w'
set_option maxHeartbeats 4000000 in
set_option maxRecDepth 100000 in
theorem markBank_any (X : BkX) (B k : Nat) (w : World) (ho : OwnBk w B X) (hk : k + cntBk X ≤ 4194304) :
    Calls Tryd.prog 17 #[.agg #[X.vm, X.vc], .int .i64 (k : Int)] w fun e w' => MarkBk w B k X e w' := by
  unfold cntBk at hk
  have HS : Hid (∀ W, OwnI W B X.vm X.mon → Calls Tryd.prog 19 #[X.vm, .int .i64 (k : Int)] W fun e w' => e = .returned (.int .i64 ((k + X.mon.length : Nat) : Int)) ∧ OwnI w' B X.vm (imarks k X.mon.length) ∧ W.grownBy w' X.vm.ownBlock) := fun W h => imark_any _ _ B k W (by omega) h
  have HP : Hid (∀ W, OwnI W B X.vc X.cnt → Calls Tryd.prog 19 #[X.vc, .int .i64 ((k + X.mon.length : Nat) : Int)] W fun e w' => e = .returned (.int .i64 ((k + X.mon.length + X.cnt.length : Nat) : Int)) ∧ OwnI w' B X.vc (imarks (k + X.mon.length) X.cnt.length) ∧ W.grownBy w' X.vc.ownBlock) := fun W h => imark_any _ _ B _ W (by omega) h
  have HE : Hid (k + cntBk X = k + X.mon.length + X.cnt.length) := by unfold Hid cntBk; omega
  have NB : Hid (∀ q ∈ bkB X, q < w.heap.size) := fun q hq => (ho.bound hq).2
  have AP : Hid (∀ q, X.vm.ownBlock = some q → X.vc.ownBlock = some q → False) := ho.two
  have t0 := bkAt_new w X 34
  have b0 := below1 w (.cells #[X.vm, X.vc] 34)
  have ho0 := ho.below b0
  have hb0 : w.heap.size < (w.alloc (.cells #[X.vm, X.vc] 34)).heap.size := by simp
  have T0 : Hid (Touch (bkB X) w (w.alloc (.cells #[X.vm, X.vc] 34))) := Touch.of_below b0
  obtain ⟨q0, q1⟩ := id t0
  clear ho b0 hk
  obtain ⟨k1, hk1⟩ : ∃ k1, k1 = k + X.mon.length := ⟨_, rfl⟩
  rw [← hk1] at HS HP HE
  have HK1 : Hid (k1 = k + X.mon.length) := hk1
  clear hk1
  go_enter Tryd.func17, Tryd.ntmps17
  go_wp2_with fail
  generalize w.alloc (.cells #[X.vm, X.vc] 34) = W0 at t0 ho0 hb0 T0 q0 q1 ⊢
  refine (HS.out _ ho0.mon).mono ?_
  rintro e w1 ⟨rfl, hs1, hg1⟩
  have tch1 : Touch (oneB X.vm) W0 w1 := Touch.of_grown hg1 (fun q hq => mem_oneB.2 hq)
  have t1 : BkAt w1 w.heap.size X := tch1.bk t0 (fun e => by have := NB.out _ (List.mem_append_left _ e); omega)
  have hl1 : OwnI w1 B X.vc X.cnt := tch1.row ho0.cnt (fun q hq e => AP.out q (mem_oneB.1 e) hq)
  have T1 : Hid (Touch (bkB X) w w1) := T0.out.trans (tch1.more (fun q hq => List.mem_append_left _ hq))
  clear t0 ho0 hb0 T0 q0 q1 tch1 hg1 HS
  obtain ⟨q0, q1⟩ := id t1
  go_wp2_with fail
  refine (HP.out _ hl1).mono ?_
  rintro e w2 ⟨rfl, hl2, hg2⟩
  have tch2 : Touch (oneB X.vc) w1 w2 := Touch.of_grown hg2 (fun q hq => mem_oneB.2 hq)
  have hs2 : OwnI w2 B X.vm (imarks k X.mon.length) := tch2.row hs1 (fun q hq e => AP.out q hq (mem_oneB.1 e))
  have T2 : Hid (Touch (bkB X) w w2) := T1.out.trans (tch2.more (fun q hq => List.mem_append_right _ hq))
  have END : Hid (MarkBk w B k X (.returned (.int .i64 ((k1 + X.cnt.length : Nat) : Int))) w2) := by
    refine ⟨by rw [HE.out], ⟨hs2, ?_, AP.out⟩, T2.out⟩
    show OwnI w2 B X.vc (imarks (k + X.mon.length) X.cnt.length)
    rw [← HK1.out]
    exact hl2
  clear t1 hl1 T1 q0 q1 tch2 hg2 HP hs1 hs2 hl2 T2
  go_wp2
  go_ret
  exact END.out
set_option maxHeartbeats 4000000 in
set_option maxRecDepth 100000 in
theorem heldBank_any (X : BkX) (k : Nat) (w : World) (hr : RdBk w (mkBk k X)) (hk : k + cntBk X ≤ 4194304) :
    Calls Tryd.prog 20 #[.agg #[X.vm, X.vc], .int .i64 (k : Int)] w fun e w' => e = .returned (.int .i64 ((k + cntBk X : Nat) : Int)) ∧ Below w.heap.size w w' := by
  unfold cntBk at hk
  obtain ⟨hs, hl⟩ := hr
  change RdI w X.vm (imarks k X.mon.length) at hs
  change RdI w X.vc (imarks (k + X.mon.length) X.cnt.length) at hl
  obtain ⟨k1, hk1⟩ : ∃ k1, k1 = k + X.mon.length := ⟨_, rfl⟩
  rw [← hk1] at hl
  have HS : Hid (∀ W, RdI W X.vm (imarks k X.mon.length) → Calls Tryd.prog 21 #[X.vm, .int .i64 (k : Int)] W fun e w' => e = .returned (.int .i64 (k1 : Int)) ∧ w' = W) := fun W h => by
    have := iheld_any _ _ k W (by omega) h
    rw [hk1]
    exact this
  have HP : Hid (∀ W, RdI W X.vc (imarks k1 X.cnt.length) → Calls Tryd.prog 21 #[X.vc, .int .i64 (k1 : Int)] W fun e w' => e = .returned (.int .i64 ((k1 + X.cnt.length : Nat) : Int)) ∧ w' = W) := fun W h => iheld_any _ _ _ W (by omega) h
  have HE : Hid (k + cntBk X = k1 + X.cnt.length) := by unfold Hid cntBk; omega
  have hn1 : ¬ ((k1 : Int) < 0) := by omega
  have hn2 : ¬ ((k1 + X.cnt.length : Nat) : Int) < 0 := by omega
  have t0 := bkAt_new w X 34
  have b0 := below1 w (.cells #[X.vm, X.vc] 34)
  obtain ⟨q0, q1⟩ := id t0
  rw [HE.out]
  generalize (k1 + X.cnt.length : Nat) = k2 at HP hn2 ⊢
  clear hk1 hk HE
  go_enter Tryd.func20, Tryd.ntmps20
  go_wp2_with fail
  refine (HS.out _ (hs.below b0)).mono ?_
  rintro e w1 ⟨rfl, hw1⟩
  subst hw1
  go_wp2_with fail
  refine (HP.out _ (hl.below b0)).mono ?_
  rintro e w2 ⟨rfl, hw2⟩
  subst hw2
  clear t0 q0 q1 HP
  go_wp2
  go_ret
  exact ⟨rfl, b0⟩
end Go.Proofs.YtmgapmhjkamigabDoor
