/- The contracts of the laws' own copy and comparison of trees. The contracts of the laws' own comparison of rows of tables and trees. -/
import Derived.Test.YtbefmbjlogkmbaaGreatG30
namespace Go.Proofs.YtbefmbjlogkmbaaGreat
set_option maxHeartbeats 16000000
set_option maxRecDepth 100000
open Go.RowKit
theorem OwnTs.base {w : World} {B c j : Nat} {v u : Value} {ts : List TV} (h : OwnTs w B v ts) (hc : c < B) : OwnTs (w.setCell ⟨c, j, none⟩ u) B v ts := ⟨row_base h.row hc, fun t ht => ⟨row_base (h.ins t ht).1 hc, row_base (h.ins t ht).2 hc⟩, h.nod⟩
theorem OwnTs.put5 {w : World} {B c : Nat} {v u0 u1 u2 u3 u4 : Value} {ts : List TV} (h : OwnTs w B v ts) (hc : c < B) : OwnTs (put5 w c u0 u1 u2 u3 u4) B v ts := ((((h.base hc).base hc).base hc).base hc).base hc
def trB (Y : TrX) : List Nat := oneB Y.vm ++ ((oneB Y.vy ++ tblks Y.ys) ++ ((oneB Y.vo ++ tblks Y.os) ++ oneB Y.vs))
structure OwnTree (w : World) (lo : Nat) (Y : TrX) : Prop where
  mem : OwnE w lo Y.vm Y.mem
  young : OwnT w lo Y.vy Y.ys
  youngs : InT w lo Y.ys
  old : OwnT w lo Y.vo Y.os
  olds : InT w lo Y.os
  snaps : OwnI w lo Y.vs Y.snaps
  nod : (trB Y).Nodup
theorem OwnTree.below {w w' : World} {lo : Nat} {Y : TrX} (h : OwnTree w lo Y) (hb : Below w.heap.size w w') : OwnTree w' lo Y := ⟨h.mem.below hb, h.young.below hb, h.youngs.below hb, h.old.below hb, h.olds.below hb, h.snaps.below hb, h.nod⟩
theorem OwnTree.mono {w : World} {lo lo' : Nat} {Y : TrX} (h : OwnTree w lo Y) (hb : lo' ≤ lo) : OwnTree w lo' Y := ⟨h.mem.mono hb, h.young.mono hb, h.youngs.mono hb, h.old.mono hb, h.olds.mono hb, h.snaps.mono hb, h.nod⟩
theorem OwnTree.rd {w : World} {lo : Nat} {Y : TrX} (h : OwnTree w lo Y) : RdTr w Y := ⟨h.mem.rd, h.young.rd h.youngs, h.old.rd h.olds, h.snaps.rd⟩
theorem OwnTree.bound {w : World} {lo : Nat} {Y : TrX} (h : OwnTree w lo Y) {k : Nat} (hk : k ∈ trB Y) : lo ≤ k ∧ k < w.heap.size := by
  unfold trB at hk
  rcases List.mem_append.1 hk with hk | hk
  · exact World.ownsRow.lt h.mem k (mem_oneB.1 hk)
  rcases List.mem_append.1 hk with hk | hk
  · rcases List.mem_append.1 hk with hk | hk
    · exact World.ownsRow.lt h.young k (mem_oneB.1 hk)
    · exact tblks_bound h.youngs hk
  rcases List.mem_append.1 hk with hk | hk
  · rcases List.mem_append.1 hk with hk | hk
    · exact World.ownsRow.lt h.old k (mem_oneB.1 hk)
    · exact tblks_bound h.olds hk
  · exact World.ownsRow.lt h.snaps k (mem_oneB.1 hk)
theorem nod_app {a b : List Nat} {m : Nat} (h1 : a.Nodup) (h2 : b.Nodup) (ha : ∀ k ∈ a, k < m) (hb : ∀ k ∈ b, m ≤ k) : (a ++ b).Nodup := by
  rw [List.nodup_append]
  exact ⟨h1, h2, fun x hx y hy e => by have := ha x hx; have := hb y hy; omega⟩
theorem mem_app_le {a b : List Nat} {m : Nat} (ha : ∀ k ∈ a, m ≤ k) (hb : ∀ k ∈ b, m ≤ k) : ∀ k ∈ a ++ b, m ≤ k := fun k hk => by
  rcases List.mem_append.1 hk with h | h
  · exact ha k h
  · exact hb k h
theorem boxTr_new (w : World) (vm vy vo vs : Value) (q : Int) : BoxTr (w.alloc (.cells #[vm, vy, vo, .int .i64 q, vs] 33)) w.heap.size vm vy vo q vs := heap_alloc_new w _
theorem boxTr_set0 {w : World} {b : Nat} {vm vy vo vs : Value} {q : Int} (h : BoxTr w b vm vy vo q vs) (u : Value) : BoxTr (w.setCell ⟨b, 0, none⟩ u) b u vy vo q vs := heap_setCell_same w b 0 _ _ u h
theorem boxTr_set1 {w : World} {b : Nat} {vm vy vo vs : Value} {q : Int} (h : BoxTr w b vm vy vo q vs) (u : Value) : BoxTr (w.setCell ⟨b, 1, none⟩ u) b vm u vo q vs := heap_setCell_same w b 1 _ _ u h
theorem boxTr_set2 {w : World} {b : Nat} {vm vy vo vs : Value} {q : Int} (h : BoxTr w b vm vy vo q vs) (u : Value) : BoxTr (w.setCell ⟨b, 2, none⟩ u) b vm vy u q vs := heap_setCell_same w b 2 _ _ u h
theorem boxTr_set3 {w : World} {b : Nat} {vm vy vo vs : Value} {q : Int} (h : BoxTr w b vm vy vo q vs) (r : Int) : BoxTr (w.setCell ⟨b, 3, none⟩ (.int .i64 r)) b vm vy vo r vs := heap_setCell_same w b 3 _ _ _ h
theorem boxTr_set4 {w : World} {b : Nat} {vm vy vo vs : Value} {q : Int} (h : BoxTr w b vm vy vo q vs) (u : Value) : BoxTr (w.setCell ⟨b, 4, none⟩ u) b vm vy vo q u := heap_setCell_same w b 4 _ _ u h
theorem boxTr_other {w : World} {b c j : Nat} {vm vy vo vs u : Value} {q : Int} (h : BoxTr w b vm vy vo q vs) (hn : b ≠ c) : BoxTr (w.setCell ⟨c, j, none⟩ u) b vm vy vo q vs := (heap_setCell_other w ⟨c, j, none⟩ b u hn).trans h
theorem BoxTr.on {w w' : World} {b : Nat} {vm vy vo vs : Value} {q : Int} (h : BoxTr w b vm vy vo q vs) (hb : Below w.heap.size w w') : BoxTr w' b vm vy vo q vs := (hb.block b h.lt).trans h
theorem treAt_other {w : World} {b c j : Nat} {X : TrX} {u : Value} (h : TreAt w b X) (hn : b ≠ c) : TreAt (w.setCell ⟨c, j, none⟩ u) b X := h.of_block (heap_setCell_other w ⟨c, j, none⟩ b u hn)
def ToTr (w : World) (X : TrX) (e : Ending) (w' : World) : Prop := ∃ Y : TrX, e = .returned (.agg #[Y.vm, Y.vy, Y.vo, .int .i64 Y.seq, Y.vs]) ∧ Y.tre = X.tre ∧ OwnTree w' w.heap.size Y ∧ Below w.heap.size w w'
theorem toTree_any (X : TrX) (w : World) (hx : RdTr w X) (hs : SmallTr X) :
    Calls Tryz.prog 9 #[.agg #[X.vm, X.vy, X.vo, .int .i64 X.seq, X.vs]] w fun e w' => ToTr w X e w' := by
  have l1 : X.mem.length ≤ 1048576 := by have := hs.sum; omega
  have l2 : X.ys.length ≤ 1048576 := by have := hs.sum; have := tsz_len X.ys; omega
  have l3 : X.os.length ≤ 1048576 := by have := hs.sum; have := tsz_len X.os; omega
  have l4 : X.snaps.length ≤ 1048576 := by have := hs.sum; omega
  have L5 : Hid (∀ t ∈ X.ys, t.T.bits.length ≤ 1073741824 ∧ t.T.blocks.length ≤ 1073741824) := fun t ht => by have := hs.sum; have := tsz_mem ht; omega
  have L6 : Hid (∀ t ∈ X.os, t.T.bits.length ≤ 1073741824 ∧ t.T.blocks.length ≤ 1073741824) := fun t ht => by have := hs.sum; have := tsz_mem ht; omega
  have HM : Hid (∀ W, RdE W X.vm X.mem → Calls Tryz.prog 28 #[X.vm] W fun e w' => ∃ u, e = .returned u ∧ OwnE w' W.heap.size u X.mem ∧ Below W.heap.size W w') := fun W h => toEnts_any _ _ W h (by omega)
  have HY : Hid (∀ W, RdTs W X.vy X.ys → Calls Tryz.prog 29 #[X.vy] W fun e w' => TosPost W X.ys e w') := fun W h => toTabs_any _ _ W h l2 L5.out
  have HO : Hid (∀ W, RdTs W X.vo X.os → Calls Tryz.prog 29 #[X.vo] W fun e w' => TosPost W X.os e w') := fun W h => toTabs_any _ _ W h l3 L6.out
  have HI : Hid (∀ W, RdI W X.vs X.snaps → Calls Tryz.prog 30 #[X.vs] W fun e w' => ∃ u, e = .returned u ∧ OwnI w' W.heap.size u X.snaps ∧ Below W.heap.size W w') := fun W h => toInts_any _ _ W h (by omega)
  clear l1 l2 l3 l4 L5 L6 hs
  have t0 := treAt_new w X 26
  obtain ⟨W0, hW0⟩ : ∃ W0, W0 = w.alloc (.cells #[X.vm, X.vy, X.vo, .int .i64 X.seq, X.vs] 26) := ⟨_, rfl⟩
  have b0 : Below w.heap.size w W0 := by rw [hW0]; exact below1 w _
  have s0 : W0.heap.size = w.heap.size + 1 := by rw [hW0]; simp
  rw [← hW0] at t0
  have z1 := boxTr_new W0 (.slice none 0 0) (.slice none 0 0) (.slice none 0 0) (.slice none 0 0) 0
  obtain ⟨W1, hW1⟩ : ∃ W1, W1 = W0.alloc (.cells #[.slice none 0 0, .slice none 0 0, .slice none 0 0, .int .i64 0, .slice none 0 0] 33) := ⟨_, rfl⟩
  have b1 : Below W0.heap.size W0 W1 := by rw [hW1]; exact below1 W0 _
  have s1 : W1.heap.size = w.heap.size + 1 + 1 := by rw [hW1]; simp; omega
  rw [← hW1] at z1
  have z2 := boxTr_new W1 (.slice none 0 0) (.slice none 0 0) (.slice none 0 0) (.slice none 0 0) 0
  obtain ⟨W2, hW2⟩ : ∃ W2, W2 = W1.alloc (.cells #[.slice none 0 0, .slice none 0 0, .slice none 0 0, .int .i64 0, .slice none 0 0] 33) := ⟨_, rfl⟩
  have b2 : Below W1.heap.size W1 W2 := by rw [hW2]; exact below1 W1 _
  have s2 : W2.heap.size = w.heap.size + 3 := by rw [hW2]; simp; omega
  rw [← hW2, s1] at z2
  rw [s0] at z1
  have t2 := (t0.below b1).below b2
  have z12 := z1.on b2
  have bw2 : Below w.heap.size w W2 := (b0.trans (b1.mono (by omega))).trans (b2.mono (by omega))
  have HW2 : Hid (((w.alloc (.cells #[X.vm, X.vy, X.vo, .int .i64 X.seq, X.vs] 26)).alloc (.cells #[.slice none 0 0, .slice none 0 0, .slice none 0 0, .int .i64 0, .slice none 0 0] 33)).alloc (.cells #[.slice none 0 0, .slice none 0 0, .slice none 0 0, .int .i64 0, .slice none 0 0] 33) = W2) := by unfold Hid; rw [hW2, hW1, hW0]
  obtain ⟨q0, q1, q2, q3, q4⟩ := id t2
  rw [hW2, hW1, hW0] at q0 q1 q2 q3 q4
  clear hW0 hW1 hW2 b0 b1 b2 s0 s1 t0 z1
  go_enter Tryz.func9, Tryz.ntmps9
  go_wp2_with fail
  rw [HW2.out]
  refine (HM.out _ (hx.mem.below bw2)).mono ?_
  rintro e w3 ⟨um, rfl, hm3, hb3⟩
  have t3 := t2.below hb3
  have z13 := z12.on hb3
  have z23 := z2.on hb3
  have bw3 := bw2.trans (hb3.mono bw2.size)
  have hlm : ∀ k ∈ oneB um, k < w3.heap.size := fun k hk => (World.ownsRow.lt hm3 k (mem_oneB.1 hk)).2
  rw [s2] at hm3
  have s3 : w.heap.size + 3 ≤ w3.heap.size := by rw [← s2]; exact hb3.size
  obtain ⟨am, cm, hvm, -⟩ := id hm3.rd
  obtain ⟨mn, hmn⟩ : ∃ mn, mn = X.mem.length := ⟨_, rfl⟩
  rw [← hmn] at hvm
  subst hvm
  clear t2 z12 z2 bw2 hb3 q0 q1 q2 q3 q4 HM hmn s2 HW2
  -- STEP 1
  have t4 : TreAt (w3.setCell ⟨w.heap.size + 1 + 1, 0, none⟩ (.slice am mn cm)) w.heap.size X := treAt_other t3 (by omega)
  have z14 := boxTr_other (c := w.heap.size + 1 + 1) (j := 0) (u := .slice am mn cm) z13 (by omega)
  have z24 := boxTr_set0 z23 (.slice am mn cm)
  have hm4 : OwnE (w3.setCell ⟨w.heap.size + 1 + 1, 0, none⟩ (.slice am mn cm)) (w.heap.size + 3) (.slice am mn cm) X.mem := row_base hm3 (by omega)
  have bw4 : Below w.heap.size w (w3.setCell ⟨w.heap.size + 1 + 1, 0, none⟩ (.slice am mn cm)) := bw3.setCell (p := ⟨w.heap.size + 1 + 1, 0, none⟩) (by show w.heap.size ≤ w.heap.size + 1 + 1; omega) _
  have s4 : (w3.setCell ⟨w.heap.size + 1 + 1, 0, none⟩ (.slice am mn cm)).heap.size = w3.heap.size := by simp
  obtain ⟨y0, y1, y2, y3, y4, g0, g1, g2, g3, g4⟩ := z23.facts
  obtain ⟨q0, q1, q2, q3, q4⟩ := id t4
  clear t3 z13 bw3 hm3
  go_wp2_with fail
  generalize w3.setCell ⟨w.heap.size + 1 + 1, 0, none⟩ (.slice am mn cm) = W4 at t4 z14 z24 hm4 bw4 s4 q0 q1 q2 q3 q4 ⊢
  clear y0 y1 y2 y3 y4 g0 g1 g2 g3 g4 z23
  refine (HY.out _ (hx.young.below bw4)).mono ?_
  rintro e w5 ⟨uy, us, rfl, hye, hy5, hb5⟩
  have t5 := t4.below hb5
  have z15 := z14.on hb5
  have z25 := z24.on hb5
  have bw5 := bw4.trans (hb5.mono bw4.size)
  have hm5 := hm4.below hb5
  have hly : ∀ k ∈ oneB uy ++ tblks us, w3.heap.size ≤ k ∧ k < w5.heap.size := fun k hk => by rw [← s4]; exact hy5.bound hk
  have hy5' := hy5.mono (show w.heap.size + 3 ≤ W4.heap.size by omega)
  have s5 : w3.heap.size ≤ w5.heap.size := by rw [← s4]; exact hb5.size
  obtain ⟨ay, cy, hvy, -⟩ := id hy5.rd
  obtain ⟨yn, hyn⟩ : ∃ yn, yn = us.length := ⟨_, rfl⟩
  rw [← hyn] at hvy
  subst hvy
  clear t4 z14 z24 bw4 hb5 q0 q1 q2 q3 q4 HY hyn hm4 hy5 s4
  -- STEP 2
  have t6 : TreAt (w5.setCell ⟨w.heap.size + 1 + 1, 1, none⟩ (.slice ay yn cy)) w.heap.size X := treAt_other t5 (by omega)
  have z16 := boxTr_other (c := w.heap.size + 1 + 1) (j := 1) (u := .slice ay yn cy) z15 (by omega)
  have z26 := boxTr_set1 z25 (.slice ay yn cy)
  have hm6 : OwnE (w5.setCell ⟨w.heap.size + 1 + 1, 1, none⟩ (.slice ay yn cy)) (w.heap.size + 3) (.slice am mn cm) X.mem := row_base hm5 (by omega)
  have hy6 := hy5'.base (c := w.heap.size + 1 + 1) (j := 1) (u := .slice ay yn cy) (by omega)
  have bw6 : Below w.heap.size w (w5.setCell ⟨w.heap.size + 1 + 1, 1, none⟩ (.slice ay yn cy)) := bw5.setCell (p := ⟨w.heap.size + 1 + 1, 1, none⟩) (by show w.heap.size ≤ w.heap.size + 1 + 1; omega) _
  have s6 : (w5.setCell ⟨w.heap.size + 1 + 1, 1, none⟩ (.slice ay yn cy)).heap.size = w5.heap.size := by simp
  obtain ⟨y0, y1, y2, y3, y4, g0, g1, g2, g3, g4⟩ := z25.facts
  obtain ⟨q0, q1, q2, q3, q4⟩ := id t6
  clear t5 z15 bw5 hm5 hy5'
  go_wp2_with fail
  generalize w5.setCell ⟨w.heap.size + 1 + 1, 1, none⟩ (.slice ay yn cy) = W6 at t6 z16 z26 hm6 hy6 bw6 s6 q0 q1 q2 q3 q4 ⊢
  clear y0 y1 y2 y3 y4 g0 g1 g2 g3 g4 z25
  refine (HO.out _ (hx.old.below bw6)).mono ?_
  rintro e w7 ⟨uo, vs2, rfl, hoe, ho7, hb7⟩
  have t7 := t6.below hb7
  have z17 := z16.on hb7
  have z27 := z26.on hb7
  have bw7 := bw6.trans (hb7.mono bw6.size)
  have hm7 := hm6.below hb7
  have hy7 := hy6.below hb7
  have hlo : ∀ k ∈ oneB uo ++ tblks vs2, w5.heap.size ≤ k ∧ k < w7.heap.size := fun k hk => by rw [← s6]; exact ho7.bound hk
  have ho7' := ho7.mono (show w.heap.size + 3 ≤ W6.heap.size by omega)
  have s7 : w5.heap.size ≤ w7.heap.size := by rw [← s6]; exact hb7.size
  obtain ⟨ao, co, hvo, -⟩ := id ho7.rd
  obtain ⟨on, hon⟩ : ∃ on, on = vs2.length := ⟨_, rfl⟩
  rw [← hon] at hvo
  subst hvo
  clear t6 z16 z26 bw6 hb7 q0 q1 q2 q3 q4 HO hon hm6 hy6 ho7 s6
  -- STEP 3, THE NUMBER
  have t8 : TreAt ((w7.setCell ⟨w.heap.size + 1 + 1, 2, none⟩ (.slice ao on co)).setCell ⟨w.heap.size + 1 + 1, 3, none⟩ (.int .i64 X.seq)) w.heap.size X := treAt_other (treAt_other t7 (by omega)) (by omega)
  have t8a : TreAt (w7.setCell ⟨w.heap.size + 1 + 1, 2, none⟩ (.slice ao on co)) w.heap.size X := treAt_other t7 (by omega)
  have z18 := boxTr_other (c := w.heap.size + 1 + 1) (j := 3) (u := .int .i64 X.seq) (boxTr_other (c := w.heap.size + 1 + 1) (j := 2) (u := .slice ao on co) z17 (by omega)) (by omega)
  have z28a := boxTr_set2 z27 (.slice ao on co)
  have z28 := boxTr_set3 z28a X.seq
  have hm8 : OwnE ((w7.setCell ⟨w.heap.size + 1 + 1, 2, none⟩ (.slice ao on co)).setCell ⟨w.heap.size + 1 + 1, 3, none⟩ (.int .i64 X.seq)) (w.heap.size + 3) (.slice am mn cm) X.mem := row_base (row_base hm7 (by omega)) (by omega)
  have hy8 := (hy7.base (c := w.heap.size + 1 + 1) (j := 2) (u := .slice ao on co) (by omega)).base (c := w.heap.size + 1 + 1) (j := 3) (u := .int .i64 X.seq) (by omega)
  have ho8 := (ho7'.base (c := w.heap.size + 1 + 1) (j := 2) (u := .slice ao on co) (by omega)).base (c := w.heap.size + 1 + 1) (j := 3) (u := .int .i64 X.seq) (by omega)
  have bw8 : Below w.heap.size w ((w7.setCell ⟨w.heap.size + 1 + 1, 2, none⟩ (.slice ao on co)).setCell ⟨w.heap.size + 1 + 1, 3, none⟩ (.int .i64 X.seq)) := (bw7.setCell (p := ⟨w.heap.size + 1 + 1, 2, none⟩) (by show w.heap.size ≤ w.heap.size + 1 + 1; omega) _).setCell (p := ⟨w.heap.size + 1 + 1, 3, none⟩) (by show w.heap.size ≤ w.heap.size + 1 + 1; omega) _
  have s8 : ((w7.setCell ⟨w.heap.size + 1 + 1, 2, none⟩ (.slice ao on co)).setCell ⟨w.heap.size + 1 + 1, 3, none⟩ (.int .i64 X.seq)).heap.size = w7.heap.size := by simp
  obtain ⟨y0, y1, y2, y3, y4, g0, g1, g2, g3, g4⟩ := z27.facts
  obtain ⟨-, -, -, x3, -, -, -, -, f3, -⟩ := z28a.facts
  obtain ⟨-, -, -, p3, -⟩ := id t8a
  obtain ⟨q0, q1, q2, q3, q4⟩ := id t8
  clear t7 z17 bw7 hm7 hy7 ho7' t8a
  go_wp2_with fail
  generalize (w7.setCell ⟨w.heap.size + 1 + 1, 2, none⟩ (.slice ao on co)).setCell ⟨w.heap.size + 1 + 1, 3, none⟩ (.int .i64 X.seq) = W8 at t8 z18 z28 hm8 hy8 ho8 bw8 s8 q0 q1 q2 q3 q4 ⊢
  clear y0 y1 y2 y3 y4 g0 g1 g2 g3 g4 z27 z28a x3 f3 p3
  refine (HI.out _ (hx.snaps.below bw8)).mono ?_
  rintro e w9 ⟨un, rfl, hn9, hb9⟩
  have z19 := z18.on hb9
  have z29 := z28.on hb9
  have bw9 := bw8.trans (hb9.mono bw8.size)
  have hm9 := hm8.below hb9
  have hy9 := hy8.below hb9
  have ho9 := ho8.below hb9
  have hln : ∀ k ∈ oneB un, w7.heap.size ≤ k := fun k hk => by rw [← s8]; exact (World.ownsRow.lt hn9 k (mem_oneB.1 hk)).1
  have hn9' := hn9.mono (show w.heap.size + 3 ≤ W8.heap.size by omega)
  obtain ⟨an, cn, hvn, -⟩ := id hn9.rd
  obtain ⟨nn, hnn⟩ : ∃ nn, nn = X.snaps.length := ⟨_, rfl⟩
  rw [← hnn] at hvn
  subst hvn
  clear t8 z18 z28 bw8 hb9 q0 q1 q2 q3 q4 HI hnn hm8 hy8 ho8 hn9 s8
  -- THE END
  have z10 := boxTr_other (c := w.heap.size + 1 + 1) (j := 4) (u := .slice an nn cn) z19 (by omega)
  have z20 := boxTr_set4 z29 (.slice an nn cn)
  have hm10 : OwnE (w9.setCell ⟨w.heap.size + 1 + 1, 4, none⟩ (.slice an nn cn)) (w.heap.size + 3) (.slice am mn cm) X.mem := row_base hm9 (by omega)
  have hy10 := hy9.base (c := w.heap.size + 1 + 1) (j := 4) (u := .slice an nn cn) (by omega)
  have ho10 := ho9.base (c := w.heap.size + 1 + 1) (j := 4) (u := .slice an nn cn) (by omega)
  have hn10 : OwnI (w9.setCell ⟨w.heap.size + 1 + 1, 4, none⟩ (.slice an nn cn)) (w.heap.size + 3) (.slice an nn cn) X.snaps := row_base hn9' (by omega)
  have bw10 : Below w.heap.size w (w9.setCell ⟨w.heap.size + 1 + 1, 4, none⟩ (.slice an nn cn)) := bw9.setCell (p := ⟨w.heap.size + 1 + 1, 4, none⟩) (by show w.heap.size ≤ w.heap.size + 1 + 1; omega) _
  obtain ⟨y0, y1, y2, y3, y4, g0, g1, g2, g3, g4⟩ := z29.facts
  obtain ⟨e0, e1, e2, e3, e4, -⟩ := z20.facts
  obtain ⟨x0, x1, x2, x3, x4, f0, f1, f2, f3, f4⟩ := z10.facts
  have END : Hid (ToTr w X (.returned (.agg #[.slice am mn cm, .slice ay yn cy, .slice ao on co, .int .i64 X.seq, .slice an nn cn])) (put5 (w9.setCell ⟨w.heap.size + 1 + 1, 4, none⟩ (.slice an nn cn)) (w.heap.size + 1) (.slice am mn cm) (.slice ay yn cy) (.slice ao on co) (.int .i64 X.seq) (.slice an nn cn))) := by
    have h1 := hy10.put5 (c := w.heap.size + 1) (u0 := .slice am mn cm) (u1 := .slice ay yn cy) (u2 := .slice ao on co) (u3 := .int .i64 X.seq) (u4 := .slice an nn cn) (by omega)
    have h2 := ho10.put5 (c := w.heap.size + 1) (u0 := .slice am mn cm) (u1 := .slice ay yn cy) (u2 := .slice ao on co) (u3 := .int .i64 X.seq) (u4 := .slice an nn cn) (by omega)
    refine ⟨⟨.slice am mn cm, .slice ay yn cy, .slice ao on co, .slice an nn cn, X.mem, us, vs2, X.seq, X.snaps⟩, rfl, ?_, ⟨OwnE.mono (row_put5 hm10 (by omega)) (by omega), h1.row.mono (by omega), h1.ins.mono (by omega), h2.row.mono (by omega), h2.ins.mono (by omega), OwnI.mono (row_put5 hn10 (by omega)) (by omega), ?_⟩, below_put5 bw10 (by omega)⟩
    · unfold TrX.tre
      simp only [hye, hoe]
    · unfold trB
      refine nod_app (m := w3.heap.size) (oneB_nodup _) (nod_app (m := w5.heap.size) hy9.nod (nod_app (m := w7.heap.size) ho9.nod (oneB_nodup _) (fun k hk => (hlo k hk).2) hln) (fun k hk => (hly k hk).2) (mem_app_le (fun k hk => (hlo k hk).1) (fun k hk => Nat.le_trans s7 (hln k hk)))) hlm (mem_app_le (fun k hk => (hly k hk).1) (mem_app_le (fun k hk => Nat.le_trans s5 (hlo k hk).1) (fun k hk => Nat.le_trans s5 (Nat.le_trans s7 (hln k hk)))))
  have r := boxTr_put5 z10 (.slice am mn cm) (.slice ay yn cy) (.slice ao on co) (.slice an nn cn) X.seq
  obtain ⟨r0, r1, r2, r3, r4, -⟩ := r.facts
  clear z19 z29 bw9 hm9 hy9 ho9 hn9' z20 hm10 hy10 ho10 hn10 bw10
  go_wp2
  exact bodyPost_ret (v := .agg #[.slice am mn cm, .slice ay yn cy, .slice ao on co, .int .i64 X.seq, .slice an nn cn]) (by simp [results, Tryz.results9, go_sem, x0, x1, x2, x3, x4]) rfl END.out
end Go.Proofs.YtbefmbjlogkmbaaGreat
-- UNF TabAt
namespace Go.Proofs.YtbefmbjlogkmbaaGreat
open Go.RowKit
theorem eqTabs_same (va vb : Value) (us qs : List TV) (w : World) (ha : RdTs w va us) (hb : RdTs w vb qs) (hs : us.map (·.T) = qs.map (·.T)) :
    Calls Tryz.prog 36 #[va, vb] w fun e w' => e = .returned (.bool true) ∧ Below w.heap.size w w' := by
  obtain ⟨aa, ca, hva, hla, hma, -⟩ := id ha
  obtain ⟨ab, cb, hvb, hlb, hmb, -⟩ := id hb
  have hl : qs.length = us.length := by have := congrArg List.length hs; simpa using this.symm
  rw [hl] at hvb hlb
  obtain ⟨nn, hnn⟩ : ∃ nn, nn = us.length := ⟨_, rfl⟩
  rw [← hnn] at hva hla hvb hlb hl
  have HNU : Hid (nn = us.length) := hnn
  have HNQ : Hid (qs.length = nn) := hl
  have HS : Hid (∀ k, k < nn → (nthT qs k).T = (nthT us k).T) := fun k hk => by
    have h1 : k < us.length := by omega
    have h2 : k < qs.length := by omega
    have := congrArg (fun l : List Tbl => l[k]?) hs
    simp only [List.getElem?_map, List.getElem?_eq_getElem h1, List.getElem?_eq_getElem h2, Option.map_some, Option.some.injEq] at this
    rw [nthT_eq h1, nthT_eq h2, this]
  unfold maxLen at hma hmb
  subst hva
  subst hvb
  have hne : ((nn : Int) != (nn : Int)) = false := by simp
  clear hnn hl hs
  go_enter Tryz.func36, Tryz.ntmps36
  go_wp2
  go_loopw [5] (fun i wr => ∃ k : Nat, k ≤ nn ∧ i = .int .i64 k ∧ Below w.heap.size w wr) (fun i _ => nn - (intOf i).toNat)
  case atStart => exact ⟨0, Nat.zero_le _, rfl, Below.refl _ _⟩
  case round =>
    obtain ⟨k, hk, rfl, hbw⟩ := hrel
    by_cases hlt : k < nn
    · obtain ⟨b1, o1, rfl, hc1, hi1, hk1⟩ := (ha.below hbw).at k (by rw [← HNU.out]; exact hlt)
      obtain ⟨b2, o2, rfl, hc2, hi2, hk2⟩ := (hb.below hbw).at k (by rw [HNQ.out]; exact hlt)
      have hT := HS.out k hlt
      rw [hT] at hi2 hk2
      have hkc1 : k < ca := by omega
      have hkc2 : k < cb := by omega
      unfold TabAt at hc2
      rw [hT] at hc2
      clear hT
      generalize (nthT qs k).vb = vb2 at hc2 hi2
      generalize (nthT qs k).vk = vk2 at hc2 hk2
      generalize nthT us k = t at hc1 hi1 hk1 hc2 hi2 hk2
      obtain ⟨T, vb1, vk1⟩ := t
      unfold TabAt at hc1
      simp only at hc1 hi1 hk1 hc2 hi2 hk2
      go_wp2_with fail
      refine wp_region_noPanic ?_
      refine wp_region_held_drew (S := fun w' => (w'.cell? ⟨b1, o1 + k * 4, none⟩ = some (.string T.first) ∧ w'.cell? ⟨b1, o1 + k * 4 + 1, none⟩ = some (.string T.last) ∧ w'.cell? ⟨b1, o1 + k * 4 + 2, none⟩ = some vb1 ∧ w'.cell? ⟨b1, o1 + k * 4 + 3, none⟩ = some vk1) ∧ w'.cell? ⟨b2, o2 + k * 4, none⟩ = some (.string T.first) ∧ w'.cell? ⟨b2, o2 + k * 4 + 1, none⟩ = some (.string T.last) ∧ w'.cell? ⟨b2, o2 + k * 4 + 2, none⟩ = some vb2 ∧ w'.cell? ⟨b2, o2 + k * 4 + 3, none⟩ = some vk2) (by kernel_rfl) ⟨hc1, hc2⟩ (fun hH => ?_)
      refine takeH (i := 0) (d := 17) (v := ?_) rfl rfl (by kernel_rfl) (by kernel_rfl) (by kernel_rfl) (fun _ _ _ h => h) (Or.inl ⟨by kernel_rfl, ?_⟩) hH ?_
      rotate_left 1
      · intro w hS; (try dsimp only [EntAt, TabAt, Nat.zero_add] at hS); go_simp; (try with_reducible rfl)
      try simp only [Act.put, sA, sZ, sS]
      refine takeH (i := 1) (d := 18) (v := ?_) rfl rfl (by kernel_rfl) (by kernel_rfl) (by kernel_rfl) (fun _ _ _ h => h) (Or.inl ⟨by kernel_rfl, ?_⟩) hH ?_
      rotate_left 1
      · intro w hS; (try dsimp only [EntAt, TabAt, Nat.zero_add] at hS); go_simp; (try with_reducible rfl)
      try simp only [Act.put, sA, sZ, sS]
      refine takeH (i := 2) (d := 19) (v := ?_) rfl rfl (by kernel_rfl) (by kernel_rfl) (by kernel_rfl) (fun _ _ _ h => h) (Or.inl ⟨by kernel_rfl, ?_⟩) hH ?_
      rotate_left 1
      · intro w hS; (try dsimp only [EntAt, TabAt, Nat.zero_add] at hS); go_simp; (try with_reducible rfl)
      try simp only [Act.put, sA, sZ, sS]
      refine takeH (i := 3) (d := 20) (v := ?_) rfl rfl (by kernel_rfl) (by kernel_rfl) (by kernel_rfl) (fun _ _ _ h => h) (Or.inl ⟨by kernel_rfl, ?_⟩) hH ?_
      rotate_left 1
      · intro w hS; (try dsimp only [EntAt, TabAt, Nat.zero_add] at hS); go_simp; (try with_reducible rfl)
      try simp only [Act.put, sA, sZ, sS]
      refine takeH (i := 4) (d := 21) (v := ?_) rfl rfl (by kernel_rfl) (by kernel_rfl) (by kernel_rfl) (fun _ _ _ h => h) (Or.inl ⟨by kernel_rfl, ?_⟩) hH ?_
      rotate_left 1
      · intro w hS; (try dsimp only [EntAt, TabAt, Nat.zero_add] at hS); go_simp; (try with_reducible rfl)
      try simp only [Act.put, sA, sZ, sS]
      refine takeH (i := 5) (d := 22) (v := ?_) rfl rfl (by kernel_rfl) (by kernel_rfl) (by kernel_rfl) (fun _ _ _ h => h) (Or.inl ⟨by kernel_rfl, ?_⟩) hH ?_
      rotate_left 1
      · intro w hS; (try dsimp only [EntAt, TabAt, Nat.zero_add] at hS); go_simp; (try with_reducible rfl)
      try simp only [Act.put, sA, sZ, sS]
      refine takeH (i := 6) (d := 23) (v := ?_) rfl rfl (by kernel_rfl) (by kernel_rfl) (by kernel_rfl) (fun _ _ _ h => h) (Or.inl ⟨by kernel_rfl, ?_⟩) hH ?_
      rotate_left 1
      · intro w hS; (try dsimp only [EntAt, TabAt, Nat.zero_add] at hS); go_simp; (try with_reducible rfl)
      try simp only [Act.put, sA, sZ, sS]
      refine takeH (i := 7) (d := 24) (v := ?_) rfl rfl (by kernel_rfl) (by kernel_rfl) (by kernel_rfl) (fun _ _ _ h => h) (Or.inl ⟨by kernel_rfl, ?_⟩) hH ?_
      rotate_left 1
      · intro w hS; (try dsimp only [EntAt, TabAt, Nat.zero_add] at hS); go_simp; (try with_reducible rfl)
      try simp only [Act.put, sA, sZ, sS]
      refine wpAnyH_ready (rs := [8]) (by kernel_rfl) (by simp) ?_
      refine AllReadyH.cons rfl (fun K hK => ?_) AllReadyH.nil
      go_simp
      refine (eqTable_same T vb1 vk1 vb2 vk2 _ (hi1.below (Below.refl _ _).drew) (hk1.below (Below.refl _ _).drew) (hi2.below (Below.refl _ _).drew) (hk2.below (Below.refl _ _).drew)).mono ?_
      rintro e w1 ⟨rfl, hb1⟩
      have hon : ∀ a u, wr.drew.cell? a = some u → w1.cell? a = some u := fun a u h => (hb1.cell (World.block_lt_of_cell? _ _ h)).trans h
      refine hK.out _ _ ⟨⟨hon _ _ hH.1.1, hon _ _ hH.1.2.1, hon _ _ hH.1.2.2.1, hon _ _ hH.1.2.2.2⟩, hon _ _ hH.2.1, hon _ _ hH.2.2.1, hon _ _ hH.2.2.2.1, hon _ _ hH.2.2.2.2⟩ (fun hA => ?_)
      clear hK K
      try simp only [Act.put, sA, sZ, sS]
      refine takeH (i := 9) (d := 26) (v := ?_) rfl rfl (by kernel_rfl) (by kernel_rfl) (by kernel_rfl) (fun _ _ _ h => h) (Or.inl ⟨by kernel_rfl, ?_⟩) hA ?_
      rotate_left 1
      · intro w hS; (try dsimp only [EntAt, TabAt, Nat.zero_add] at hS); go_simp; (try with_reducible rfl)
      try simp only [Act.put, sA, sZ, sS]
      refine wpAnyH_done (by kernel_rfl) ?_ _
      refine NoPanic.normal ?_
      have bz := hbw.drew.trans (hb1.mono hbw.size)
      clear hH hA hc1 hc2 hon
      go_wp2
      go_roundw
      case rel => exact ⟨k + 1, by omega, by go_num, bz⟩
      case measure => simp [intOf]; omega
    · have hke : k = nn := by omega
      subst hke
      go_wp2
      go_ret
      exact ⟨rfl, hbw⟩
theorem eqTree_same (Y Z : TrX) (w : World) (hy : RdTr w Y) (hz : RdTr w Z) (h : Y.tre = Z.tre) :
    Calls Tryz.prog 12 #[.agg #[Y.vm, Y.vy, Y.vo, .int .i64 Y.seq, Y.vs], .agg #[Z.vm, Z.vy, Z.vo, .int .i64 Z.seq, Z.vs]] w fun e w' => e = .returned (.bool true) ∧ Below w.heap.size w w' := by
  have hmem : Y.mem = Z.mem := congrArg Tre.mem h
  have hyo : Y.ys.map (·.T) = Z.ys.map (·.T) := congrArg Tre.young h
  have hol : Y.os.map (·.T) = Z.os.map (·.T) := congrArg Tre.old h
  have hsq : Y.seq = Z.seq := congrArg Tre.seq h
  have hsn : Y.snaps = Z.snaps := congrArg Tre.snaps h
  have HM : Hid (∀ W, RdTr W Y → RdTr W Z → Calls Tryz.prog 35 #[Y.vm, Z.vm] W fun e w' => e = .returned (.bool true) ∧ Below W.heap.size W w') := fun W h1 h2 => eqEnts_same _ _ Y.mem W h1.mem (by rw [hmem]; exact h2.mem)
  have HY : Hid (∀ W, RdTr W Y → RdTr W Z → Calls Tryz.prog 36 #[Y.vy, Z.vy] W fun e w' => e = .returned (.bool true) ∧ Below W.heap.size W w') := fun W h1 h2 => eqTabs_same _ _ _ _ W h1.young h2.young hyo
  have HO : Hid (∀ W, RdTr W Y → RdTr W Z → Calls Tryz.prog 36 #[Y.vo, Z.vo] W fun e w' => e = .returned (.bool true) ∧ Below W.heap.size W w') := fun W h1 h2 => eqTabs_same _ _ _ _ W h1.old h2.old hol
  have HS : Hid (∀ W, RdTr W Y → RdTr W Z → Calls Tryz.prog 37 #[Y.vs, Z.vs] W fun e w' => e = .returned (.bool true) ∧ ∃ n, w' = W.drewN n) := fun W h1 h2 => eqInts_same _ _ Y.snaps W h1.snaps (by rw [hsn]; exact h2.snaps)
  clear hmem hyo hol hsn h
  rw [hsq]
  clear hsq
  obtain ⟨vm, vy, vo, vs, mem, ys, os, seq, snaps⟩ := Y
  obtain ⟨zm, zy, zo, zs, mem2, ys2, os2, seq2, snaps2⟩ := Z
  simp only at HM HY HO HS ⊢
  have t0 := treAt_new w ⟨vm, vy, vo, vs, mem, ys, os, seq2, snaps⟩ 33
  have b0 := below1 w (.cells #[vm, vy, vo, .int .i64 seq2, vs] 33)
  simp only at t0
  obtain ⟨W0, hW0⟩ : ∃ W0, W0 = w.alloc (.cells #[vm, vy, vo, .int .i64 seq2, vs] 33) := ⟨_, rfl⟩
  have s0 : W0.heap.size = w.heap.size + 1 := by rw [hW0]; simp
  rw [← hW0] at t0 b0
  have u1 := treAt_new W0 ⟨zm, zy, zo, zs, mem2, ys2, os2, seq2, snaps2⟩ 33
  have b1 := below1 W0 (.cells #[zm, zy, zo, .int .i64 seq2, zs] 33)
  simp only at u1
  obtain ⟨W1, hW1⟩ : ∃ W1, W1 = W0.alloc (.cells #[zm, zy, zo, .int .i64 seq2, zs] 33) := ⟨_, rfl⟩
  rw [← hW1] at u1 b1
  rw [s0] at u1
  have t1 := t0.below b1
  have bw1 : Below w.heap.size w W1 := b0.trans (b1.mono (by omega))
  have HW1 : Hid ((w.alloc (.cells #[vm, vy, vo, .int .i64 seq2, vs] 33)).alloc (.cells #[zm, zy, zo, .int .i64 seq2, zs] 33) = W1) := by unfold Hid; rw [hW1, hW0]
  obtain ⟨d0, d1, d2, d3, d4⟩ := id t1
  obtain ⟨e0, e1, e2, e3, e4⟩ := id u1
  simp only at d0 d1 d2 d3 d4 e0 e1 e2 e3 e4
  rw [hW1, hW0] at d0 d1 d2 d3 d4 e0 e1 e2 e3 e4
  have hq : (seq2 != seq2) = false := by simp
  clear t0 b0 b1 hW0 hW1 s0
  go_enter Tryz.func12, Tryz.ntmps12
  go_wp2_with fail
  rw [HW1.out]
  refine (HM.out _ (hy.below bw1) (hz.below bw1)).mono ?_
  rintro e w2 ⟨rfl, hb2⟩
  have t2 := t1.below hb2
  have u2 := u1.below hb2
  have b2 := bw1.trans (hb2.mono bw1.size)
  clear d0 d1 d2 d3 d4 e0 e1 e2 e3 e4 t1 u1 bw1 hb2 HM HW1
  obtain ⟨d0, d1, d2, d3, d4⟩ := id t2
  obtain ⟨e0, e1, e2, e3, e4⟩ := id u2
  simp only at d0 d1 d2 d3 d4 e0 e1 e2 e3 e4
  go_wp2_with fail
  refine (HY.out _ (hy.below b2) (hz.below b2)).mono ?_
  rintro e w3 ⟨rfl, hb3⟩
  have t3 := t2.below hb3
  have u3 := u2.below hb3
  have b3 := b2.trans (hb3.mono b2.size)
  clear d0 d1 d2 d3 d4 e0 e1 e2 e3 e4 t2 u2 b2 hb3 HY
  obtain ⟨d0, d1, d2, d3, d4⟩ := id t3
  obtain ⟨e0, e1, e2, e3, e4⟩ := id u3
  simp only at d0 d1 d2 d3 d4 e0 e1 e2 e3 e4
  go_wp2_with fail
  refine (HO.out _ (hy.below b3) (hz.below b3)).mono ?_
  rintro e w4 ⟨rfl, hb4⟩
  have t4 := t3.below hb4
  have u4 := u3.below hb4
  have b4 := b3.trans (hb4.mono b3.size)
  clear d0 d1 d2 d3 d4 e0 e1 e2 e3 e4 t3 u3 b3 hb4 HO
  obtain ⟨d0, d1, d2, d3, d4⟩ := id t4
  obtain ⟨e0, e1, e2, e3, e4⟩ := id u4
  simp only at d0 d1 d2 d3 d4 e0 e1 e2 e3 e4
  go_wp2_with fail
  refine (HS.out _ (hy.below b4) (hz.below b4)).mono ?_
  rintro e w5 ⟨rfl, n5, rfl⟩
  have b5 := below_drewN b4 n5
  clear d0 d1 d2 d3 d4 e0 e1 e2 e3 e4 HS
  go_wp2
  go_ret
  exact ⟨rfl, b5⟩
theorem fit_same {X Y : TrX} (h : Y.tre = X.tre) (hf : FitTr X) : FitTr Y := by
  have hmem : Y.mem = X.mem := congrArg Tre.mem h
  have hyo : Y.ys.map (·.T) = X.ys.map (·.T) := congrArg Tre.young h
  have hol : Y.os.map (·.T) = X.os.map (·.T) := congrArg Tre.old h
  refine ⟨by rw [hmem]; exact hf.mem, fun t ht => ?_, fun t ht => ?_⟩
  · have : t.T ∈ X.ys.map (·.T) := by rw [← hyo]; exact List.mem_map_of_mem ht
    obtain ⟨u, hu, e⟩ := List.mem_map.1 this
    rw [← e]; exact hf.young u hu
  · have : t.T ∈ X.os.map (·.T) := by rw [← hol]; exact List.mem_map_of_mem ht
    obtain ⟨u, hu, e⟩ := List.mem_map.1 this
    rw [← e]; exact hf.old u hu
theorem RdTr.slices {w : World} {X : TrX} (h : RdTr w X) : ∃ (am ay ao an : Option Addr) (mn yn on nn cm cy co cn : Nat), X.vm = .slice am mn cm ∧ X.vy = .slice ay yn cy ∧ X.vo = .slice ao on co ∧ X.vs = .slice an nn cn := by
  obtain ⟨am, cm, hm, -⟩ := h.mem
  obtain ⟨ay, cy, hy, -⟩ := h.young
  obtain ⟨ao, co, ho, -⟩ := h.old
  obtain ⟨an, cn, hn, -⟩ := h.snaps
  exact ⟨am, ay, ao, an, _, _, _, _, cm, cy, co, cn, hm, hy, ho, hn⟩
end Go.Proofs.YtbefmbjlogkmbaaGreat
