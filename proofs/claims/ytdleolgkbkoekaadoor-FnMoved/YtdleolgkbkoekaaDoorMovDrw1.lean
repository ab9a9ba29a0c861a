/- The draws of moves and of their texts. -/
-- UNF Gen
import Derived.Test.YtdleolgkbkoekaaDoorMovRdI
import Derived.Test.YtdleolgkbkoekaaDoorBend
namespace Go.Proofs.YtdleolgkbkoekaaDoor
open Go.RowKit
theorem dcur_below {w0 w w' : World} {g : Nat} (h : DCur w0 w g) (hb : Below w.heap.size w w') : DCur w0 w' g := by
  have hl := h.lt
  obtain ⟨v, bs, i, x, h1, h2, h3, h4, h5, h6⟩ := h
  exact ⟨v, bs, i, x, h1, h2, h3, by rw [hb.block g hl]; exact h4, h5.trans (hb.mono h5.size), h6⟩
theorem gr_below {a w w' : World} {row : Option Nat} (h : a.grownBy w row) (hb : Below w.heap.size w w') : a.grownBy w' row :=
  ⟨hb.os.trans h.os, hb.tape.trans h.tape, hb.output.trans h.output, Nat.le_trans h.size hb.size, fun k hk hr => (hb.block k (Nat.lt_of_lt_of_le hk h.size)).trans (h.block k hk hr)⟩
theorem Keep.below {w0 w W W' : World} {g : Nat} (h : Keep w0 w g W) (hb : Below W.heap.size W W') : Keep w0 w g W' := ⟨dcur_below h.1 hb, gr_below h.2.1 hb, h.2.2⟩
theorem Keep.set {w0 w W : World} {g b j : Nat} {u : Value} (h : Keep w0 w g W) (hb : w.heap.size ≤ b) : Keep w0 w g (W.setCell ⟨b, j, none⟩ u) := h.step (set_grown u) (fun k hk => by have := Option.some.inj hk; omega)
theorem Keep.start {w0 w : World} {g : Nat} (h : DCur w0 w g) : Keep w0 w g w := ⟨h, gr_refl _ _, h.lt⟩
theorem Box4.gr {W W' : World} {b g : Nat} {t : TypeId} {m : Mov} (h : Box4 W b t m) (hg : W.grownBy W' (some g)) (hn : b ≠ g) : Box4 W' b t m := (hg.block b h.lt (fun e => hn (by simpa using e))).trans h
/-- What the draw of a move leaves. -/
def MvD (w0 w : World) (g : Nat) (e : Ending) (w' : World) : Prop := ∃ m : Mov, e = .returned (.agg #[.int .i64 m.fr, .int .i64 m.to', .int .i64 m.sum, .int .i64 m.cou]) ∧ DCur w0 w' g ∧ w.grownBy w' (some g)
theorem mv_end {w0 w V : World} {g : Nat} (K : Keep w0 w g V) (m : Mov) : MvD w0 w g (.returned (.agg #[.int .i64 m.fr, .int .i64 m.to', .int .i64 m.sum, .int .i64 m.cou])) (put4 V w.heap.size m) := by
  have h := (((K.set (b := w.heap.size) (j := 0) (u := .int .i64 m.fr) (Nat.le_refl _)).set (b := w.heap.size) (j := 1) (u := .int .i64 m.to') (Nat.le_refl _)).set (b := w.heap.size) (j := 2) (u := .int .i64 m.sum) (Nat.le_refl _)).set (b := w.heap.size) (j := 3) (u := .int .i64 m.cou) (Nat.le_refl _)
  exact ⟨m, rfl, h.1, h.2.1⟩
def Row3 (W : World) (q : Nat) (a b c : Int) : Prop := W.heap[q]? = some (.cells #[.int .i64 a, .int .i64 b, .int .i64 c] 2 (0, 0))
def Row4 (W : World) (q : Nat) (a b c d : Int) : Prop := W.heap[q]? = some (.cells #[.int .i64 a, .int .i64 b, .int .i64 c, .int .i64 d] 2 (0, 0))
theorem Row3.at {W : World} {q : Nat} {a b c : Int} (h : Row3 W q a b c) (k : Nat) (hk : k < 3) : ∃ y, W.cell? ⟨q, k, none⟩ = some (.int .i64 y) := by
  unfold Row3 at h
  match k, hk with
  | 0, _ => exact ⟨a, by simp [World.cell?, h]⟩
  | 1, _ => exact ⟨b, by simp [World.cell?, h]⟩
  | 2, _ => exact ⟨c, by simp [World.cell?, h]⟩
theorem Row4.at {W : World} {q : Nat} {a b c d : Int} (h : Row4 W q a b c d) (k : Nat) (hk : k < 4) : ∃ y, W.cell? ⟨q, k, none⟩ = some (.int .i64 y) := by
  unfold Row4 at h
  match k, hk with
  | 0, _ => exact ⟨a, by simp [World.cell?, h]⟩
  | 1, _ => exact ⟨b, by simp [World.cell?, h]⟩
  | 2, _ => exact ⟨c, by simp [World.cell?, h]⟩
  | 3, _ => exact ⟨d, by simp [World.cell?, h]⟩
theorem blk_gr {W W' : World} {q g : Nat} {o : Obj} (h : W.heap[q]? = some o) (hg : W.grownBy W' (some g)) (hn : q ≠ g) : W'.heap[q]? = some o := (hg.block q (Array.getElem?_eq_some_iff.1 h).1 (fun e => hn (by simpa using e))).trans h
set_option maxHeartbeats 8000000 in
set_option maxRecDepth 100000 in
theorem drawMove_any (w0 w : World) (g : Nat) (h : DCur w0 w g) :
    Calls Tryd.prog 23 #[.pointer (some ⟨g, 0, none⟩)] w fun e w' => MvD w0 w g e w' := by
  have K := (Keep.start h).below (below1 w (.cells #[.int .i64 0, .int .i64 0, .int .i64 0, .int .i64 0] 28))
  have xR : Box4 (w.alloc (.cells #[.int .i64 0, .int .i64 0, .int .i64 0, .int .i64 0] 28)) w.heap.size 28 movZ := heap_alloc_new w _
  have ngR : w.heap.size ≠ g := by have := h.lt; omega
  have HGL : Hid (g < w.heap.size) := h.lt
  clear h
  go_enter Tryd.func23, Tryd.ntmps23
  go_wp2_with fail
  generalize w.alloc (.cells #[.int .i64 0, .int .i64 0, .int .i64 0, .int .i64 0] 28) = V0 at K xR ⊢
  refine (l1Below_any w0 _ g 3 K.1 (by omega) (by omega)).mono ?_
  rintro e V1 ⟨a, rfl, h0a, h1a, hc, hg⟩
  replace K := K.own hc hg
  replace xR := xR.gr hg ngR
  clear hc hg
  go_wp2_with fail
  refine (l1Below_any w0 _ g 4 K.1 (by omega) (by omega)).mono ?_
  rintro e V2 ⟨b, rfl, h0b, h1b, hc, hg⟩
  replace K := K.own hc hg
  replace xR := xR.gr hg ngR
  clear hc hg
  go_wp2_with fail
  refine (l1Below_any w0 _ g 700 K.1 (by omega) (by omega)).mono ?_
  rintro e V3 ⟨c, rfl, h0c, h1c, hc, hg⟩
  replace K := K.own hc hg
  replace xR := xR.gr hg ngR
  clear hc hg
  have hc1 : -9223372036854775808 ≤ 1 + c ∧ 1 + c ≤ 9223372036854775807 := by omega
  obtain ⟨hc1a, hc1b⟩ := hc1
  go_wp2_with fail
  refine (l1Below_any w0 _ g 2 K.1 (by omega) (by omega)).mono ?_
  rintro e V4 ⟨d, rfl, h0d, h1d, hc, hg⟩
  replace K := K.own hc hg
  replace xR := xR.gr hg ngR
  clear hc hg
  have bM := below1 V4 (.cells #[.int .i64 a, .int .i64 b, .int .i64 (1 + c), .int .i64 d] 28)
  have yM := box4_new V4 28 ⟨a, b, 1 + c, d⟩
  simp only at yM
  have hmb := xR.lt
  replace K := K.below bM
  replace xR := xR.below bM
  clear bM
  go_wp2_with fail
  generalize V4.alloc (.cells #[.int .i64 a, .int .i64 b, .int .i64 (1 + c), .int .i64 d] 28) = V5 at K xR yM ⊢
  generalize V4.heap.size = mb at yM hmb ⊢
  have ngM : mb ≠ g := by have := HGL.out; omega
  have nRM : w.heap.size ≠ mb := by omega
  generalize 1 + c = cc at yM ⊢
  clear h0a h1a h0b h1b h0c h1c h0d h1d hc1a hc1b
  refine (l1Once_any w0 _ g 14 K.1 (by omega) (by omega)).mono ?_
  rintro e V6 ⟨bo, rfl, hc, hg⟩
  replace K := K.own hc hg
  replace xR := xR.gr hg ngR
  replace yM := yM.gr hg ngM
  clear hc hg
  cases bo with
  | false =>
    obtain ⟨d0, d1, d2, d3⟩ := xR.facts
    obtain ⟨f0, f1, f2, f3⟩ := xR.fz
    obtain ⟨p0, p1, p2, p3⟩ := yM.facts
    obtain ⟨k0, k1, k2, k3⟩ := (xR.put ⟨a, b, cc, d⟩).facts
    have HF : Hid (MvD _ _ _ _ _) := mv_end K ⟨a, b, cc, d⟩
    unfold put4 at k0 k1 k2 k3 HF
    simp only at p0 p1 p2 p3 k0 k1 k2 k3 HF
    clear xR yM K
    go_wp2
    exact bodyPost_ret (v := .agg #[.int .i64 a, .int .i64 b, .int .i64 cc, .int .i64 d]) (by simp [results, Tryd.results23, go_sem, k0, k1, k2, k3]) rfl HF.out
  | true =>
    go_wp2_with fail
    refine (l1Below_any w0 _ g 4 K.1 (by omega) (by omega)).mono ?_
    rintro e V7 ⟨x, rfl, h0x, h1x, hc, hg⟩
    replace K := K.own hc hg
    replace xR := xR.gr hg ngR
    replace yM := yM.gr hg ngM
    clear hc hg
    obtain rfl | rfl | rfl | rfl : x = 0 ∨ x = 1 ∨ x = 2 ∨ x = 3 := by omega
    · clear h0x h1x
      have hrow : Row3 (V7.alloc (.cells #[.int .i64 (-1), .int .i64 7, .int .i64 8] 2)) V7.heap.size (-1) (7) (8) := heap_alloc_new V7 _
      have hql := yM.lt
      have bA := below1 V7 (.cells #[.int .i64 (-1), .int .i64 7, .int .i64 8] 2)
      replace K := K.below bA
      replace xR := xR.below bA
      replace yM := yM.below bA
      clear bA
      go_wp2_with fail
      generalize V7.alloc (.cells #[.int .i64 (-1), .int .i64 7, .int .i64 8] 2) = V8 at K xR yM hrow ⊢
      have nq : V7.heap.size ≠ g := by have := HGL.out; omega
      have nqM : V7.heap.size ≠ mb := by omega
      generalize V7.heap.size = q at hrow nq nqM ⊢
      refine (l1Below_any w0 _ g 3 K.1 (by omega) (by omega)).mono ?_
      rintro e V9 ⟨y, rfl, h0y, h1y, hc, hg⟩
      replace K := K.own hc hg
      replace xR := xR.gr hg ngR
      replace yM := yM.gr hg ngM
      replace hrow : Row3 V9 q (-1) (7) (8) := blk_gr hrow hg nq
      obtain ⟨k, rfl⟩ := Int.eq_ofNat_of_zero_le h0y
      have hk : k < 3 := by omega
      obtain ⟨z, hz⟩ := hrow.at k hk
      have xS : Box4 (V9.setCell ⟨mb, 0, none⟩ (.int .i64 z)) w.heap.size 28 movZ := (heap_setCell_other V9 ⟨mb, 0, none⟩ w.heap.size (.int .i64 z) nRM).trans xR
      obtain ⟨d0, d1, d2, d3⟩ := xR.facts
      obtain ⟨f0, f1, f2, f3⟩ := xR.fz
      obtain ⟨p0, p1, p2, p3⟩ := yM.facts
      obtain ⟨r0, r1, r2, r3⟩ := yM.fz
      obtain ⟨k0, k1, k2, k3⟩ := (xS.put ⟨z, b, cc, d⟩).facts
      have HF : Hid (MvD _ _ _ _ _) := mv_end (K.set (b := mb) (j := 0) (u := .int .i64 z) (by omega)) ⟨z, b, cc, d⟩
      unfold put4 at k0 k1 k2 k3 HF
      simp only at p0 p1 p2 p3 k0 k1 k2 k3 HF
      clear xR yM K xS hrow hc hg h0y h1y
      go_wp2
      exact bodyPost_ret (v := .agg #[.int .i64 z, .int .i64 b, .int .i64 cc, .int .i64 d]) (by simp [results, Tryd.results23, go_sem, k0, k1, k2, k3]) rfl HF.out
    · clear h0x h1x
      have hrow : Row4 (V7.alloc (.cells #[.int .i64 (-1), .int .i64 7, .int .i64 8, .int .i64 4611686018427387904] 2)) V7.heap.size (-1) (7) (8) (4611686018427387904) := heap_alloc_new V7 _
      have hql := yM.lt
      have bA := below1 V7 (.cells #[.int .i64 (-1), .int .i64 7, .int .i64 8, .int .i64 4611686018427387904] 2)
      replace K := K.below bA
      replace xR := xR.below bA
      replace yM := yM.below bA
      clear bA
      go_wp2_with fail
      generalize V7.alloc (.cells #[.int .i64 (-1), .int .i64 7, .int .i64 8, .int .i64 4611686018427387904] 2) = V8 at K xR yM hrow ⊢
      have nq : V7.heap.size ≠ g := by have := HGL.out; omega
      have nqM : V7.heap.size ≠ mb := by omega
      generalize V7.heap.size = q at hrow nq nqM ⊢
      refine (l1Below_any w0 _ g 4 K.1 (by omega) (by omega)).mono ?_
      rintro e V9 ⟨y, rfl, h0y, h1y, hc, hg⟩
      replace K := K.own hc hg
      replace xR := xR.gr hg ngR
      replace yM := yM.gr hg ngM
      replace hrow : Row4 V9 q (-1) (7) (8) (4611686018427387904) := blk_gr hrow hg nq
      obtain ⟨k, rfl⟩ := Int.eq_ofNat_of_zero_le h0y
      have hk : k < 4 := by omega
      obtain ⟨z, hz⟩ := hrow.at k hk
      have xS : Box4 (V9.setCell ⟨mb, 1, none⟩ (.int .i64 z)) w.heap.size 28 movZ := (heap_setCell_other V9 ⟨mb, 1, none⟩ w.heap.size (.int .i64 z) nRM).trans xR
      obtain ⟨d0, d1, d2, d3⟩ := xR.facts
      obtain ⟨f0, f1, f2, f3⟩ := xR.fz
      obtain ⟨p0, p1, p2, p3⟩ := yM.facts
      obtain ⟨r0, r1, r2, r3⟩ := yM.fz
      obtain ⟨k0, k1, k2, k3⟩ := (xS.put ⟨a, z, cc, d⟩).facts
      have HF : Hid (MvD _ _ _ _ _) := mv_end (K.set (b := mb) (j := 1) (u := .int .i64 z) (by omega)) ⟨a, z, cc, d⟩
      unfold put4 at k0 k1 k2 k3 HF
      simp only at p0 p1 p2 p3 k0 k1 k2 k3 HF
      clear xR yM K xS hrow hc hg h0y h1y
      go_wp2
      exact bodyPost_ret (v := .agg #[.int .i64 a, .int .i64 z, .int .i64 cc, .int .i64 d]) (by simp [results, Tryd.results23, go_sem, k0, k1, k2, k3]) rfl HF.out
    · clear h0x h1x
      have hrow : Row4 (V7.alloc (.cells #[.int .i64 0, .int .i64 1000000000, .int .i64 1000000001, .int .i64 (-1)] 2)) V7.heap.size (0) (1000000000) (1000000001) (-1) := heap_alloc_new V7 _
      have hql := yM.lt
      have bA := below1 V7 (.cells #[.int .i64 0, .int .i64 1000000000, .int .i64 1000000001, .int .i64 (-1)] 2)
      replace K := K.below bA
      replace xR := xR.below bA
      replace yM := yM.below bA
      clear bA
      go_wp2_with fail
      generalize V7.alloc (.cells #[.int .i64 0, .int .i64 1000000000, .int .i64 1000000001, .int .i64 (-1)] 2) = V8 at K xR yM hrow ⊢
      have nq : V7.heap.size ≠ g := by have := HGL.out; omega
      have nqM : V7.heap.size ≠ mb := by omega
      generalize V7.heap.size = q at hrow nq nqM ⊢
      refine (l1Below_any w0 _ g 4 K.1 (by omega) (by omega)).mono ?_
      rintro e V9 ⟨y, rfl, h0y, h1y, hc, hg⟩
      replace K := K.own hc hg
      replace xR := xR.gr hg ngR
      replace yM := yM.gr hg ngM
      replace hrow : Row4 V9 q (0) (1000000000) (1000000001) (-1) := blk_gr hrow hg nq
      obtain ⟨k, rfl⟩ := Int.eq_ofNat_of_zero_le h0y
      have hk : k < 4 := by omega
      obtain ⟨z, hz⟩ := hrow.at k hk
      have xS : Box4 (V9.setCell ⟨mb, 2, none⟩ (.int .i64 z)) w.heap.size 28 movZ := (heap_setCell_other V9 ⟨mb, 2, none⟩ w.heap.size (.int .i64 z) nRM).trans xR
      obtain ⟨d0, d1, d2, d3⟩ := xR.facts
      obtain ⟨f0, f1, f2, f3⟩ := xR.fz
      obtain ⟨p0, p1, p2, p3⟩ := yM.facts
      obtain ⟨r0, r1, r2, r3⟩ := yM.fz
      obtain ⟨k0, k1, k2, k3⟩ := (xS.put ⟨a, b, z, d⟩).facts
      have HF : Hid (MvD _ _ _ _ _) := mv_end (K.set (b := mb) (j := 2) (u := .int .i64 z) (by omega)) ⟨a, b, z, d⟩
      unfold put4 at k0 k1 k2 k3 HF
      simp only at p0 p1 p2 p3 k0 k1 k2 k3 HF
      clear xR yM K xS hrow hc hg h0y h1y
      go_wp2
      exact bodyPost_ret (v := .agg #[.int .i64 a, .int .i64 b, .int .i64 z, .int .i64 d]) (by simp [results, Tryd.results23, go_sem, k0, k1, k2, k3]) rfl HF.out
    · clear h0x h1x
      have hrow : Row3 (V7.alloc (.cells #[.int .i64 (-1), .int .i64 999999, .int .i64 1000000] 2)) V7.heap.size (-1) (999999) (1000000) := heap_alloc_new V7 _
      have hql := yM.lt
      have bA := below1 V7 (.cells #[.int .i64 (-1), .int .i64 999999, .int .i64 1000000] 2)
      replace K := K.below bA
      replace xR := xR.below bA
      replace yM := yM.below bA
      clear bA
      go_wp2_with fail
      generalize V7.alloc (.cells #[.int .i64 (-1), .int .i64 999999, .int .i64 1000000] 2) = V8 at K xR yM hrow ⊢
      have nq : V7.heap.size ≠ g := by have := HGL.out; omega
      have nqM : V7.heap.size ≠ mb := by omega
      generalize V7.heap.size = q at hrow nq nqM ⊢
      refine (l1Below_any w0 _ g 3 K.1 (by omega) (by omega)).mono ?_
      rintro e V9 ⟨y, rfl, h0y, h1y, hc, hg⟩
      replace K := K.own hc hg
      replace xR := xR.gr hg ngR
      replace yM := yM.gr hg ngM
      replace hrow : Row3 V9 q (-1) (999999) (1000000) := blk_gr hrow hg nq
      obtain ⟨k, rfl⟩ := Int.eq_ofNat_of_zero_le h0y
      have hk : k < 3 := by omega
      obtain ⟨z, hz⟩ := hrow.at k hk
      have xS : Box4 (V9.setCell ⟨mb, 3, none⟩ (.int .i64 z)) w.heap.size 28 movZ := (heap_setCell_other V9 ⟨mb, 3, none⟩ w.heap.size (.int .i64 z) nRM).trans xR
      obtain ⟨d0, d1, d2, d3⟩ := xR.facts
      obtain ⟨f0, f1, f2, f3⟩ := xR.fz
      obtain ⟨p0, p1, p2, p3⟩ := yM.facts
      obtain ⟨r0, r1, r2, r3⟩ := yM.fz
      obtain ⟨k0, k1, k2, k3⟩ := (xS.put ⟨a, b, cc, z⟩).facts
      have HF : Hid (MvD _ _ _ _ _) := mv_end (K.set (b := mb) (j := 3) (u := .int .i64 z) (by omega)) ⟨a, b, cc, z⟩
      unfold put4 at k0 k1 k2 k3 HF
      simp only at p0 p1 p2 p3 k0 k1 k2 k3 HF
      clear xR yM K xS hrow hc hg h0y h1y
      go_wp2
      exact bodyPost_ret (v := .agg #[.int .i64 a, .int .i64 b, .int .i64 cc, .int .i64 z]) (by simp [results, Tryd.results23, go_sem, k0, k1, k2, k3]) rfl HF.out
def MvB (w : World) (e : Ending) (w' : World) : Prop := ∃ m : Mov, e = .returned (.agg #[.int .i64 m.fr, .int .i64 m.to', .int .i64 m.sum, .int .i64 m.cou]) ∧ Below w.heap.size w w'
def TxB (w : World) (n : Nat) (e : Ending) (w' : World) : Prop := ∃ s : ByteArray, e = .returned (.string s) ∧ s.size ≤ n ∧ Below w.heap.size w w'
theorem shwS_size (m : Mov) : (shwS m).size ≤ 87 := by
  by_cases h : MovP m
  · exact (shw_size h).2
  · unfold shwS
    rw [if_neg h]
    decide
end Go.Proofs.YtdleolgkbkoekaaDoor
