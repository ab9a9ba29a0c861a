/- The draw of a bank and a move. -/
-- UNF Gen
import Derived.Test.YtdleolgkbkoekaaDoorMovDrw4
namespace Go.Proofs.YtdleolgkbkoekaaDoor
open Go.RowKit
/-- Where the draw stands: the answers' boxes, the bank's and the move's. -/
structure DM (w W0 W : World) (g bb mb : Nat) (Y : BkX) (m : Mov) : Prop where
  dc : DCur W0 W g
  bw : Below w.heap.size w W
  outB : BoxBk W w.heap.size (.slice none 0 0) (.slice none 0 0)
  outM : Box4 W (w.heap.size + 1) 28 movZ
  by' : BoxBk W bb Y.vm Y.vc
  fy : FrBk W (g + 1) Y
  bm : Box4 W mb 28 m
  ne : w.heap.size + 1 < g ∧ g < bb ∧ bb < mb
theorem DM.below {w W0 W W' : World} {g bb mb : Nat} {Y : BkX} {m : Mov} (h : DM w W0 W g bb mb Y m) (hb : Below W.heap.size W W') : DM w W0 W' g bb mb Y m :=
  ⟨dcur_below h.dc hb, h.bw.trans (hb.mono h.bw.size), h.outB.below hb, h.outM.below hb, h.by'.below hb, h.fy.below hb, h.bm.below hb, h.ne⟩
theorem DM.own {w W0 W W' : World} {g bb mb : Nat} {Y : BkX} {m : Mov} (h : DM w W0 W g bb mb Y m) (hc : DCur W0 W' g) (hg : W.grownBy W' (some g)) : DM w W0 W' g bb mb Y m := by
  obtain ⟨n1, n2, n3⟩ := h.ne
  exact ⟨hc, h.bw.grown hg h.bw.size (fun k hk => by have := Option.some.inj hk; omega), h.outB.gr hg (by omega), h.outM.gr hg (by omega), h.by'.gr hg (by omega), h.fy.gr hg (by omega), h.bm.gr hg (by omega), h.ne⟩
theorem FrBk.box4 {w : World} {lo b j : Nat} {X : BkX} {u : Value} {m : Mov} (h : FrBk w lo X) (hb : Box4 w b 28 m) : FrBk (w.setCell ⟨b, j, none⟩ u) lo X :=
  h.keepT (fun k cs f _ h2 => heap_setCell_other w ⟨b, j, none⟩ k u (fun e => by
    have e : k = b := e
    subst e
    unfold Box4 at hb
    rw [hb] at h2
    injection h2 with h2
    injection h2 with _ h3
    exact absurd h3 (by decide)))
theorem DM.count {w W0 W : World} {g bb mb : Nat} {Y : BkX} {m : Mov} (h : DM w W0 W g bb mb Y m) (z : Int) : DM w W0 (W.setCell ⟨mb, 3, none⟩ (.int .i64 z)) g bb mb Y ⟨m.fr, m.to', m.sum, z⟩ := by
  obtain ⟨n1, n2, n3⟩ := h.ne
  have hgr : W.grownBy (W.setCell ⟨mb, 3, none⟩ (.int .i64 z)) (some mb) := set_grown _
  exact ⟨h.dc.grow hgr (fun k hk => by have := Option.some.inj hk; omega), h.bw.grown hgr h.bw.size (fun k hk => by have := Option.some.inj hk; omega), h.outB.gr hgr (by omega), h.outM.gr hgr (by omega), h.by'.gr hgr (by omega), h.fy.box4 h.bm, h.bm.set3 z, h.ne⟩
/-- What the draw leaves. -/
def MovD (w : World) (e : Ending) (w' : World) : Prop := ∃ (Y : BkX) (m : Mov), e = .returned (.tuple #[.agg #[Y.vm, Y.vc], .agg #[.int .i64 m.fr, .int .i64 m.to', .int .i64 m.sum, .int .i64 m.cou]]) ∧ RdBk w' Y ∧ Y.mon.length ≤ 8 ∧ Y.cnt.length ≤ 8 ∧ Below w.heap.size w w'
theorem dm_end {w W0 W : World} {g bb mb : Nat} {Y : BkX} {m : Mov} (h : DM w W0 W g bb mb Y m) (h1 : Y.mon.length ≤ 8) (h2 : Y.cnt.length ≤ 8) : MovD w (.returned (.tuple #[.agg #[Y.vm, Y.vc], .agg #[.int .i64 m.fr, .int .i64 m.to', .int .i64 m.sum, .int .i64 m.cou]])) (put4 ((W.setCell ⟨w.heap.size, 0, none⟩ Y.vm).setCell ⟨w.heap.size, 1, none⟩ Y.vc) (w.heap.size + 1) m).drew := by
  have f1 := (h.fy.box (j := 0) (u := Y.vm) h.outB).box (j := 1) (u := Y.vc) h.outB.set0
  have o1 : Box4 ((W.setCell ⟨w.heap.size, 0, none⟩ Y.vm).setCell ⟨w.heap.size, 1, none⟩ Y.vc) (w.heap.size + 1) 28 movZ := by
    unfold Box4
    rw [heap_setCell_other _ ⟨w.heap.size, 1, none⟩ (w.heap.size + 1) _ (by show w.heap.size + 1 ≠ w.heap.size; omega), heap_setCell_other _ ⟨w.heap.size, 0, none⟩ (w.heap.size + 1) _ (by show w.heap.size + 1 ≠ w.heap.size; omega)]
    exact h.outM
  have f2 : FrBk (put4 ((W.setCell ⟨w.heap.size, 0, none⟩ Y.vm).setCell ⟨w.heap.size, 1, none⟩ Y.vc) (w.heap.size + 1) m) (g + 1) Y := f1.keepT (fun k cs f _ h3 => put4_other (fun e => by
    subst e
    unfold Box4 at o1
    rw [o1] at h3
    injection h3 with h3
    injection h3 with _ h4
    exact absurd h4 (by decide)))
  have b1 : Below w.heap.size w ((W.setCell ⟨w.heap.size, 0, none⟩ Y.vm).setCell ⟨w.heap.size, 1, none⟩ Y.vc) := (h.bw.setCell (p := ⟨w.heap.size, 0, none⟩) (Nat.le_refl _) _).setCell (p := ⟨w.heap.size, 1, none⟩) (Nat.le_refl _) _
  have b2 := put4_below b1 (b := w.heap.size + 1) (by omega) m
  exact ⟨Y, m, rfl, (f2.below ((Below.refl _ _).drew)).rd, h1, h2, b2.drew⟩
theorem dm_cells {w W0 W : World} {g bb mb : Nat} {Y : BkX} {m : Mov} (h : DM w W0 W g bb mb Y m) :
    (put4 ((W.setCell ⟨w.heap.size, 0, none⟩ Y.vm).setCell ⟨w.heap.size, 1, none⟩ Y.vc) (w.heap.size + 1) m).cell? ⟨w.heap.size, 0, none⟩ = some Y.vm ∧ (put4 ((W.setCell ⟨w.heap.size, 0, none⟩ Y.vm).setCell ⟨w.heap.size, 1, none⟩ Y.vc) (w.heap.size + 1) m).cell? ⟨w.heap.size, 1, none⟩ = some Y.vc ∧ Box4 (put4 ((W.setCell ⟨w.heap.size, 0, none⟩ Y.vm).setCell ⟨w.heap.size, 1, none⟩ Y.vc) (w.heap.size + 1) m) (w.heap.size + 1) 28 m := by
  have o1 : Box4 ((W.setCell ⟨w.heap.size, 0, none⟩ Y.vm).setCell ⟨w.heap.size, 1, none⟩ Y.vc) (w.heap.size + 1) 28 movZ := by
    unfold Box4
    rw [heap_setCell_other _ ⟨w.heap.size, 1, none⟩ (w.heap.size + 1) _ (by show w.heap.size + 1 ≠ w.heap.size; omega), heap_setCell_other _ ⟨w.heap.size, 0, none⟩ (w.heap.size + 1) _ (by show w.heap.size + 1 ≠ w.heap.size; omega)]
    exact h.outM
  have o2 : BoxBk (put4 ((W.setCell ⟨w.heap.size, 0, none⟩ Y.vm).setCell ⟨w.heap.size, 1, none⟩ Y.vc) (w.heap.size + 1) m) w.heap.size Y.vm Y.vc := (h.outB.set0.set1).of_block (put4_other (by omega))
  exact ⟨o2.facts.1, o2.facts.2.1, o1.put m⟩
set_option maxHeartbeats 16000000 in
set_option maxRecDepth 100000 in
theorem drawMoved_any (v : Value) (bs : List UInt8) (w : World) (hr : Rd w v bs) (hb : bs.length ≤ 4096) :
    Calls Tryd.prog 5 #[v] w fun e w' => MovD w e w' := by
  obtain ⟨va, vc, hv, -⟩ := id hr
  subst hv
  have b0 := below2 w (.cells #[.slice none 0 0, .slice none 0 0] 26) (.cells #[.int .i64 0, .int .i64 0, .int .i64 0, .int .i64 0] 28)
  have x0 : BoxBk ((w.alloc (.cells #[.slice none 0 0, .slice none 0 0] 26)).alloc (.cells #[.int .i64 0, .int .i64 0, .int .i64 0, .int .i64 0] 28)) w.heap.size (.slice none 0 0) (.slice none 0 0) := (boxBk_new w (.slice none 0 0) (.slice none 0 0)).below (below1 _ _)
  have y0 : Box4 ((w.alloc (.cells #[.slice none 0 0, .slice none 0 0] 26)).alloc (.cells #[.int .i64 0, .int .i64 0, .int .i64 0, .int .i64 0] 28)) (w.heap.size + 1) 28 movZ := by
    have h := box4_new (w.alloc (.cells #[.slice none 0 0, .slice none 0 0] 26)) 28 movZ
    rw [show (w.alloc (.cells #[.slice none 0 0, .slice none 0 0] 26)).heap.size = w.heap.size + 1 from by simp] at h
    exact h
  have s0 : ((w.alloc (.cells #[.slice none 0 0, .slice none 0 0] 26)).alloc (.cells #[.int .i64 0, .int .i64 0, .int .i64 0, .int .i64 0] 28)).heap.size = w.heap.size + 2 := by simp
  have hr0 := hr.below b0
  clear hr
  go_enter Tryd.func5, Tryd.ntmps5
  go_wp2_with fail
  generalize (w.alloc (.cells #[.slice none 0 0, .slice none 0 0] 26)).alloc (.cells #[.int .i64 0, .int .i64 0, .int .i64 0, .int .i64 0] 28) = W0 at b0 x0 y0 s0 hr0 ⊢
  refine (l1New_any _ bs _ hr0 hb).mono ?_
  rintro e w1 ⟨g, rfl, hc⟩
  clear hr0 hb
  go_wp2_with fail
  refine (l13Draw_any W0 _ g hc).mono ?_
  rintro e w2 ⟨Y, rfl, fy, hy1, hy2, hc2, hg2⟩
  obtain ⟨yvm, yvc, ymon, ycnt⟩ := Y
  obtain ⟨pa, pc, e1, -, -⟩ := rdI_slice fy.rd.mon
  obtain ⟨qa, qc, e2, hqc, -⟩ := rdI_slice fy.rd.cnt
  simp only at e1 e2 hy1 hy2 hqc
  have HY : Hid (ymon.length ≤ 8 ∧ ycnt.length ≤ 8) := ⟨hy1, hy2⟩
  generalize ymon.length = yml at e1
  generalize hyc : ycnt.length = ycl at e2 hqc
  have HYC : Hid (ycnt.length = ycl) := hyc
  subst e1
  subst e2
  clear hyc hy1 hy2
  have hgl := hc.lt
  have hge := hc.ge
  have bw2 := b0.trans (hc2.bel.mono b0.size)
  have x2 := x0.below hc2.bel
  have y2 := y0.below hc2.bel
  have hs2 := hg2.size
  have c1 := below1 w2 (.cells #[.slice pa yml pc, .slice qa ycl qc] 26)
  have t1 := boxBk_new w2 (.slice pa yml pc) (.slice qa ycl qc)
  have f1 := (fy.below c1).mono (lo' := g + 1) (by omega)
  have d1 := dcur_below hc2 c1
  have x3 := x2.below c1
  have y3 := y2.below c1
  have bw3 := bw2.trans (c1.mono bw2.size)
  go_wp2_with fail
  generalize w2.alloc (.cells #[.slice pa yml pc, .slice qa ycl qc] 26) = V2 at t1 f1 d1 x3 y3 bw3 ⊢
  have hbb : g < w2.heap.size := by omega
  generalize w2.heap.size = bb at t1 hbb ⊢
  have hng : w.heap.size + 1 < g := by omega
  clear fy hc hc2 hg2 x0 x2 y0 y2 b0 bw2 hgl hge hs2 s0 c1
  refine (drawMove_any W0 _ g d1).mono ?_
  rintro e V3 ⟨m, rfl, hc, hg⟩
  have c3 := below1 V3 (.cells #[.int .i64 m.fr, .int .i64 m.to', .int .i64 m.sum, .int .i64 m.cou] 28)
  have hm3 := (t1.gr hg (by omega)).lt
  have D : DM w W0 (V3.alloc (.cells #[.int .i64 m.fr, .int .i64 m.to', .int .i64 m.sum, .int .i64 m.cou] 28)) g bb V3.heap.size ⟨.slice pa yml pc, .slice qa ycl qc, ymon, ycnt⟩ m :=
    ⟨dcur_below hc c3, (bw3.grown hg bw3.size (fun k hk => by have := Option.some.inj hk; omega)).trans (c3.mono (bw3.grown hg bw3.size (fun k hk => by have := Option.some.inj hk; omega)).size), (x3.gr hg (by omega)).below c3, (y3.gr hg (by omega)).below c3, (t1.gr hg (by omega)).below c3, (f1.gr hg (by omega)).below c3, box4_new V3 28 m, ⟨hng, hbb, hm3⟩⟩
  clear t1 f1 d1 x3 y3 bw3 hc hg c3 hm3 hbb hng
  go_upto_region 4 with fail
  generalize V3.alloc (.cells #[.int .i64 m.fr, .int .i64 m.to', .int .i64 m.sum, .int .i64 m.cou] 28) = V at D ⊢
  generalize V3.heap.size = mb at D ⊢
  obtain ⟨ma, mt, ms, mc⟩ := m
  obtain ⟨a0, a1, -, -⟩ := D.by'.facts
  obtain ⟨p0, p1, p2, p3⟩ := D.bm.facts
  simp only at a0 a1 p0 p1 p2 p3
  by_cases h8 : ycl = 8
  · subst h8
    go_wp2_with fail
    refine (inK_any ma 0 7 _).mono ?_
    rintro e V4 ⟨rfl, hV4⟩
    obtain rfl := hV4.symm
    by_cases hin : 0 ≤ ma ∧ ma ≤ 7
    · rw [decide_eq_true hin]
      obtain ⟨k, rfl⟩ := Int.eq_ofNat_of_zero_le hin.1
      have hk : k < 8 := by omega
      clear hin
      go_wp2_with fail
      refine (l1Once_any W0 _ g 4 D.dc (by omega) (by omega)).mono ?_
      rintro e V5 ⟨bo, rfl, hc, hg⟩
      replace D := D.own hc hg
      clear hc hg a0 a1 p0 p1 p2 p3
      cases bo with
      | true =>
        have HF : Hid (MovD _ _ _) := dm_end D HY.out.1 HY.out.2
        obtain ⟨a0, a1, -, -⟩ := D.by'.facts
        obtain ⟨p0, p1, p2, p3⟩ := D.bm.facts
        obtain ⟨d0, d1, d2, d3⟩ := D.outB.facts
        obtain ⟨r0, r1, r2, r3⟩ := D.outM.facts
        obtain ⟨s0, s1, s2, s3⟩ := D.outM.fz
        obtain ⟨f0, f1, fB⟩ := dm_cells D
        obtain ⟨k0, k1, k2, k3⟩ := fB.facts
        unfold put4 at HF f0 f1 k0 k1 k2 k3
        simp only at a0 a1 p0 p1 p2 p3 HF f0 f1 k0 k1 k2 k3
        clear fB
        obtain ⟨n1, n2, n3⟩ := D.ne
        have q1 : w.heap.size ≠ mb := by omega
        have q2 : mb ≠ w.heap.size := by omega
        have q3 : w.heap.size + 1 ≠ bb := by omega
        have q4 : bb ≠ w.heap.size + 1 := by omega
        have q5 : w.heap.size ≠ bb := by omega
        have q6 : bb ≠ w.heap.size := by omega
        have q7 : w.heap.size + 1 ≠ mb := by omega
        have q8 : mb ≠ w.heap.size + 1 := by omega
        clear D n1 n2 n3
        go_wp2
        go_region
        go_wp2
        exact bodyPost_ret (v := .tuple #[.agg #[.slice pa yml pc, .slice qa 8 qc], .agg #[.int .i64 (k : Int), .int .i64 mt, .int .i64 ms, .int .i64 mc]]) (by simp [results, Tryd.results5, go_sem, f0, f1, k0, k1, k2, k3]) rfl HF.out
      | false =>
        obtain ⟨a0, a1, -, -⟩ := D.by'.facts
        obtain ⟨p0, p1, p2, p3⟩ := D.bm.facts
        obtain ⟨r0, r1, r2, r3⟩ := D.bm.fz
        obtain ⟨pb, po, rfl, q⟩ := D.fy.rd.cnt.at k (by show k < ycnt.length; rw [HYC.out]; omega)
        generalize ycnt[k]'(by rw [HYC.out]; omega) = z at q
        simp only at a0 a1 p0 p1 p2 p3
        replace D := D.count z
        simp only at D
        go_upto_region 6 with fail
        generalize V5.setCell ⟨mb, 3, none⟩ (.int .i64 z) = V6 at D ⊢
        clear a0 a1 p0 p1 p2 p3 r0 r1 r2 r3 q
        have HF : Hid (MovD _ _ _) := dm_end D HY.out.1 HY.out.2
        obtain ⟨a0, a1, -, -⟩ := D.by'.facts
        obtain ⟨p0, p1, p2, p3⟩ := D.bm.facts
        obtain ⟨d0, d1, d2, d3⟩ := D.outB.facts
        obtain ⟨r0, r1, r2, r3⟩ := D.outM.facts
        obtain ⟨s0, s1, s2, s3⟩ := D.outM.fz
        obtain ⟨f0, f1, fB⟩ := dm_cells D
        obtain ⟨k0, k1, k2, k3⟩ := fB.facts
        unfold put4 at HF f0 f1 k0 k1 k2 k3
        simp only at a0 a1 p0 p1 p2 p3 HF f0 f1 k0 k1 k2 k3
        clear fB
        obtain ⟨n1, n2, n3⟩ := D.ne
        have q1 : w.heap.size ≠ mb := by omega
        have q2 : mb ≠ w.heap.size := by omega
        have q3 : w.heap.size + 1 ≠ bb := by omega
        have q4 : bb ≠ w.heap.size + 1 := by omega
        have q5 : w.heap.size ≠ bb := by omega
        have q6 : bb ≠ w.heap.size := by omega
        have q7 : w.heap.size + 1 ≠ mb := by omega
        have q8 : mb ≠ w.heap.size + 1 := by omega
        clear D n1 n2 n3
        go_wp2
        go_region
        go_wp2
        exact bodyPost_ret (v := .tuple #[.agg #[.slice pa yml pc, .slice (some ⟨pb, po, none⟩) 8 qc], .agg #[.int .i64 (k : Int), .int .i64 mt, .int .i64 ms, .int .i64 z]]) (by simp [results, Tryd.results5, go_sem, f0, f1, k0, k1, k2, k3]) rfl HF.out
    · rw [decide_eq_false hin]
      clear hin a0 a1 p0 p1 p2 p3
      go_upto_region 6 with fail
      have HF : Hid (MovD _ _ _) := dm_end D HY.out.1 HY.out.2
      obtain ⟨a0, a1, -, -⟩ := D.by'.facts
      obtain ⟨p0, p1, p2, p3⟩ := D.bm.facts
      obtain ⟨d0, d1, d2, d3⟩ := D.outB.facts
      obtain ⟨r0, r1, r2, r3⟩ := D.outM.facts
      obtain ⟨s0, s1, s2, s3⟩ := D.outM.fz
      obtain ⟨f0, f1, fB⟩ := dm_cells D
      obtain ⟨k0, k1, k2, k3⟩ := fB.facts
      unfold put4 at HF f0 f1 k0 k1 k2 k3
      simp only at a0 a1 p0 p1 p2 p3 HF f0 f1 k0 k1 k2 k3
      clear fB
      obtain ⟨n1, n2, n3⟩ := D.ne
      have q1 : w.heap.size ≠ mb := by omega
      have q2 : mb ≠ w.heap.size := by omega
      have q3 : w.heap.size + 1 ≠ bb := by omega
      have q4 : bb ≠ w.heap.size + 1 := by omega
      have q5 : w.heap.size ≠ bb := by omega
      have q6 : bb ≠ w.heap.size := by omega
      have q7 : w.heap.size + 1 ≠ mb := by omega
      have q8 : mb ≠ w.heap.size + 1 := by omega
      clear D n1 n2 n3
      go_wp2
      go_region
      go_wp2
      exact bodyPost_ret (v := .tuple #[.agg #[.slice pa yml pc, .slice qa 8 qc], .agg #[.int .i64 ma, .int .i64 mt, .int .i64 ms, .int .i64 mc]]) (by simp [results, Tryd.results5, go_sem, f0, f1, k0, k1, k2, k3]) rfl HF.out
  · have h8' : ((ycl : Int) == 8) = false := by simp; omega
    clear p0 p1 p2 p3
    go_upto_region 6 with fail
    clear a0 a1
    have HF : Hid (MovD _ _ _) := dm_end D HY.out.1 HY.out.2
    obtain ⟨a0, a1, -, -⟩ := D.by'.facts
    obtain ⟨p0, p1, p2, p3⟩ := D.bm.facts
    obtain ⟨d0, d1, d2, d3⟩ := D.outB.facts
    obtain ⟨r0, r1, r2, r3⟩ := D.outM.facts
    obtain ⟨s0, s1, s2, s3⟩ := D.outM.fz
    obtain ⟨f0, f1, fB⟩ := dm_cells D
    obtain ⟨k0, k1, k2, k3⟩ := fB.facts
    unfold put4 at HF f0 f1 k0 k1 k2 k3
    simp only at a0 a1 p0 p1 p2 p3 HF f0 f1 k0 k1 k2 k3
    clear fB
    obtain ⟨n1, n2, n3⟩ := D.ne
    have q1 : w.heap.size ≠ mb := by omega
    have q2 : mb ≠ w.heap.size := by omega
    have q3 : w.heap.size + 1 ≠ bb := by omega
    have q4 : bb ≠ w.heap.size + 1 := by omega
    have q5 : w.heap.size ≠ bb := by omega
    have q6 : bb ≠ w.heap.size := by omega
    have q7 : w.heap.size + 1 ≠ mb := by omega
    have q8 : mb ≠ w.heap.size + 1 := by omega
    clear D n1 n2 n3
    go_wp2
    go_region
    go_wp2
    exact bodyPost_ret (v := .tuple #[.agg #[.slice pa yml pc, .slice qa ycl qc], .agg #[.int .i64 ma, .int .i64 mt, .int .i64 ms, .int .i64 mc]]) (by simp [results, Tryd.results5, go_sem, f0, f1, k0, k1, k2, k3]) rfl HF.out
end Go.Proofs.YtdleolgkbkoekaaDoor
