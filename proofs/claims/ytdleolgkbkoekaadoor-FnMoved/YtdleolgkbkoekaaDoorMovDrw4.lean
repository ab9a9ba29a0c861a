/- The draw of a bank and of texts. -/
-- UNF Gen
import Derived.Test.YtdleolgkbkoekaaDoorMovDrw3
namespace Go.Proofs.YtdleolgkbkoekaaDoor
open Go.RowKit
/-- Where the draw of many moves stands: the answer's box, the bank's, that of the bank which goes along, and the texts. -/
structure MA (w W0 W : World) (g bb xb : Nat) (Y Z : BkX) (l : Value) (ss : List ByteArray) : Prop where
  dc : DCur W0 W g
  bw : Below w.heap.size w W
  out : BoxBk W w.heap.size (.slice none 0 0) (.slice none 0 0)
  by' : BoxBk W bb Y.vm Y.vc
  bz : BoxBk W xb Z.vm Z.vc
  fy : FrBk W (g + 1) Y
  fz : FrBk W (g + 1) Z
  lz : Z.mon.length ≤ 8 ∧ Z.cnt.length ≤ 8
  txt : OwnS W (g + 1) l ss
  sz : ∀ s ∈ ss, s.size ≤ 87
  ne : w.heap.size < g ∧ g < bb ∧ bb < xb
  lx : ∃ q c, l = .slice (some ⟨q, 0, none⟩) ss.length c
theorem MA.below {w W0 W W' : World} {g bb xb : Nat} {Y Z : BkX} {l : Value} {ss : List ByteArray} (h : MA w W0 W g bb xb Y Z l ss) (hb : Below W.heap.size W W') : MA w W0 W' g bb xb Y Z l ss :=
  ⟨dcur_below h.dc hb, h.bw.trans (hb.mono h.bw.size), h.out.below hb, h.by'.below hb, h.bz.below hb, h.fy.below hb, h.fz.below hb, h.lz, h.txt.below hb, h.sz, h.ne, h.lx⟩
theorem row_gr {W W' : World} {B t z n g : Nat} {v : Value} {xs : List Value} (h : W.ownsRow B t z v n xs) (hg : W.grownBy W' (some g)) (hl : g < B) : W'.ownsRow B t z v n xs :=
  (Touch.of_grown (bs := [g]) hg (fun k hk => by rw [← Option.some.inj hk]; simp)).row h (fun k hk e => by have h1 := (World.ownsRow.lt h k hk).1; have h2 := List.mem_singleton.1 e; omega)
theorem MA.own {w W0 W W' : World} {g bb xb : Nat} {Y Z : BkX} {l : Value} {ss : List ByteArray} (h : MA w W0 W g bb xb Y Z l ss) (hc : DCur W0 W' g) (hg : W.grownBy W' (some g)) : MA w W0 W' g bb xb Y Z l ss := by
  obtain ⟨n1, n2, n3⟩ := h.ne
  exact ⟨hc, h.bw.grown hg h.bw.size (fun k hk => by have := Option.some.inj hk; omega), h.out.gr hg (by omega), h.by'.gr hg (by omega), h.bz.gr hg (by omega), h.fy.gr hg (by omega), h.fz.gr hg (by omega), h.lz, row_gr h.txt hg (by omega), h.sz, h.ne, h.lx⟩
/-- The bank that goes along is another one. -/
theorem MA.fill {w W0 W : World} {g bb xb : Nat} {Y Z X : BkX} {l : Value} {ss : List ByteArray} (h : MA w W0 W g bb xb Y Z l ss) (hx : FrBk W (g + 1) X) (hl : X.mon.length ≤ 8 ∧ X.cnt.length ≤ 8) : MA w W0 ((W.setCell ⟨xb, 0, none⟩ X.vm).setCell ⟨xb, 1, none⟩ X.vc) g bb xb Y X l ss := by
  obtain ⟨n1, n2, n3⟩ := h.ne
  have hto : Touch [xb] W ((W.setCell ⟨xb, 0, none⟩ X.vm).setCell ⟨xb, 1, none⟩ X.vc) := (Touch.set (by simp)).trans (Touch.set (by simp))
  have hgr : W.grownBy ((W.setCell ⟨xb, 0, none⟩ X.vm).setCell ⟨xb, 1, none⟩ X.vc) (some xb) := gr_trans (set_grown _) (set_grown _)
  exact ⟨h.dc.grow hgr (fun k hk => by have := Option.some.inj hk; omega), h.bw.grown hgr h.bw.size (fun k hk => by have := Option.some.inj hk; omega), h.out.of_block (hto.block _ h.out.lt (fun e => by have := List.mem_singleton.1 e; omega)), h.by'.of_block (hto.block _ h.by'.lt (fun e => by have := List.mem_singleton.1 e; omega)), h.bz.set0.set1, (h.fy.box h.bz).box h.bz.set0, (hx.box h.bz).box h.bz.set0, hl, hto.row h.txt (fun k hk e => boxBk_row h.bz h.txt (by decide) k hk (List.mem_singleton.1 e).symm), h.sz, h.ne, h.lx⟩
theorem MA.grow {w W0 V W : World} {g bb xb : Nat} {Y Z : BkX} {l l' : Value} {ss ss' : List ByteArray} {o : Obj} (h : MA w W0 V g bb xb Y Z l ss) (hg : (V.alloc o).grownBy W l.ownBlock) (ho : OwnS W (g + 1) l' ss') (hs : ∀ s ∈ ss', s.size ≤ 87) (hne : ss' ≠ []) : MA w W0 W g bb xb Y Z l' ss' := by
  have h1 := h.below (below1 V o)
  obtain ⟨n1, n2, n3⟩ := h.ne
  have hlb : ∀ k, l.ownBlock = some k → g + 1 ≤ k := fun k hk => (World.ownsRow.lt h1.txt k hk).1
  have hbox : ∀ {b : Nat} {u0 u1 : Value}, BoxBk (V.alloc o) b u0 u1 → BoxBk W b u0 u1 := fun hb => hb.of_block (hg.block _ hb.lt (fun e => boxBk_row hb h1.txt (by decide) _ e.symm rfl))
  have hfr : ∀ {X : BkX}, FrBk (V.alloc o) (g + 1) X → FrBk W (g + 1) X := fun hx => hx.keepT (fun k cs f _ h2 => hg.block k (Array.getElem?_eq_some_iff.1 h2).1 (fun e => by
    rcases h1.txt.2 with ⟨hv, _⟩ | ⟨q, cap, cur, hv, _, h3, _⟩
    · rw [hv] at e; cases e
    · rw [hv] at e
      obtain rfl : k = q := by simpa [Value.ownBlock] using e
      rw [h3] at h2
      injection h2 with h2
      injection h2 with _ h4
      exact absurd h4 (by decide)))
  exact ⟨h1.dc.grow hg (fun k hk => by have := hlb k hk; omega), h1.bw.grown hg h1.bw.size (fun k hk => by have := hlb k hk; omega), hbox h1.out, hbox h1.by', hbox h1.bz, hfr h1.fy, hfr h1.fz, h.lz, ho, hs, h.ne, by
    rcases ho.2 with ⟨_, h0⟩ | ⟨q, cap, cur, hv, _⟩
    · exact absurd (List.length_eq_zero_iff.1 h0) hne
    · exact ⟨q, cap, hv⟩⟩
/-- What the draw of a bank and texts leaves. -/
def AllD (w : World) (e : Ending) (w' : World) : Prop := ∃ (Y : BkX) (q c : Nat) (ss : List ByteArray), e = .returned (.tuple #[.agg #[Y.vm, Y.vc], .slice (some ⟨q, 0, none⟩) ss.length c]) ∧ RdBk w' Y ∧ Y.mon.length ≤ 8 ∧ Y.cnt.length ≤ 8 ∧ RdS w' (.slice (some ⟨q, 0, none⟩) ss.length c) ss ∧ ss.length ≤ 5 ∧ (∀ s ∈ ss, s.size ≤ 87) ∧ Below w.heap.size w w'
theorem ma_end {w W0 W : World} {g bb xb : Nat} {Y Z : BkX} {l : Value} {ss : List ByteArray} (h : MA w W0 W g bb xb Y Z l ss) (h1 : Y.mon.length ≤ 8) (h2 : Y.cnt.length ≤ 8) (h3 : ss.length ≤ 5) : AllD w (.returned (.tuple #[.agg #[Y.vm, Y.vc], l])) ((W.setCell ⟨w.heap.size, 0, none⟩ Y.vm).setCell ⟨w.heap.size, 1, none⟩ Y.vc) := by
  obtain ⟨n1, n2, n3⟩ := h.ne
  obtain ⟨q, c, rfl⟩ := h.lx
  exact ⟨Y, q, c, ss, rfl, ((h.fy.box h.out).box h.out.set0).rd, h1, h2, OwnS.rd (row_base (row_base h.txt (by omega)) (by omega)), h3, h.sz, (h.bw.setCell (p := ⟨w.heap.size, 0, none⟩) (Nat.le_refl _) _).setCell (p := ⟨w.heap.size, 1, none⟩) (Nat.le_refl _) _⟩
set_option maxHeartbeats 16000000 in
set_option maxRecDepth 100000 in
theorem drawMovedAll_any (v : Value) (bs : List UInt8) (w : World) (hr : Rd w v bs) (hb : bs.length ≤ 4096) :
    Calls Tryd.prog 7 #[v] w fun e w' => AllD w e w' := by
  obtain ⟨va, vc, hv, -⟩ := id hr
  subst hv
  have b0 := below1 w (.cells #[.slice none 0 0, .slice none 0 0] 26)
  have x0 := boxBk_new w (.slice none 0 0) (.slice none 0 0)
  have s0 : (w.alloc (.cells #[.slice none 0 0, .slice none 0 0] 26)).heap.size = w.heap.size + 1 := by simp
  have hr0 := hr.below b0
  clear hr
  go_enter Tryd.func7, Tryd.ntmps7
  go_wp2_with fail
  generalize w.alloc (.cells #[.slice none 0 0, .slice none 0 0] 26) = W0 at b0 x0 s0 hr0 ⊢
  refine (l1New_any _ bs _ hr0 hb).mono ?_
  rintro e w1 ⟨g, rfl, hc⟩
  clear hr0 hb
  go_wp2_with fail
  refine (l13Draw_any W0 _ g hc).mono ?_
  rintro e w2 ⟨Y, rfl, fy, hy1, hy2, hc2, hg2⟩
  obtain ⟨yvm, yvc, ymon, ycnt⟩ := Y
  obtain ⟨pa, pc, e1, -, -⟩ := rdI_slice fy.rd.mon
  obtain ⟨qa, qc, e2, -, -⟩ := rdI_slice fy.rd.cnt
  simp only at e1 e2 hy1 hy2
  have HY : Hid (ymon.length ≤ 8 ∧ ycnt.length ≤ 8) := ⟨hy1, hy2⟩
  generalize ymon.length = yml at e1
  generalize ycnt.length = ycl at e2
  subst e1
  subst e2
  have hgl := hc.lt
  have hge := hc.ge
  have bw2 := b0.trans (hc2.bel.mono b0.size)
  have x2 := x0.below hc2.bel
  have hs2 := hg2.size
  have A0 : MA w W0 (((w2.alloc (.cells #[.slice pa yml pc, .slice qa ycl qc] 26)).alloc (.cells #[.slice pa yml pc, .slice qa ycl qc] 26)).alloc (.cells #[] 9)) g w2.heap.size (w2.heap.size + 1) ⟨.slice pa yml pc, .slice qa ycl qc, ymon, ycnt⟩ ⟨.slice pa yml pc, .slice qa ycl qc, ymon, ycnt⟩ (.slice (some ⟨w2.heap.size + 1 + 1, 0, none⟩) 0 0) [] := by
    have t1 := boxBk_new w2 (.slice pa yml pc) (.slice qa ycl qc)
    have t2 := boxBk_new (w2.alloc (.cells #[.slice pa yml pc, .slice qa ycl qc] 26)) (.slice pa yml pc) (.slice qa ycl qc)
    rw [show (w2.alloc (.cells #[.slice pa yml pc, .slice qa ycl qc] 26)).heap.size = w2.heap.size + 1 from by simp] at t2
    have t3 := ownS_none ((w2.alloc (.cells #[.slice pa yml pc, .slice qa ycl qc] 26)).alloc (.cells #[.slice pa yml pc, .slice qa ycl qc] 26))
    rw [show ((w2.alloc (.cells #[.slice pa yml pc, .slice qa ycl qc] 26)).alloc (.cells #[.slice pa yml pc, .slice qa ycl qc] 26)).heap.size = w2.heap.size + 2 from by simp] at t3
    have c1 := below1 w2 (.cells #[.slice pa yml pc, .slice qa ycl qc] 26)
    have c2 := below1 (w2.alloc (.cells #[.slice pa yml pc, .slice qa ycl qc] 26)) (.cells #[.slice pa yml pc, .slice qa ycl qc] 26)
    have c3 := below1 ((w2.alloc (.cells #[.slice pa yml pc, .slice qa ycl qc] 26)).alloc (.cells #[.slice pa yml pc, .slice qa ycl qc] 26)) (.cells #[] 9)
    have c4 := (c1.trans (c2.mono c1.size)).trans (c3.mono (c1.trans (c2.mono c1.size)).size)
    have f := (fy.below c4).mono (lo' := g + 1) (by omega)
    exact ⟨dcur_below hc2 c4, bw2.trans (c4.mono bw2.size), x2.below c4, (t1.below c2).below c3, t2.below c3, f, f, HY.out, OwnS.mono t3 (by omega), (fun s hs => by cases hs), ⟨by omega, by omega, by omega⟩, ⟨_, _, rfl⟩⟩
  clear fy hc hc2 hg2 x0 x2 b0 bw2 hgl hge hs2 s0 hy1 hy2
  go_wp2_with fail
  generalize ((w2.alloc (.cells #[.slice pa yml pc, .slice qa ycl qc] 26)).alloc (.cells #[.slice pa yml pc, .slice qa ycl qc] 26)).alloc (.cells #[] 9) = V2 at A0 ⊢
  generalize w2.heap.size = bb at A0 ⊢
  refine (l1Below_any W0 _ g 6 A0.dc (by omega) (by omega)).mono ?_
  rintro e V3 ⟨x, rfl, h0x, h1x, hc, hg⟩
  replace A0 := A0.own hc hg
  clear hc hg
  obtain ⟨m0, rfl⟩ := Int.eq_ofNat_of_zero_le h0x
  have hm0 : m0 ≤ 5 := by omega
  clear h0x h1x
  go_wp2
  go_loopw [7, 8] (fun ll nn wr => ∃ (m : Nat) (Z : BkX) (ss : List ByteArray), nn = .int .i64 (m : Int) ∧ m ≤ 5 ∧ Hid (ss.length + m ≤ 5) ∧ MA w W0 wr g bb (bb + 1) ⟨.slice pa yml pc, .slice qa ycl qc, ymon, ycnt⟩ Z ll ss) (fun _ nn _ => (intOf nn).toNat)
  case atStart => exact ⟨m0, _, [], rfl, hm0, (by show 0 + m0 ≤ 5; omega), A0⟩
  case round =>
    clear A0 hm0
    obtain ⟨m, Z, ss, rfl, hm, HSS, A⟩ := hrel
    obtain ⟨zvm, zvc, zmon, zcnt⟩ := Z
    obtain ⟨ka, kc, e1, -, -⟩ := rdI_slice A.fz.rd.mon
    obtain ⟨ja, jc, e2, -, -⟩ := rdI_slice A.fz.rd.cnt
    obtain ⟨la, lc, e3⟩ := ownSl A.txt
    simp only at e1 e2 e3
    generalize zmon.length = kml at e1
    generalize zcnt.length = jcl at e2
    have HLL : Hid (ss.length ≤ 5) := by have := HSS.out; unfold Hid; omega
    generalize hll : ss.length = ln at e3
    have HLN : Hid (ss.length = ln) := hll
    clear hll
    subst e1
    subst e2
    subst e3
    by_cases hmp : 0 < m
    · obtain ⟨k, rfl⟩ : ∃ k, m = k + 1 := ⟨m - 1, by omega⟩
      have hki : ((k + 1 : Nat) : Int) - 1 = (k : Int) := by omega
      have hkp : (0 : Int) < ((k + 1 : Nat) : Int) := by omega
      go_wp2_with fail
      refine (drawMove_any W0 _ g A.dc).mono ?_
      rintro e u1 ⟨mv, rfl, hc, hg⟩
      replace A := A.own hc hg
      clear hc hg
      go_wp2_with fail
      refine (specShowMove_any mv _).mono ?_
      have hz := shwS_size mv
      generalize shwS mv = s at hz ⊢
      rintro e u2 ⟨rfl, hb⟩
      replace A := A.below hb
      clear hb
      go_wp2_with fail
      refine (l1Once_any W0 _ g 3 A.dc (by omega) (by omega)).mono ?_
      rintro e u3 ⟨bo, rfl, hc, hg⟩
      replace A := A.own hc hg
      clear hc hg
      cases bo with
      | true =>
        have q1 := one_rd u3 s
        have p1 := A.txt.below (below1 u3 (.cells #[.string s] 9))
        have z1 : g + 1 ≤ (u3.alloc (.cells #[.string s] 9)).heap.size := by have h1 := A.bz.lt; have h2 := A.ne; simp at h1 ⊢; omega
        go_wp2_with (at_builtin; (refine wpList_append_txts rfl _ _ rfl (g + 1) _ _ ss [s] rfl rfl p1 q1 (fun _ _ e => by cases e) (by have := HLL.out; simp; omega) z1 ?_))
        intro v' w9 o9 hg9
        have A9 := A.grow hg9 o9 (fun x hx => by
          rcases List.mem_append.1 hx with hx | hx
          · exact A.sz x hx
          · rw [List.mem_singleton.1 hx]; omega) (by simp)
        have HS9 : Hid ((ss ++ [s]).length + k ≤ 5) := by have := HSS.out; unfold Hid; rw [List.length_append]; simp; omega
        clear p1 q1 z1 o9 hg9 A HSS HLL HLN hz
        go_wp2
        go_roundw
        case rel => exact ⟨k, _, _, by go_num, by omega, HS9, A9⟩
        case measure => simp [intOf]
      | false =>
        obtain ⟨g0, g1, -, -⟩ := A.bz.facts
        simp only at g0 g1
        go_wp2_with fail
        refine (specBankOk_any ⟨.slice ka kml kc, .slice ja jcl jc, zmon, zcnt⟩ _ A.fz.rd).mono ?_
        rintro e u4 ⟨rfl, hb⟩
        replace A := A.below hb
        clear hb g0 g1
        simp only
        cases hok : bankOk zmon zcnt with
        | false =>
          clear hok
          have q1 := one_rd u4 s
          have p1 := A.txt.below (below1 u4 (.cells #[.string s] 9))
          have z1 : g + 1 ≤ (u4.alloc (.cells #[.string s] 9)).heap.size := by have h1 := A.bz.lt; have h2 := A.ne; simp at h1 ⊢; omega
          go_wp2_with (at_builtin; (refine wpList_append_txts rfl _ _ rfl (g + 1) _ _ ss [s] rfl rfl p1 q1 (fun _ _ e => by cases e) (by have := HLL.out; simp; omega) z1 ?_))
          intro v' w9 o9 hg9
          have A9 := A.grow hg9 o9 (fun x hx => by
            rcases List.mem_append.1 hx with hx | hx
            · exact A.sz x hx
            · rw [List.mem_singleton.1 hx]; omega) (by simp)
          have HS9 : Hid ((ss ++ [s]).length + k ≤ 5) := by have := HSS.out; unfold Hid; rw [List.length_append]; simp; omega
          clear p1 q1 z1 o9 hg9 A HSS HLL HLN hz
          go_wp2
          go_roundw
          case rel => exact ⟨k, _, _, by go_num, by omega, HS9, A9⟩
          case measure => simp [intOf]
        | true =>
          have HOK : Hid (BankP zmon zcnt) := bankOk_iff.1 hok
          clear hok hz
          obtain ⟨g0, g1, -, -⟩ := A.bz.facts
          simp only at g0 g1
          go_wp2_with fail
          refine (drawRight_any ⟨.slice ka kml kc, .slice ja jcl jc, zmon, zcnt⟩ (g + 1) W0 _ g A.dc A.fz (by omega)).mono ?_
          rintro e u5 ⟨t, rfl, hz, hc, hg⟩
          replace A := A.own hc hg
          clear hc hg g0 g1
          have r5 := one_rd u5 t
          have hb5 := below1 u5 (.cells #[.string t] 9)
          have A5 := A.below hb5
          obtain ⟨g0, g1, -, -⟩ := A.bz.facts
          simp only at g0 g1
          clear A
          go_wp2_with fail
          refine (one_moved ⟨.slice ka kml kc, .slice ja jcl jc, zmon, zcnt⟩ _ t _ A5.fz.rd r5 (by omega) HOK.out).mono ?_
          rintro e u6 ⟨xa, xn, xc, xd, xm, xe, xf, xg, xh, xms, xcs, rfl, oX, okX, hb6⟩
          have hgx : g + 1 ≤ (u5.alloc (.cells #[.string t] 9)).heap.size := by have h1 := A5.bz.lt; have h2 := A5.ne; omega
          have fx := oX.fr.mono hgx
          have A6 := A5.below hb6
          clear A5 hb5 hb6 oX g0 g1 r5 hgx
          obtain ⟨g0, g1, g2, g3⟩ := A6.bz.facts
          simp only at g0 g1 g2 g3
          have A := A6.fill fx ⟨Nat.le_of_eq okX.1.1, Nat.le_of_eq okX.2.1.1⟩
          simp only at A
          clear A6 fx okX HOK
          have q1 := one_rd ((u6.setCell ⟨bb + 1, 0, none⟩ (.slice xa xn xc)).setCell ⟨bb + 1, 1, none⟩ (.slice xd xm xe)) t
          rw [show ((u6.setCell ⟨bb + 1, 0, none⟩ (.slice xa xn xc)).setCell ⟨bb + 1, 1, none⟩ (.slice xd xm xe)).heap.size = u6.heap.size from by simp] at q1
          have p1 := A.txt.below (below1 ((u6.setCell ⟨bb + 1, 0, none⟩ (.slice xa xn xc)).setCell ⟨bb + 1, 1, none⟩ (.slice xd xm xe)) (.cells #[.string t] 9))
          have z1 : g + 1 ≤ (((u6.setCell ⟨bb + 1, 0, none⟩ (.slice xa xn xc)).setCell ⟨bb + 1, 1, none⟩ (.slice xd xm xe)).alloc (.cells #[.string t] 9)).heap.size := by have h1 := A.bz.lt; have h2 := A.ne; simp at h1 ⊢; omega
          go_wp2_with (at_builtin; (refine wpList_append_txts rfl _ _ rfl (g + 1) _ _ ss [t] rfl rfl p1 q1 (fun _ _ e => by cases e) (by have := HLL.out; simp; omega) z1 ?_))
          intro v' w9 o9 hg9
          have A9 := A.grow hg9 o9 (fun x hx => by
            rcases List.mem_append.1 hx with hx | hx
            · exact A.sz x hx
            · rw [List.mem_singleton.1 hx]; omega) (by simp)
          have HS9 : Hid ((ss ++ [t]).length + k ≤ 5) := by have := HSS.out; unfold Hid; rw [List.length_append]; simp; omega
          clear p1 q1 z1 o9 hg9 A HSS HLL HLN hz
          go_wp2
          go_roundw
          case rel => exact ⟨k, _, _, by go_num, by omega, HS9, A9⟩
          case measure => simp [intOf]
    · have hm0 : m = 0 := by omega
      subst hm0
      have HF : Hid (AllD _ _ _) := ma_end A HY.out.1 HY.out.2 HLL.out
      obtain ⟨c0, c1, -, -⟩ := A.by'.facts
      obtain ⟨d0, d1, d2, d3⟩ := A.out.facts
      obtain ⟨f0, f1, -, -⟩ := (A.out.set0 (u := .slice pa yml pc)).set1 (u := .slice qa ycl qc) |>.facts
      simp only at HF c0 c1
      clear A HLL HSS HLN
      go_wp2
      exact bodyPost_ret (v := .tuple #[.agg #[.slice pa yml pc, .slice qa ycl qc], .slice la ln lc]) (by simp [results, Tryd.results7, go_sem, f0, f1]) rfl HF.out
end Go.Proofs.YtdleolgkbkoekaaDoor
