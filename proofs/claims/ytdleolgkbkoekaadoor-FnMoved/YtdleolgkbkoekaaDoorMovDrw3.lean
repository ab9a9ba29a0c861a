/- The draw of a bank. -/
-- UNF Gen
import Derived.Test.YtdleolgkbkoekaaDoorMovDrw2
import Derived.Deep.RegionWith
namespace Go.Proofs.YtdleolgkbkoekaaDoor
open Go.RowKit
/-- What the draw of a bank leaves. -/
def BkD (w0 w : World) (g : Nat) (e : Ending) (w' : World) : Prop := ∃ Y : BkX, e = .returned (.agg #[Y.vm, Y.vc]) ∧ FrBk w' w.heap.size Y ∧ Y.mon.length ≤ 8 ∧ Y.cnt.length ≤ 8 ∧ DCur w0 w' g ∧ w.grownBy w' (some g)
/-- Where the draw stands: the answer's box, the bank's box, the bank in rows of its own. -/
structure LD (w0 w W : World) (g bb lo : Nat) (Y : BkX) : Prop where
  K : Keep w0 w g W
  out : BoxBk W w.heap.size (.slice none 0 0) (.slice none 0 0)
  bx : BoxBk W bb Y.vm Y.vc
  ow : OwnBk W lo Y
  ok : BankP Y.mon Y.cnt
  ne : w.heap.size < bb
  hlo : w.heap.size < lo
theorem LD.below {w0 w W W' : World} {g bb lo : Nat} {Y : BkX} (h : LD w0 w W g bb lo Y) (hb : Below W.heap.size W W') : LD w0 w W' g bb lo Y :=
  ⟨h.K.below hb, h.out.below hb, h.bx.below hb, h.ow.below hb, h.ok, h.ne, h.hlo⟩
theorem LD.own {w0 w W W' : World} {g bb lo : Nat} {Y : BkX} (h : LD w0 w W g bb lo Y) (hc : DCur w0 W' g) (hg : W.grownBy W' (some g)) : LD w0 w W' g bb lo Y := by
  have h1 := h.K.2.2
  have h2 := h.ne
  have h3 := h.hlo
  exact ⟨h.K.own hc hg, h.out.gr hg (by omega), h.bx.gr hg (by omega), h.ow.gr hg (by omega), h.ok, h2, h3⟩
theorem LD.fill {w0 w W : World} {g bb lo lo2 : Nat} {Y Z : BkX} (h : LD w0 w W g bb lo Y) (hz : OwnBk W lo2 Z) (hk : BankP Z.mon Z.cnt) (h2 : w.heap.size < lo2) : LD w0 w ((W.setCell ⟨bb, 0, none⟩ Z.vm).setCell ⟨bb, 1, none⟩ Z.vc) g bb lo2 Z := by
  have hne := h.ne
  have hto : Touch [bb] W ((W.setCell ⟨bb, 0, none⟩ Z.vm).setCell ⟨bb, 1, none⟩ Z.vc) := (Touch.set (by simp)).trans (Touch.set (by simp))
  refine ⟨(h.K.set (by omega)).set (by omega), h.out.of_block (hto.block _ h.out.lt (fun e => by have := List.mem_singleton.1 e; omega)), h.bx.set0.set1, hz.touch hto (fun k hkz e => ?_), hk, hne, h2⟩
  rw [List.mem_singleton.1 e] at hkz
  exact h.bx.out hz hkz
theorem one_rd (w : World) (s : ByteArray) : RdS (w.alloc (.cells #[.string s] 9)) (.slice (some ⟨w.heap.size, 0, none⟩) 1 1) [s] := rdS_one w s
/-- One text more for a right bank. -/
theorem one_moved (Y : BkX) (v : Value) (s : ByteArray) (w : World) (hy : RdBk w Y) (hr : RdS w v [s]) (hs : s.size ≤ 1048576) (hok : BankP Y.mon Y.cnt) :
    Calls Tryd.prog 15 #[.agg #[Y.vm, Y.vc], v] w fun e w' => ∃ (a : Option Addr) (n c : Nat) (a' : Option Addr) (n' c' : Nat) (a'' : Option Addr) (n'' c'' : Nat) (ms cs : List Int), e = .returned (.tuple #[.agg #[.slice a n c, .slice a' n' c'], .slice a'' n'' c'']) ∧ OwnBk w' w.heap.size ⟨.slice a n c, .slice a' n' c', ms, cs⟩ ∧ BankP ms cs ∧ Below w.heap.size w w' := by
  obtain ⟨rs, hR⟩ := rmAll_ex [s]
  refine (specMovedAll_any Y v [s] rs w hy hr (fun k h => by
    have : k = 0 := by simpa using h
    subst this
    exact hs) (by simp) hR (by rw [hok.1.1, hok.2.1.1]; omega)).mono ?_
  intro e w' h
  obtain ⟨a, n, c, a', n', c', a'', n'', c'', rfl, ho, -, -, hb⟩ := h.open
  exact ⟨a, n, c, a', n', c', a'', n'', c'', _, _, rfl, ho, (allR_ok hok hR).1, hb⟩
-- THE DRAW
theorem step_obj {w : World} {ops : Array Oper} {o : Oper} {a : Act} {K : Act → World → Prop} {Q : Exit → Act → World → Prop} {E : Prop} (hgd : o.guard = none) (d : Nat) (hd : o.dst = some d) (ob : Obj) (v : Value)
    (hrun : (execOp a.eval o).run Tryd.prog w = .ok (.value v) (w.alloc ob)) (h : K (a.put (some d) v) (w.alloc ob)) :
    if Region.wanted o (yielded ops a.tmps) = true then Oper.wp Tryd.prog o a w K Q else E := by
  have hw : Region.wanted o (yielded ops a.tmps) = true := by simp [Region.wanted, hgd]
  rw [if_pos hw]
  rw [← hd] at h
  unfold Oper.wp
  rw [hrun]
  exact h
theorem OwnBk.setM {W : World} {lo gm cm j : Nat} {vc : Value} {ms cs : List Int} (h : OwnBk W lo ⟨.slice (some ⟨gm, 0, none⟩) 8 cm, vc, ms, cs⟩) (x : Int) : OwnBk (W.setCell ⟨gm, j, none⟩ (.int .i64 x)) lo ⟨.slice (some ⟨gm, 0, none⟩) 8 cm, vc, ms.set j x, cs⟩ :=
  ⟨ownI_set h.mon j x, row_set h.cnt (fun k hk e => h.two k (by rw [e]; rfl) hk), h.two⟩
theorem OwnBk.setC {W : World} {lo gc cc j : Nat} {vm : Value} {ms cs : List Int} (h : OwnBk W lo ⟨vm, .slice (some ⟨gc, 0, none⟩) 8 cc, ms, cs⟩) (x : Int) : OwnBk (W.setCell ⟨gc, j, none⟩ (.int .i64 x)) lo ⟨vm, .slice (some ⟨gc, 0, none⟩) 8 cc, ms, cs.set j x⟩ :=
  ⟨row_set h.mon (fun k hk e => h.two k hk (by rw [e]; rfl)), ownI_set h.cnt j x, h.two⟩
theorem bk_end {w0 w V : World} {g : Nat} {Y : BkX} (K : Keep w0 w g V) (fr : FrBk V (w.heap.size + 1) Y) (h1 : Y.mon.length ≤ 8) (h2 : Y.cnt.length ≤ 8) : BkD w0 w g (.returned (.agg #[Y.vm, Y.vc])) ((V.setCell ⟨w.heap.size, 0, none⟩ Y.vm).setCell ⟨w.heap.size, 1, none⟩ Y.vc) := by
  have K2 := (K.set (b := w.heap.size) (j := 0) (u := Y.vm) (Nat.le_refl _)).set (b := w.heap.size) (j := 1) (u := Y.vc) (Nat.le_refl _)
  refine ⟨Y, rfl, (fr.keep (fun k hk _ => ?_)).mono (by omega), h1, h2, K2.1, K2.2.1⟩
  rw [heap_setCell_other _ ⟨w.heap.size, 1, none⟩ k _ (by show k ≠ w.heap.size; omega), heap_setCell_other _ ⟨w.heap.size, 0, none⟩ k _ (by show k ≠ w.heap.size; omega)]
theorem bk_tail {V : World} {lo gm cm : Nat} {vc : Value} {ms cs : List Int} (h : FrBk V lo ⟨.slice (some ⟨gm, 0, none⟩) 8 cm, vc, ms, cs⟩) (hl : ms.length = 8) : FrBk V lo ⟨.slice (some ⟨gm, 1, none⟩) 7 (cm - 1), vc, ms.drop 1, cs⟩ := by
  refine ⟨⟨?_, h.rd.cnt⟩, fun a n c e => ?_, h.fc⟩
  · obtain ⟨a', c', e', h1', h2', _, h4⟩ := h.rd.mon
    simp only [Value.slice.injEq] at e'
    obtain ⟨ea, en, ec⟩ := e'
    subst ec
    rcases h4 with h4 | ⟨b, off, hb, hc⟩
    · simp only at h4
      rw [h4] at hl
      simp at hl
    · rw [hb] at ea
      simp only [Option.some.injEq, Addr.mk.injEq, and_true] at ea
      obtain ⟨rfl, rfl⟩ := ea
      refine ⟨some ⟨gm, 1, none⟩, cm - 1, by simp [hl], by simp at h1' ⊢; omega, by omega, (fun e => by cases e), .inr ⟨gm, 1, rfl, fun i hi => ?_⟩⟩
      simp only [List.length_drop] at hi
      have h5 := hc (i + 1) (by simp only; omega)
      rw [Nat.add_comm 1 i]
      simpa using h5
  · simp only [Value.slice.injEq, Option.some.injEq] at e
    have := h.fm ⟨gm, 0, none⟩ 8 cm rfl
    rw [← e.1]
    exact this
set_option maxHeartbeats 16000000 in
set_option maxRecDepth 100000 in
theorem l13Draw_any (w0 w : World) (g : Nat) (h : DCur w0 w g) :
    Calls Tryd.prog 22 #[.pointer (some ⟨g, 0, none⟩)] w fun e w' => BkD w0 w g e w' := by
  have b0 := below1 w (.cells #[.slice none 0 0, .slice none 0 0] 26)
  have K := (Keep.start h).below b0
  have bR := boxBk_new w (.slice none 0 0) (.slice none 0 0)
  have HGL : Hid (g < w.heap.size) := h.lt
  have s0 : (w.alloc (.cells #[.slice none 0 0, .slice none 0 0] 26)).heap.size = w.heap.size + 1 := by simp
  clear h b0
  go_enter Tryd.func22, Tryd.ntmps22
  go_wp2_with fail
  generalize w.alloc (.cells #[.slice none 0 0, .slice none 0 0] 26) = V0 at K bR s0 ⊢
  refine (specNewBank_any _).mono ?_
  intro e V1 h1
  obtain ⟨ya, yn, yc, yd, ym, ye, rfl, oY, hb1⟩ := h1.open
  have L0 : LD w0 w (V1.alloc (.cells #[.slice ya yn yc, .slice yd ym ye] 26)) g V1.heap.size V0.heap.size ⟨.slice ya yn yc, .slice yd ym ye, newM, newC⟩ :=
    ⟨(K.below hb1).below (below1 _ _), (bR.below hb1).below (below1 _ _), boxBk_new _ _ _, oY.below (below1 _ _), newB_ok, by have := hb1.size; omega, by omega⟩
  clear h1 oY hb1 K bR
  go_wp2_with fail
  generalize V1.alloc (.cells #[.slice ya yn yc, .slice yd ym ye] 26) = V2 at L0 ⊢
  generalize V1.heap.size = bb at L0 ⊢
  clear s0
  refine (l1Below_any w0 _ g 6 L0.K.1 (by omega) (by omega)).mono ?_
  rintro e V3 ⟨x, rfl, h0x, h1x, hc, hg⟩
  replace L0 := L0.own hc hg
  clear hc hg
  obtain ⟨m0, rfl⟩ := Int.eq_ofNat_of_zero_le h0x
  have hm0 : m0 ≤ 5 := by omega
  clear h0x h1x
  go_wp2
  go_loopw [4] (fun nn wr => ∃ (m lo : Nat) (Y : BkX), nn = .int .i64 (m : Int) ∧ m ≤ 5 ∧ LD w0 w wr g bb lo Y) (fun nn _ => (intOf nn).toNat)
  case atStart => exact ⟨m0, _, _, rfl, hm0, L0⟩
  case round =>
    clear L0 hm0
    obtain ⟨m, lo, Y, rfl, hm, L⟩ := hrel
    obtain ⟨yvm, yvc, ymon, ycnt⟩ := Y
    obtain ⟨pa, pc, e1⟩ := ownSl L.ow.mon
    obtain ⟨qa, qc, e2⟩ := ownSl L.ow.cnt
    simp only at e1 e2
    generalize ymon.length = yml at e1
    generalize ycnt.length = ycl at e2
    subst e1
    subst e2
    by_cases hmp : 0 < m
    · obtain ⟨k, rfl⟩ : ∃ k, m = k + 1 := ⟨m - 1, by omega⟩
      have hki : ((k + 1 : Nat) : Int) - 1 = (k : Int) := by omega
      have hkp : (0 : Int) < ((k + 1 : Nat) : Int) := by omega
      have HW : Hid (∀ W, LD w0 w W g bb lo ⟨.slice pa yml pc, .slice qa ycl qc, ymon, ycnt⟩ → Calls Tryd.prog 31 #[.pointer (some ⟨g, 0, none⟩), .agg #[.slice pa yml pc, .slice qa ycl qc]] W fun e w' => ∃ s : ByteArray, e = .returned (.string s) ∧ s.size ≤ 87 ∧ LD w0 w w' g bb lo ⟨.slice pa yml pc, .slice qa ycl qc, ymon, ycnt⟩) := fun W h => by
        have h1 := h.hlo
        have h2 := h.K.2.2
        refine (drawRight_any ⟨.slice pa yml pc, .slice qa ycl qc, ymon, ycnt⟩ lo w0 W g h.K.1 h.ow.fr (by omega)).mono ?_
        rintro e w' ⟨s, rfl, hs, hc, hg⟩
        exact ⟨s, rfl, hs, h.own hc hg⟩
      go_wp2_with fail
      refine wp_region_noPanic ?_
      refine wp_region_held_drew (S := fun _ => True) (by kernel_rfl) trivial (fun hS => ?_)
      replace L := L.below ((Below.refl _ _).drew)
      refine tkG 1 14 hS ?_
      try simp only [Act.put, List.setIfInBounds_toArray, List.set_cons_zero, List.set_cons_succ]
      revert hS
      revert L
      generalize wr.drew = V
      intro L hS
      refine wpAnyH_ready (rs := [0, 2]) (by kernel_rfl) (by simp) ?_
      refine AllReadyH.cons rfl (fun K hK => ?_) ?_
      obtain ⟨c0, c1, c2, c3⟩ := L.bx.facts
      simp only at c0 c1 c2 c3
      go_simp
      clear c0 c1 c2 c3 hS
      refine hK.out _ _ trivial (fun hS => ?_)
      clear hK K
      try simp only [List.setIfInBounds_toArray, List.set_cons_zero]
      clear hS
      refine listed_asK (l' := #[true, true, false, false, false, false, false, false, false, false]) (by kernel_rfl) ?_
      revert L
      revert V
      refine ?da0
      rotate_left 1
      refine AllReadyH.cons rfl (fun K hK => ?_) AllReadyH.nil
      obtain ⟨c0, c1, c2, c3⟩ := L.bx.facts
      simp only at c0 c1 c2 c3
      go_simp
      clear c0 c1 c2 c3 hS
      refine hK.out _ _ trivial (fun hS => ?_)
      clear hK K
      try simp only [List.setIfInBounds_toArray, List.set_cons_zero, List.set_cons_succ]
      clear hS
      refine listed_asK (l' := #[false, true, true, false, false, false, false, false, false, false]) (by kernel_rfl) ?_
      revert L
      revert V
      refine ?da2
      rotate_left 1
      intro V0 L
      have hS : (fun _ : World => True) V0 := trivial
      refine wpAnyH_ready (rs := [2]) (by kernel_rfl) (by simp) ?_
      refine AllReadyH.cons rfl (fun K hK => ?_) AllReadyH.nil
      obtain ⟨c0, c1, c2, c3⟩ := L.bx.facts
      simp only at c0 c1 c2 c3
      go_simp
      clear c0 c1 c2 c3 hS
      refine hK.out _ _ trivial (fun hS => ?_)
      clear hK K
      try simp only [List.setIfInBounds_toArray, List.set_cons_zero, List.set_cons_succ]
      clear hS
      refine listed_asK (l' := #[true, true, true, false, false, false, false, false, false, false]) (by kernel_rfl) ?_
      revert L
      revert V0
      refine ?da02
      rotate_left 1
      intro V0 L
      have hS : (fun _ : World => True) V0 := trivial
      refine wpAnyH_ready (rs := [0, 3]) (by kernel_rfl) (by simp) ?_
      refine AllReadyH.cons rfl (fun K hK => ?_) ?_
      obtain ⟨c0, c1, c2, c3⟩ := L.bx.facts
      simp only at c0 c1 c2 c3
      go_simp
      clear c0 c1 c2 c3 hS
      refine hK.out _ _ trivial (fun hS => ?_)
      clear hK K
      try simp only [List.setIfInBounds_toArray, List.set_cons_zero]
      clear hS
      refine listed_asK (l' := #[true, true, true, false, false, false, false, false, false, false]) (by kernel_rfl) ?_
      revert L
      revert V0
      exact ?da02
      refine AllReadyH.cons rfl (fun K hK => ?_) AllReadyH.nil
      go_simp
      refine (HW.out _ L).mono ?_
      rintro e V1 ⟨s, rfl, hs, hL⟩
      replace L := hL
      clear hL hS
      refine hK.out _ _ trivial (fun hS => ?_)
      clear hK K
      try simp only [List.setIfInBounds_toArray, List.set_cons_zero, List.set_cons_succ]
      clear hS
      refine listed_asK (l' := #[false, true, true, true, false, false, false, false, false, false]) (by kernel_rfl) ?_
      revert hs
      revert L
      revert s
      revert V1
      clear V0
      refine ?da23
      rotate_left 1
      intro V0 L
      have hS : (fun _ : World => True) V0 := trivial
      refine wpAnyH_ready (rs := [3]) (by kernel_rfl) (by simp) ?_
      refine AllReadyH.cons rfl (fun K hK => ?_) AllReadyH.nil
      go_simp
      refine (HW.out _ L).mono ?_
      rintro e V1 ⟨s, rfl, hs, hL⟩
      replace L := hL
      clear hL hS
      refine hK.out _ _ trivial (fun hS => ?_)
      clear hK K
      try simp only [List.setIfInBounds_toArray, List.set_cons_zero, List.set_cons_succ]
      clear hS
      refine listed_asK (l' := #[true, true, true, true, false, false, false, false, false, false]) (by kernel_rfl) ?_
      revert hs
      revert L
      revert s
      revert V1
      clear V0
      refine ?da023
      rotate_left 1
      intro V0 s L hs
      have hS : (fun _ : World => True) V0 := trivial
      refine wpAnyH_ready (rs := [0, 4]) (by kernel_rfl) (by simp) ?_
      refine AllReadyH.cons rfl (fun K hK => ?_) ?_
      obtain ⟨c0, c1, c2, c3⟩ := L.bx.facts
      simp only at c0 c1 c2 c3
      go_simp
      clear c0 c1 c2 c3 hS
      refine hK.out _ _ trivial (fun hS => ?_)
      clear hK K
      try simp only [List.setIfInBounds_toArray, List.set_cons_zero]
      clear hS
      refine listed_asK (l' := #[true, true, true, true, false, false, false, false, false, false]) (by kernel_rfl) ?_
      revert hs
      revert L
      revert s
      revert V0
      exact ?da023
      refine AllReadyH.cons rfl (fun K hK => ?_) AllReadyH.nil
      refine step_obj rfl 17 rfl (.cells #[.string s] 9) (.slice (some ⟨V0.heap.size, 0, none⟩) 1 1) (by go_simp; (try rfl)) ?_
      have hrow := one_rd V0 s
      replace L := L.below (below1 V0 (.cells #[.string s] 9))
      clear hS
      refine hK.out _ _ trivial (fun hS => ?_)
      clear hK K
      try simp only [List.setIfInBounds_toArray, List.set_cons_zero, List.set_cons_succ]
      revert hS
      revert hrow
      revert L
      generalize V0.alloc (.cells #[.string s] 9) = V1
      generalize V0.heap.size = rb
      intro L hrow hS
      clear hS
      refine listed_asK (l' := #[false, true, true, true, true, false, false, false, false, false]) (by kernel_rfl) ?_
      revert hrow
      revert hs
      revert L
      revert rb
      revert s
      revert V1
      clear V0
      refine ?da234
      rotate_left 1
      intro V0 s L hs
      have hS : (fun _ : World => True) V0 := trivial
      refine wpAnyH_ready (rs := [4]) (by kernel_rfl) (by simp) ?_
      refine AllReadyH.cons rfl (fun K hK => ?_) AllReadyH.nil
      refine step_obj rfl 17 rfl (.cells #[.string s] 9) (.slice (some ⟨V0.heap.size, 0, none⟩) 1 1) (by go_simp; (try rfl)) ?_
      have hrow := one_rd V0 s
      replace L := L.below (below1 V0 (.cells #[.string s] 9))
      clear hS
      refine hK.out _ _ trivial (fun hS => ?_)
      clear hK K
      try simp only [List.setIfInBounds_toArray, List.set_cons_zero, List.set_cons_succ]
      revert hS
      revert hrow
      revert L
      generalize V0.alloc (.cells #[.string s] 9) = V1
      generalize V0.heap.size = rb
      intro L hrow hS
      clear hS
      refine listed_asK (l' := #[true, true, true, true, true, false, false, false, false, false]) (by kernel_rfl) ?_
      revert hrow
      revert hs
      revert L
      revert rb
      revert s
      revert V1
      clear V0
      refine ?da0234
      rotate_left 1
      intro V0 s rb L hs hrow
      have hS : (fun _ : World => True) V0 := trivial
      refine wpAnyH_ready (rs := [0]) (by kernel_rfl) (by simp) ?_
      refine AllReadyH.cons rfl (fun K hK => ?_) AllReadyH.nil
      obtain ⟨c0, c1, c2, c3⟩ := L.bx.facts
      simp only at c0 c1 c2 c3
      go_simp
      clear c0 c1 c2 c3 hS
      refine hK.out _ _ trivial (fun hS => ?_)
      clear hK K
      try simp only [List.setIfInBounds_toArray, List.set_cons_zero]
      clear hS
      refine listed_asK (l' := #[true, true, true, true, true, false, false, false, false, false]) (by kernel_rfl) ?_
      revert hrow
      revert hs
      revert L
      revert rb
      revert s
      revert V0
      exact ?da0234
      intro V0 s rb L hs hrow
      have hS : (fun _ : World => True) V0 := trivial
      refine wpAnyH_ready (rs := [5]) (by kernel_rfl) (by simp) ?_
      refine AllReadyH.cons rfl (fun K hK => ?_) AllReadyH.nil
      go_simp
      refine (one_moved ⟨.slice pa yml pc, .slice qa ycl qc, ymon, ycnt⟩ _ s _ L.ow.rd hrow (by omega) L.ok).mono ?_
      rintro e V1 ⟨za, zn, zc, zd, zm, ze, zf, zg, zh, zms, zcs, rfl, oZ, okZ, hb⟩
      have hlz : w.heap.size < V0.heap.size := by have h1 := L.bx.lt; have h2 := L.ne; omega
      generalize V0.heap.size = loz at oZ hlz
      replace L := L.below hb
      clear hb hrow hs hS
      refine hK.out _ _ trivial (fun hS => ?_)
      clear hK K
      try simp only [List.setIfInBounds_toArray, List.set_cons_zero, List.set_cons_succ]
      refine tkG 6 12 hS ?_
      try simp only [Act.put, List.setIfInBounds_toArray, List.set_cons_zero, List.set_cons_succ]
      refine tkG 7 19 hS ?_
      try simp only [Act.put, List.setIfInBounds_toArray, List.set_cons_zero, List.set_cons_succ]
      refine tkG 8 20 hS ?_
      try simp only [Act.put, List.setIfInBounds_toArray, List.set_cons_zero, List.set_cons_succ]
      clear hS
      refine listed_asK (l' := #[true, true, true, true, true, true, true, true, true, false]) (by kernel_rfl) ?_
      revert hlz
      revert okZ
      revert oZ
      revert L
      revert loz
      revert zcs
      revert zms
      revert zh
      revert zg
      revert zf
      revert ze
      revert zm
      revert zd
      revert zc
      revert zn
      revert za
      revert rb
      revert s
      revert V1
      clear V0
      refine ?da02345
      rotate_left 1
      intro V0 s rb za zn zc zd zm ze zf zg zh zms zcs loz L oZ okZ hlz
      have hS : (fun _ : World => True) V0 := trivial
      refine wpAnyH_ready (rs := [9]) (by kernel_rfl) (by simp) ?_
      refine AllReadyH.cons rfl (fun K hK => ?_) AllReadyH.nil
      obtain ⟨c0, c1, c2, c3⟩ := L.bx.facts
      simp only at c0 c1 c2 c3
      have L2 := L.fill oZ okZ hlz
      simp only at L2
      go_simp
      clear c0 c1 c2 c3 hS L oZ okZ hlz
      have L := L2
      clear L2
      refine hK.out _ _ trivial (fun hS => ?_)
      clear hK K
      try simp only [List.setIfInBounds_toArray, List.set_cons_zero, List.set_cons_succ]
      revert hS
      revert L
      generalize (V0.setCell ⟨bb, 0, none⟩ (.slice za zn zc)).setCell ⟨bb, 1, none⟩ (.slice zd zm ze) = V1
      intro L hS
      clear hS
      refine listed_asK (l' := #[true, true, true, true, true, true, true, true, true, true]) (by kernel_rfl) ?_
      revert L
      revert loz
      revert zcs
      revert zms
      revert zh
      revert zg
      revert zf
      revert ze
      revert zm
      revert zd
      revert zc
      revert zn
      revert za
      revert rb
      revert s
      revert V1
      clear V0
      refine ?da023459
      rotate_left 1
      intro V0 s rb za zn zc zd zm ze zf zg zh zms zcs loz L
      have hS : (fun _ : World => True) V0 := trivial
      refine wpAnyH_done (by kernel_rfl) ?_ _
      refine NoPanic.normal ?_
      clear hS
      go_wp2
      go_roundw
      case rel => exact ⟨k, loz, _, by go_num, by omega, L⟩
      case measure => simp [intOf]
    · have hm0 : m = 0 := by omega
      subst hm0
      have HM8 : Hid (ymon.length = 8) := L.ok.1.1
      have HC8 : Hid (ycnt.length = 8) := L.ok.2.1.1
      obtain ⟨gm, cm, e1⟩ := ownI_some L.ow.mon (by intro h; simp only at h; have := HM8.out; rw [h] at this; simp at this)
      obtain ⟨gc, cc, e2⟩ := ownI_some L.ow.cnt (by intro h; simp only at h; have := HC8.out; rw [h] at this; simp at this)
      simp only [HM8.out, HC8.out, Value.slice.injEq] at e1 e2
      obtain ⟨e1a, e1b, e1c⟩ := e1
      obtain ⟨e2a, e2b, e2c⟩ := e2
      obtain rfl := e1c.symm
      obtain rfl := e2c.symm
      subst e1a
      subst e1b
      subst e2a
      subst e2b
      go_wp2_with fail
      refine (l1Once_any w0 _ g 12 L.K.1 (by omega) (by omega)).mono ?_
      rintro e V5 ⟨bo, rfl, hc, hg⟩
      replace L := L.own hc hg
      clear hc hg
      cases bo with
      | false =>
        have HF : Hid (BkD _ _ _ _ _) := bk_end L.K (L.ow.fr.mono L.hlo) (Nat.le_of_eq HM8.out) (Nat.le_of_eq HC8.out)
        obtain ⟨c0, c1, -, -⟩ := L.bx.facts
        obtain ⟨d0, d1, d2, d3⟩ := L.out.facts
        obtain ⟨f0, f1, -, -⟩ := (L.out.set0 (u := .slice (some ⟨gm, 0, none⟩) 8 cm)).set1 (u := .slice (some ⟨gc, 0, none⟩) 8 cc) |>.facts
        simp only at HF c0 c1
        clear L
        go_wp2
        exact bodyPost_ret (v := .agg #[.slice (some ⟨gm, 0, none⟩) 8 cm, .slice (some ⟨gc, 0, none⟩) 8 cc]) (by simp [results, Tryd.results22, go_sem, f0, f1]) rfl HF.out
      | true =>
        go_wp2_with fail
        refine (l1Below_any w0 _ g 3 L.K.1 (by omega) (by omega)).mono ?_
        rintro e V6 ⟨x, rfl, h0x, h1x, hc, hg⟩
        replace L := L.own hc hg
        clear hc hg
        obtain rfl | rfl | rfl : x = 0 ∨ x = 1 ∨ x = 2 := by omega
        · clear h0x h1x
          go_wp2_with fail
          refine wp_region_noPanic ?_
          refine wp_region_held_drew (S := fun _ => True) (by kernel_rfl) trivial (fun hS => ?_)
          replace L := L.below ((Below.refl _ _).drew)
          refine tkG 0 27 hS ?_
          try simp only [Act.put, List.setIfInBounds_toArray, List.set_cons_zero, List.set_cons_succ]
          refine tkG 3 30 hS ?_
          try simp only [Act.put, List.setIfInBounds_toArray, List.set_cons_zero, List.set_cons_succ]
          revert hS
          revert L
          generalize V6.drew = V
          intro L hS
          refine wpAnyH_ready (rs := [1, 2, 4]) (by kernel_rfl) (by simp) ?_
          refine AllReadyH.cons rfl (fun K hK => ?_) ?_
          obtain ⟨c0, c1, c2, c3⟩ := L.bx.facts
          simp only at c0 c1 c2 c3
          go_simp
          clear c0 c1 c2 c3 hS
          refine hK.out _ _ trivial (fun hS => ?_)
          clear hK K
          try simp only [List.setIfInBounds_toArray, List.set_cons_zero, List.set_cons_succ]
          clear hS
          refine listed_asK (l' := #[true, true, false, true, false, false, false, false, false]) (by kernel_rfl) ?_
          revert L
          revert V
          refine ?db1
          rotate_left 1
          refine AllReadyH.cons rfl (fun K hK => ?_) ?_
          refine step_obj rfl 29 rfl (.cells #[.int .i64 (-1), .int .i64 0, .int .i64 1000000000, .int .i64 999993000] 2) (.slice (some ⟨V.heap.size, 0, none⟩) 4 4) (by go_simp; (try rfl)) ?_
          have hrow : Row4 (V.alloc (.cells #[.int .i64 (-1), .int .i64 0, .int .i64 1000000000, .int .i64 999993000] 2)) V.heap.size (-1) (0) (1000000000) (999993000) := heap_alloc_new V _
          have nrb : V.heap.size ≠ g := by have h1 := L.K.2.2; have h2 := L.K.2.1.size; omega
          replace L := L.below (below1 V (.cells #[.int .i64 (-1), .int .i64 0, .int .i64 1000000000, .int .i64 999993000] 2))
          clear hS
          refine hK.out _ _ trivial (fun hS => ?_)
          clear hK K
          try simp only [List.setIfInBounds_toArray, List.set_cons_zero, List.set_cons_succ]
          revert hS
          revert L
          revert hrow
          revert nrb
          generalize V.alloc (.cells #[.int .i64 (-1), .int .i64 0, .int .i64 1000000000, .int .i64 999993000] 2) = V1
          generalize V.heap.size = rb
          intro nrb hrow L hS
          clear hS
          refine listed_asK (l' := #[true, false, true, true, false, false, false, false, false]) (by kernel_rfl) ?_
          revert hrow
          revert nrb
          revert L
          revert rb
          revert V1
          clear V
          refine ?db2
          rotate_left 1
          refine AllReadyH.cons rfl (fun K hK => ?_) AllReadyH.nil
          go_simp
          refine (l1Below_any w0 _ g 4 L.K.1 (by omega) (by omega)).mono ?_
          rintro e V1 ⟨y, rfl, h0y, h1y, hc, hg⟩
          obtain ⟨k, rfl⟩ := Int.eq_ofNat_of_zero_le h0y
          have hk : k < 4 := by omega
          have hki : (k : Int) < 4 := by omega
          replace L := L.own hc hg
          clear hc hg h0y h1y hS
          refine hK.out _ _ trivial (fun hS => ?_)
          clear hK K
          try simp only [List.setIfInBounds_toArray, List.set_cons_zero, List.set_cons_succ]
          clear hS
          refine listed_asK (l' := #[true, false, false, true, true, false, false, false, false]) (by kernel_rfl) ?_
          revert hki
          revert hk
          revert L
          revert k
          revert V1
          clear V
          refine ?db4
          rotate_left 1
          intro V0 L
          have hS : (fun _ : World => True) V0 := trivial
          refine wpAnyH_ready (rs := [2, 4]) (by kernel_rfl) (by simp) ?_
          refine AllReadyH.cons rfl (fun K hK => ?_) ?_
          refine step_obj rfl 29 rfl (.cells #[.int .i64 (-1), .int .i64 0, .int .i64 1000000000, .int .i64 999993000] 2) (.slice (some ⟨V0.heap.size, 0, none⟩) 4 4) (by go_simp; (try rfl)) ?_
          have hrow : Row4 (V0.alloc (.cells #[.int .i64 (-1), .int .i64 0, .int .i64 1000000000, .int .i64 999993000] 2)) V0.heap.size (-1) (0) (1000000000) (999993000) := heap_alloc_new V0 _
          have nrb : V0.heap.size ≠ g := by have h1 := L.K.2.2; have h2 := L.K.2.1.size; omega
          replace L := L.below (below1 V0 (.cells #[.int .i64 (-1), .int .i64 0, .int .i64 1000000000, .int .i64 999993000] 2))
          clear hS
          refine hK.out _ _ trivial (fun hS => ?_)
          clear hK K
          try simp only [List.setIfInBounds_toArray, List.set_cons_zero, List.set_cons_succ]
          revert hS
          revert L
          revert hrow
          revert nrb
          generalize V0.alloc (.cells #[.int .i64 (-1), .int .i64 0, .int .i64 1000000000, .int .i64 999993000] 2) = V1
          generalize V0.heap.size = rb
          intro nrb hrow L hS
          clear hS
          refine listed_asK (l' := #[true, true, true, true, false, false, false, false, false]) (by kernel_rfl) ?_
          revert hrow
          revert nrb
          revert L
          revert rb
          revert V1
          clear V0
          refine ?db12
          rotate_left 1
          refine AllReadyH.cons rfl (fun K hK => ?_) AllReadyH.nil
          go_simp
          refine (l1Below_any w0 _ g 4 L.K.1 (by omega) (by omega)).mono ?_
          rintro e V1 ⟨y, rfl, h0y, h1y, hc, hg⟩
          obtain ⟨k, rfl⟩ := Int.eq_ofNat_of_zero_le h0y
          have hk : k < 4 := by omega
          have hki : (k : Int) < 4 := by omega
          replace L := L.own hc hg
          clear hc hg h0y h1y hS
          refine hK.out _ _ trivial (fun hS => ?_)
          clear hK K
          try simp only [List.setIfInBounds_toArray, List.set_cons_zero, List.set_cons_succ]
          clear hS
          refine listed_asK (l' := #[true, true, false, true, true, false, false, false, false]) (by kernel_rfl) ?_
          revert hki
          revert hk
          revert L
          revert k
          revert V1
          clear V0
          refine ?db14
          rotate_left 1
          intro V0 rb L nrb hrow
          have hS : (fun _ : World => True) V0 := trivial
          refine wpAnyH_ready (rs := [1, 4]) (by kernel_rfl) (by simp) ?_
          refine AllReadyH.cons rfl (fun K hK => ?_) ?_
          obtain ⟨c0, c1, c2, c3⟩ := L.bx.facts
          simp only at c0 c1 c2 c3
          go_simp
          clear c0 c1 c2 c3 hS
          refine hK.out _ _ trivial (fun hS => ?_)
          clear hK K
          try simp only [List.setIfInBounds_toArray, List.set_cons_zero, List.set_cons_succ]
          clear hS
          refine listed_asK (l' := #[true, true, true, true, false, false, false, false, false]) (by kernel_rfl) ?_
          revert hrow
          revert nrb
          revert L
          revert rb
          revert V0
          exact ?db12
          refine AllReadyH.cons rfl (fun K hK => ?_) AllReadyH.nil
          go_simp
          refine (l1Below_any w0 _ g 4 L.K.1 (by omega) (by omega)).mono ?_
          rintro e V1 ⟨y, rfl, h0y, h1y, hc, hg⟩
          obtain ⟨k, rfl⟩ := Int.eq_ofNat_of_zero_le h0y
          have hk : k < 4 := by omega
          have hki : (k : Int) < 4 := by omega
          replace L := L.own hc hg
          replace hrow : Row4 V1 rb (-1) (0) (1000000000) (999993000) := blk_gr hrow hg nrb
          clear hc hg h0y h1y hS
          refine hK.out _ _ trivial (fun hS => ?_)
          clear hK K
          try simp only [List.setIfInBounds_toArray, List.set_cons_zero, List.set_cons_succ]
          refine tkG 5 32 hS ?_
          try simp only [Act.put, List.setIfInBounds_toArray, List.set_cons_zero, List.set_cons_succ]
          clear hS
          refine listed_asK (l' := #[true, false, true, true, true, true, false, false, false]) (by kernel_rfl) ?_
          revert hki
          revert hk
          revert hrow
          revert nrb
          revert L
          revert k
          revert rb
          revert V1
          clear V0
          refine ?db24
          rotate_left 1
          intro V0 k L hk hki
          have hS : (fun _ : World => True) V0 := trivial
          refine wpAnyH_ready (rs := [1, 2]) (by kernel_rfl) (by simp) ?_
          refine AllReadyH.cons rfl (fun K hK => ?_) ?_
          obtain ⟨c0, c1, c2, c3⟩ := L.bx.facts
          simp only at c0 c1 c2 c3
          go_simp
          clear c0 c1 c2 c3 hS
          refine hK.out _ _ trivial (fun hS => ?_)
          clear hK K
          try simp only [List.setIfInBounds_toArray, List.set_cons_zero, List.set_cons_succ]
          clear hS
          refine listed_asK (l' := #[true, true, false, true, true, false, false, false, false]) (by kernel_rfl) ?_
          revert hki
          revert hk
          revert L
          revert k
          revert V0
          exact ?db14
          refine AllReadyH.cons rfl (fun K hK => ?_) AllReadyH.nil
          refine step_obj rfl 29 rfl (.cells #[.int .i64 (-1), .int .i64 0, .int .i64 1000000000, .int .i64 999993000] 2) (.slice (some ⟨V0.heap.size, 0, none⟩) 4 4) (by go_simp; (try rfl)) ?_
          have hrow : Row4 (V0.alloc (.cells #[.int .i64 (-1), .int .i64 0, .int .i64 1000000000, .int .i64 999993000] 2)) V0.heap.size (-1) (0) (1000000000) (999993000) := heap_alloc_new V0 _
          have nrb : V0.heap.size ≠ g := by have h1 := L.K.2.2; have h2 := L.K.2.1.size; omega
          replace L := L.below (below1 V0 (.cells #[.int .i64 (-1), .int .i64 0, .int .i64 1000000000, .int .i64 999993000] 2))
          clear hS
          refine hK.out _ _ trivial (fun hS => ?_)
          clear hK K
          try simp only [List.setIfInBounds_toArray, List.set_cons_zero, List.set_cons_succ]
          revert hS
          revert L
          revert hrow
          revert nrb
          generalize V0.alloc (.cells #[.int .i64 (-1), .int .i64 0, .int .i64 1000000000, .int .i64 999993000] 2) = V1
          generalize V0.heap.size = rb
          intro nrb hrow L hS
          refine tkG 5 32 hS ?_
          try simp only [Act.put, List.setIfInBounds_toArray, List.set_cons_zero, List.set_cons_succ]
          clear hS
          refine listed_asK (l' := #[true, false, true, true, true, true, false, false, false]) (by kernel_rfl) ?_
          revert hki
          revert hk
          revert hrow
          revert nrb
          revert L
          revert k
          revert rb
          revert V1
          clear V0
          exact ?db24
          intro V0 rb L nrb hrow
          have hS : (fun _ : World => True) V0 := trivial
          refine wpAnyH_ready (rs := [4]) (by kernel_rfl) (by simp) ?_
          refine AllReadyH.cons rfl (fun K hK => ?_) AllReadyH.nil
          go_simp
          refine (l1Below_any w0 _ g 4 L.K.1 (by omega) (by omega)).mono ?_
          rintro e V1 ⟨y, rfl, h0y, h1y, hc, hg⟩
          obtain ⟨k, rfl⟩ := Int.eq_ofNat_of_zero_le h0y
          have hk : k < 4 := by omega
          have hki : (k : Int) < 4 := by omega
          replace L := L.own hc hg
          replace hrow : Row4 V1 rb (-1) (0) (1000000000) (999993000) := blk_gr hrow hg nrb
          clear hc hg h0y h1y hS
          refine hK.out _ _ trivial (fun hS => ?_)
          clear hK K
          try simp only [List.setIfInBounds_toArray, List.set_cons_zero, List.set_cons_succ]
          refine tkG 5 32 hS ?_
          try simp only [Act.put, List.setIfInBounds_toArray, List.set_cons_zero, List.set_cons_succ]
          clear hS
          refine listed_asK (l' := #[true, true, true, true, true, true, false, false, false]) (by kernel_rfl) ?_
          revert hki
          revert hk
          revert hrow
          revert nrb
          revert L
          revert k
          revert rb
          revert V1
          clear V0
          refine ?db124
          rotate_left 1
          intro V0 k L hk hki
          have hS : (fun _ : World => True) V0 := trivial
          refine wpAnyH_ready (rs := [2]) (by kernel_rfl) (by simp) ?_
          refine AllReadyH.cons rfl (fun K hK => ?_) AllReadyH.nil
          refine step_obj rfl 29 rfl (.cells #[.int .i64 (-1), .int .i64 0, .int .i64 1000000000, .int .i64 999993000] 2) (.slice (some ⟨V0.heap.size, 0, none⟩) 4 4) (by go_simp; (try rfl)) ?_
          have hrow : Row4 (V0.alloc (.cells #[.int .i64 (-1), .int .i64 0, .int .i64 1000000000, .int .i64 999993000] 2)) V0.heap.size (-1) (0) (1000000000) (999993000) := heap_alloc_new V0 _
          have nrb : V0.heap.size ≠ g := by have h1 := L.K.2.2; have h2 := L.K.2.1.size; omega
          replace L := L.below (below1 V0 (.cells #[.int .i64 (-1), .int .i64 0, .int .i64 1000000000, .int .i64 999993000] 2))
          clear hS
          refine hK.out _ _ trivial (fun hS => ?_)
          clear hK K
          try simp only [List.setIfInBounds_toArray, List.set_cons_zero, List.set_cons_succ]
          revert hS
          revert L
          revert hrow
          revert nrb
          generalize V0.alloc (.cells #[.int .i64 (-1), .int .i64 0, .int .i64 1000000000, .int .i64 999993000] 2) = V1
          generalize V0.heap.size = rb
          intro nrb hrow L hS
          refine tkG 5 32 hS ?_
          try simp only [Act.put, List.setIfInBounds_toArray, List.set_cons_zero, List.set_cons_succ]
          clear hS
          refine listed_asK (l' := #[true, true, true, true, true, true, false, false, false]) (by kernel_rfl) ?_
          revert hki
          revert hk
          revert hrow
          revert nrb
          revert L
          revert k
          revert rb
          revert V1
          clear V0
          exact ?db124
          intro V0 rb k L nrb hrow hk hki
          have hS : (fun _ : World => True) V0 := trivial
          refine wpAnyH_ready (rs := [1, 6]) (by kernel_rfl) (by simp) ?_
          refine AllReadyH.cons rfl (fun K hK => ?_) ?_
          obtain ⟨c0, c1, c2, c3⟩ := L.bx.facts
          simp only at c0 c1 c2 c3
          go_simp
          clear c0 c1 c2 c3 hS
          refine hK.out _ _ trivial (fun hS => ?_)
          clear hK K
          try simp only [List.setIfInBounds_toArray, List.set_cons_zero, List.set_cons_succ]
          clear hS
          refine listed_asK (l' := #[true, true, true, true, true, true, false, false, false]) (by kernel_rfl) ?_
          revert hki
          revert hk
          revert hrow
          revert nrb
          revert L
          revert k
          revert rb
          revert V0
          exact ?db124
          refine AllReadyH.cons rfl (fun K hK => ?_) AllReadyH.nil
          obtain ⟨z, hz⟩ := hrow.at k hk
          go_simp
          clear hz hrow nrb hk hki hS
          refine hK.out _ _ trivial (fun hS => ?_)
          clear hK K
          try simp only [List.setIfInBounds_toArray, List.set_cons_zero, List.set_cons_succ]
          clear hS
          refine listed_asK (l' := #[true, false, true, true, true, true, true, false, false]) (by kernel_rfl) ?_
          revert L
          revert z
          revert k
          revert rb
          revert V0
          refine ?db246
          rotate_left 1
          intro V0 rb k L nrb hrow hk hki
          have hS : (fun _ : World => True) V0 := trivial
          refine wpAnyH_ready (rs := [6]) (by kernel_rfl) (by simp) ?_
          refine AllReadyH.cons rfl (fun K hK => ?_) AllReadyH.nil
          obtain ⟨z, hz⟩ := hrow.at k hk
          go_simp
          clear hz hrow nrb hk hki hS
          refine hK.out _ _ trivial (fun hS => ?_)
          clear hK K
          try simp only [List.setIfInBounds_toArray, List.set_cons_zero, List.set_cons_succ]
          refine tkG 7 34 hS ?_
          try simp only [Act.put, List.setIfInBounds_toArray, List.set_cons_zero, List.set_cons_succ]
          clear hS
          refine listed_asK (l' := #[true, true, true, true, true, true, true, true, false]) (by kernel_rfl) ?_
          revert L
          revert z
          revert k
          revert rb
          revert V0
          refine ?db1246
          rotate_left 1
          intro V0 rb k z L
          have hS : (fun _ : World => True) V0 := trivial
          refine wpAnyH_ready (rs := [1]) (by kernel_rfl) (by simp) ?_
          refine AllReadyH.cons rfl (fun K hK => ?_) AllReadyH.nil
          obtain ⟨c0, c1, c2, c3⟩ := L.bx.facts
          simp only at c0 c1 c2 c3
          go_simp
          clear c0 c1 c2 c3 hS
          refine hK.out _ _ trivial (fun hS => ?_)
          clear hK K
          try simp only [List.setIfInBounds_toArray, List.set_cons_zero, List.set_cons_succ]
          refine tkG 7 34 hS ?_
          try simp only [Act.put, List.setIfInBounds_toArray, List.set_cons_zero, List.set_cons_succ]
          clear hS
          refine listed_asK (l' := #[true, true, true, true, true, true, true, true, false]) (by kernel_rfl) ?_
          revert L
          revert z
          revert k
          revert rb
          revert V0
          exact ?db1246
          intro V0 rb k z L
          have hS : (fun _ : World => True) V0 := trivial
          refine wpAnyH_ready (rs := [8]) (by kernel_rfl) (by simp) ?_
          refine AllReadyH.cons rfl (fun K hK => ?_) AllReadyH.nil
          obtain ⟨c0, c1⟩ := ownI_cell L.ow.mon 0 (by have := L.ok.1.1; simp only at this ⊢; omega)
          go_simp
          have oW := L.ow.setM (j := 0) z
          have K2 := L.K.set (b := gm) (j := 0) (u := .int .i64 z) (by have h1 := (L.ow.bound (k := gm) (by simp [bkB, oneB, Value.ownBlock])).1; have h2 := L.hlo; omega)
          have out2 := L.out.of_block (blkSet (w := V0) (j := 0) (u := .int .i64 z) (fun e => boxBk_row L.out L.ow.mon (by decide) gm rfl e.symm))
          have bx2 := L.bx.of_block (blkSet (w := V0) (j := 0) (u := .int .i64 z) (fun e => boxBk_row L.bx L.ow.mon (by decide) gm rfl e.symm))
          have hlo2 := L.hlo
          clear c0 c1 hS L
          refine hK.out _ _ trivial (fun hS => ?_)
          clear hK K
          try simp only [List.setIfInBounds_toArray, List.set_cons_zero, List.set_cons_succ]
          revert hS
          revert oW
          revert K2
          revert out2
          revert bx2
          generalize V0.setCell ⟨gm, 0, none⟩ (.int .i64 z) = V1
          intro bx2 out2 K2 oW hS
          clear hS
          refine listed_asK (l' := #[true, true, true, true, true, true, true, true, true]) (by kernel_rfl) ?_
          revert hlo2
          revert oW
          revert K2
          revert out2
          revert bx2
          revert z
          revert k
          revert rb
          revert V1
          clear V0
          refine ?db12468
          rotate_left 1
          intro V0 rb k z bx2 out2 K2 oW hlo2
          have hS : (fun _ : World => True) V0 := trivial
          refine wpAnyH_done (by kernel_rfl) ?_ _
          refine NoPanic.normal ?_
          clear hS
          have HF : Hid (BkD _ _ _ _ _) := bk_end K2 (oW.fr.mono hlo2) (by have := HM8.out; simp; omega) (by have := HC8.out; simp; omega)
          obtain ⟨c0, c1, -, -⟩ := bx2.facts
          obtain ⟨d0, d1, d2, d3⟩ := out2.facts
          obtain ⟨f0, f1, -, -⟩ := (out2.set0 (u := .slice (some ⟨gm, 0, none⟩) 8 cm)).set1 (u := .slice (some ⟨gc, 0, none⟩) 8 cc) |>.facts
          simp only at HF
          clear bx2 out2 K2 oW hlo2
          go_wp2
          exact bodyPost_ret (v := .agg #[.slice (some ⟨gm, 0, none⟩) 8 cm, .slice (some ⟨gc, 0, none⟩) 8 cc]) (by simp [results, Tryd.results22, go_sem, f0, f1]) rfl HF.out
        · clear h0x h1x
          go_wp2_with fail
          refine wp_region_noPanic ?_
          refine wp_region_held_drew (S := fun _ => True) (by kernel_rfl) trivial (fun hS => ?_)
          replace L := L.below ((Below.refl _ _).drew)
          refine tkG 0 37 hS ?_
          try simp only [Act.put, List.setIfInBounds_toArray, List.set_cons_zero, List.set_cons_succ]
          refine tkG 3 40 hS ?_
          try simp only [Act.put, List.setIfInBounds_toArray, List.set_cons_zero, List.set_cons_succ]
          revert hS
          revert L
          generalize V6.drew = V
          intro L hS
          refine wpAnyH_ready (rs := [1, 2, 4]) (by kernel_rfl) (by simp) ?_
          refine AllReadyH.cons rfl (fun K hK => ?_) ?_
          obtain ⟨c0, c1, c2, c3⟩ := L.bx.facts
          simp only at c0 c1 c2 c3
          go_simp
          clear c0 c1 c2 c3 hS
          refine hK.out _ _ trivial (fun hS => ?_)
          clear hK K
          try simp only [List.setIfInBounds_toArray, List.set_cons_zero, List.set_cons_succ]
          clear hS
          refine listed_asK (l' := #[true, true, false, true, false, false, false, false, false]) (by kernel_rfl) ?_
          revert L
          revert V
          refine ?dc1
          rotate_left 1
          refine AllReadyH.cons rfl (fun K hK => ?_) ?_
          refine step_obj rfl 39 rfl (.cells #[.int .i64 (-1), .int .i64 1000000, .int .i64 1000001] 2) (.slice (some ⟨V.heap.size, 0, none⟩) 3 3) (by go_simp; (try rfl)) ?_
          have hrow : Row3 (V.alloc (.cells #[.int .i64 (-1), .int .i64 1000000, .int .i64 1000001] 2)) V.heap.size (-1) (1000000) (1000001) := heap_alloc_new V _
          have nrb : V.heap.size ≠ g := by have h1 := L.K.2.2; have h2 := L.K.2.1.size; omega
          replace L := L.below (below1 V (.cells #[.int .i64 (-1), .int .i64 1000000, .int .i64 1000001] 2))
          clear hS
          refine hK.out _ _ trivial (fun hS => ?_)
          clear hK K
          try simp only [List.setIfInBounds_toArray, List.set_cons_zero, List.set_cons_succ]
          revert hS
          revert L
          revert hrow
          revert nrb
          generalize V.alloc (.cells #[.int .i64 (-1), .int .i64 1000000, .int .i64 1000001] 2) = V1
          generalize V.heap.size = rb
          intro nrb hrow L hS
          clear hS
          refine listed_asK (l' := #[true, false, true, true, false, false, false, false, false]) (by kernel_rfl) ?_
          revert hrow
          revert nrb
          revert L
          revert rb
          revert V1
          clear V
          refine ?dc2
          rotate_left 1
          refine AllReadyH.cons rfl (fun K hK => ?_) AllReadyH.nil
          go_simp
          refine (l1Below_any w0 _ g 3 L.K.1 (by omega) (by omega)).mono ?_
          rintro e V1 ⟨y, rfl, h0y, h1y, hc, hg⟩
          obtain ⟨k, rfl⟩ := Int.eq_ofNat_of_zero_le h0y
          have hk : k < 3 := by omega
          have hki : (k : Int) < 3 := by omega
          replace L := L.own hc hg
          clear hc hg h0y h1y hS
          refine hK.out _ _ trivial (fun hS => ?_)
          clear hK K
          try simp only [List.setIfInBounds_toArray, List.set_cons_zero, List.set_cons_succ]
          clear hS
          refine listed_asK (l' := #[true, false, false, true, true, false, false, false, false]) (by kernel_rfl) ?_
          revert hki
          revert hk
          revert L
          revert k
          revert V1
          clear V
          refine ?dc4
          rotate_left 1
          intro V0 L
          have hS : (fun _ : World => True) V0 := trivial
          refine wpAnyH_ready (rs := [2, 4]) (by kernel_rfl) (by simp) ?_
          refine AllReadyH.cons rfl (fun K hK => ?_) ?_
          refine step_obj rfl 39 rfl (.cells #[.int .i64 (-1), .int .i64 1000000, .int .i64 1000001] 2) (.slice (some ⟨V0.heap.size, 0, none⟩) 3 3) (by go_simp; (try rfl)) ?_
          have hrow : Row3 (V0.alloc (.cells #[.int .i64 (-1), .int .i64 1000000, .int .i64 1000001] 2)) V0.heap.size (-1) (1000000) (1000001) := heap_alloc_new V0 _
          have nrb : V0.heap.size ≠ g := by have h1 := L.K.2.2; have h2 := L.K.2.1.size; omega
          replace L := L.below (below1 V0 (.cells #[.int .i64 (-1), .int .i64 1000000, .int .i64 1000001] 2))
          clear hS
          refine hK.out _ _ trivial (fun hS => ?_)
          clear hK K
          try simp only [List.setIfInBounds_toArray, List.set_cons_zero, List.set_cons_succ]
          revert hS
          revert L
          revert hrow
          revert nrb
          generalize V0.alloc (.cells #[.int .i64 (-1), .int .i64 1000000, .int .i64 1000001] 2) = V1
          generalize V0.heap.size = rb
          intro nrb hrow L hS
          clear hS
          refine listed_asK (l' := #[true, true, true, true, false, false, false, false, false]) (by kernel_rfl) ?_
          revert hrow
          revert nrb
          revert L
          revert rb
          revert V1
          clear V0
          refine ?dc12
          rotate_left 1
          refine AllReadyH.cons rfl (fun K hK => ?_) AllReadyH.nil
          go_simp
          refine (l1Below_any w0 _ g 3 L.K.1 (by omega) (by omega)).mono ?_
          rintro e V1 ⟨y, rfl, h0y, h1y, hc, hg⟩
          obtain ⟨k, rfl⟩ := Int.eq_ofNat_of_zero_le h0y
          have hk : k < 3 := by omega
          have hki : (k : Int) < 3 := by omega
          replace L := L.own hc hg
          clear hc hg h0y h1y hS
          refine hK.out _ _ trivial (fun hS => ?_)
          clear hK K
          try simp only [List.setIfInBounds_toArray, List.set_cons_zero, List.set_cons_succ]
          clear hS
          refine listed_asK (l' := #[true, true, false, true, true, false, false, false, false]) (by kernel_rfl) ?_
          revert hki
          revert hk
          revert L
          revert k
          revert V1
          clear V0
          refine ?dc14
          rotate_left 1
          intro V0 rb L nrb hrow
          have hS : (fun _ : World => True) V0 := trivial
          refine wpAnyH_ready (rs := [1, 4]) (by kernel_rfl) (by simp) ?_
          refine AllReadyH.cons rfl (fun K hK => ?_) ?_
          obtain ⟨c0, c1, c2, c3⟩ := L.bx.facts
          simp only at c0 c1 c2 c3
          go_simp
          clear c0 c1 c2 c3 hS
          refine hK.out _ _ trivial (fun hS => ?_)
          clear hK K
          try simp only [List.setIfInBounds_toArray, List.set_cons_zero, List.set_cons_succ]
          clear hS
          refine listed_asK (l' := #[true, true, true, true, false, false, false, false, false]) (by kernel_rfl) ?_
          revert hrow
          revert nrb
          revert L
          revert rb
          revert V0
          exact ?dc12
          refine AllReadyH.cons rfl (fun K hK => ?_) AllReadyH.nil
          go_simp
          refine (l1Below_any w0 _ g 3 L.K.1 (by omega) (by omega)).mono ?_
          rintro e V1 ⟨y, rfl, h0y, h1y, hc, hg⟩
          obtain ⟨k, rfl⟩ := Int.eq_ofNat_of_zero_le h0y
          have hk : k < 3 := by omega
          have hki : (k : Int) < 3 := by omega
          replace L := L.own hc hg
          replace hrow : Row3 V1 rb (-1) (1000000) (1000001) := blk_gr hrow hg nrb
          clear hc hg h0y h1y hS
          refine hK.out _ _ trivial (fun hS => ?_)
          clear hK K
          try simp only [List.setIfInBounds_toArray, List.set_cons_zero, List.set_cons_succ]
          refine tkG 5 42 hS ?_
          try simp only [Act.put, List.setIfInBounds_toArray, List.set_cons_zero, List.set_cons_succ]
          clear hS
          refine listed_asK (l' := #[true, false, true, true, true, true, false, false, false]) (by kernel_rfl) ?_
          revert hki
          revert hk
          revert hrow
          revert nrb
          revert L
          revert k
          revert rb
          revert V1
          clear V0
          refine ?dc24
          rotate_left 1
          intro V0 k L hk hki
          have hS : (fun _ : World => True) V0 := trivial
          refine wpAnyH_ready (rs := [1, 2]) (by kernel_rfl) (by simp) ?_
          refine AllReadyH.cons rfl (fun K hK => ?_) ?_
          obtain ⟨c0, c1, c2, c3⟩ := L.bx.facts
          simp only at c0 c1 c2 c3
          go_simp
          clear c0 c1 c2 c3 hS
          refine hK.out _ _ trivial (fun hS => ?_)
          clear hK K
          try simp only [List.setIfInBounds_toArray, List.set_cons_zero, List.set_cons_succ]
          clear hS
          refine listed_asK (l' := #[true, true, false, true, true, false, false, false, false]) (by kernel_rfl) ?_
          revert hki
          revert hk
          revert L
          revert k
          revert V0
          exact ?dc14
          refine AllReadyH.cons rfl (fun K hK => ?_) AllReadyH.nil
          refine step_obj rfl 39 rfl (.cells #[.int .i64 (-1), .int .i64 1000000, .int .i64 1000001] 2) (.slice (some ⟨V0.heap.size, 0, none⟩) 3 3) (by go_simp; (try rfl)) ?_
          have hrow : Row3 (V0.alloc (.cells #[.int .i64 (-1), .int .i64 1000000, .int .i64 1000001] 2)) V0.heap.size (-1) (1000000) (1000001) := heap_alloc_new V0 _
          have nrb : V0.heap.size ≠ g := by have h1 := L.K.2.2; have h2 := L.K.2.1.size; omega
          replace L := L.below (below1 V0 (.cells #[.int .i64 (-1), .int .i64 1000000, .int .i64 1000001] 2))
          clear hS
          refine hK.out _ _ trivial (fun hS => ?_)
          clear hK K
          try simp only [List.setIfInBounds_toArray, List.set_cons_zero, List.set_cons_succ]
          revert hS
          revert L
          revert hrow
          revert nrb
          generalize V0.alloc (.cells #[.int .i64 (-1), .int .i64 1000000, .int .i64 1000001] 2) = V1
          generalize V0.heap.size = rb
          intro nrb hrow L hS
          refine tkG 5 42 hS ?_
          try simp only [Act.put, List.setIfInBounds_toArray, List.set_cons_zero, List.set_cons_succ]
          clear hS
          refine listed_asK (l' := #[true, false, true, true, true, true, false, false, false]) (by kernel_rfl) ?_
          revert hki
          revert hk
          revert hrow
          revert nrb
          revert L
          revert k
          revert rb
          revert V1
          clear V0
          exact ?dc24
          intro V0 rb L nrb hrow
          have hS : (fun _ : World => True) V0 := trivial
          refine wpAnyH_ready (rs := [4]) (by kernel_rfl) (by simp) ?_
          refine AllReadyH.cons rfl (fun K hK => ?_) AllReadyH.nil
          go_simp
          refine (l1Below_any w0 _ g 3 L.K.1 (by omega) (by omega)).mono ?_
          rintro e V1 ⟨y, rfl, h0y, h1y, hc, hg⟩
          obtain ⟨k, rfl⟩ := Int.eq_ofNat_of_zero_le h0y
          have hk : k < 3 := by omega
          have hki : (k : Int) < 3 := by omega
          replace L := L.own hc hg
          replace hrow : Row3 V1 rb (-1) (1000000) (1000001) := blk_gr hrow hg nrb
          clear hc hg h0y h1y hS
          refine hK.out _ _ trivial (fun hS => ?_)
          clear hK K
          try simp only [List.setIfInBounds_toArray, List.set_cons_zero, List.set_cons_succ]
          refine tkG 5 42 hS ?_
          try simp only [Act.put, List.setIfInBounds_toArray, List.set_cons_zero, List.set_cons_succ]
          clear hS
          refine listed_asK (l' := #[true, true, true, true, true, true, false, false, false]) (by kernel_rfl) ?_
          revert hki
          revert hk
          revert hrow
          revert nrb
          revert L
          revert k
          revert rb
          revert V1
          clear V0
          refine ?dc124
          rotate_left 1
          intro V0 k L hk hki
          have hS : (fun _ : World => True) V0 := trivial
          refine wpAnyH_ready (rs := [2]) (by kernel_rfl) (by simp) ?_
          refine AllReadyH.cons rfl (fun K hK => ?_) AllReadyH.nil
          refine step_obj rfl 39 rfl (.cells #[.int .i64 (-1), .int .i64 1000000, .int .i64 1000001] 2) (.slice (some ⟨V0.heap.size, 0, none⟩) 3 3) (by go_simp; (try rfl)) ?_
          have hrow : Row3 (V0.alloc (.cells #[.int .i64 (-1), .int .i64 1000000, .int .i64 1000001] 2)) V0.heap.size (-1) (1000000) (1000001) := heap_alloc_new V0 _
          have nrb : V0.heap.size ≠ g := by have h1 := L.K.2.2; have h2 := L.K.2.1.size; omega
          replace L := L.below (below1 V0 (.cells #[.int .i64 (-1), .int .i64 1000000, .int .i64 1000001] 2))
          clear hS
          refine hK.out _ _ trivial (fun hS => ?_)
          clear hK K
          try simp only [List.setIfInBounds_toArray, List.set_cons_zero, List.set_cons_succ]
          revert hS
          revert L
          revert hrow
          revert nrb
          generalize V0.alloc (.cells #[.int .i64 (-1), .int .i64 1000000, .int .i64 1000001] 2) = V1
          generalize V0.heap.size = rb
          intro nrb hrow L hS
          refine tkG 5 42 hS ?_
          try simp only [Act.put, List.setIfInBounds_toArray, List.set_cons_zero, List.set_cons_succ]
          clear hS
          refine listed_asK (l' := #[true, true, true, true, true, true, false, false, false]) (by kernel_rfl) ?_
          revert hki
          revert hk
          revert hrow
          revert nrb
          revert L
          revert k
          revert rb
          revert V1
          clear V0
          exact ?dc124
          intro V0 rb k L nrb hrow hk hki
          have hS : (fun _ : World => True) V0 := trivial
          refine wpAnyH_ready (rs := [1, 6]) (by kernel_rfl) (by simp) ?_
          refine AllReadyH.cons rfl (fun K hK => ?_) ?_
          obtain ⟨c0, c1, c2, c3⟩ := L.bx.facts
          simp only at c0 c1 c2 c3
          go_simp
          clear c0 c1 c2 c3 hS
          refine hK.out _ _ trivial (fun hS => ?_)
          clear hK K
          try simp only [List.setIfInBounds_toArray, List.set_cons_zero, List.set_cons_succ]
          clear hS
          refine listed_asK (l' := #[true, true, true, true, true, true, false, false, false]) (by kernel_rfl) ?_
          revert hki
          revert hk
          revert hrow
          revert nrb
          revert L
          revert k
          revert rb
          revert V0
          exact ?dc124
          refine AllReadyH.cons rfl (fun K hK => ?_) AllReadyH.nil
          obtain ⟨z, hz⟩ := hrow.at k hk
          go_simp
          clear hz hrow nrb hk hki hS
          refine hK.out _ _ trivial (fun hS => ?_)
          clear hK K
          try simp only [List.setIfInBounds_toArray, List.set_cons_zero, List.set_cons_succ]
          clear hS
          refine listed_asK (l' := #[true, false, true, true, true, true, true, false, false]) (by kernel_rfl) ?_
          revert L
          revert z
          revert k
          revert rb
          revert V0
          refine ?dc246
          rotate_left 1
          intro V0 rb k L nrb hrow hk hki
          have hS : (fun _ : World => True) V0 := trivial
          refine wpAnyH_ready (rs := [6]) (by kernel_rfl) (by simp) ?_
          refine AllReadyH.cons rfl (fun K hK => ?_) AllReadyH.nil
          obtain ⟨z, hz⟩ := hrow.at k hk
          go_simp
          clear hz hrow nrb hk hki hS
          refine hK.out _ _ trivial (fun hS => ?_)
          clear hK K
          try simp only [List.setIfInBounds_toArray, List.set_cons_zero, List.set_cons_succ]
          refine tkG 7 44 hS ?_
          try simp only [Act.put, List.setIfInBounds_toArray, List.set_cons_zero, List.set_cons_succ]
          clear hS
          refine listed_asK (l' := #[true, true, true, true, true, true, true, true, false]) (by kernel_rfl) ?_
          revert L
          revert z
          revert k
          revert rb
          revert V0
          refine ?dc1246
          rotate_left 1
          intro V0 rb k z L
          have hS : (fun _ : World => True) V0 := trivial
          refine wpAnyH_ready (rs := [1]) (by kernel_rfl) (by simp) ?_
          refine AllReadyH.cons rfl (fun K hK => ?_) AllReadyH.nil
          obtain ⟨c0, c1, c2, c3⟩ := L.bx.facts
          simp only at c0 c1 c2 c3
          go_simp
          clear c0 c1 c2 c3 hS
          refine hK.out _ _ trivial (fun hS => ?_)
          clear hK K
          try simp only [List.setIfInBounds_toArray, List.set_cons_zero, List.set_cons_succ]
          refine tkG 7 44 hS ?_
          try simp only [Act.put, List.setIfInBounds_toArray, List.set_cons_zero, List.set_cons_succ]
          clear hS
          refine listed_asK (l' := #[true, true, true, true, true, true, true, true, false]) (by kernel_rfl) ?_
          revert L
          revert z
          revert k
          revert rb
          revert V0
          exact ?dc1246
          intro V0 rb k z L
          have hS : (fun _ : World => True) V0 := trivial
          refine wpAnyH_ready (rs := [8]) (by kernel_rfl) (by simp) ?_
          refine AllReadyH.cons rfl (fun K hK => ?_) AllReadyH.nil
          obtain ⟨c0, c1⟩ := ownI_cell L.ow.cnt 1 (by have := L.ok.2.1.1; simp only at this ⊢; omega)
          go_simp
          have oW := L.ow.setC (j := 1) z
          have K2 := L.K.set (b := gc) (j := 1) (u := .int .i64 z) (by have h1 := (L.ow.bound (k := gc) (by simp [bkB, oneB, Value.ownBlock])).1; have h2 := L.hlo; omega)
          have out2 := L.out.of_block (blkSet (w := V0) (j := 1) (u := .int .i64 z) (fun e => boxBk_row L.out L.ow.cnt (by decide) gc rfl e.symm))
          have bx2 := L.bx.of_block (blkSet (w := V0) (j := 1) (u := .int .i64 z) (fun e => boxBk_row L.bx L.ow.cnt (by decide) gc rfl e.symm))
          have hlo2 := L.hlo
          clear c0 c1 hS L
          refine hK.out _ _ trivial (fun hS => ?_)
          clear hK K
          try simp only [List.setIfInBounds_toArray, List.set_cons_zero, List.set_cons_succ]
          revert hS
          revert oW
          revert K2
          revert out2
          revert bx2
          generalize V0.setCell ⟨gc, 1, none⟩ (.int .i64 z) = V1
          intro bx2 out2 K2 oW hS
          clear hS
          refine listed_asK (l' := #[true, true, true, true, true, true, true, true, true]) (by kernel_rfl) ?_
          revert hlo2
          revert oW
          revert K2
          revert out2
          revert bx2
          revert z
          revert k
          revert rb
          revert V1
          clear V0
          refine ?dc12468
          rotate_left 1
          intro V0 rb k z bx2 out2 K2 oW hlo2
          have hS : (fun _ : World => True) V0 := trivial
          refine wpAnyH_done (by kernel_rfl) ?_ _
          refine NoPanic.normal ?_
          clear hS
          have HF : Hid (BkD _ _ _ _ _) := bk_end K2 (oW.fr.mono hlo2) (by have := HM8.out; simp; omega) (by have := HC8.out; simp; omega)
          obtain ⟨c0, c1, -, -⟩ := bx2.facts
          obtain ⟨d0, d1, d2, d3⟩ := out2.facts
          obtain ⟨f0, f1, -, -⟩ := (out2.set0 (u := .slice (some ⟨gm, 0, none⟩) 8 cm)).set1 (u := .slice (some ⟨gc, 0, none⟩) 8 cc) |>.facts
          simp only at HF
          clear bx2 out2 K2 oW hlo2
          go_wp2
          exact bodyPost_ret (v := .agg #[.slice (some ⟨gm, 0, none⟩) 8 cm, .slice (some ⟨gc, 0, none⟩) 8 cc]) (by simp [results, Tryd.results22, go_sem, f0, f1]) rfl HF.out
        · clear h0x h1x
          have hcm : 8 ≤ cm ∧ cm ≤ 9223372036854775807 := by
            obtain ⟨a', c', e', h1', h2', -⟩ := L.ow.mon.rd
            simp only [Value.slice.injEq] at e'
            obtain ⟨-, -, rfl⟩ := e'
            unfold maxLen at h2'
            have := HM8.out
            simp only at h1'
            omega
          obtain ⟨hcm1, hcm2⟩ := hcm
          have oW : OwnBk (V6.setCell ⟨bb, 0, none⟩ (.slice (some ⟨gm, 1, none⟩) 7 (cm - 1))) lo ⟨.slice (some ⟨gm, 0, none⟩) 8 cm, .slice (some ⟨gc, 0, none⟩) 8 cc, ymon, ycnt⟩ := L.ow.touch (Touch.set (bs := [bb]) (by simp)) (fun k hk e => by rw [List.mem_singleton.1 e] at hk; exact L.bx.out L.ow hk)
          have fr8 := bk_tail (oW.fr.mono L.hlo) HM8.out
          have K2 := L.K.set (b := bb) (j := 0) (u := .slice (some ⟨gm, 1, none⟩) 7 (cm - 1)) (Nat.le_of_lt L.ne)
          have out2 := L.out.of_block (blkSet (w := V6) (c := bb) (j := 0) (u := .slice (some ⟨gm, 1, none⟩) 7 (cm - 1)) (fun e => by have := L.ne; omega))
          have HF : Hid (BkD _ _ _ _ _) := bk_end K2 fr8 (by have := HM8.out; simp; omega) (Nat.le_of_eq HC8.out)
          obtain ⟨c0, c1, c2, c3⟩ := L.bx.facts
          obtain ⟨d0, d1, d2, d3⟩ := L.out.facts
          obtain ⟨f0, f1, -, -⟩ := (out2.set0 (u := .slice (some ⟨gm, 1, none⟩) 7 (cm - 1))).set1 (u := .slice (some ⟨gc, 0, none⟩) 8 cc) |>.facts
          have nbb : w.heap.size ≠ bb := by have := L.ne; omega
          simp only at HF c0 c1 c2 c3
          clear L oW fr8 K2 out2
          go_wp2
          exact bodyPost_ret (v := .agg #[.slice (some ⟨gm, 1, none⟩) 7 (cm - 1), .slice (some ⟨gc, 0, none⟩) 8 cc]) (by simp [results, Tryd.results22, go_sem, f0, f1]) rfl HF.out
end Go.Proofs.YtdleolgkbkoekaaDoor
