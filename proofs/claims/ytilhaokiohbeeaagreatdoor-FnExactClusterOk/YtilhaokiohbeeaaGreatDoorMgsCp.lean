/- The laws' own helpers over rows of Messages: measured, copied, alike. -/
import Derived.Test.YtilhaokiohbeeaaGreatDoorMsgCq
import Derived.Test.YtilhaokiohbeeaaGreatDoorG14
import Derived.Deep.RegionHeld3
-- UNF Gen
namespace Go.Proofs.YtilhaokiohbeeaaGreatDoor
open Go.RowKit
theorem made_MsV (n : Nat) : (madeCells #[.int .i64 0, .int .i64 0, .int .i64 0, .int .i64 0, .int .i64 0, .int .i64 0, .int .i64 0, .int .i64 0, .slice none 0 0, .slice none 0 0, .slice none 0 0, .int .i64 0, .int .i64 0, .int .i64 0, .int .i64 0, .int .i64 0, .int .i64 0, .int .i64 0, .slice none 0 0, .slice none 0 0] (n * 20)).toList = MsV (List.replicate n zeroMs) := by
  apply List.ext_getElem?
  intro j
  by_cases hj : j < n * 20
  · have h1 : j / 20 < n := by omega
    have h2 := MsV_get (List.replicate n zeroMs) (j / 20) (by rw [List.length_replicate]; exact h1) (j % 20) (by omega)
    rw [show j / 20 * 20 + j % 20 = j by omega] at h2
    rw [h2, nthMs_eq (by rw [List.length_replicate]; exact h1), List.getElem_replicate]
    have h3 : j % 20 = 0 ∨ j % 20 = 1 ∨ j % 20 = 2 ∨ j % 20 = 3 ∨ j % 20 = 4 ∨ j % 20 = 5 ∨ j % 20 = 6 ∨ j % 20 = 7 ∨ j % 20 = 8 ∨ j % 20 = 9 ∨ j % 20 = 10 ∨ j % 20 = 11 ∨ j % 20 = 12 ∨ j % 20 = 13 ∨ j % 20 = 14 ∨ j % 20 = 15 ∨ j % 20 = 16 ∨ j % 20 = 17 ∨ j % 20 = 18 ∨ j % 20 = 19 := by omega
    rcases h3 with h | h | h | h | h | h | h | h | h | h | h | h | h | h | h | h | h | h | h | h <;> simp [madeCells, hj, h, MsC, zeroMs, zeroBs, zeroVo]
  · rw [List.getElem?_eq_none (by rw [Array.length_toList, size_madeCells]; omega), List.getElem?_eq_none (by rw [MsV_length, List.length_replicate]; omega)]
theorem MsV_setAll : ∀ (es : List MsX) (k : Nat), k < es.length → ∀ (x : MsX), ((((((((((((((((((((MsV es).set (k * 20) (.int .i64 x.kd)).set (k * 20 + 1) (.int .i64 x.fr)).set (k * 20 + 2) (.int .i64 x.to')).set (k * 20 + 3) (.int .i64 x.vw)).set (k * 20 + 4) (.int .i64 x.bl.b.vw)).set (k * 20 + 5) (.int .i64 x.bl.b.pa)).set (k * 20 + 6) (.int .i64 x.bl.b.p.vw)).set (k * 20 + 7) (.int .i64 x.bl.b.p.nm)).set (k * 20 + 8) (x.bl.vs)).set (k * 20 + 9) (x.bl.vt)).set (k * 20 + 10) (x.bl.vm)).set (k * 20 + 11) (.int .i64 x.bl.b.sv)).set (k * 20 + 12) (.int .i64 x.vo.vw)).set (k * 20 + 13) (.int .i64 x.vo.nm)).set (k * 20 + 14) (.int .i64 x.vo.sv)).set (k * 20 + 15) (.int .i64 x.vo.tg)).set (k * 20 + 16) (.int .i64 x.pf.p.vw)).set (k * 20 + 17) (.int .i64 x.pf.p.nm)).set (k * 20 + 18) (x.pf.vs)).set (k * 20 + 19) (x.pf.vt) = MsV (es.set k x)
  | [], k, h, _ => by simp at h
  | a :: r, 0, _, x => by simp [MsV, MsC]
  | a :: r, k + 1, hk, x => by
    have h := MsV_setAll r k (by simpa using hk) x
    rw [List.set_cons_succ, MsV_cons a r, MsV_cons a (r.set k x), ← h]
    have hc : (MsC a).length = 20 := rfl
    have st : ∀ (l : List Value) (i : Nat) (u : Value), (MsC a ++ l).set ((k + 1) * 20 + i) u = MsC a ++ l.set (k * 20 + i) u := fun l i u => by
      rw [List.set_append_right _ _ (by rw [hc]; omega), hc, show (k + 1) * 20 + i - 20 = k * 20 + i by omega]
    have st0 : ∀ (l : List Value) (u : Value), (MsC a ++ l).set ((k + 1) * 20) u = MsC a ++ l.set (k * 20) u := fun l u => st l 0 u
    rw [st0, st, st, st, st, st, st, st, st, st, st, st, st, st, st, st, st, st, st, st]
theorem nthMs_set_same {es : List MsX} {k : Nat} (hk : k < es.length) (e : MsX) : nthMs (es.set k e) k = e := by
  rw [nthMs_eq (by rw [List.length_set]; exact hk), List.getElem_set_self]
/-- A whole one stored. -/
def putMsR (w : World) (g o : Nat) (x : MsX) : World := (((((((((((((((((((w.setCell ⟨g, o, none⟩ (.int .i64 x.kd)).setCell ⟨g, o + 1, none⟩ (.int .i64 x.fr)).setCell ⟨g, o + 2, none⟩ (.int .i64 x.to')).setCell ⟨g, o + 3, none⟩ (.int .i64 x.vw)).setCell ⟨g, o + 4, none⟩ (.int .i64 x.bl.b.vw)).setCell ⟨g, o + 5, none⟩ (.int .i64 x.bl.b.pa)).setCell ⟨g, o + 6, none⟩ (.int .i64 x.bl.b.p.vw)).setCell ⟨g, o + 7, none⟩ (.int .i64 x.bl.b.p.nm)).setCell ⟨g, o + 8, none⟩ (x.bl.vs)).setCell ⟨g, o + 9, none⟩ (x.bl.vt)).setCell ⟨g, o + 10, none⟩ (x.bl.vm)).setCell ⟨g, o + 11, none⟩ (.int .i64 x.bl.b.sv)).setCell ⟨g, o + 12, none⟩ (.int .i64 x.vo.vw)).setCell ⟨g, o + 13, none⟩ (.int .i64 x.vo.nm)).setCell ⟨g, o + 14, none⟩ (.int .i64 x.vo.sv)).setCell ⟨g, o + 15, none⟩ (.int .i64 x.vo.tg)).setCell ⟨g, o + 16, none⟩ (.int .i64 x.pf.p.vw)).setCell ⟨g, o + 17, none⟩ (.int .i64 x.pf.p.nm)).setCell ⟨g, o + 18, none⟩ (x.pf.vs)).setCell ⟨g, o + 19, none⟩ (x.pf.vt)
theorem ownMs_storeA {w : World} {base g cap n : Nat} {es : List MsX} (ho : w.ownsRow base 38 20 (.slice (some ⟨g, 0, none⟩) n cap) n (MsV es)) {k : Nat} (hk : k < es.length) (x : MsX) :
    (putMsR w g (k * 20) x).ownsRow base 38 20 (.slice (some ⟨g, 0, none⟩) n cap) n (MsV (es.set k x)) := by
  have h0 := (ho.stored (k * 20) (.int .i64 x.kd)).1
  have h1 := (h0.stored (k * 20 + 1) (.int .i64 x.fr)).1
  have h2 := (h1.stored (k * 20 + 2) (.int .i64 x.to')).1
  have h3 := (h2.stored (k * 20 + 3) (.int .i64 x.vw)).1
  have h4 := (h3.stored (k * 20 + 4) (.int .i64 x.bl.b.vw)).1
  have h5 := (h4.stored (k * 20 + 5) (.int .i64 x.bl.b.pa)).1
  have h6 := (h5.stored (k * 20 + 6) (.int .i64 x.bl.b.p.vw)).1
  have h7 := (h6.stored (k * 20 + 7) (.int .i64 x.bl.b.p.nm)).1
  have h8 := (h7.stored (k * 20 + 8) (x.bl.vs)).1
  have h9 := (h8.stored (k * 20 + 9) (x.bl.vt)).1
  have h10 := (h9.stored (k * 20 + 10) (x.bl.vm)).1
  have h11 := (h10.stored (k * 20 + 11) (.int .i64 x.bl.b.sv)).1
  have h12 := (h11.stored (k * 20 + 12) (.int .i64 x.vo.vw)).1
  have h13 := (h12.stored (k * 20 + 13) (.int .i64 x.vo.nm)).1
  have h14 := (h13.stored (k * 20 + 14) (.int .i64 x.vo.sv)).1
  have h15 := (h14.stored (k * 20 + 15) (.int .i64 x.vo.tg)).1
  have h16 := (h15.stored (k * 20 + 16) (.int .i64 x.pf.p.vw)).1
  have h17 := (h16.stored (k * 20 + 17) (.int .i64 x.pf.p.nm)).1
  have h18 := (h17.stored (k * 20 + 18) (x.pf.vs)).1
  have h19 := (h18.stored (k * 20 + 19) (x.pf.vt)).1
  rw [← MsV_setAll es k hk x]
  exact h19
theorem below_putMsR {a W : World} {g o : Nat} {x : MsX} (h : Below a.heap.size a W) (hg : a.heap.size ≤ g) : Below a.heap.size a (putMsR W g o x) :=
  (((((((((((((((((((h.setCell (p := ⟨g, _, none⟩) hg _).setCell (p := ⟨g, _, none⟩) hg _).setCell (p := ⟨g, _, none⟩) hg _).setCell (p := ⟨g, _, none⟩) hg _).setCell (p := ⟨g, _, none⟩) hg _).setCell (p := ⟨g, _, none⟩) hg _).setCell (p := ⟨g, _, none⟩) hg _).setCell (p := ⟨g, _, none⟩) hg _).setCell (p := ⟨g, _, none⟩) hg _).setCell (p := ⟨g, _, none⟩) hg _).setCell (p := ⟨g, _, none⟩) hg _).setCell (p := ⟨g, _, none⟩) hg _).setCell (p := ⟨g, _, none⟩) hg _).setCell (p := ⟨g, _, none⟩) hg _).setCell (p := ⟨g, _, none⟩) hg _).setCell (p := ⟨g, _, none⟩) hg _).setCell (p := ⟨g, _, none⟩) hg _).setCell (p := ⟨g, _, none⟩) hg _).setCell (p := ⟨g, _, none⟩) hg _).setCell (p := ⟨g, _, none⟩) hg _
theorem touch_putMsR {W : World} {g o : Nat} {x : MsX} : Touch [g] W (putMsR W g o x) := by
  have hin : g ∈ [g] := List.mem_singleton.2 rfl
  exact (((((((((((((((((((Touch.set hin).trans (Touch.set hin)).trans (Touch.set hin)).trans (Touch.set hin)).trans (Touch.set hin)).trans (Touch.set hin)).trans (Touch.set hin)).trans (Touch.set hin)).trans (Touch.set hin)).trans (Touch.set hin)).trans (Touch.set hin)).trans (Touch.set hin)).trans (Touch.set hin)).trans (Touch.set hin)).trans (Touch.set hin)).trans (Touch.set hin)).trans (Touch.set hin)).trans (Touch.set hin)).trans (Touch.set hin)).trans (Touch.set hin)
theorem MsgAt.range {w : World} {b o : Nat} {e : MsX} (h : MsgAt w b o e) : w.rangeAt b o (MsC e) := fun _ _ hv => h.cellAt hv
theorem take_snocMs {xs : List MsX} {k : Nat} (hk : k < xs.length) : xs.take (k + 1) = xs.take k ++ [nthMs xs k] := by rw [List.take_succ_eq_append_getElem hk, nthMs_eq hk]
theorem RdMs.atN {w : World} {a : Option Addr} {n cap : Nat} {es : List MsX} (h : RdMs w (.slice a n cap) es) (i : Nat) (hi : i < es.length) : ∃ b off, a = some ⟨b, off, none⟩ ∧ MsgAt w b (off + i * 20) (nthMs es i) := by
  obtain ⟨a', cap', hv, _, _, _, h3⟩ := h
  simp only [Value.slice.injEq] at hv
  obtain ⟨rfl, _, _⟩ := hv
  rcases h3 with rfl | ⟨b, off, ha, hc⟩
  · simp at hi
  · exact ⟨b, off, ha, hc i hi⟩
def SzMs (w : World) (ts : List MsX) (l : Int) (e : Ending) (w' : World) : Prop :=
  Below w.heap.size w w' ∧ ∃ z : Int, e = .returned (.int .i64 z) ∧ (z = -1 ∨ 0 ≤ z ∧ z ≤ l ∧ ts.length ≤ 1048576 ∧ ∀ t ∈ ts, SmallMs t)
set_option maxHeartbeats 1000000 in
set_option maxRecDepth 100000 in
theorem szMs_at (v : Value) (ts : List MsX) (l : Int) (w : World) (hr : RdMs w v ts) (hi : InMs w ts) (hh : ∀ t ∈ ts, TxtMs t) (hl0 : 0 ≤ l) (hl1 : l ≤ 1048576) :
    Calls Tryz.prog 134 #[v, .int .i64 l] w fun e w' => SzMs w ts l e w' := by
  obtain ⟨a, cap, hv, hla, hma, -⟩ := id hr
  obtain ⟨nn, hnn⟩ : ∃ nn, nn = ts.length := ⟨_, rfl⟩
  have HNN : Hid (nn = ts.length) := hnn
  rw [← hnn] at hv hla
  subst hv
  unfold maxLen at hma
  have HH : Hid (∀ t ∈ ts, TxtMs t) := hh
  clear hnn hh
  by_cases hbig : l < (nn : Int)
  · have hb2 : l - (nn : Int) < 0 := by omega
    go_enter Tryz.func134, Tryz.ntmps134
    go_wp2
    go_ret
    exact ⟨Below.refl _ _, -1, rfl, .inl rfl⟩
  · have hb2 : ¬ l - (nn : Int) < 0 := by omega
    go_enter Tryz.func134, Tryz.ntmps134
    go_wp2
    go_loopw [1, 5] (fun lv i wr => ∃ (k : Nat) (x : Int), k ≤ nn ∧ i = .int .i64 k ∧ lv = .int .i64 x ∧ 0 ≤ x ∧ x ≤ 1048576 ∧ Hid (x ≤ l) ∧ Hid (∀ j, j < k → SmallMs (nthMs ts j)) ∧ Below w.heap.size w wr) (fun _ i _ => nn - (intOf i).toNat)
    case atStart => exact ⟨0, _, Nat.zero_le _, rfl, rfl, by omega, by omega, by unfold Hid; omega, (fun j h => by omega), Below.refl _ _⟩
    case round =>
      obtain ⟨k, x, hk, rfl, rfl, hx0, hx1, HX, HJ, hb⟩ := hrel
      by_cases hlt : k < nn
      · have hkl : k < ts.length := by rw [← HNN.out]; exact hlt
        obtain ⟨b, off, rfl, hc⟩ := (hr.below hb).atN k hkl
        have hri := (hi.below hb).nth hkl
        have hkc : k < cap := by omega
        have hht := HH.out (nthMs ts k) (by rw [nthMs_eq hkl]; exact List.getElem_mem hkl)
        have HJ2 : Hid (SmallMs (nthMs ts k) → ∀ j, j < k + 1 → SmallMs (nthMs ts j)) := fun h j hj => by
          by_cases e : j = k
          · rw [e]; exact h
          · exact HJ.out j (by omega)
        have HC : Hid (∀ W, RdMg W (nthMs ts k) → Calls Tryz.prog 47 #[.agg #[.int .i64 (nthMs ts k).kd, .int .i64 (nthMs ts k).fr, .int .i64 (nthMs ts k).to', .int .i64 (nthMs ts k).vw, .int .i64 (nthMs ts k).bl.b.vw, .int .i64 (nthMs ts k).bl.b.pa, .int .i64 (nthMs ts k).bl.b.p.vw, .int .i64 (nthMs ts k).bl.b.p.nm, (nthMs ts k).bl.vs, (nthMs ts k).bl.vt, (nthMs ts k).bl.vm, .int .i64 (nthMs ts k).bl.b.sv, .int .i64 (nthMs ts k).vo.vw, .int .i64 (nthMs ts k).vo.nm, .int .i64 (nthMs ts k).vo.sv, .int .i64 (nthMs ts k).vo.tg, .int .i64 (nthMs ts k).pf.p.vw, .int .i64 (nthMs ts k).pf.p.nm, (nthMs ts k).pf.vs, (nthMs ts k).pf.vt], .int .i64 x] W fun e w' => SzOneM W (nthMs ts k) x e w') := fun W h1 => szMsg_one _ x W h1 hht hx0 hx1
        generalize nthMs ts k = t at hc hri HJ2 HC
        obtain ⟨CC, hCC⟩ : ∃ CC : List Value, CC = MsC t := ⟨_, rfl⟩
        have hrg : wr.rangeAt b (off + k * 20) CC := by rw [hCC]; exact hc.range
        have hsz : (Tryz.prog.info? 92).map (·.size) = some CC.length := by rw [hCC]; kernel_rfl
        have HC2 : Hid (∀ W, RdMg W t → Calls Tryz.prog 47 #[.agg CC.toArray, .int .i64 x] W fun e w' => SzOneM W t x e w') := by rw [hCC]; exact HC
        clear hht hkl hCC hc
        go_wp2_with (refine wpList_load_mid rfl 92 _ rfl b (off + k * 20) rfl CC _ hrg Tryz.underlying92 (by rfl) hsz ?_)
        refine (HC2.out _ hri).mono ?_
        rintro e w2 ⟨hb2, z, rfl, hz⟩
        have bz := hb.trans (hb2.mono hb.size)
        clear HC HC2 hri hrg hsz hb hb2
        rcases hz with hz | ⟨hz0, hz1, hz2⟩
        · subst hz
          go_wp2
          go_ret
          exact ⟨bz, -1, rfl, .inl rfl⟩
        · have HX2 : Hid (z ≤ l) := by
            have h1 := HX.out
            unfold Hid
            omega
          have HJ3 : Hid (∀ j, j < k + 1 → SmallMs (nthMs ts j)) := HJ2.out hz2
          have hz3 : z ≤ 1048576 := by omega
          clear hz2 hz1 HJ2 HX
          go_wp2
          go_roundw
          case rel => exact ⟨k + 1, z, by omega, by go_num, rfl, hz0, hz3, HX2, HJ3, bz⟩
          case measure => simp [intOf]; omega
      · have hke : k = nn := by omega
        have HE : Hid (SzMs w ts l (.returned (.int .i64 x)) wr) := by
          refine ⟨hb, x, rfl, .inr ⟨hx0, HX.out, by rw [← HNN.out]; omega, fun t ht => ?_⟩⟩
          obtain ⟨j, hj, rfl⟩ := List.getElem_of_mem ht
          rw [← nthMs_eq hj]
          exact HJ.out j (by rw [hke, HNN.out]; exact hj)
        clear hke
        go_wp2
        go_ret
        exact HE.out
/-- The blocks of their rows. -/
def blksMs (ts : List MsX) : List Nat := ts.flatMap mgB
def InOMs (w : World) (lo : Nat) (Xs : List MsX) : Prop := ∀ X ∈ Xs, OwnMg w lo X
theorem InOMs.below {w w' : World} {lo : Nat} {Xs : List MsX} (h : InOMs w lo Xs) (hb : Below w.heap.size w w') : InOMs w' lo Xs := fun X hX => (h X hX).below hb
theorem InOMs.mono {w : World} {lo lo' : Nat} {Xs : List MsX} (h : InOMs w lo Xs) (hb : lo' ≤ lo) : InOMs w lo' Xs := fun X hX => (h X hX).mono hb
theorem InOMs.rd {w : World} {lo : Nat} {Xs : List MsX} (h : InOMs w lo Xs) : InMs w Xs := fun X hX => (h X hX).rd
theorem blksMs_bound {w : World} {lo : Nat} {ts : List MsX} (h : InOMs w lo ts) {k : Nat} (hk : k ∈ blksMs ts) : lo ≤ k ∧ k < w.heap.size := by
  obtain ⟨t, ht, hk⟩ := List.mem_flatMap.1 hk
  exact (h t ht).bound hk
/-- Rows of the call's own, none in another's block. -/
structure OwnL2Ms (w : World) (lo : Nat) (v : Value) (ts : List MsX) : Prop where
  row : OwnMs w lo v ts
  ins : InOMs w lo ts
  nod : (oneB v ++ blksMs ts).Nodup
theorem OwnL2Ms.below {w w' : World} {lo : Nat} {v : Value} {ts : List MsX} (h : OwnL2Ms w lo v ts) (hb : Below w.heap.size w w') : OwnL2Ms w' lo v ts := ⟨h.row.below hb, h.ins.below hb, h.nod⟩
theorem OwnL2Ms.mono {w : World} {lo lo' : Nat} {v : Value} {ts : List MsX} (h : OwnL2Ms w lo v ts) (hb : lo' ≤ lo) : OwnL2Ms w lo' v ts := ⟨h.row.mono hb, h.ins.mono hb, h.nod⟩
theorem OwnL2Ms.bound {w : World} {lo : Nat} {v : Value} {ts : List MsX} (h : OwnL2Ms w lo v ts) {k : Nat} (hk : k ∈ oneB v ++ blksMs ts) : lo ≤ k ∧ k < w.heap.size := by
  rcases List.mem_append.1 hk with hk | hk
  · exact World.ownsRow.lt h.row k (mem_oneB.1 hk)
  · exact blksMs_bound h.ins hk
theorem OwnL2Ms.touch {bs : List Nat} {w w' : World} {lo : Nat} {v : Value} {ts : List MsX} (h : OwnL2Ms w lo v ts) (ht : Touch bs w w') (hn : ∀ k ∈ oneB v ++ blksMs ts, k ∉ bs) : OwnL2Ms w' lo v ts :=
  ⟨ht.row h.row (fun k hk => hn k (List.mem_append_left _ (mem_oneB.2 hk))), fun X hX => (h.ins X hX).touch ht (fun k hk => hn k (List.mem_append_right _ (List.mem_flatMap.2 ⟨X, hX, hk⟩))), h.nod⟩
theorem blksMs_push (ts : List MsX) (t : MsX) : blksMs (ts ++ [t]) = blksMs ts ++ mgB t := by simp [blksMs]
def TosMs (w : World) (ts : List MsX) (e : Ending) (w' : World) : Prop := ∃ u us, e = .returned u ∧ us.map MsX.m = ts.map MsX.m ∧ OwnL2Ms w' w.heap.size u us ∧ Below w.heap.size w w'
set_option maxHeartbeats 4000000 in
set_option maxRecDepth 100000 in
theorem toMss_any (v : Value) (ts : List MsX) (w : World) (hr : RdMs w v ts) (hin : InMs w ts) (hn2 : ts.length ≤ 1048576) (hsm : ∀ t ∈ ts, SmallMs t) :
    Calls Tryz.prog 136 #[v] w fun e w' => TosMs w ts e w' := by
  obtain ⟨i0, hi, hz0, hz1, hz2⟩ := info_parts Tryz.infoMs38
  obtain ⟨a, cap, hv, hla, hma, -⟩ := id hr
  have HL : Hid (∀ t ∈ ts, SmallMs t) := hsm
  obtain ⟨nn, hnn⟩ : ∃ nn, nn = ts.length := ⟨_, rfl⟩
  have HNN : Hid (nn = ts.length) := hnn
  rw [← hnn] at hv hla hn2
  subst hv
  unfold maxLen at hma
  clear hnn hsm
  go_enter Tryz.func136, Tryz.ntmps136
  go_wp2_with (at_make; (refine wpList_make_full _ rfl _ _ 41 rfl w.heap.size 38 i0 _ 20 Tryz.underlying41 hi hz0 hz1 .i64 .i64 (nn : Int) (nn : Int) nn rfl rfl rfl rfl ?c1 ?c2 ?c3 ?_))
  case c1 => rw [hz2]; omega
  case c2 => unfold maxLen; omega
  case c3 => omega
  intro w1 ho1 hg1
  rw [made_MsV] at ho1
  have hb1 : Below w.heap.size w w1 := (Below.refl _ _).grown hg1 (Nat.le_refl _) (fun k hk => by cases hk)
  have hs1 : w.heap.size + 1 ≤ w1.heap.size := (World.ownsRow.lt ho1 w.heap.size rfl).2
  clear hg1
  go_wp2
  go_loopw [4] (fun i wr => ∃ (k : Nat) (us : List MsX), k ≤ nn ∧ i = .int .i64 k ∧ wr.ownsRow w.heap.size 38 20 (.slice (some ⟨w.heap.size, 0, none⟩) nn nn) nn (MsV (us ++ List.replicate (nn - k) zeroMs)) ∧ Hid (us.length = k ∧ us.map MsX.m = (ts.take k).map MsX.m ∧ InOMs wr (w.heap.size + 1) us ∧ (oneB (.slice (some ⟨w.heap.size, 0, none⟩) nn nn) ++ blksMs us).Nodup) ∧ w.heap.size + 1 ≤ wr.heap.size ∧ Below w.heap.size w wr) (fun i _ => nn - (intOf i).toNat)
  case atStart => exact ⟨0, [], Nat.zero_le _, rfl, by simpa using ho1, ⟨rfl, rfl, (fun t ht => by cases ht), by simp [blksMs, oneBN]⟩, hs1, hb1⟩
  case round =>
    obtain ⟨k, us, hk, rfl, ho, HC, hs, hb⟩ := hrel
    clear ho1 hb1 hs1
    by_cases hlt : k < nn
    · have hkl : k < ts.length := by rw [← HNN.out]; exact hlt
      obtain ⟨b, off, rfl, hc⟩ := (hr.below hb).atN k hkl
      have hri := (hin.below hb).nth hkl
      have hkc : k < cap := by omega
      have hlt2 := HL.out (nthMs ts k) (by rw [nthMs_eq hkl]; exact List.getElem_mem hkl)
      have HTK : Hid ((ts.take (k + 1)).map MsX.m = (ts.take k).map MsX.m ++ [MsX.m (nthMs ts k)]) := by unfold Hid; rw [take_snocMs hkl, List.map_append]; rfl
      have HCL : Hid (∀ W, RdMg W (nthMs ts k) → Calls Tryz.prog 49 #[.agg #[.int .i64 (nthMs ts k).kd, .int .i64 (nthMs ts k).fr, .int .i64 (nthMs ts k).to', .int .i64 (nthMs ts k).vw, .int .i64 (nthMs ts k).bl.b.vw, .int .i64 (nthMs ts k).bl.b.pa, .int .i64 (nthMs ts k).bl.b.p.vw, .int .i64 (nthMs ts k).bl.b.p.nm, (nthMs ts k).bl.vs, (nthMs ts k).bl.vt, (nthMs ts k).bl.vm, .int .i64 (nthMs ts k).bl.b.sv, .int .i64 (nthMs ts k).vo.vw, .int .i64 (nthMs ts k).vo.nm, .int .i64 (nthMs ts k).vo.sv, .int .i64 (nthMs ts k).vo.tg, .int .i64 (nthMs ts k).pf.p.vw, .int .i64 (nthMs ts k).pf.p.nm, (nthMs ts k).pf.vs, (nthMs ts k).pf.vt]] W fun e w' => ToMg W (MsX.m (nthMs ts k)) e w') := fun W h1 => toMessage_any _ W h1 hlt2.bl hlt2.pf
      generalize nthMs ts k = t at hc hri HTK HCL
      obtain ⟨CC, hCC⟩ : ∃ CC : List Value, CC = MsC t := ⟨_, rfl⟩
      have hrg : wr.rangeAt b (off + k * 20) CC := by rw [hCC]; exact hc.range
      have hsz : (Tryz.prog.info? 92).map (·.size) = some CC.length := by rw [hCC]; kernel_rfl
      have HCL2 : Hid (∀ W, RdMg W t → Calls Tryz.prog 49 #[.agg CC.toArray] W fun e w' => ToMg W (MsX.m t) e w') := by rw [hCC]; exact HCL
      clear hlt2 hkl hCC hc HCL
      go_wp2_with (refine wpList_load_mid rfl 92 _ rfl b (off + k * 20) rfl CC _ hrg Tryz.underlying92 (by rfl) hsz ?_)
      refine (HCL2.out _ hri).mono ?_
      rintro e w2 ⟨Y, he, hyb, hoy, hb2⟩
      obtain ⟨DD, hDD⟩ : ∃ DD : List Value, DD = MsC Y := ⟨_, rfl⟩
      have he2 : e = .returned (.agg DD.toArray) := by rw [he, hDD]; rfl
      clear he
      subst he2
      have ho2 := own_below ho hb2
      have hlen : (us ++ List.replicate (nn - k) zeroMs).length = nn := by rw [List.length_append, HC.out.1, List.length_replicate]; omega
      have hth : w2.there w.heap.size (k * 20) DD.toArray.size := fun j hj => by
        have hj2 : j < 20 := by rw [hDD] at hj; simpa [MsC] using hj
        refine ⟨?_, ho2.frozenAt (k * 20 + j)⟩
        rw [ho2.cellAt (k * 20 + j) (by omega), MsV_get _ k (by rw [hlen]; exact hlt) j hj2, List.getElem?_eq_getElem (show j < (MsC _).length from hj2)]
        rfl
      have hsd : (Tryz.prog.info? 38).map (·.size) = some DD.toArray.size := by rw [hDD]; kernel_rfl
      have h1c : DD.toArray.all (·.oneCell') = true := all_oneCell_toArray (by
        rw [hDD, ← MsV_one]
        exact MsV_oneCell [Y] (fun X hX => by rw [List.mem_singleton.1 hX]; exact hoy.rd.sl))
      have EQ : w2.setCells w.heap.size (k * 20) DD = putMsR w2 w.heap.size (k * 20) Y := by rw [hDD]; rfl
      have R1 := ownMs_storeA ho2 (k := k) (by rw [hlen]; exact hlt) Y
      have hset : (us ++ List.replicate (nn - k) zeroMs).set k Y = (us ++ [Y]) ++ List.replicate (nn - (k + 1)) zeroMs := by
        obtain ⟨m, hm⟩ : ∃ m, nn - k = m + 1 := ⟨nn - k - 1, by omega⟩
        rw [List.set_append_right _ _ (by rw [HC.out.1]; exact Nat.le_refl _), HC.out.1, Nat.sub_self, hm, show nn - (k + 1) = m by omega, List.replicate_succ, List.set_cons_zero, List.append_assoc]
        rfl
      rw [hset] at R1
      have b3 := hb.trans (hb2.mono hb.size)
      have hgne : ∀ {X : MsX}, OwnMg w2 (w.heap.size + 1) X → ∀ q ∈ mgB X, q ∉ [w.heap.size] := fun hX q hq e => by have := (hX.bound hq).1; have := List.mem_singleton.1 e; omega
      have HC2 : Hid ((us ++ [Y]).length = k + 1 ∧ (us ++ [Y]).map MsX.m = (ts.take (k + 1)).map MsX.m ∧ InOMs (putMsR w2 w.heap.size (k * 20) Y) (w.heap.size + 1) (us ++ [Y]) ∧ (oneB (.slice (some ⟨w.heap.size, 0, none⟩) nn nn) ++ blksMs (us ++ [Y])).Nodup) := by
        obtain ⟨g1, g2, g3, g4⟩ := HC.out
        refine ⟨by rw [List.length_append, g1]; rfl, by rw [List.map_append, g2, HTK.out]; simp [hyb], fun x hx => ?_, ?_⟩
        · rcases List.mem_append.1 hx with hx | hx
          · have h3 := (g3.below hb2) x hx
            exact h3.touch touch_putMsR (hgne h3)
          · rw [List.mem_singleton.1 hx]
            exact (hoy.mono hs).touch touch_putMsR (hgne (hoy.mono hs))
        · rw [blksMs_push, ← List.append_assoc, List.nodup_append]
          refine ⟨g4, hoy.nod, fun q hq p hp e => ?_⟩
          subst e
          have hq2 : q < wr.heap.size := by
            rcases List.mem_append.1 hq with hq | hq
            · have := mem_oneB.1 hq
              have : w.heap.size = q := Option.some.inj this
              omega
            · exact (blksMs_bound g3 hq).2
          have := (hoy.bound hp).1
          omega
      have b4 := below_putMsR (o := k * 20) (x := Y) b3 (Nat.le_refl _)
      have hs4 : w.heap.size + 1 ≤ w2.heap.size := Nat.le_trans hs hb2.size
      have hs5 : w.heap.size + 1 ≤ (putMsR w2 w.heap.size (k * 20) Y).heap.size := Nat.le_trans hs4 (touch_putMsR (W := w2) (g := w.heap.size) (o := k * 20) (x := Y)).size
      generalize putMsR w2 w.heap.size (k * 20) Y = WP at EQ R1 b4 HC2 hs5
      have H1 : Hid (World.ownsRow _ _ _ _ _ _ _) := R1
      have H4 : Hid (Below _ _ _) := b4
      have HEQ : Hid (w2.setCells w.heap.size (k * 20) DD = WP) := EQ
      clear ho ho2 hoy hb hb2 b3 b4 R1 hset hlen HC HTK HCL2 hri hyb hgne hrg hsz hDD EQ
      go_wp2_with (refine wpList_store_mid rfl 38 _ _ rfl w.heap.size (k * 20) DD.toArray rfl rfl hth hsd h1c ?_)
      try simp only [List.toList_toArray]
      rw [HEQ.out]
      go_roundw
      case rel => exact ⟨k + 1, _, by omega, by go_num, H1.out, HC2, hs5, H4.out⟩
      case measure => simp [intOf]; omega
    · have hke : k = nn := by omega
      have HEND : Hid (TosMs w ts (.returned (.slice (some ⟨w.heap.size, 0, none⟩) nn nn)) wr) := by
        obtain ⟨g1, g2, g3, g4⟩ := HC.out
        refine ⟨_, us, rfl, by rw [g2, hke, HNN.out, List.take_length], ⟨?_, g3.mono (by omega), g4⟩, hb⟩
        unfold OwnMs
        rw [g1, hke]
        rw [hke, Nat.sub_self, List.replicate_zero, List.append_nil] at ho
        exact ho
      clear ho HC hke
      go_wp2
      go_ret
      exact HEND.out
set_option maxHeartbeats 4000000 in
set_option maxRecDepth 100000 in
theorem eqMss_same (va vb : Value) (us qs : List MsX) (w : World) (ha : RdMs w va us) (hia : InMs w us) (hb : RdMs w vb qs) (hib : InMs w qs) (hs : us.map MsX.m = qs.map MsX.m) :
    Calls Tryz.prog 51 #[va, vb] w fun e w' => e = .returned (.bool true) ∧ Below w.heap.size w w' := by
  obtain ⟨aa, ca, hva, hla, hma, -⟩ := id ha
  obtain ⟨ab, cb, hvb, hlb, hmb, -⟩ := id hb
  have hl : qs.length = us.length := by have := congrArg List.length hs; simpa using this.symm
  rw [hl] at hvb hlb
  obtain ⟨nn, hnn⟩ : ∃ nn, nn = us.length := ⟨_, rfl⟩
  rw [← hnn] at hva hla hvb hlb hl
  have HNU : Hid (nn = us.length) := hnn
  have HNQ : Hid (qs.length = nn) := hl
  have HS : Hid (∀ k, k < nn → MsX.m (nthMs qs k) = MsX.m (nthMs us k)) := fun k hk => by
    have h1 : k < us.length := by omega
    have h2 : k < qs.length := by omega
    have := congrArg (fun l => l[k]?) hs
    simp only [List.getElem?_map, List.getElem?_eq_getElem h1, List.getElem?_eq_getElem h2, Option.map_some, Option.some.injEq] at this
    rw [nthMs_eq h1, nthMs_eq h2, this]
  unfold maxLen at hma hmb
  subst hva
  subst hvb
  have hne : ((nn : Int) != (nn : Int)) = false := by simp
  clear hnn hl hs
  go_enter Tryz.func51, Tryz.ntmps51
  go_wp2
  go_loopw [5] (fun i wr => ∃ k : Nat, k ≤ nn ∧ i = .int .i64 k ∧ Below w.heap.size w wr) (fun i _ => nn - (intOf i).toNat)
  case atStart => exact ⟨0, Nat.zero_le _, rfl, Below.refl _ _⟩
  case round =>
    obtain ⟨k, hk, rfl, hbw⟩ := hrel
    by_cases hlt : k < nn
    · obtain ⟨b1, o1, rfl, hc1⟩ := (ha.below hbw).atN k (by rw [← HNU.out]; exact hlt)
      obtain ⟨b2, o2, rfl, hc2⟩ := (hb.below hbw).atN k (by rw [HNQ.out]; exact hlt)
      have hi1 := (hia.below hbw).nth (i := k) (by rw [← HNU.out]; exact hlt)
      have hi2 := (hib.below hbw).nth (i := k) (by rw [HNQ.out]; exact hlt)
      have HT : Hid (MsX.m (nthMs us k) = MsX.m (nthMs qs k)) := (HS.out k hlt).symm
      have hkc1 : k < ca := by omega
      have hkc2 : k < cb := by omega
      generalize nthMs qs k = Z at hc2 hi2 HT
      generalize nthMs us k = Y at hc1 hi1 HT
      have HE : Hid (∀ W, RdMg W Y → RdMg W Z → Calls Tryz.prog 52 #[.agg #[.int .i64 Y.kd, .int .i64 Y.fr, .int .i64 Y.to', .int .i64 Y.vw, .int .i64 Y.bl.b.vw, .int .i64 Y.bl.b.pa, .int .i64 Y.bl.b.p.vw, .int .i64 Y.bl.b.p.nm, Y.bl.vs, Y.bl.vt, Y.bl.vm, .int .i64 Y.bl.b.sv, .int .i64 Y.vo.vw, .int .i64 Y.vo.nm, .int .i64 Y.vo.sv, .int .i64 Y.vo.tg, .int .i64 Y.pf.p.vw, .int .i64 Y.pf.p.nm, Y.pf.vs, Y.pf.vt], .agg #[.int .i64 Z.kd, .int .i64 Z.fr, .int .i64 Z.to', .int .i64 Z.vw, .int .i64 Z.bl.b.vw, .int .i64 Z.bl.b.pa, .int .i64 Z.bl.b.p.vw, .int .i64 Z.bl.b.p.nm, Z.bl.vs, Z.bl.vt, Z.bl.vm, .int .i64 Z.bl.b.sv, .int .i64 Z.vo.vw, .int .i64 Z.vo.nm, .int .i64 Z.vo.sv, .int .i64 Z.vo.tg, .int .i64 Z.pf.p.vw, .int .i64 Z.pf.p.nm, Z.pf.vs, Z.pf.vt]] W fun e w' => e = .returned (.bool true) ∧ Below W.heap.size W w') := fun W h1 h2 => eqMessage_same Y Z W h1 h2 HT.out
      obtain ⟨C1, hC1⟩ : ∃ C1 : List Value, C1 = MsC Y := ⟨_, rfl⟩
      obtain ⟨C2, hC2⟩ : ∃ C2 : List Value, C2 = MsC Z := ⟨_, rfl⟩
      have HQ1 : Hid (∀ w1, Below wr.heap.size wr w1 → w1.rangeAt b1 (o1 + k * 20) C1) := fun w1 h => by rw [hC1]; exact (hc1.below h).range
      have HQ2 : Hid (∀ w1, Below wr.heap.size wr w1 → w1.rangeAt b2 (o2 + k * 20) C2) := fun w1 h => by rw [hC2]; exact (hc2.below h).range
      have hs1 : (Tryz.prog.info? 38).map (·.size) = some C1.length := by rw [hC1]; kernel_rfl
      have hs2 : (Tryz.prog.info? 38).map (·.size) = some C2.length := by rw [hC2]; kernel_rfl
      have HE2 : Hid (∀ W, RdMg W Y → RdMg W Z → Calls Tryz.prog 52 #[.agg C1.toArray, .agg C2.toArray] W fun e w' => e = .returned (.bool true) ∧ Below W.heap.size W w') := by rw [hC1, hC2]; exact HE
      clear HT hC1 hC2 hc1 hc2 HE
      go_wp2_with fail
      refine wp_region_noPanic ?_
      refine wp_region_held_drew (S := fun w' => w'.rangeAt b1 (o1 + k * 20) C1 ∧ w'.rangeAt b2 (o2 + k * 20) C2) (by kernel_rfl) ⟨HQ1.out _ (Below.refl _ _).drew, HQ2.out _ (Below.refl _ _).drew⟩ (fun hH => ?_)
      refine tkG 0 17 hH ?_
      try simp only [Act.put, List.setIfInBounds_toArray, List.set_cons_zero, List.set_cons_succ]
      refine tkG 1 18 hH ?_
      try simp only [Act.put, List.setIfInBounds_toArray, List.set_cons_zero, List.set_cons_succ]
      refine tkG 2 19 hH ?_
      try simp only [Act.put, List.setIfInBounds_toArray, List.set_cons_zero, List.set_cons_succ]
      refine tkG 3 20 (v := .agg C1.toArray) hH ?_ (hy := fun w hS => exec_load_mid 38 _ rfl b1 (o1 + k * 20) rfl C1 _ hS.1 Tryz.underlying38 (by rfl) hs1)
      try simp only [Act.put, List.setIfInBounds_toArray, List.set_cons_zero, List.set_cons_succ]
      refine tkG 4 21 hH ?_
      try simp only [Act.put, List.setIfInBounds_toArray, List.set_cons_zero, List.set_cons_succ]
      refine tkG 5 22 hH ?_
      try simp only [Act.put, List.setIfInBounds_toArray, List.set_cons_zero, List.set_cons_succ]
      refine tkG 6 23 hH ?_
      try simp only [Act.put, List.setIfInBounds_toArray, List.set_cons_zero, List.set_cons_succ]
      refine tkG 7 24 (v := .agg C2.toArray) hH ?_ (hy := fun w hS => exec_load_mid 38 _ rfl b2 (o2 + k * 20) rfl C2 _ hS.2 Tryz.underlying38 (by rfl) hs2)
      try simp only [Act.put, List.setIfInBounds_toArray, List.set_cons_zero, List.set_cons_succ]
      refine wpAnyH_ready (rs := [8]) (by kernel_rfl) (by simp) ?_
      refine AllReadyH.cons rfl (fun K hK => ?_) AllReadyH.nil
      go_simp
      refine (HE2.out _ (hi1.below (Below.refl _ _).drew) (hi2.below (Below.refl _ _).drew)).mono ?_
      rintro e w1 ⟨rfl, hb1⟩
      refine hK.out _ _ ⟨HQ1.out _ ((Below.refl _ _).drew.trans hb1), HQ2.out _ ((Below.refl _ _).drew.trans hb1)⟩ (fun hA => ?_)
      clear hK K
      try simp only [Act.put, List.setIfInBounds_toArray, List.set_cons_zero, List.set_cons_succ]
      refine tkG 9 26 hA ?_
      try simp only [Act.put, List.setIfInBounds_toArray, List.set_cons_zero, List.set_cons_succ]
      refine wpAnyH_done (by kernel_rfl) ?_ _
      refine NoPanic.normal ?_
      have bz := hbw.drew.trans (hb1.mono hbw.size)
      clear hH hA HQ1 HQ2 hs1 hs2
      go_wp2
      go_roundw
      case rel => exact ⟨k + 1, by omega, by go_num, bz⟩
      case measure => simp [intOf]; omega
    · have hke : k = nn := by omega
      subst hke
      go_wp2
      go_ret
      exact ⟨rfl, hbw⟩
end Go.Proofs.YtilhaokiohbeeaaGreatDoor
