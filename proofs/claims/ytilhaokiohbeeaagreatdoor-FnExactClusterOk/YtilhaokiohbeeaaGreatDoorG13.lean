/- The laws' own helpers over rows of Replicas: measured, copied, alike. Boxes of twenty cells. -/
import Derived.Test.YtilhaokiohbeeaaGreatDoorRpsBase
import Derived.Deep.RegionHeld3
import Derived.Test.YtilhaokiohbeeaaGreatDoorG03
-- UNF Gen
namespace Go.Proofs.YtilhaokiohbeeaaGreatDoor
open Go.RowKit
theorem made_RsV (n : Nat) : (madeCells #[.int .i64 0, .int .i64 0, .int .i64 0, .int .i64 0, .int .i64 0, .int .i64 0, .int .i64 0, .int .i64 0, .slice none 0 0, .slice none 0 0, .slice none 0 0, .slice none 0 0, .slice none 0 0, .slice none 0 0] (n * 14)).toList = RsV (List.replicate n zeroRs) := by
  apply List.ext_getElem?
  intro j
  by_cases hj : j < n * 14
  · have h1 : j / 14 < n := by omega
    have h2 := RsV_get (List.replicate n zeroRs) (j / 14) (by rw [List.length_replicate]; exact h1) (j % 14) (by omega)
    rw [show j / 14 * 14 + j % 14 = j by omega] at h2
    rw [h2, nthRs_eq (by rw [List.length_replicate]; exact h1), List.getElem_replicate]
    have h3 : j % 14 = 0 ∨ j % 14 = 1 ∨ j % 14 = 2 ∨ j % 14 = 3 ∨ j % 14 = 4 ∨ j % 14 = 5 ∨ j % 14 = 6 ∨ j % 14 = 7 ∨ j % 14 = 8 ∨ j % 14 = 9 ∨ j % 14 = 10 ∨ j % 14 = 11 ∨ j % 14 = 12 ∨ j % 14 = 13 := by omega
    rcases h3 with h | h | h | h | h | h | h | h | h | h | h | h | h | h <;> simp [madeCells, hj, h, RsC, zeroRs]
  · rw [List.getElem?_eq_none (by rw [Array.length_toList, size_madeCells]; omega), List.getElem?_eq_none (by rw [RsV_length, List.length_replicate]; omega)]
theorem RsV_setAll : ∀ (es : List RepX) (k : Nat), k < es.length → ∀ (x : RepX), ((((((((((((((RsV es).set (k * 14) (.int .i64 x.idn)).set (k * 14 + 1) (.int .i64 x.n)).set (k * 14 + 2) (.int .i64 x.vw)).set (k * 14 + 3) (.int .i64 x.vo)).set (k * 14 + 4) (.int .i64 x.lo)).set (k * 14 + 5) (.int .i64 x.pr)).set (k * 14 + 6) (.int .i64 x.hi.p.vw)).set (k * 14 + 7) (.int .i64 x.hi.p.nm)).set (k * 14 + 8) (x.hi.vs)).set (k * 14 + 9) (x.hi.vt)).set (k * 14 + 10) (x.vb)).set (k * 14 + 11) (x.vv)).set (k * 14 + 12) (x.vn)).set (k * 14 + 13) (x.vd) = RsV (es.set k x)
  | [], k, h, _ => by simp at h
  | a :: r, 0, _, x => by simp [RsV, RsC]
  | a :: r, k + 1, hk, x => by
    have h := RsV_setAll r k (by simpa using hk) x
    rw [List.set_cons_succ, RsV_cons a r, RsV_cons a (r.set k x), ← h]
    have hc : (RsC a).length = 14 := rfl
    have st : ∀ (l : List Value) (i : Nat) (u : Value), (RsC a ++ l).set ((k + 1) * 14 + i) u = RsC a ++ l.set (k * 14 + i) u := fun l i u => by
      rw [List.set_append_right _ _ (by rw [hc]; omega), hc, show (k + 1) * 14 + i - 14 = k * 14 + i by omega]
    have st0 : ∀ (l : List Value) (u : Value), (RsC a ++ l).set ((k + 1) * 14) u = RsC a ++ l.set (k * 14) u := fun l u => st l 0 u
    rw [st0, st, st, st, st, st, st, st, st, st, st, st, st, st]
theorem nthRs_set_same {es : List RepX} {k : Nat} (hk : k < es.length) (e : RepX) : nthRs (es.set k e) k = e := by
  rw [nthRs_eq (by rw [List.length_set]; exact hk), List.getElem_set_self]
/-- A whole one stored. -/
def putRsR (w : World) (g o : Nat) (x : RepX) : World := (((((((((((((w.setCell ⟨g, o, none⟩ (.int .i64 x.idn)).setCell ⟨g, o + 1, none⟩ (.int .i64 x.n)).setCell ⟨g, o + 2, none⟩ (.int .i64 x.vw)).setCell ⟨g, o + 3, none⟩ (.int .i64 x.vo)).setCell ⟨g, o + 4, none⟩ (.int .i64 x.lo)).setCell ⟨g, o + 5, none⟩ (.int .i64 x.pr)).setCell ⟨g, o + 6, none⟩ (.int .i64 x.hi.p.vw)).setCell ⟨g, o + 7, none⟩ (.int .i64 x.hi.p.nm)).setCell ⟨g, o + 8, none⟩ (x.hi.vs)).setCell ⟨g, o + 9, none⟩ (x.hi.vt)).setCell ⟨g, o + 10, none⟩ (x.vb)).setCell ⟨g, o + 11, none⟩ (x.vv)).setCell ⟨g, o + 12, none⟩ (x.vn)).setCell ⟨g, o + 13, none⟩ (x.vd)
theorem ownRs_storeA {w : World} {base g cap n : Nat} {es : List RepX} (ho : w.ownsRow base 31 14 (.slice (some ⟨g, 0, none⟩) n cap) n (RsV es)) {k : Nat} (hk : k < es.length) (x : RepX) :
    (putRsR w g (k * 14) x).ownsRow base 31 14 (.slice (some ⟨g, 0, none⟩) n cap) n (RsV (es.set k x)) := by
  have h0 := (ho.stored (k * 14) (.int .i64 x.idn)).1
  have h1 := (h0.stored (k * 14 + 1) (.int .i64 x.n)).1
  have h2 := (h1.stored (k * 14 + 2) (.int .i64 x.vw)).1
  have h3 := (h2.stored (k * 14 + 3) (.int .i64 x.vo)).1
  have h4 := (h3.stored (k * 14 + 4) (.int .i64 x.lo)).1
  have h5 := (h4.stored (k * 14 + 5) (.int .i64 x.pr)).1
  have h6 := (h5.stored (k * 14 + 6) (.int .i64 x.hi.p.vw)).1
  have h7 := (h6.stored (k * 14 + 7) (.int .i64 x.hi.p.nm)).1
  have h8 := (h7.stored (k * 14 + 8) (x.hi.vs)).1
  have h9 := (h8.stored (k * 14 + 9) (x.hi.vt)).1
  have h10 := (h9.stored (k * 14 + 10) (x.vb)).1
  have h11 := (h10.stored (k * 14 + 11) (x.vv)).1
  have h12 := (h11.stored (k * 14 + 12) (x.vn)).1
  have h13 := (h12.stored (k * 14 + 13) (x.vd)).1
  rw [← RsV_setAll es k hk x]
  exact h13
theorem below_putRsR {a W : World} {g o : Nat} {x : RepX} (h : Below a.heap.size a W) (hg : a.heap.size ≤ g) : Below a.heap.size a (putRsR W g o x) :=
  (((((((((((((h.setCell (p := ⟨g, _, none⟩) hg _).setCell (p := ⟨g, _, none⟩) hg _).setCell (p := ⟨g, _, none⟩) hg _).setCell (p := ⟨g, _, none⟩) hg _).setCell (p := ⟨g, _, none⟩) hg _).setCell (p := ⟨g, _, none⟩) hg _).setCell (p := ⟨g, _, none⟩) hg _).setCell (p := ⟨g, _, none⟩) hg _).setCell (p := ⟨g, _, none⟩) hg _).setCell (p := ⟨g, _, none⟩) hg _).setCell (p := ⟨g, _, none⟩) hg _).setCell (p := ⟨g, _, none⟩) hg _).setCell (p := ⟨g, _, none⟩) hg _).setCell (p := ⟨g, _, none⟩) hg _
theorem touch_putRsR {W : World} {g o : Nat} {x : RepX} : Touch [g] W (putRsR W g o x) := by
  have hin : g ∈ [g] := List.mem_singleton.2 rfl
  exact (((((((((((((Touch.set hin).trans (Touch.set hin)).trans (Touch.set hin)).trans (Touch.set hin)).trans (Touch.set hin)).trans (Touch.set hin)).trans (Touch.set hin)).trans (Touch.set hin)).trans (Touch.set hin)).trans (Touch.set hin)).trans (Touch.set hin)).trans (Touch.set hin)).trans (Touch.set hin)).trans (Touch.set hin)
theorem take_snocRs {xs : List RepX} {k : Nat} (hk : k < xs.length) : xs.take (k + 1) = xs.take k ++ [nthRs xs k] := by rw [List.take_succ_eq_append_getElem hk, nthRs_eq hk]
theorem RdRs.atN {w : World} {a : Option Addr} {n cap : Nat} {es : List RepX} (h : RdRs w (.slice a n cap) es) (i : Nat) (hi : i < es.length) : ∃ b off, a = some ⟨b, off, none⟩ ∧ RepAt w b (off + i * 14) (nthRs es i) := by
  obtain ⟨a', cap', hv, _, _, _, h3⟩ := h
  simp only [Value.slice.injEq] at hv
  obtain ⟨rfl, _, _⟩ := hv
  rcases h3 with rfl | ⟨b, off, ha, hc⟩
  · simp at hi
  · exact ⟨b, off, ha, hc i hi⟩
/-- Its texts are texts of a program. -/
def TxtRep (X : RepX) : Prop := ∀ t ∈ X.bs, ∀ s ∈ t.b.mo, s.size ≤ maxLen
def SzOneR (w : World) (X : RepX) (l : Int) (e : Ending) (w' : World) : Prop := Below w.heap.size w w' ∧ ∃ z : Int, e = .returned (.int .i64 z) ∧ (z = -1 ∨ 0 ≤ z ∧ z ≤ l ∧ SmallRep X)
theorem szRep_one (X : RepX) (l : Int) (w : World) (hx : RdRep w X) (hz : TxtRep X) (hl0 : 0 ≤ l) (hl1 : l ≤ 1048576) :
    Calls Tryz.prog 46 #[.agg #[.int .i64 X.idn, .int .i64 X.n, .int .i64 X.vw, .int .i64 X.vo, .int .i64 X.lo, .int .i64 X.pr, .int .i64 X.hi.p.vw, .int .i64 X.hi.p.nm, X.hi.vs, X.hi.vt, X.vb, X.vv, X.vn, X.vd], .int .i64 l] w fun e w' => SzOneR w X l e w' := by
  refine (szReplica_any X l w hx hz hl0 hl1).mono ?_
  rintro e w' ⟨hb, z, he, hz⟩
  refine ⟨hb, z, he, ?_⟩
  rcases hz with hz | ⟨h0, h1, h2⟩
  · exact .inl hz
  · exact .inr ⟨h0, by omega, ⟨by omega, h2⟩⟩
def SzRs (w : World) (ts : List RepX) (l : Int) (e : Ending) (w' : World) : Prop :=
  Below w.heap.size w w' ∧ ∃ z : Int, e = .returned (.int .i64 z) ∧ (z = -1 ∨ 0 ≤ z ∧ z ≤ l ∧ ts.length ≤ 1048576 ∧ ∀ t ∈ ts, SmallRep t)
set_option maxHeartbeats 1000000 in
set_option maxRecDepth 100000 in
theorem szRs_at (v : Value) (ts : List RepX) (l : Int) (w : World) (hr : RdRs w v ts) (hi : InRs w ts) (hh : ∀ t ∈ ts, TxtRep t) (hl0 : 0 ≤ l) (hl1 : l ≤ 1048576) :
    Calls Tryz.prog 133 #[v, .int .i64 l] w fun e w' => SzRs w ts l e w' := by
  obtain ⟨a, cap, hv, hla, hma, -⟩ := id hr
  obtain ⟨nn, hnn⟩ : ∃ nn, nn = ts.length := ⟨_, rfl⟩
  have HNN : Hid (nn = ts.length) := hnn
  rw [← hnn] at hv hla
  subst hv
  unfold maxLen at hma
  have HH : Hid (∀ t ∈ ts, TxtRep t) := hh
  clear hnn hh
  by_cases hbig : l < (nn : Int)
  · have hb2 : l - (nn : Int) < 0 := by omega
    go_enter Tryz.func133, Tryz.ntmps133
    go_wp2
    go_ret
    exact ⟨Below.refl _ _, -1, rfl, .inl rfl⟩
  · have hb2 : ¬ l - (nn : Int) < 0 := by omega
    go_enter Tryz.func133, Tryz.ntmps133
    go_wp2
    go_loopw [1, 5] (fun lv i wr => ∃ (k : Nat) (x : Int), k ≤ nn ∧ i = .int .i64 k ∧ lv = .int .i64 x ∧ 0 ≤ x ∧ x ≤ 1048576 ∧ Hid (x ≤ l) ∧ Hid (∀ j, j < k → SmallRep (nthRs ts j)) ∧ Below w.heap.size w wr) (fun _ i _ => nn - (intOf i).toNat)
    case atStart => exact ⟨0, _, Nat.zero_le _, rfl, rfl, by omega, by omega, by unfold Hid; omega, (fun j h => by omega), Below.refl _ _⟩
    case round =>
      obtain ⟨k, x, hk, rfl, rfl, hx0, hx1, HX, HJ, hb⟩ := hrel
      by_cases hlt : k < nn
      · have hkl : k < ts.length := by rw [← HNN.out]; exact hlt
        obtain ⟨b, off, rfl, hc⟩ := (hr.below hb).atN k hkl
        have hri := (hi.below hb).nth hkl
        have hkc : k < cap := by omega
        have hht := HH.out (nthRs ts k) (by rw [nthRs_eq hkl]; exact List.getElem_mem hkl)
        have HJ2 : Hid (SmallRep (nthRs ts k) → ∀ j, j < k + 1 → SmallRep (nthRs ts j)) := fun h j hj => by
          by_cases e : j = k
          · rw [e]; exact h
          · exact HJ.out j (by omega)
        have HC : Hid (∀ W, RdRep W (nthRs ts k) → Calls Tryz.prog 46 #[.agg #[.int .i64 (nthRs ts k).idn, .int .i64 (nthRs ts k).n, .int .i64 (nthRs ts k).vw, .int .i64 (nthRs ts k).vo, .int .i64 (nthRs ts k).lo, .int .i64 (nthRs ts k).pr, .int .i64 (nthRs ts k).hi.p.vw, .int .i64 (nthRs ts k).hi.p.nm, (nthRs ts k).hi.vs, (nthRs ts k).hi.vt, (nthRs ts k).vb, (nthRs ts k).vv, (nthRs ts k).vn, (nthRs ts k).vd], .int .i64 x] W fun e w' => SzOneR W (nthRs ts k) x e w') := fun W h1 => szRep_one _ x W h1 hht hx0 hx1
        generalize nthRs ts k = t at hc hri HJ2 HC
        obtain ⟨c0, c1, c2, c3, c4, c5, c6, c7, c8, c9, c10, c11, c12, c13⟩ := id hc
        clear hht hkl
        go_wp2_with fail
        refine (HC.out _ hri).mono ?_
        rintro e w2 ⟨hb2, z, rfl, hz⟩
        have bz := hb.trans (hb2.mono hb.size)
        clear HC hc hri c0 c1 c2 c3 c4 c5 c6 c7 c8 c9 c10 c11 c12 c13 hb hb2
        rcases hz with hz | ⟨hz0, hz1, hz2⟩
        · subst hz
          go_wp2
          go_ret
          exact ⟨bz, -1, rfl, .inl rfl⟩
        · have HX2 : Hid (z ≤ l) := by
            have h1 := HX.out
            unfold Hid
            omega
          have HJ3 : Hid (∀ j, j < k + 1 → SmallRep (nthRs ts j)) := HJ2.out hz2
          have hz3 : z ≤ 1048576 := by omega
          clear hz2 hz1 HJ2 HX
          go_wp2
          go_roundw
          case rel => exact ⟨k + 1, z, by omega, by go_num, rfl, hz0, hz3, HX2, HJ3, bz⟩
          case measure => simp [intOf]; omega
      · have hke : k = nn := by omega
        have HE : Hid (SzRs w ts l (.returned (.int .i64 x)) wr) := by
          refine ⟨hb, x, rfl, .inr ⟨hx0, HX.out, by rw [← HNN.out]; omega, fun t ht => ?_⟩⟩
          obtain ⟨j, hj, rfl⟩ := List.getElem_of_mem ht
          rw [← nthRs_eq hj]
          exact HJ.out j (by rw [hke, HNN.out]; exact hj)
        clear hke
        go_wp2
        go_ret
        exact HE.out
/-- The blocks of their rows. -/
def blksRs (ts : List RepX) : List Nat := ts.flatMap repK
def InORs (w : World) (lo : Nat) (Xs : List RepX) : Prop := ∀ X ∈ Xs, OwnRep w lo X
theorem InORs.below {w w' : World} {lo : Nat} {Xs : List RepX} (h : InORs w lo Xs) (hb : Below w.heap.size w w') : InORs w' lo Xs := fun X hX => (h X hX).below hb
theorem InORs.mono {w : World} {lo lo' : Nat} {Xs : List RepX} (h : InORs w lo Xs) (hb : lo' ≤ lo) : InORs w lo' Xs := fun X hX => (h X hX).mono hb
theorem InORs.rd {w : World} {lo : Nat} {Xs : List RepX} (h : InORs w lo Xs) : InRs w Xs := fun X hX => (h X hX).rd
theorem blksRs_bound {w : World} {lo : Nat} {ts : List RepX} (h : InORs w lo ts) {k : Nat} (hk : k ∈ blksRs ts) : lo ≤ k ∧ k < w.heap.size := by
  obtain ⟨t, ht, hk⟩ := List.mem_flatMap.1 hk
  exact (h t ht).bound hk
/-- Rows of the call's own, none in another's block. -/
structure OwnL2Rs (w : World) (lo : Nat) (v : Value) (ts : List RepX) : Prop where
  row : OwnRs w lo v ts
  ins : InORs w lo ts
  nod : (oneB v ++ blksRs ts).Nodup
theorem OwnL2Rs.below {w w' : World} {lo : Nat} {v : Value} {ts : List RepX} (h : OwnL2Rs w lo v ts) (hb : Below w.heap.size w w') : OwnL2Rs w' lo v ts := ⟨h.row.below hb, h.ins.below hb, h.nod⟩
theorem OwnL2Rs.mono {w : World} {lo lo' : Nat} {v : Value} {ts : List RepX} (h : OwnL2Rs w lo v ts) (hb : lo' ≤ lo) : OwnL2Rs w lo' v ts := ⟨h.row.mono hb, h.ins.mono hb, h.nod⟩
theorem OwnL2Rs.bound {w : World} {lo : Nat} {v : Value} {ts : List RepX} (h : OwnL2Rs w lo v ts) {k : Nat} (hk : k ∈ oneB v ++ blksRs ts) : lo ≤ k ∧ k < w.heap.size := by
  rcases List.mem_append.1 hk with hk | hk
  · exact World.ownsRow.lt h.row k (mem_oneB.1 hk)
  · exact blksRs_bound h.ins hk
theorem OwnL2Rs.touch {bs : List Nat} {w w' : World} {lo : Nat} {v : Value} {ts : List RepX} (h : OwnL2Rs w lo v ts) (ht : Touch bs w w') (hn : ∀ k ∈ oneB v ++ blksRs ts, k ∉ bs) : OwnL2Rs w' lo v ts :=
  ⟨ht.row h.row (fun k hk => hn k (List.mem_append_left _ (mem_oneB.2 hk))), fun X hX => (h.ins X hX).touch ht (fun k hk => hn k (List.mem_append_right _ (List.mem_flatMap.2 ⟨X, hX, hk⟩))), h.nod⟩
theorem blksRs_push (ts : List RepX) (t : RepX) : blksRs (ts ++ [t]) = blksRs ts ++ repK t := by simp [blksRs]
def TosRs (w : World) (ts : List RepX) (e : Ending) (w' : World) : Prop := ∃ u us, e = .returned u ∧ us.map RepX.rep = ts.map RepX.rep ∧ OwnL2Rs w' w.heap.size u us ∧ Below w.heap.size w w'
set_option maxHeartbeats 4000000 in
set_option maxRecDepth 100000 in
theorem toRss_any (v : Value) (ts : List RepX) (w : World) (hr : RdRs w v ts) (hin : InRs w ts) (hn2 : ts.length ≤ 1048576) (hsm : ∀ t ∈ ts, SmallRep t) :
    Calls Tryz.prog 135 #[v] w fun e w' => TosRs w ts e w' := by
  obtain ⟨i0, hi, hz0, hz1, hz2⟩ := info_parts Tryz.infoRs31
  obtain ⟨a, cap, hv, hla, hma, -⟩ := id hr
  have HL : Hid (∀ t ∈ ts, SmallRep t) := hsm
  obtain ⟨nn, hnn⟩ : ∃ nn, nn = ts.length := ⟨_, rfl⟩
  have HNN : Hid (nn = ts.length) := hnn
  rw [← hnn] at hv hla hn2
  subst hv
  unfold maxLen at hma
  clear hnn hsm
  go_enter Tryz.func135, Tryz.ntmps135
  go_wp2_with (at_make; (refine wpList_make_full _ rfl _ _ 63 rfl w.heap.size 31 i0 _ 14 Tryz.underlying63 hi hz0 hz1 .i64 .i64 (nn : Int) (nn : Int) nn rfl rfl rfl rfl ?c1 ?c2 ?c3 ?_))
  case c1 => rw [hz2]; omega
  case c2 => unfold maxLen; omega
  case c3 => omega
  intro w1 ho1 hg1
  rw [made_RsV] at ho1
  have hb1 : Below w.heap.size w w1 := (Below.refl _ _).grown hg1 (Nat.le_refl _) (fun k hk => by cases hk)
  have hs1 : w.heap.size + 1 ≤ w1.heap.size := (World.ownsRow.lt ho1 w.heap.size rfl).2
  clear hg1
  go_wp2
  go_loopw [4] (fun i wr => ∃ (k : Nat) (us : List RepX), k ≤ nn ∧ i = .int .i64 k ∧ wr.ownsRow w.heap.size 31 14 (.slice (some ⟨w.heap.size, 0, none⟩) nn nn) nn (RsV (us ++ List.replicate (nn - k) zeroRs)) ∧ Hid (us.length = k ∧ us.map RepX.rep = (ts.take k).map RepX.rep ∧ InORs wr (w.heap.size + 1) us ∧ (oneB (.slice (some ⟨w.heap.size, 0, none⟩) nn nn) ++ blksRs us).Nodup) ∧ w.heap.size + 1 ≤ wr.heap.size ∧ Below w.heap.size w wr) (fun i _ => nn - (intOf i).toNat)
  case atStart => exact ⟨0, [], Nat.zero_le _, rfl, by simpa using ho1, ⟨rfl, rfl, (fun t ht => by cases ht), by simp [blksRs, oneBN]⟩, hs1, hb1⟩
  case round =>
    obtain ⟨k, us, hk, rfl, ho, HC, hs, hb⟩ := hrel
    clear ho1 hb1 hs1
    by_cases hlt : k < nn
    · have hkl : k < ts.length := by rw [← HNN.out]; exact hlt
      obtain ⟨b, off, rfl, hc⟩ := (hr.below hb).atN k hkl
      have hri := (hin.below hb).nth hkl
      have hkc : k < cap := by omega
      have hlt2 := HL.out (nthRs ts k) (by rw [nthRs_eq hkl]; exact List.getElem_mem hkl)
      have HTK : Hid ((ts.take (k + 1)).map RepX.rep = (ts.take k).map RepX.rep ++ [RepX.rep (nthRs ts k)]) := by unfold Hid; rw [take_snocRs hkl, List.map_append]; rfl
      have HCL : Hid (∀ W, RdRep W (nthRs ts k) → Calls Tryz.prog 48 #[.agg #[.int .i64 (nthRs ts k).idn, .int .i64 (nthRs ts k).n, .int .i64 (nthRs ts k).vw, .int .i64 (nthRs ts k).vo, .int .i64 (nthRs ts k).lo, .int .i64 (nthRs ts k).pr, .int .i64 (nthRs ts k).hi.p.vw, .int .i64 (nthRs ts k).hi.p.nm, (nthRs ts k).hi.vs, (nthRs ts k).hi.vt, (nthRs ts k).vb, (nthRs ts k).vv, (nthRs ts k).vn, (nthRs ts k).vd]] W fun e w' => ToRep W (RepX.rep (nthRs ts k)) e w') := fun W h1 => toReplica_any _ W h1 hlt2
      generalize nthRs ts k = t at hc hri HTK HCL
      obtain ⟨c0, c1, c2, c3, c4, c5, c6, c7, c8, c9, c10, c11, c12, c13⟩ := id hc
      clear hlt2 hkl
      go_wp2_with fail
      refine (HCL.out _ hri).mono ?_
      rintro e w2 ⟨Y, rfl, hyb, hoy, hb2⟩
      have ho2 := own_below ho hb2
      have hlen : (us ++ List.replicate (nn - k) zeroRs).length = nn := by rw [List.length_append, HC.out.1, List.length_replicate]; omega
      obtain ⟨d0, d1, d2, d3, d4, d5, d6, d7, d8, d9, d10, d11, d12, d13⟩ := ownRs_cell ho2 hlen.symm k hlt
      have f0 := ho2.frozenAt (k * 14)
      have f1 := ho2.frozenAt (k * 14 + 1)
      have f2 := ho2.frozenAt (k * 14 + 2)
      have f3 := ho2.frozenAt (k * 14 + 3)
      have f4 := ho2.frozenAt (k * 14 + 4)
      have f5 := ho2.frozenAt (k * 14 + 5)
      have f6 := ho2.frozenAt (k * 14 + 6)
      have f7 := ho2.frozenAt (k * 14 + 7)
      have f8 := ho2.frozenAt (k * 14 + 8)
      have f9 := ho2.frozenAt (k * 14 + 9)
      have f10 := ho2.frozenAt (k * 14 + 10)
      have f11 := ho2.frozenAt (k * 14 + 11)
      have f12 := ho2.frozenAt (k * 14 + 12)
      have f13 := ho2.frozenAt (k * 14 + 13)
      have R1 := ownRs_storeA ho2 (k := k) (by rw [hlen]; exact hlt) Y
      have hset : (us ++ List.replicate (nn - k) zeroRs).set k Y = (us ++ [Y]) ++ List.replicate (nn - (k + 1)) zeroRs := by
        obtain ⟨m, hm⟩ : ∃ m, nn - k = m + 1 := ⟨nn - k - 1, by omega⟩
        rw [List.set_append_right _ _ (by rw [HC.out.1]; exact Nat.le_refl _), HC.out.1, Nat.sub_self, hm, show nn - (k + 1) = m by omega, List.replicate_succ, List.set_cons_zero, List.append_assoc]
        rfl
      rw [hset] at R1
      have b3 := hb.trans (hb2.mono hb.size)
      have hgne : ∀ {X : RepX}, OwnRep w2 (w.heap.size + 1) X → ∀ q ∈ repK X, q ∉ [w.heap.size] := fun hX q hq e => by have := (hX.bound hq).1; have := List.mem_singleton.1 e; omega
      have HC2 : Hid ((us ++ [Y]).length = k + 1 ∧ (us ++ [Y]).map RepX.rep = (ts.take (k + 1)).map RepX.rep ∧ InORs (putRsR w2 w.heap.size (k * 14) Y) (w.heap.size + 1) (us ++ [Y]) ∧ (oneB (.slice (some ⟨w.heap.size, 0, none⟩) nn nn) ++ blksRs (us ++ [Y])).Nodup) := by
        obtain ⟨g1, g2, g3, g4⟩ := HC.out
        refine ⟨by rw [List.length_append, g1]; rfl, by rw [List.map_append, g2, HTK.out]; simp [hyb], fun x hx => ?_, ?_⟩
        · rcases List.mem_append.1 hx with hx | hx
          · have h3 := (g3.below hb2) x hx
            exact h3.touch touch_putRsR (hgne h3)
          · rw [List.mem_singleton.1 hx]
            exact (hoy.mono hs).touch touch_putRsR (hgne (hoy.mono hs))
        · rw [blksRs_push, ← List.append_assoc, List.nodup_append]
          refine ⟨g4, hoy.nod, fun q hq p hp e => ?_⟩
          subst e
          have hq2 : q < wr.heap.size := by
            rcases List.mem_append.1 hq with hq | hq
            · have := mem_oneB.1 hq
              have : w.heap.size = q := Option.some.inj this
              omega
            · exact (blksRs_bound g3 hq).2
          have := (hoy.bound hp).1
          omega
      have b4 := below_putRsR (o := k * 14) (x := Y) b3 (Nat.le_refl _)
      have hs4 : w.heap.size + 1 ≤ w2.heap.size := Nat.le_trans hs hb2.size
      have e1 : ∃ a n c, Y.hi.vs = .slice a n c := by obtain ⟨a, c, h⟩ := ownSlX hoy.hi.sv; exact ⟨a, _, c, h⟩
      have e2 : ∃ a n c, Y.hi.vt = .slice a n c := by obtain ⟨a, c, h⟩ := ownSlX hoy.hi.tg; exact ⟨a, _, c, h⟩
      have e3 : ∃ a n c, Y.vb = .slice a n c := by obtain ⟨a, c, h⟩ := ownSlX hoy.bl; exact ⟨a, _, c, h⟩
      have e4 : ∃ a n c, Y.vv = .slice a n c := by obtain ⟨a, c, h⟩ := ownSlX hoy.vo; exact ⟨a, _, c, h⟩
      have e5 : ∃ a n c, Y.vn = .slice a n c := by obtain ⟨a, c, h⟩ := ownSlX hoy.nw; exact ⟨a, _, c, h⟩
      have e6 : ∃ a n c, Y.vd = .slice a n c := by obtain ⟨a, c, h⟩ := ownSlX hoy.dn; exact ⟨a, _, c, h⟩
      have H1 : Hid (World.ownsRow _ _ _ _ _ _ _) := R1
      have H4 : Hid (Below _ _ _) := b4
      clear ho ho2 hoy hb hb2 b3 b4 R1 hset hlen HC HTK HCL hc hri hyb c0 c1 c2 c3 c4 c5 c6 c7 c8 c9 c10 c11 c12 c13 hgne
      obtain ⟨yi, yn, yw, yo, yl, yr, ⟨yp, ys1, ys2⟩, ys3, ybs, ys4, yvs, ys5, yns, ys6, ydn⟩ := Y
      obtain ⟨a1, n1, k1, e1⟩ := e1
      obtain ⟨a2, n2, k2, e2⟩ := e2
      obtain ⟨a3, n3, k3, e3⟩ := e3
      obtain ⟨a4, n4, k4, e4⟩ := e4
      obtain ⟨a5, n5, k5, e5⟩ := e5
      obtain ⟨a6, n6, k6, e6⟩ := e6
      dsimp only at e1 e2 e3 e4 e5 e6
      subst e1 e2 e3 e4 e5 e6
      go_wp2
      go_roundw
      case rel => exact ⟨k + 1, _, by omega, by go_num, H1.out, HC2, by simpa using hs4, H4.out⟩
      case measure => simp [intOf]; omega
    · have hke : k = nn := by omega
      have HEND : Hid (TosRs w ts (.returned (.slice (some ⟨w.heap.size, 0, none⟩) nn nn)) wr) := by
        obtain ⟨g1, g2, g3, g4⟩ := HC.out
        refine ⟨_, us, rfl, by rw [g2, hke, HNN.out, List.take_length], ⟨?_, g3.mono (by omega), g4⟩, hb⟩
        unfold OwnRs
        rw [g1, hke]
        rw [hke, Nat.sub_self, List.replicate_zero, List.append_nil] at ho
        exact ho
      clear ho HC hke
      go_wp2
      go_ret
      exact HEND.out
set_option maxHeartbeats 4000000 in
set_option maxRecDepth 100000 in
theorem eqRss_same (va vb : Value) (us qs : List RepX) (w : World) (ha : RdRs w va us) (hia : InRs w us) (hb : RdRs w vb qs) (hib : InRs w qs) (hs : us.map RepX.rep = qs.map RepX.rep) :
    Calls Tryz.prog 137 #[va, vb] w fun e w' => e = .returned (.bool true) ∧ Below w.heap.size w w' := by
  obtain ⟨aa, ca, hva, hla, hma, -⟩ := id ha
  obtain ⟨ab, cb, hvb, hlb, hmb, -⟩ := id hb
  have hl : qs.length = us.length := by have := congrArg List.length hs; simpa using this.symm
  rw [hl] at hvb hlb
  obtain ⟨nn, hnn⟩ : ∃ nn, nn = us.length := ⟨_, rfl⟩
  rw [← hnn] at hva hla hvb hlb hl
  have HNU : Hid (nn = us.length) := hnn
  have HNQ : Hid (qs.length = nn) := hl
  have HS : Hid (∀ k, k < nn → RepX.rep (nthRs qs k) = RepX.rep (nthRs us k)) := fun k hk => by
    have h1 : k < us.length := by omega
    have h2 : k < qs.length := by omega
    have := congrArg (fun l => l[k]?) hs
    simp only [List.getElem?_map, List.getElem?_eq_getElem h1, List.getElem?_eq_getElem h2, Option.map_some, Option.some.injEq] at this
    rw [nthRs_eq h1, nthRs_eq h2, this]
  unfold maxLen at hma hmb
  subst hva
  subst hvb
  have hne : ((nn : Int) != (nn : Int)) = false := by simp
  clear hnn hl hs
  go_enter Tryz.func137, Tryz.ntmps137
  go_wp2
  go_loopw [5] (fun i wr => ∃ k : Nat, k ≤ nn ∧ i = .int .i64 k ∧ Below w.heap.size w wr) (fun i _ => nn - (intOf i).toNat)
  case atStart => exact ⟨0, Nat.zero_le _, rfl, Below.refl _ _⟩
  case round =>
    obtain ⟨k, hk, rfl, hbw⟩ := hrel
    by_cases hlt : k < nn
    · obtain ⟨b1, o1, rfl, hc1⟩ := (ha.below hbw).atN k (by rw [← HNU.out]; exact hlt)
      obtain ⟨b2, o2, rfl, hc2⟩ := (hb.below hbw).atN k (by rw [HNQ.out]; exact hlt)
      have hi1 := (hia.below hbw).nth (i := k) (by rw [← HNU.out]; exact hlt)
      have hi2 := (hib.below hbw).nth (i := k) (by rw [HNQ.out]; exact hlt)
      have HT : Hid (RepX.rep (nthRs us k) = RepX.rep (nthRs qs k)) := (HS.out k hlt).symm
      have hkc1 : k < ca := by omega
      have hkc2 : k < cb := by omega
      generalize nthRs qs k = Z at hc2 hi2 HT
      generalize nthRs us k = Y at hc1 hi1 HT
      have HE : Hid (∀ W, RdRep W Y → RdRep W Z → Calls Tryz.prog 50 #[.agg #[.int .i64 Y.idn, .int .i64 Y.n, .int .i64 Y.vw, .int .i64 Y.vo, .int .i64 Y.lo, .int .i64 Y.pr, .int .i64 Y.hi.p.vw, .int .i64 Y.hi.p.nm, Y.hi.vs, Y.hi.vt, Y.vb, Y.vv, Y.vn, Y.vd], .agg #[.int .i64 Z.idn, .int .i64 Z.n, .int .i64 Z.vw, .int .i64 Z.vo, .int .i64 Z.lo, .int .i64 Z.pr, .int .i64 Z.hi.p.vw, .int .i64 Z.hi.p.nm, Z.hi.vs, Z.hi.vt, Z.vb, Z.vv, Z.vn, Z.vd]] W fun e w' => e = .returned (.bool true) ∧ Below W.heap.size W w') := fun W h1 h2 => eqReplica_same Y Z W h1 h2 HT.out
      unfold RepAt at hc1 hc2
      clear HT
      go_wp2_with fail
      refine wp_region_noPanic ?_
      refine wp_region_held_drew (S := fun w' => (w'.cell? ⟨b1, o1 + k * 14, none⟩ = some (.int .i64 Y.idn) ∧ w'.cell? ⟨b1, o1 + k * 14 + 1, none⟩ = some (.int .i64 Y.n) ∧ w'.cell? ⟨b1, o1 + k * 14 + 2, none⟩ = some (.int .i64 Y.vw) ∧ w'.cell? ⟨b1, o1 + k * 14 + 3, none⟩ = some (.int .i64 Y.vo) ∧ w'.cell? ⟨b1, o1 + k * 14 + 4, none⟩ = some (.int .i64 Y.lo) ∧ w'.cell? ⟨b1, o1 + k * 14 + 5, none⟩ = some (.int .i64 Y.pr) ∧ w'.cell? ⟨b1, o1 + k * 14 + 6, none⟩ = some (.int .i64 Y.hi.p.vw) ∧ w'.cell? ⟨b1, o1 + k * 14 + 7, none⟩ = some (.int .i64 Y.hi.p.nm) ∧ w'.cell? ⟨b1, o1 + k * 14 + 8, none⟩ = some (Y.hi.vs) ∧ w'.cell? ⟨b1, o1 + k * 14 + 9, none⟩ = some (Y.hi.vt) ∧ w'.cell? ⟨b1, o1 + k * 14 + 10, none⟩ = some (Y.vb) ∧ w'.cell? ⟨b1, o1 + k * 14 + 11, none⟩ = some (Y.vv) ∧ w'.cell? ⟨b1, o1 + k * 14 + 12, none⟩ = some (Y.vn) ∧ w'.cell? ⟨b1, o1 + k * 14 + 13, none⟩ = some (Y.vd)) ∧ (w'.cell? ⟨b2, o2 + k * 14, none⟩ = some (.int .i64 Z.idn) ∧ w'.cell? ⟨b2, o2 + k * 14 + 1, none⟩ = some (.int .i64 Z.n) ∧ w'.cell? ⟨b2, o2 + k * 14 + 2, none⟩ = some (.int .i64 Z.vw) ∧ w'.cell? ⟨b2, o2 + k * 14 + 3, none⟩ = some (.int .i64 Z.vo) ∧ w'.cell? ⟨b2, o2 + k * 14 + 4, none⟩ = some (.int .i64 Z.lo) ∧ w'.cell? ⟨b2, o2 + k * 14 + 5, none⟩ = some (.int .i64 Z.pr) ∧ w'.cell? ⟨b2, o2 + k * 14 + 6, none⟩ = some (.int .i64 Z.hi.p.vw) ∧ w'.cell? ⟨b2, o2 + k * 14 + 7, none⟩ = some (.int .i64 Z.hi.p.nm) ∧ w'.cell? ⟨b2, o2 + k * 14 + 8, none⟩ = some (Z.hi.vs) ∧ w'.cell? ⟨b2, o2 + k * 14 + 9, none⟩ = some (Z.hi.vt) ∧ w'.cell? ⟨b2, o2 + k * 14 + 10, none⟩ = some (Z.vb) ∧ w'.cell? ⟨b2, o2 + k * 14 + 11, none⟩ = some (Z.vv) ∧ w'.cell? ⟨b2, o2 + k * 14 + 12, none⟩ = some (Z.vn) ∧ w'.cell? ⟨b2, o2 + k * 14 + 13, none⟩ = some (Z.vd))) (by kernel_rfl) ⟨hc1, hc2⟩ (fun hH => ?_)
      refine tkG 0 17 hH ?_
      try simp only [Act.put, List.setIfInBounds_toArray, List.set_cons_zero, List.set_cons_succ]
      refine tkG 1 18 hH ?_
      try simp only [Act.put, List.setIfInBounds_toArray, List.set_cons_zero, List.set_cons_succ]
      refine tkG 2 19 hH ?_
      try simp only [Act.put, List.setIfInBounds_toArray, List.set_cons_zero, List.set_cons_succ]
      refine tkG 3 20 hH ?_
      try simp only [Act.put, List.setIfInBounds_toArray, List.set_cons_zero, List.set_cons_succ]
      refine tkG 4 21 hH ?_
      try simp only [Act.put, List.setIfInBounds_toArray, List.set_cons_zero, List.set_cons_succ]
      refine tkG 5 22 hH ?_
      try simp only [Act.put, List.setIfInBounds_toArray, List.set_cons_zero, List.set_cons_succ]
      refine tkG 6 23 hH ?_
      try simp only [Act.put, List.setIfInBounds_toArray, List.set_cons_zero, List.set_cons_succ]
      refine tkG 7 24 hH ?_
      try simp only [Act.put, List.setIfInBounds_toArray, List.set_cons_zero, List.set_cons_succ]
      refine wpAnyH_ready (rs := [8]) (by kernel_rfl) (by simp) ?_
      refine AllReadyH.cons rfl (fun K hK => ?_) AllReadyH.nil
      go_simp
      refine (HE.out _ (hi1.below (Below.refl _ _).drew) (hi2.below (Below.refl _ _).drew)).mono ?_
      rintro e w1 ⟨rfl, hb1⟩
      refine hK.out _ _ ⟨RepAt.below (w := wr.drew) (e := Y) hH.1 hb1, RepAt.below (w := wr.drew) (e := Z) hH.2 hb1⟩ (fun hA => ?_)
      clear hK K
      try simp only [Act.put, List.setIfInBounds_toArray, List.set_cons_zero, List.set_cons_succ]
      refine tkG 9 26 hA ?_
      try simp only [Act.put, List.setIfInBounds_toArray, List.set_cons_zero, List.set_cons_succ]
      refine wpAnyH_done (by kernel_rfl) ?_ _
      refine NoPanic.normal ?_
      have bz := hbw.drew.trans (hb1.mono hbw.size)
      clear hH hA hc1 hc2
      go_wp2
      go_roundw
      case rel => exact ⟨k + 1, by omega, by go_num, bz⟩
      case measure => simp [intOf]; omega
    · have hke : k = nn := by omega
      subst hke
      go_wp2
      go_ret
      exact ⟨rfl, hbw⟩
end Go.Proofs.YtilhaokiohbeeaaGreatDoor
namespace Go.Proofs.YtilhaokiohbeeaaGreatDoor
open Go.RowKit
theorem Bx.c20 {w : World} {b t : Nat} {u0 u1 u2 u3 u4 u5 u6 u7 u8 u9 u10 u11 u12 u13 u14 u15 u16 u17 u18 u19 : Value} (h : Bx w b t #[u0, u1, u2, u3, u4, u5, u6, u7, u8, u9, u10, u11, u12, u13, u14, u15, u16, u17, u18, u19]) : w.cell? ⟨b, 0, none⟩ = some u0 ∧ w.cell? ⟨b, 1, none⟩ = some u1 ∧ w.cell? ⟨b, 2, none⟩ = some u2 ∧ w.cell? ⟨b, 3, none⟩ = some u3 ∧ w.cell? ⟨b, 4, none⟩ = some u4 ∧ w.cell? ⟨b, 5, none⟩ = some u5 ∧ w.cell? ⟨b, 6, none⟩ = some u6 ∧ w.cell? ⟨b, 7, none⟩ = some u7 ∧ w.cell? ⟨b, 8, none⟩ = some u8 ∧ w.cell? ⟨b, 9, none⟩ = some u9 ∧ w.cell? ⟨b, 10, none⟩ = some u10 ∧ w.cell? ⟨b, 11, none⟩ = some u11 ∧ w.cell? ⟨b, 12, none⟩ = some u12 ∧ w.cell? ⟨b, 13, none⟩ = some u13 ∧ w.cell? ⟨b, 14, none⟩ = some u14 ∧ w.cell? ⟨b, 15, none⟩ = some u15 ∧ w.cell? ⟨b, 16, none⟩ = some u16 ∧ w.cell? ⟨b, 17, none⟩ = some u17 ∧ w.cell? ⟨b, 18, none⟩ = some u18 ∧ w.cell? ⟨b, 19, none⟩ = some u19 := ⟨h.cell 0 rfl, h.cell 1 rfl, h.cell 2 rfl, h.cell 3 rfl, h.cell 4 rfl, h.cell 5 rfl, h.cell 6 rfl, h.cell 7 rfl, h.cell 8 rfl, h.cell 9 rfl, h.cell 10 rfl, h.cell 11 rfl, h.cell 12 rfl, h.cell 13 rfl, h.cell 14 rfl, h.cell 15 rfl, h.cell 16 rfl, h.cell 17 rfl, h.cell 18 rfl, h.cell 19 rfl⟩
theorem Bx.f20 {w : World} {b t : Nat} {cs : Array Value} (h : Bx w b t cs) : w.frozen? ⟨b, 0, none⟩ = false ∧ w.frozen? ⟨b, 1, none⟩ = false ∧ w.frozen? ⟨b, 2, none⟩ = false ∧ w.frozen? ⟨b, 3, none⟩ = false ∧ w.frozen? ⟨b, 4, none⟩ = false ∧ w.frozen? ⟨b, 5, none⟩ = false ∧ w.frozen? ⟨b, 6, none⟩ = false ∧ w.frozen? ⟨b, 7, none⟩ = false ∧ w.frozen? ⟨b, 8, none⟩ = false ∧ w.frozen? ⟨b, 9, none⟩ = false ∧ w.frozen? ⟨b, 10, none⟩ = false ∧ w.frozen? ⟨b, 11, none⟩ = false ∧ w.frozen? ⟨b, 12, none⟩ = false ∧ w.frozen? ⟨b, 13, none⟩ = false ∧ w.frozen? ⟨b, 14, none⟩ = false ∧ w.frozen? ⟨b, 15, none⟩ = false ∧ w.frozen? ⟨b, 16, none⟩ = false ∧ w.frozen? ⟨b, 17, none⟩ = false ∧ w.frozen? ⟨b, 18, none⟩ = false ∧ w.frozen? ⟨b, 19, none⟩ = false := ⟨h.fz 0, h.fz 1, h.fz 2, h.fz 3, h.fz 4, h.fz 5, h.fz 6, h.fz 7, h.fz 8, h.fz 9, h.fz 10, h.fz 11, h.fz 12, h.fz 13, h.fz 14, h.fz 15, h.fz 16, h.fz 17, h.fz 18, h.fz 19⟩
/-- All twenty cells written. -/
def put20 (W : World) (b : Nat) (a0 a1 a2 a3 a4 a5 a6 a7 a8 a9 a10 a11 a12 a13 a14 a15 a16 a17 a18 a19 : Value) : World := (((((((((((((((((((W.setCell ⟨b, 0, none⟩ a0).setCell ⟨b, 1, none⟩ a1).setCell ⟨b, 2, none⟩ a2).setCell ⟨b, 3, none⟩ a3).setCell ⟨b, 4, none⟩ a4).setCell ⟨b, 5, none⟩ a5).setCell ⟨b, 6, none⟩ a6).setCell ⟨b, 7, none⟩ a7).setCell ⟨b, 8, none⟩ a8).setCell ⟨b, 9, none⟩ a9).setCell ⟨b, 10, none⟩ a10).setCell ⟨b, 11, none⟩ a11).setCell ⟨b, 12, none⟩ a12).setCell ⟨b, 13, none⟩ a13).setCell ⟨b, 14, none⟩ a14).setCell ⟨b, 15, none⟩ a15).setCell ⟨b, 16, none⟩ a16).setCell ⟨b, 17, none⟩ a17).setCell ⟨b, 18, none⟩ a18).setCell ⟨b, 19, none⟩ a19
theorem Bx.put20 {W : World} {b t : Nat} {u0 u1 u2 u3 u4 u5 u6 u7 u8 u9 u10 u11 u12 u13 u14 u15 u16 u17 u18 u19 : Value} (h : Bx W b t #[u0, u1, u2, u3, u4, u5, u6, u7, u8, u9, u10, u11, u12, u13, u14, u15, u16, u17, u18, u19]) (a0 a1 a2 a3 a4 a5 a6 a7 a8 a9 a10 a11 a12 a13 a14 a15 a16 a17 a18 a19 : Value) : Bx (Go.Proofs.YtilhaokiohbeeaaGreatDoor.put20 W b a0 a1 a2 a3 a4 a5 a6 a7 a8 a9 a10 a11 a12 a13 a14 a15 a16 a17 a18 a19) b t #[a0, a1, a2, a3, a4, a5, a6, a7, a8, a9, a10, a11, a12, a13, a14, a15, a16, a17, a18, a19] := by
  have h0 : Bx _ b t #[a0, u1, u2, u3, u4, u5, u6, u7, u8, u9, u10, u11, u12, u13, u14, u15, u16, u17, u18, u19] := h.set 0 a0
  have h1 : Bx _ b t #[a0, a1, u2, u3, u4, u5, u6, u7, u8, u9, u10, u11, u12, u13, u14, u15, u16, u17, u18, u19] := h0.set 1 a1
  have h2 : Bx _ b t #[a0, a1, a2, u3, u4, u5, u6, u7, u8, u9, u10, u11, u12, u13, u14, u15, u16, u17, u18, u19] := h1.set 2 a2
  have h3 : Bx _ b t #[a0, a1, a2, a3, u4, u5, u6, u7, u8, u9, u10, u11, u12, u13, u14, u15, u16, u17, u18, u19] := h2.set 3 a3
  have h4 : Bx _ b t #[a0, a1, a2, a3, a4, u5, u6, u7, u8, u9, u10, u11, u12, u13, u14, u15, u16, u17, u18, u19] := h3.set 4 a4
  have h5 : Bx _ b t #[a0, a1, a2, a3, a4, a5, u6, u7, u8, u9, u10, u11, u12, u13, u14, u15, u16, u17, u18, u19] := h4.set 5 a5
  have h6 : Bx _ b t #[a0, a1, a2, a3, a4, a5, a6, u7, u8, u9, u10, u11, u12, u13, u14, u15, u16, u17, u18, u19] := h5.set 6 a6
  have h7 : Bx _ b t #[a0, a1, a2, a3, a4, a5, a6, a7, u8, u9, u10, u11, u12, u13, u14, u15, u16, u17, u18, u19] := h6.set 7 a7
  have h8 : Bx _ b t #[a0, a1, a2, a3, a4, a5, a6, a7, a8, u9, u10, u11, u12, u13, u14, u15, u16, u17, u18, u19] := h7.set 8 a8
  have h9 : Bx _ b t #[a0, a1, a2, a3, a4, a5, a6, a7, a8, a9, u10, u11, u12, u13, u14, u15, u16, u17, u18, u19] := h8.set 9 a9
  have h10 : Bx _ b t #[a0, a1, a2, a3, a4, a5, a6, a7, a8, a9, a10, u11, u12, u13, u14, u15, u16, u17, u18, u19] := h9.set 10 a10
  have h11 : Bx _ b t #[a0, a1, a2, a3, a4, a5, a6, a7, a8, a9, a10, a11, u12, u13, u14, u15, u16, u17, u18, u19] := h10.set 11 a11
  have h12 : Bx _ b t #[a0, a1, a2, a3, a4, a5, a6, a7, a8, a9, a10, a11, a12, u13, u14, u15, u16, u17, u18, u19] := h11.set 12 a12
  have h13 : Bx _ b t #[a0, a1, a2, a3, a4, a5, a6, a7, a8, a9, a10, a11, a12, a13, u14, u15, u16, u17, u18, u19] := h12.set 13 a13
  have h14 : Bx _ b t #[a0, a1, a2, a3, a4, a5, a6, a7, a8, a9, a10, a11, a12, a13, a14, u15, u16, u17, u18, u19] := h13.set 14 a14
  have h15 : Bx _ b t #[a0, a1, a2, a3, a4, a5, a6, a7, a8, a9, a10, a11, a12, a13, a14, a15, u16, u17, u18, u19] := h14.set 15 a15
  have h16 : Bx _ b t #[a0, a1, a2, a3, a4, a5, a6, a7, a8, a9, a10, a11, a12, a13, a14, a15, a16, u17, u18, u19] := h15.set 16 a16
  have h17 : Bx _ b t #[a0, a1, a2, a3, a4, a5, a6, a7, a8, a9, a10, a11, a12, a13, a14, a15, a16, a17, u18, u19] := h16.set 17 a17
  have h18 : Bx _ b t #[a0, a1, a2, a3, a4, a5, a6, a7, a8, a9, a10, a11, a12, a13, a14, a15, a16, a17, a18, u19] := h17.set 18 a18
  have h19 : Bx _ b t #[a0, a1, a2, a3, a4, a5, a6, a7, a8, a9, a10, a11, a12, a13, a14, a15, a16, a17, a18, a19] := h18.set 19 a19
  exact h19
theorem put20_below {B : Nat} {a W : World} {b : Nat} {u0 u1 u2 u3 u4 u5 u6 u7 u8 u9 u10 u11 u12 u13 u14 u15 u16 u17 u18 u19 : Value} (h : Below B a W) (hb : B ≤ b) : Below B a (put20 W b u0 u1 u2 u3 u4 u5 u6 u7 u8 u9 u10 u11 u12 u13 u14 u15 u16 u17 u18 u19) := (((((((((((((((((((h.setCell hb _).setCell hb _).setCell hb _).setCell hb _).setCell hb _).setCell hb _).setCell hb _).setCell hb _).setCell hb _).setCell hb _).setCell hb _).setCell hb _).setCell hb _).setCell hb _).setCell hb _).setCell hb _).setCell hb _).setCell hb _).setCell hb _).setCell hb _
theorem put20_touch {W : World} {b : Nat} {u0 u1 u2 u3 u4 u5 u6 u7 u8 u9 u10 u11 u12 u13 u14 u15 u16 u17 u18 u19 : Value} : Touch [b] W (put20 W b u0 u1 u2 u3 u4 u5 u6 u7 u8 u9 u10 u11 u12 u13 u14 u15 u16 u17 u18 u19) := by
  have hin : b ∈ [b] := List.mem_singleton.2 rfl
  exact (((((((((((((((((((Touch.set hin).trans (Touch.set hin)).trans (Touch.set hin)).trans (Touch.set hin)).trans (Touch.set hin)).trans (Touch.set hin)).trans (Touch.set hin)).trans (Touch.set hin)).trans (Touch.set hin)).trans (Touch.set hin)).trans (Touch.set hin)).trans (Touch.set hin)).trans (Touch.set hin)).trans (Touch.set hin)).trans (Touch.set hin)).trans (Touch.set hin)).trans (Touch.set hin)).trans (Touch.set hin)).trans (Touch.set hin)).trans (Touch.set hin)
end Go.Proofs.YtilhaokiohbeeaaGreatDoor
