/- The contracts of the laws' own helpers over rows of Blocks: measured, copied, alike. -/
import Derived.Test.YtilhaokiohbeeaaGreatDoorG04
import Derived.Test.YtilhaokiohbeeaaGreatDoorG06
-- UNF Gen
namespace Go.Proofs.YtilhaokiohbeeaaGreatDoor
open Go.RowKit
theorem made_BsV (n : Nat) : (madeCells #[.int .i64 0, .int .i64 0, .int .i64 0, .int .i64 0, .slice none 0 0, .slice none 0 0, .slice none 0 0, .int .i64 0] (n * 8)).toList = BsV (List.replicate n zeroBs) := by
  apply List.ext_getElem?
  intro j
  by_cases hj : j < n * 8
  · have h1 : j / 8 < n := by omega
    have h2 := BsV_get (List.replicate n zeroBs) (j / 8) (by rw [List.length_replicate]; exact h1) (j % 8) (by omega)
    rw [show j / 8 * 8 + j % 8 = j by omega] at h2
    rw [h2, nthBs_eq (by rw [List.length_replicate]; exact h1), List.getElem_replicate]
    have h3 : j % 8 = 0 ∨ j % 8 = 1 ∨ j % 8 = 2 ∨ j % 8 = 3 ∨ j % 8 = 4 ∨ j % 8 = 5 ∨ j % 8 = 6 ∨ j % 8 = 7 := by omega
    rcases h3 with h | h | h | h | h | h | h | h <;> simp [madeCells, hj, h, BsC, zeroBs]
  · rw [List.getElem?_eq_none (by rw [Array.length_toList, size_madeCells]; omega), List.getElem?_eq_none (by rw [BsV_length, List.length_replicate]; omega)]
theorem BsV_setAt : ∀ (es : List BlX) (k : Nat), k < es.length → ∀ (j : Nat), j < 8 → ∀ (u : Value) (e' : BlX), (BsC (nthBs es k)).set j u = BsC e' → (BsV es).set (k * 8 + j) u = BsV (es.set k e')
  | [], k, h, _, _, _, _, _ => by simp at h
  | a :: r, 0, _, j, hj, u, e', h => by
    rw [nthBs_zero] at h
    rw [BsV_cons, Nat.zero_mul, Nat.zero_add, List.set_append_left _ _ (by simp [BsC]; exact hj), h, List.set_cons_zero, BsV_cons]
  | a :: r, k + 1, hk, j, hj, u, e', h => by
    rw [nthBs_succ] at h
    rw [BsV_cons, List.set_append_right _ _ (by simp [BsC]; omega), List.set_cons_succ, BsV_cons, ← BsV_setAt r k (by simpa using hk) j hj u e' h]
    congr 2
    simp [BsC]; omega
theorem ownBs_store {w : World} {base g cap n : Nat} {es : List BlX} (ho : w.ownsRow base 34 8 (.slice (some ⟨g, 0, none⟩) n cap) n (BsV es)) {k j : Nat} (hk : k < es.length) (hj : j < 8) {u : Value} {e' : BlX} (h : (BsC (nthBs es k)).set j u = BsC e') :
    (w.setCell ⟨g, k * 8 + j, none⟩ u).ownsRow base 34 8 (.slice (some ⟨g, 0, none⟩) n cap) n (BsV (es.set k e')) := by
  have := (ho.stored (k * 8 + j) u).1
  rwa [BsV_setAt es k hk j hj u e' h] at this
theorem nthBs_set_same {es : List BlX} {k : Nat} (hk : k < es.length) (e : BlX) : nthBs (es.set k e) k = e := by
  rw [nthBs_eq (by rw [List.length_set]; exact hk), List.getElem_set_self]
/-- A whole Block stored. -/
def put8R (w : World) (g o : Nat) (x : BlX) : World := ((((((((w.setCell ⟨g, o, none⟩ (.int .i64 x.b.vw)).setCell ⟨g, o + 1, none⟩ (.int .i64 x.b.pa)).setCell ⟨g, o + 2, none⟩ (.int .i64 x.b.p.vw)).setCell ⟨g, o + 3, none⟩ (.int .i64 x.b.p.nm)).setCell ⟨g, o + 4, none⟩ (x.vs)).setCell ⟨g, o + 5, none⟩ (x.vt)).setCell ⟨g, o + 6, none⟩ (x.vm)).setCell ⟨g, o + 7, none⟩ (.int .i64 x.b.sv))
theorem ownBs_store8 {w : World} {base g cap n : Nat} {es : List BlX} (ho : w.ownsRow base 34 8 (.slice (some ⟨g, 0, none⟩) n cap) n (BsV es)) {k : Nat} (hk : k < es.length) (x : BlX) :
    (put8R w g (k * 8) x).ownsRow base 34 8 (.slice (some ⟨g, 0, none⟩) n cap) n (BsV (es.set k x)) := by
  have h0 := ownBs_store ho hk (j := 0) (by omega) (u := .int .i64 x.b.vw) (e' := ⟨⟨x.b.vw, (nthBs es k).b.pa, ⟨(nthBs es k).b.p.vw, (nthBs es k).b.p.nm, (nthBs es k).b.p.sv, (nthBs es k).b.p.tg⟩, (nthBs es k).b.mo, (nthBs es k).b.sv⟩, (nthBs es k).vs, (nthBs es k).vt, (nthBs es k).vm⟩) rfl
  have h1 := ownBs_store h0 (k := k) (j := 1) (by rw [List.length_set]; exact hk) (by omega) (u := .int .i64 x.b.pa) (e' := ⟨⟨x.b.vw, x.b.pa, ⟨(nthBs es k).b.p.vw, (nthBs es k).b.p.nm, (nthBs es k).b.p.sv, (nthBs es k).b.p.tg⟩, (nthBs es k).b.mo, (nthBs es k).b.sv⟩, (nthBs es k).vs, (nthBs es k).vt, (nthBs es k).vm⟩) (by rw [nthBs_set_same hk]; rfl)
  rw [List.set_set] at h1
  have h2 := ownBs_store h1 (k := k) (j := 2) (by rw [List.length_set]; exact hk) (by omega) (u := .int .i64 x.b.p.vw) (e' := ⟨⟨x.b.vw, x.b.pa, ⟨x.b.p.vw, (nthBs es k).b.p.nm, (nthBs es k).b.p.sv, (nthBs es k).b.p.tg⟩, (nthBs es k).b.mo, (nthBs es k).b.sv⟩, (nthBs es k).vs, (nthBs es k).vt, (nthBs es k).vm⟩) (by rw [nthBs_set_same hk]; rfl)
  rw [List.set_set] at h2
  have h3 := ownBs_store h2 (k := k) (j := 3) (by rw [List.length_set]; exact hk) (by omega) (u := .int .i64 x.b.p.nm) (e' := ⟨⟨x.b.vw, x.b.pa, ⟨x.b.p.vw, x.b.p.nm, (nthBs es k).b.p.sv, (nthBs es k).b.p.tg⟩, (nthBs es k).b.mo, (nthBs es k).b.sv⟩, (nthBs es k).vs, (nthBs es k).vt, (nthBs es k).vm⟩) (by rw [nthBs_set_same hk]; rfl)
  rw [List.set_set] at h3
  have h4 := ownBs_store h3 (k := k) (j := 4) (by rw [List.length_set]; exact hk) (by omega) (u := x.vs) (e' := ⟨⟨x.b.vw, x.b.pa, ⟨x.b.p.vw, x.b.p.nm, x.b.p.sv, (nthBs es k).b.p.tg⟩, (nthBs es k).b.mo, (nthBs es k).b.sv⟩, x.vs, (nthBs es k).vt, (nthBs es k).vm⟩) (by rw [nthBs_set_same hk]; rfl)
  rw [List.set_set] at h4
  have h5 := ownBs_store h4 (k := k) (j := 5) (by rw [List.length_set]; exact hk) (by omega) (u := x.vt) (e' := ⟨⟨x.b.vw, x.b.pa, ⟨x.b.p.vw, x.b.p.nm, x.b.p.sv, x.b.p.tg⟩, (nthBs es k).b.mo, (nthBs es k).b.sv⟩, x.vs, x.vt, (nthBs es k).vm⟩) (by rw [nthBs_set_same hk]; rfl)
  rw [List.set_set] at h5
  have h6 := ownBs_store h5 (k := k) (j := 6) (by rw [List.length_set]; exact hk) (by omega) (u := x.vm) (e' := ⟨⟨x.b.vw, x.b.pa, ⟨x.b.p.vw, x.b.p.nm, x.b.p.sv, x.b.p.tg⟩, x.b.mo, (nthBs es k).b.sv⟩, x.vs, x.vt, x.vm⟩) (by rw [nthBs_set_same hk]; rfl)
  rw [List.set_set] at h6
  have h7 := ownBs_store h6 (k := k) (j := 7) (by rw [List.length_set]; exact hk) (by omega) (u := .int .i64 x.b.sv) (e' := x) (by rw [nthBs_set_same hk]; rfl)
  rw [List.set_set] at h7
  exact h7
theorem below_put8R {a W : World} {g o : Nat} {x : BlX} (h : Below a.heap.size a W) (hg : a.heap.size ≤ g) : Below a.heap.size a (put8R W g o x) :=
  (((((((h.setCell (p := ⟨g, _, none⟩) hg _).setCell (p := ⟨g, _, none⟩) hg _).setCell (p := ⟨g, _, none⟩) hg _).setCell (p := ⟨g, _, none⟩) hg _).setCell (p := ⟨g, _, none⟩) hg _).setCell (p := ⟨g, _, none⟩) hg _).setCell (p := ⟨g, _, none⟩) hg _).setCell (p := ⟨g, _, none⟩) hg _
theorem row_put8R {W : World} {B t s n g o : Nat} {x : BlX} {v : Value} {xs : List Value} (h : W.ownsRow B t s v n xs) (hg : ∀ k, v.ownBlock = some k → g ≠ k) : (put8R W g o x).ownsRow B t s v n xs := row_set (row_set (row_set (row_set (row_set (row_set (row_set (row_set h hg) hg) hg) hg) hg) hg) hg) hg
theorem take_snocB {xs : List BlX} {k : Nat} (hk : k < xs.length) : xs.take (k + 1) = xs.take k ++ [nthBs xs k] := by rw [List.take_succ_eq_append_getElem hk, nthBs_eq hk]
/-- How much rows of Blocks hold. -/
def bsz (ts : List BlX) : Nat := (ts.map (fun t => 1 + t.b.p.sv.length + t.b.p.tg.length + t.b.mo.length)).sum
theorem bsz_take {ts : List BlX} {k : Nat} (hk : k < ts.length) : bsz (ts.take (k + 1)) = bsz (ts.take k) + (1 + (nthBs ts k).b.p.sv.length + (nthBs ts k).b.p.tg.length + (nthBs ts k).b.mo.length) := by
  unfold bsz
  rw [take_snocB hk, List.map_append, List.sum_append]
  simp
theorem bsz_mem {ts : List BlX} {t : BlX} (h : t ∈ ts) : 1 + t.b.p.sv.length + t.b.p.tg.length + t.b.mo.length ≤ bsz ts := by
  induction ts with
  | nil => cases h
  | cons a r ih =>
    have e : bsz (a :: r) = (1 + a.b.p.sv.length + a.b.p.tg.length + a.b.mo.length) + bsz r := by simp [bsz]
    rcases List.mem_cons.1 h with rfl | h
    · omega
    · have := ih h; omega
theorem bsz_len (ts : List BlX) : ts.length ≤ bsz ts := by
  induction ts with
  | nil => exact Nat.le_refl _
  | cons a r ih =>
    have e : bsz (a :: r) = (1 + a.b.p.sv.length + a.b.p.tg.length + a.b.mo.length) + bsz r := by simp [bsz]
    rw [e, List.length_cons]; omega
theorem RdBs.atN {w : World} {a : Option Addr} {n cap : Nat} {es : List BlX} (h : RdBs w (.slice a n cap) es) (i : Nat) (hi : i < es.length) : ∃ b off, a = some ⟨b, off, none⟩ ∧ BlkAt w b (off + i * 8) (nthBs es i) := by
  obtain ⟨a', cap', hv, _, _, _, h3⟩ := h
  simp only [Value.slice.injEq] at hv
  obtain ⟨rfl, _, _⟩ := hv
  rcases h3 with rfl | ⟨b, off, ha, hc⟩
  · simp at hi
  · exact ⟨b, off, ha, hc i hi⟩
def SmallB (b : Blk) : Prop := ∀ s ∈ b.mo, s.size ≤ 1048576
def SzBs (w : World) (ts : List BlX) (l : Int) (e : Ending) (w' : World) : Prop :=
  Below w.heap.size w w' ∧ ∃ z : Int, e = .returned (.int .i64 z) ∧ (z = -1 ∨ 0 ≤ z ∧ z + bsz ts ≤ l ∧ ∀ t ∈ ts, SmallB t.b)
set_option maxHeartbeats 1000000 in
set_option maxRecDepth 100000 in
theorem szBlocks_at (v : Value) (ts : List BlX) (l : Int) (w : World) (hr : RdBs w v ts) (hi : InBs w ts) (hh : ∀ t ∈ ts, ∀ s ∈ t.b.mo, s.size ≤ maxLen) (hl0 : 0 ≤ l) (hl1 : l ≤ 1048576) :
    Calls Tryz.prog 101 #[v, .int .i64 l] w fun e w' => SzBs w ts l e w' := by
  obtain ⟨a, cap, hv, hla, hma, -⟩ := id hr
  obtain ⟨nn, hnn⟩ : ∃ nn, nn = ts.length := ⟨_, rfl⟩
  have HNN : Hid (nn = ts.length) := hnn
  rw [← hnn] at hv hla
  subst hv
  unfold maxLen at hma
  have HH : Hid (∀ t ∈ ts, ∀ s ∈ t.b.mo, s.size ≤ maxLen) := hh
  clear hnn hh
  by_cases hbig : l < (nn : Int)
  · have hb2 : l - (nn : Int) < 0 := by omega
    go_enter Tryz.func101, Tryz.ntmps101
    go_wp2
    go_ret
    exact ⟨Below.refl _ _, -1, rfl, .inl rfl⟩
  · have hb2 : ¬ l - (nn : Int) < 0 := by omega
    go_enter Tryz.func101, Tryz.ntmps101
    go_wp2
    go_loopw [1, 5] (fun lv i wr => ∃ (k : Nat) (x : Int), k ≤ nn ∧ i = .int .i64 k ∧ lv = .int .i64 x ∧ 0 ≤ x ∧ x ≤ 1048576 ∧ Hid (x + (bsz (ts.take k) : Int) + ((nn : Int) - (k : Int)) ≤ l) ∧ Hid (∀ j, j < k → SmallB (nthBs ts j).b) ∧ Below w.heap.size w wr) (fun _ i _ => nn - (intOf i).toNat)
    case atStart => exact ⟨0, _, Nat.zero_le _, rfl, rfl, by omega, by omega, by unfold Hid; simp [bsz], (fun j h => by omega), Below.refl _ _⟩
    case round =>
      obtain ⟨k, x, hk, rfl, rfl, hx0, hx1, HX, HJ, hb⟩ := hrel
      by_cases hlt : k < nn
      · have hkl : k < ts.length := by rw [← HNN.out]; exact hlt
        obtain ⟨b, off, rfl, hc⟩ := (hr.below hb).atN k hkl
        have hri := (hi.below hb).nth hkl
        have hkc : k < cap := by omega
        have hht := HH.out (nthBs ts k) (by rw [nthBs_eq hkl]; exact List.getElem_mem hkl)
        have HTK : Hid (bsz (ts.take (k + 1)) = bsz (ts.take k) + (1 + (nthBs ts k).b.p.sv.length + (nthBs ts k).b.p.tg.length + (nthBs ts k).b.mo.length)) := bsz_take hkl
        have HJ2 : Hid (SmallB (nthBs ts k).b → ∀ j, j < k + 1 → SmallB (nthBs ts j).b) := fun h j hj => by
          by_cases e : j = k
          · rw [e]; exact h
          · exact HJ.out j (by omega)
        have HC : Hid (∀ W, RdBl W (nthBs ts k) → Calls Tryz.prog 105 #[.agg #[.int .i64 (nthBs ts k).b.vw, .int .i64 (nthBs ts k).b.pa, .int .i64 (nthBs ts k).b.p.vw, .int .i64 (nthBs ts k).b.p.nm, (nthBs ts k).vs, (nthBs ts k).vt, (nthBs ts k).vm, .int .i64 (nthBs ts k).b.sv], .int .i64 x] W fun e w' => SzBl W (nthBs ts k).b x e w') := fun W h1 => szBlock_any _ x W h1 hht hx0 hx1
        generalize nthBs ts k = t at hc hri HTK HJ2 HC
        obtain ⟨c0, c1, c2, c3, c4, c5, c6, c7⟩ := id hc
        clear hht hkl
        go_wp2_with fail
        refine (HC.out _ hri).mono ?_
        rintro e w2 ⟨hb2, z, rfl, hz⟩
        have bz := hb.trans (hb2.mono hb.size)
        clear HC hc hri c0 c1 c2 c3 c4 c5 c6 c7 hb hb2
        rcases hz with hz | ⟨hz0, hz1, hz2⟩
        · subst hz
          go_wp2
          go_ret
          exact ⟨bz, -1, rfl, .inl rfl⟩
        · have HX2 : Hid (z + (bsz (ts.take (k + 1)) : Int) + ((nn : Int) - ((k + 1 : Nat) : Int)) ≤ l) := by
            have h1 := HX.out
            have h2 := HTK.out
            unfold Hid
            rw [h2]
            omega
          have HJ3 : Hid (∀ j, j < k + 1 → SmallB (nthBs ts j).b) := HJ2.out hz2
          have hz3 : z ≤ 1048576 := by omega
          clear hz2 hz1 HJ2 HTK HX
          go_wp2
          go_roundw
          case rel => exact ⟨k + 1, z, by omega, by go_num, rfl, hz0, hz3, HX2, HJ3, bz⟩
          case measure => simp [intOf]; omega
      · have hke : k = nn := by omega
        have HE : Hid (SzBs w ts l (.returned (.int .i64 x)) wr) := by
          refine ⟨hb, x, rfl, .inr ⟨hx0, ?_, fun t ht => ?_⟩⟩
          · have := HX.out
            rw [hke, HNN.out, List.take_length] at this
            omega
          · obtain ⟨j, hj, rfl⟩ := List.getElem_of_mem ht
            rw [← nthBs_eq hj]
            exact HJ.out j (by rw [hke, HNN.out]; exact hj)
        clear hke
        go_wp2
        go_ret
        exact HE.out
/-- The blocks of the Blocks' rows. -/
def bblks (ts : List BlX) : List Nat := ts.flatMap blB
def InOB (w : World) (lo : Nat) (Xs : List BlX) : Prop := ∀ X ∈ Xs, OwnBl w lo X
theorem InOB.below {w w' : World} {lo : Nat} {Xs : List BlX} (h : InOB w lo Xs) (hb : Below w.heap.size w w') : InOB w' lo Xs := fun X hX => (h X hX).below hb
theorem InOB.mono {w : World} {lo lo' : Nat} {Xs : List BlX} (h : InOB w lo Xs) (hb : lo' ≤ lo) : InOB w lo' Xs := fun X hX => (h X hX).mono hb
theorem InOB.rd {w : World} {lo : Nat} {Xs : List BlX} (h : InOB w lo Xs) : InBs w Xs := fun X hX => (h X hX).rd
/-- Rows of Blocks of the call's own, no two in one block. -/
structure OwnBL (w : World) (lo : Nat) (v : Value) (ts : List BlX) : Prop where
  row : OwnBs w lo v ts
  ins : InOB w lo ts
  nod : (oneB v ++ bblks ts).Nodup
theorem OwnBL.below {w w' : World} {lo : Nat} {v : Value} {ts : List BlX} (h : OwnBL w lo v ts) (hb : Below w.heap.size w w') : OwnBL w' lo v ts := ⟨h.row.below hb, h.ins.below hb, h.nod⟩
theorem OwnBL.mono {w : World} {lo lo' : Nat} {v : Value} {ts : List BlX} (h : OwnBL w lo v ts) (hb : lo' ≤ lo) : OwnBL w lo' v ts := ⟨h.row.mono hb, h.ins.mono hb, h.nod⟩
theorem bblks_bound {w : World} {lo : Nat} {ts : List BlX} (h : InOB w lo ts) {k : Nat} (hk : k ∈ bblks ts) : lo ≤ k ∧ k < w.heap.size := by
  obtain ⟨t, ht, hk⟩ := List.mem_flatMap.1 hk
  exact (h t ht).bound hk
theorem OwnBL.bound {w : World} {lo : Nat} {v : Value} {ts : List BlX} (h : OwnBL w lo v ts) {k : Nat} (hk : k ∈ oneB v ++ bblks ts) : lo ≤ k ∧ k < w.heap.size := by
  rcases List.mem_append.1 hk with hk | hk
  · exact World.ownsRow.lt h.row k (mem_oneB.1 hk)
  · exact bblks_bound h.ins hk
theorem bblks_push (ts : List BlX) (t : BlX) : bblks (ts ++ [t]) = bblks ts ++ blB t := by simp [bblks]
theorem oneBN (v : Value) : (oneB v).Nodup := by
  unfold oneB
  cases v.ownBlock <;> simp
theorem OwnBl.nod {w : World} {lo : Nat} {X : BlX} (h : OwnBl w lo X) : (blB X).Nodup := by
  unfold blB prB
  rw [List.nodup_append, List.nodup_append]
  refine ⟨⟨oneBN _, oneBN _, fun a ha b hb e => ?_⟩, oneBN _, fun a ha b hb e => ?_⟩
  · subst e; exact h.pr.two a (mem_oneB.1 ha) (mem_oneB.1 hb)
  · subst e
    rcases List.mem_append.1 ha with ha | ha
    · exact h.apS a (mem_oneB.1 ha) (mem_oneB.1 hb)
    · exact h.apT a (mem_oneB.1 ha) (mem_oneB.1 hb)
/-- A new Block's rows beside elder ones. -/
theorem nodB_push {w w' : World} {lo : Nat} {v : Value} {ts : List BlX} {t : BlX} (hv : ∀ k, v.ownBlock = some k → k < w.heap.size) (hi : InOB w lo ts) (hn : (oneB v ++ bblks ts).Nodup) (h1 : OwnBl w' w.heap.size t) : (oneB v ++ bblks (ts ++ [t])).Nodup := by
  rw [bblks_push, ← List.append_assoc, List.nodup_append]
  refine ⟨hn, h1.nod, fun a ha b hb e => ?_⟩
  subst e
  have hlt : a < w.heap.size := by
    rcases List.mem_append.1 ha with ha | ha
    · exact hv a (mem_oneB.1 ha)
    · exact (bblks_bound hi ha).2
  have := (h1.bound hb).1
  omega
theorem OwnBl.put8R {W : World} {B g o : Nat} {x X : BlX} (h : OwnBl W B X) (hg : ∀ k ∈ blB X, g ≠ k) : OwnBl (put8R W g o x) B X :=
  have hs : ∀ k, X.vs.ownBlock = some k → g ≠ k := fun k hk => hg k (List.mem_append_left _ (List.mem_append_left _ (mem_oneB.2 hk)))
  have ht : ∀ k, X.vt.ownBlock = some k → g ≠ k := fun k hk => hg k (List.mem_append_left _ (List.mem_append_right _ (mem_oneB.2 hk)))
  have hm : ∀ k, X.vm.ownBlock = some k → g ≠ k := fun k hk => hg k (List.mem_append_right _ (mem_oneB.2 hk))
  ⟨⟨row_put8R h.pr.sv hs, row_put8R h.pr.tg ht, h.pr.two⟩, row_put8R h.mo hm, h.apS, h.apT⟩
def TosB (w : World) (ts : List BlX) (e : Ending) (w' : World) : Prop := ∃ u us, e = .returned u ∧ us.map (·.b) = ts.map (·.b) ∧ OwnBL w' w.heap.size u us ∧ Below w.heap.size w w'
set_option maxHeartbeats 2000000 in
set_option maxRecDepth 100000 in
theorem toBlocks_any (v : Value) (ts : List BlX) (w : World) (hr : RdBs w v ts) (hin : InBs w ts) (hn : bsz ts ≤ 1048576) :
    Calls Tryz.prog 107 #[v] w fun e w' => TosB w ts e w' := by
  obtain ⟨i0, hi, hz0, hz1, hz2⟩ := info_parts Tryz.infoBs34
  obtain ⟨a, cap, hv, hla, hma, -⟩ := id hr
  have HL : Hid (∀ t ∈ ts, t.b.p.sv.length + t.b.p.tg.length + t.b.mo.length ≤ 1048576) := fun t ht => by have := bsz_mem ht; omega
  have hn2 : ts.length ≤ 1048576 := by have := bsz_len ts; omega
  obtain ⟨nn, hnn⟩ : ∃ nn, nn = ts.length := ⟨_, rfl⟩
  have HNN : Hid (nn = ts.length) := hnn
  rw [← hnn] at hv hla hn2
  subst hv
  unfold maxLen at hma
  clear hnn hn
  go_enter Tryz.func107, Tryz.ntmps107
  go_wp2_with (at_make; (refine wpList_make_full _ rfl _ _ 27 rfl w.heap.size 34 i0 _ 8 Tryz.underlying27 hi hz0 hz1 .i64 .i64 (nn : Int) (nn : Int) nn rfl rfl rfl rfl ?c1 ?c2 ?c3 ?_))
  case c1 => rw [hz2]; omega
  case c2 => unfold maxLen; omega
  case c3 => omega
  intro w1 ho1 hg1
  rw [made_BsV] at ho1
  have hb1 : Below w.heap.size w w1 := (Below.refl _ _).grown hg1 (Nat.le_refl _) (fun k hk => by cases hk)
  have hs1 : w.heap.size + 1 ≤ w1.heap.size := (World.ownsRow.lt ho1 w.heap.size rfl).2
  clear hg1
  go_wp2
  go_loopw [4] (fun i wr => ∃ (k : Nat) (us : List BlX), k ≤ nn ∧ i = .int .i64 k ∧ wr.ownsRow w.heap.size 34 8 (.slice (some ⟨w.heap.size, 0, none⟩) nn nn) nn (BsV (us ++ List.replicate (nn - k) zeroBs)) ∧ Hid (us.length = k ∧ us.map (·.b) = (ts.take k).map (·.b) ∧ InOB wr (w.heap.size + 1) us ∧ (oneB (.slice (some ⟨w.heap.size, 0, none⟩) nn nn) ++ bblks us).Nodup) ∧ w.heap.size + 1 ≤ wr.heap.size ∧ Below w.heap.size w wr) (fun i _ => nn - (intOf i).toNat)
  case atStart => exact ⟨0, [], Nat.zero_le _, rfl, by simpa using ho1, ⟨rfl, rfl, (fun t ht => by cases ht), by simp [bblks, oneBN]⟩, hs1, hb1⟩
  case round =>
    obtain ⟨k, us, hk, rfl, ho, HC, hs, hb⟩ := hrel
    clear ho1 hb1 hs1
    by_cases hlt : k < nn
    · have hkl : k < ts.length := by rw [← HNN.out]; exact hlt
      obtain ⟨b, off, rfl, hc⟩ := (hr.below hb).atN k hkl
      have hri := (hin.below hb).nth hkl
      have hkc : k < cap := by omega
      have hlt2 := HL.out (nthBs ts k) (by rw [nthBs_eq hkl]; exact List.getElem_mem hkl)
      have HTK : Hid ((ts.take (k + 1)).map (·.b) = (ts.take k).map (·.b) ++ [(nthBs ts k).b]) := by unfold Hid; rw [take_snocB hkl, List.map_append]; rfl
      have HCL : Hid (∀ W, RdBl W (nthBs ts k) → Calls Tryz.prog 111 #[.agg #[.int .i64 (nthBs ts k).b.vw, .int .i64 (nthBs ts k).b.pa, .int .i64 (nthBs ts k).b.p.vw, .int .i64 (nthBs ts k).b.p.nm, (nthBs ts k).vs, (nthBs ts k).vt, (nthBs ts k).vm, .int .i64 (nthBs ts k).b.sv]] W fun e w' => ToBl W (nthBs ts k).b e w') := fun W h1 => toBlock_any _ W h1 hlt2
      generalize nthBs ts k = t at hc hri HTK HCL
      obtain ⟨c0, c1, c2, c3, c4, c5, c6, c7⟩ := id hc
      clear hlt2 hkl
      go_wp2_with fail
      refine (HCL.out _ hri).mono ?_
      rintro e w2 ⟨Y, rfl, hyb, hoy, hb2⟩
      have ho2 := own_below ho hb2
      have hlen : (us ++ List.replicate (nn - k) zeroBs).length = nn := by rw [List.length_append, HC.out.1, List.length_replicate]; omega
      obtain ⟨d0, d1, d2, d3, d4, d5, d6, d7⟩ := ownBs_cell ho2 hlen.symm k hlt
      have f0 := ho2.frozenAt (k * 8)
      have f1 := ho2.frozenAt (k * 8 + 1)
      have f2 := ho2.frozenAt (k * 8 + 2)
      have f3 := ho2.frozenAt (k * 8 + 3)
      have f4 := ho2.frozenAt (k * 8 + 4)
      have f5 := ho2.frozenAt (k * 8 + 5)
      have f6 := ho2.frozenAt (k * 8 + 6)
      have f7 := ho2.frozenAt (k * 8 + 7)
      have R1 := ownBs_store8 ho2 (k := k) (by rw [hlen]; exact hlt) Y
      have hset : (us ++ List.replicate (nn - k) zeroBs).set k Y = (us ++ [Y]) ++ List.replicate (nn - (k + 1)) zeroBs := by
        obtain ⟨m, hm⟩ : ∃ m, nn - k = m + 1 := ⟨nn - k - 1, by omega⟩
        rw [List.set_append_right _ _ (by rw [HC.out.1]; exact Nat.le_refl _), HC.out.1, Nat.sub_self, hm, show nn - (k + 1) = m by omega, List.replicate_succ, List.set_cons_zero, List.append_assoc]
        rfl
      rw [hset] at R1
      have b3 := hb.trans (hb2.mono hb.size)
      have hgne : ∀ {X : BlX}, OwnBl w2 (w.heap.size + 1) X → ∀ q ∈ blB X, w.heap.size ≠ q := fun hX q hq e => by have := (hX.bound hq).1; omega
      have HC2 : Hid ((us ++ [Y]).length = k + 1 ∧ (us ++ [Y]).map (·.b) = (ts.take (k + 1)).map (·.b) ∧ InOB (put8R w2 w.heap.size (k * 8) Y) (w.heap.size + 1) (us ++ [Y]) ∧ (oneB (.slice (some ⟨w.heap.size, 0, none⟩) nn nn) ++ bblks (us ++ [Y])).Nodup) := by
        obtain ⟨g1, g2, g3, g4⟩ := HC.out
        refine ⟨by rw [List.length_append, g1]; rfl, by rw [List.map_append, g2, HTK.out]; simp [hyb], fun x hx => ?_, nodB_push (fun q hq => by have : w.heap.size = q := Option.some.inj hq; omega) g3 g4 hoy⟩
        rcases List.mem_append.1 hx with hx | hx
        · have h3 := (g3.below hb2) x hx
          exact h3.put8R (hgne h3)
        · rw [List.mem_singleton.1 hx]
          exact (hoy.mono hs).put8R (hgne (hoy.mono hs))
      have b4 := below_put8R (o := k * 8) (x := Y) b3 (Nat.le_refl _)
      have hs4 : w.heap.size + 1 ≤ w2.heap.size := Nat.le_trans hs hb2.size
      have e1 : ∃ a n c, Y.vs = .slice a n c := by obtain ⟨a, c, h⟩ := ownSlX hoy.pr.sv; exact ⟨a, _, c, h⟩
      have e2 : ∃ a n c, Y.vt = .slice a n c := by obtain ⟨a, c, h⟩ := ownSlX hoy.pr.tg; exact ⟨a, _, c, h⟩
      have e3 : ∃ a n c, Y.vm = .slice a n c := by obtain ⟨a, c, h⟩ := ownSlX hoy.mo; exact ⟨a, _, c, h⟩
      have H1 : Hid (World.ownsRow _ _ _ _ _ _ _) := R1
      have H4 : Hid (Below _ _ _) := b4
      clear ho ho2 hoy hb hb2 b3 b4 R1 hset hlen HC HTK HCL hc hri hyb c0 c1 c2 c3 c4 c5 c6 c7 hgne
      obtain ⟨yb, ys, yt, ym⟩ := Y
      obtain ⟨a1, n1, k1, e1⟩ := e1
      obtain ⟨a2, n2, k2, e2⟩ := e2
      obtain ⟨a3, n3, k3, e3⟩ := e3
      dsimp only at e1 e2 e3
      subst e1 e2 e3
      go_wp2
      go_roundw
      case rel => exact ⟨k + 1, _, by omega, by go_num, H1.out, HC2, by simpa using hs4, H4.out⟩
      case measure => simp [intOf]; omega
    · have hke : k = nn := by omega
      have HEND : Hid (TosB w ts (.returned (.slice (some ⟨w.heap.size, 0, none⟩) nn nn)) wr) := by
        obtain ⟨g1, g2, g3, g4⟩ := HC.out
        refine ⟨_, us, rfl, by rw [g2, hke, HNN.out, List.take_length], ⟨?_, g3.mono (by omega), g4⟩, hb⟩
        unfold OwnBs
        rw [g1, hke]
        rw [hke, Nat.sub_self, List.replicate_zero, List.append_nil] at ho
        exact ho
      clear ho HC hke
      go_wp2
      go_ret
      exact HEND.out
set_option maxHeartbeats 2000000 in
set_option maxRecDepth 100000 in
theorem eqBlocks_same (va vb : Value) (us qs : List BlX) (w : World) (ha : RdBs w va us) (hia : InBs w us) (hb : RdBs w vb qs) (hib : InBs w qs) (hs : us.map (·.b) = qs.map (·.b)) :
    Calls Tryz.prog 114 #[va, vb] w fun e w' => e = .returned (.bool true) ∧ Below w.heap.size w w' := by
  obtain ⟨aa, ca, hva, hla, hma, -⟩ := id ha
  obtain ⟨ab, cb, hvb, hlb, hmb, -⟩ := id hb
  have hl : qs.length = us.length := by have := congrArg List.length hs; simpa using this.symm
  rw [hl] at hvb hlb
  obtain ⟨nn, hnn⟩ : ∃ nn, nn = us.length := ⟨_, rfl⟩
  rw [← hnn] at hva hla hvb hlb hl
  have HNU : Hid (nn = us.length) := hnn
  have HNQ : Hid (qs.length = nn) := hl
  have HS : Hid (∀ k, k < nn → (nthBs qs k).b = (nthBs us k).b) := fun k hk => by
    have h1 : k < us.length := by omega
    have h2 : k < qs.length := by omega
    have := congrArg (fun l : List Blk => l[k]?) hs
    simp only [List.getElem?_map, List.getElem?_eq_getElem h1, List.getElem?_eq_getElem h2, Option.map_some, Option.some.injEq] at this
    rw [nthBs_eq h1, nthBs_eq h2, this]
  unfold maxLen at hma hmb
  subst hva
  subst hvb
  have hne : ((nn : Int) != (nn : Int)) = false := by simp
  clear hnn hl hs
  go_enter Tryz.func114, Tryz.ntmps114
  go_wp2
  go_loopw [5] (fun i wr => ∃ k : Nat, k ≤ nn ∧ i = .int .i64 k ∧ Below w.heap.size w wr) (fun i _ => nn - (intOf i).toNat)
  case atStart => exact ⟨0, Nat.zero_le _, rfl, Below.refl _ _⟩
  case round =>
    obtain ⟨k, hk, rfl, hbw⟩ := hrel
    by_cases hlt : k < nn
    · obtain ⟨b1, o1, rfl, hc1⟩ := (ha.below hbw).atN k (by rw [← HNU.out]; exact hlt)
      obtain ⟨b2, o2, rfl, hc2⟩ := (hb.below hbw).atN k (by rw [HNQ.out]; exact hlt)
      have hi1 := (hia.below hbw).nth (i := k) (by rw [← HNU.out]; exact hlt)
      have hi2 := (hib.below hbw).nth (i := k) (by rw [HNQ.out]; exact hlt)
      have HT : Hid ((nthBs us k).b = (nthBs qs k).b) := (HS.out k hlt).symm
      have hkc1 : k < ca := by omega
      have hkc2 : k < cb := by omega
      generalize nthBs qs k = Z at hc2 hi2 HT
      generalize nthBs us k = Y at hc1 hi1 HT
      have HE : Hid (∀ W, RdBl W Y → RdBl W Z → Calls Tryz.prog 118 #[.agg #[.int .i64 Y.b.vw, .int .i64 Y.b.pa, .int .i64 Y.b.p.vw, .int .i64 Y.b.p.nm, Y.vs, Y.vt, Y.vm, .int .i64 Y.b.sv], .agg #[.int .i64 Z.b.vw, .int .i64 Z.b.pa, .int .i64 Z.b.p.vw, .int .i64 Z.b.p.nm, Z.vs, Z.vt, Z.vm, .int .i64 Z.b.sv]] W fun e w' => e = .returned (.bool true) ∧ Below W.heap.size W w') := fun W h1 h2 => eqBlock_same Y Z W h1 h2 HT.out
      unfold BlkAt at hc1 hc2
      clear HT
      go_wp2_with fail
      refine wp_region_noPanic ?_
      refine wp_region_held_drew (S := fun w' => (w'.cell? ⟨b1, o1 + k * 8, none⟩ = some (.int .i64 Y.b.vw) ∧ w'.cell? ⟨b1, o1 + k * 8 + 1, none⟩ = some (.int .i64 Y.b.pa) ∧ w'.cell? ⟨b1, o1 + k * 8 + 2, none⟩ = some (.int .i64 Y.b.p.vw) ∧ w'.cell? ⟨b1, o1 + k * 8 + 3, none⟩ = some (.int .i64 Y.b.p.nm) ∧ w'.cell? ⟨b1, o1 + k * 8 + 4, none⟩ = some (Y.vs) ∧ w'.cell? ⟨b1, o1 + k * 8 + 5, none⟩ = some (Y.vt) ∧ w'.cell? ⟨b1, o1 + k * 8 + 6, none⟩ = some (Y.vm) ∧ w'.cell? ⟨b1, o1 + k * 8 + 7, none⟩ = some (.int .i64 Y.b.sv)) ∧ (w'.cell? ⟨b2, o2 + k * 8, none⟩ = some (.int .i64 Z.b.vw) ∧ w'.cell? ⟨b2, o2 + k * 8 + 1, none⟩ = some (.int .i64 Z.b.pa) ∧ w'.cell? ⟨b2, o2 + k * 8 + 2, none⟩ = some (.int .i64 Z.b.p.vw) ∧ w'.cell? ⟨b2, o2 + k * 8 + 3, none⟩ = some (.int .i64 Z.b.p.nm) ∧ w'.cell? ⟨b2, o2 + k * 8 + 4, none⟩ = some (Z.vs) ∧ w'.cell? ⟨b2, o2 + k * 8 + 5, none⟩ = some (Z.vt) ∧ w'.cell? ⟨b2, o2 + k * 8 + 6, none⟩ = some (Z.vm) ∧ w'.cell? ⟨b2, o2 + k * 8 + 7, none⟩ = some (.int .i64 Z.b.sv))) (by kernel_rfl) ⟨hc1, hc2⟩ (fun hH => ?_)
      refine tkG 0 17 hH ?_
      try simp only [Act.put, List.setIfInBounds_toArray, List.set_cons_zero, List.set_cons_succ]
      refine tkG 1 18 hH ?_
      try simp only [Act.put, List.setIfInBounds_toArray, List.set_cons_zero, List.set_cons_succ]
      refine tkG 2 19 hH ?_
      try simp only [Act.put, List.setIfInBounds_toArray, List.set_cons_zero, List.set_cons_succ]
      refine tkG 3 20 hH ?_
      try simp only [Act.put, List.setIfInBounds_toArray, List.set_cons_zero, List.set_cons_succ]
      refine tkG 4 21 hH ?_
      try simp only [Act.put, List.setIfInBounds_toArray, List.set_cons_zero, List.set_cons_succ]
      refine tkG 5 22 hH ?_
      try simp only [Act.put, List.setIfInBounds_toArray, List.set_cons_zero, List.set_cons_succ]
      refine tkG 6 23 hH ?_
      try simp only [Act.put, List.setIfInBounds_toArray, List.set_cons_zero, List.set_cons_succ]
      refine tkG 7 24 hH ?_
      try simp only [Act.put, List.setIfInBounds_toArray, List.set_cons_zero, List.set_cons_succ]
      refine wpAnyH_ready (rs := [8]) (by kernel_rfl) (by simp) ?_
      refine AllReadyH.cons rfl (fun K hK => ?_) AllReadyH.nil
      go_simp
      refine (HE.out _ (hi1.below (Below.refl _ _).drew) (hi2.below (Below.refl _ _).drew)).mono ?_
      rintro e w1 ⟨rfl, hb1⟩
      refine hK.out _ _ ⟨BlkAt.below (w := wr.drew) (e := Y) hH.1 hb1, BlkAt.below (w := wr.drew) (e := Z) hH.2 hb1⟩ (fun hA => ?_)
      clear hK K
      try simp only [Act.put, List.setIfInBounds_toArray, List.set_cons_zero, List.set_cons_succ]
      refine tkG 9 26 hA ?_
      try simp only [Act.put, List.setIfInBounds_toArray, List.set_cons_zero, List.set_cons_succ]
      refine wpAnyH_done (by kernel_rfl) ?_ _
      refine NoPanic.normal ?_
      have bz := hbw.drew.trans (hb1.mono hbw.size)
      clear hH hA hc1 hc2
      go_wp2
      go_roundw
      case rel => exact ⟨k + 1, by omega, by go_num, bz⟩
      case measure => simp [intOf]; omega
    · have hke : k = nn := by omega
      subst hke
      go_wp2
      go_ret
      exact ⟨rfl, hbw⟩
end Go.Proofs.YtilhaokiohbeeaaGreatDoor
