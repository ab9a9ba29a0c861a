/- Plain facts on rows of Messages (20 cells each) that a call owns or reads. Loads and stores of whole structs, by the library's laws; boxes that are stored whole. -/
import Derived.Test.YtilhaokiohbeeaaGreatDoorG04
import Derived.Test.YtilhaokiohbeeaaGreatDoorG03
import Derived.Deep.MidRow
import Derived.Laws.Rows
import Derived.Laws.Tables
namespace Go.Proofs.YtilhaokiohbeeaaGreatDoor
open Go.RowKit
/-- A Message: its Kind, From, To, View, Block, Vote and Proof, with the values of its rows. -/
structure MsX where
  kd : Int
  fr : Int
  to' : Int
  vw : Int
  bl : BlX
  vo : Vot
  pf : PrX
def zeroMs : MsX := ⟨0, 0, 0, 0, zeroBs, zeroVo, ⟨⟨0, 0, [], []⟩, .slice none 0 0, .slice none 0 0⟩⟩
def nthMs (xs : List MsX) (i : Nat) : MsX := xs.getD i zeroMs
theorem nthMs_eq {xs : List MsX} {i : Nat} (h : i < xs.length) : nthMs xs i = xs[i] := by simp [nthMs, List.getD, List.getElem?_eq_getElem h]
theorem nthMs_zero (a : MsX) (r : List MsX) : nthMs (a :: r) 0 = a := by simp [nthMs]
instance : Inhabited MsX := ⟨zeroMs⟩
theorem nthMs_succ (a : MsX) (r : List MsX) (i : Nat) : nthMs (a :: r) (i + 1) = nthMs r i := by simp [nthMs, List.getD]
theorem Tryz.infoMs38 : (Tryz.prog.info? 38).map (fun i => (i.zero, i.size, i.bytes)) = some (some (.agg #[.int .i64 0, .int .i64 0, .int .i64 0, .int .i64 0, .int .i64 0, .int .i64 0, .int .i64 0, .int .i64 0, .slice none 0 0, .slice none 0 0, .slice none 0 0, .int .i64 0, .int .i64 0, .int .i64 0, .int .i64 0, .int .i64 0, .int .i64 0, .int .i64 0, .slice none 0 0, .slice none 0 0]), 20, 240) := by kernel_rfl
/-- The cells of a Message. -/
def MsC (e : MsX) : List Value := [.int .i64 e.kd, .int .i64 e.fr, .int .i64 e.to', .int .i64 e.vw, .int .i64 e.bl.b.vw, .int .i64 e.bl.b.pa, .int .i64 e.bl.b.p.vw, .int .i64 e.bl.b.p.nm, e.bl.vs, e.bl.vt, e.bl.vm, .int .i64 e.bl.b.sv, .int .i64 e.vo.vw, .int .i64 e.vo.nm, .int .i64 e.vo.sv, .int .i64 e.vo.tg, .int .i64 e.pf.p.vw, .int .i64 e.pf.p.nm, e.pf.vs, e.pf.vt]
def MsA (e : MsX) : Value := .agg #[.int .i64 e.kd, .int .i64 e.fr, .int .i64 e.to', .int .i64 e.vw, .int .i64 e.bl.b.vw, .int .i64 e.bl.b.pa, .int .i64 e.bl.b.p.vw, .int .i64 e.bl.b.p.nm, e.bl.vs, e.bl.vt, e.bl.vm, .int .i64 e.bl.b.sv, .int .i64 e.vo.vw, .int .i64 e.vo.nm, .int .i64 e.vo.sv, .int .i64 e.vo.tg, .int .i64 e.pf.p.vw, .int .i64 e.pf.p.nm, e.pf.vs, e.pf.vt]
def MsV (es : List MsX) : List Value := es.flatMap MsC
theorem MsV_length : ∀ es : List MsX, (MsV es).length = es.length * 20
  | [] => rfl
  | a :: r => by
    have := MsV_length r
    unfold MsV at this ⊢
    rw [List.flatMap_cons, List.length_append, this, List.length_cons]
    simp [MsC]; omega
theorem MsV_append (a b : List MsX) : MsV (a ++ b) = MsV a ++ MsV b := by simp [MsV]
theorem MsV_one (e : MsX) : MsV [e] = MsC e := by simp [MsV]
theorem MsV_cons (a : MsX) (r : List MsX) : MsV (a :: r) = MsC a ++ MsV r := by simp [MsV]
theorem MsV_get : ∀ (es : List MsX) (i : Nat), i < es.length → ∀ j, j < 20 → (MsV es)[i * 20 + j]? = (MsC (nthMs es i))[j]?
  | [], i, h, _, _ => by simp at h
  | a :: r, 0, _, j, hj => by
    rw [MsV_cons, nthMs_zero, Nat.zero_mul, Nat.zero_add, List.getElem?_append_left (by simp [MsC]; exact hj)]
  | a :: r, i + 1, h, j, hj => by
    rw [MsV_cons, nthMs_succ, ← MsV_get r i (by simpa using h) j hj, List.getElem?_append_right (by simp [MsC]; omega)]
    congr 1
    simp [MsC]; omega
/-- Its five rows are slices. -/
def SlM (X : MsX) : Prop := X.bl.vs.oneCell' = true ∧ X.bl.vt.oneCell' = true ∧ X.bl.vm.oneCell' = true ∧ X.pf.vs.oneCell' = true ∧ X.pf.vt.oneCell' = true
theorem MsV_oneCell (es : List MsX) (hsl : ∀ X ∈ es, SlM X) : ∀ u ∈ MsV es, u.oneCell' = true := by
  intro u hu
  simp only [MsV, List.mem_flatMap] at hu
  obtain ⟨e, hel, he⟩ := hu
  obtain ⟨s1, s2, s3, s4, s5⟩ := hsl e hel
  simp only [MsC, List.mem_cons, List.not_mem_nil, or_false] at he
  rcases he with rfl | rfl | rfl | rfl | rfl | rfl | rfl | rfl | rfl | rfl | rfl | rfl | rfl | rfl | rfl | rfl | rfl | rfl | rfl | rfl <;> first | rfl | assumption
/-- The entry e lies at offset o of block b. -/
def MsgAt (w : World) (b o : Nat) (e : MsX) : Prop :=
  w.cell? ⟨b, o, none⟩ = some (.int .i64 e.kd) ∧ w.cell? ⟨b, o + 1, none⟩ = some (.int .i64 e.fr) ∧ w.cell? ⟨b, o + 2, none⟩ = some (.int .i64 e.to') ∧ w.cell? ⟨b, o + 3, none⟩ = some (.int .i64 e.vw) ∧ w.cell? ⟨b, o + 4, none⟩ = some (.int .i64 e.bl.b.vw) ∧ w.cell? ⟨b, o + 5, none⟩ = some (.int .i64 e.bl.b.pa) ∧ w.cell? ⟨b, o + 6, none⟩ = some (.int .i64 e.bl.b.p.vw) ∧ w.cell? ⟨b, o + 7, none⟩ = some (.int .i64 e.bl.b.p.nm) ∧ w.cell? ⟨b, o + 8, none⟩ = some (e.bl.vs) ∧ w.cell? ⟨b, o + 9, none⟩ = some (e.bl.vt) ∧ w.cell? ⟨b, o + 10, none⟩ = some (e.bl.vm) ∧ w.cell? ⟨b, o + 11, none⟩ = some (.int .i64 e.bl.b.sv) ∧ w.cell? ⟨b, o + 12, none⟩ = some (.int .i64 e.vo.vw) ∧ w.cell? ⟨b, o + 13, none⟩ = some (.int .i64 e.vo.nm) ∧ w.cell? ⟨b, o + 14, none⟩ = some (.int .i64 e.vo.sv) ∧ w.cell? ⟨b, o + 15, none⟩ = some (.int .i64 e.vo.tg) ∧ w.cell? ⟨b, o + 16, none⟩ = some (.int .i64 e.pf.p.vw) ∧ w.cell? ⟨b, o + 17, none⟩ = some (.int .i64 e.pf.p.nm) ∧ w.cell? ⟨b, o + 18, none⟩ = some (e.pf.vs) ∧ w.cell? ⟨b, o + 19, none⟩ = some (e.pf.vt)
/-- The slice v is the call's own (its block is at least number base) and holds the entries es. -/
def OwnMs (w : World) (base : Nat) (v : Value) (es : List MsX) : Prop := w.ownsRow base 38 20 v es.length (MsV es)
/-- The slice v can be read and holds the entries es. -/
def RdMs (w : World) (v : Value) (es : List MsX) : Prop :=
  ∃ a cap, v = .slice a es.length cap ∧ es.length ≤ cap ∧ cap ≤ maxLen ∧ (a = none → cap = 0) ∧
    (es = [] ∨ ∃ b off, a = some ⟨b, off, none⟩ ∧ ∀ i, i < es.length → MsgAt w b (off + i * 20) (nthMs es i))
theorem MsgAt.lt {w : World} {b o : Nat} {e : MsX} (h : MsgAt w b o e) : b < w.heap.size := World.block_lt_of_cell? w _ h.1
theorem MsgAt.of_block {w w' : World} {b o : Nat} {e : MsX} (h : MsgAt w b o e) (hb : w'.heap[b]? = w.heap[b]?) : MsgAt w' b o e :=
  ⟨(World.cell?_of_block (a := ⟨b, o, none⟩) hb).trans h.1, (World.cell?_of_block (a := ⟨b, o + 1, none⟩) hb).trans h.2.1, (World.cell?_of_block (a := ⟨b, o + 2, none⟩) hb).trans h.2.2.1, (World.cell?_of_block (a := ⟨b, o + 3, none⟩) hb).trans h.2.2.2.1, (World.cell?_of_block (a := ⟨b, o + 4, none⟩) hb).trans h.2.2.2.2.1, (World.cell?_of_block (a := ⟨b, o + 5, none⟩) hb).trans h.2.2.2.2.2.1, (World.cell?_of_block (a := ⟨b, o + 6, none⟩) hb).trans h.2.2.2.2.2.2.1, (World.cell?_of_block (a := ⟨b, o + 7, none⟩) hb).trans h.2.2.2.2.2.2.2.1, (World.cell?_of_block (a := ⟨b, o + 8, none⟩) hb).trans h.2.2.2.2.2.2.2.2.1, (World.cell?_of_block (a := ⟨b, o + 9, none⟩) hb).trans h.2.2.2.2.2.2.2.2.2.1, (World.cell?_of_block (a := ⟨b, o + 10, none⟩) hb).trans h.2.2.2.2.2.2.2.2.2.2.1, (World.cell?_of_block (a := ⟨b, o + 11, none⟩) hb).trans h.2.2.2.2.2.2.2.2.2.2.2.1, (World.cell?_of_block (a := ⟨b, o + 12, none⟩) hb).trans h.2.2.2.2.2.2.2.2.2.2.2.2.1, (World.cell?_of_block (a := ⟨b, o + 13, none⟩) hb).trans h.2.2.2.2.2.2.2.2.2.2.2.2.2.1, (World.cell?_of_block (a := ⟨b, o + 14, none⟩) hb).trans h.2.2.2.2.2.2.2.2.2.2.2.2.2.2.1, (World.cell?_of_block (a := ⟨b, o + 15, none⟩) hb).trans h.2.2.2.2.2.2.2.2.2.2.2.2.2.2.2.1, (World.cell?_of_block (a := ⟨b, o + 16, none⟩) hb).trans h.2.2.2.2.2.2.2.2.2.2.2.2.2.2.2.2.1, (World.cell?_of_block (a := ⟨b, o + 17, none⟩) hb).trans h.2.2.2.2.2.2.2.2.2.2.2.2.2.2.2.2.2.1, (World.cell?_of_block (a := ⟨b, o + 18, none⟩) hb).trans h.2.2.2.2.2.2.2.2.2.2.2.2.2.2.2.2.2.2.1, (World.cell?_of_block (a := ⟨b, o + 19, none⟩) hb).trans h.2.2.2.2.2.2.2.2.2.2.2.2.2.2.2.2.2.2.2⟩
theorem MsgAt.below {w w' : World} {b o : Nat} {e : MsX} (h : MsgAt w b o e) (hb : Below w.heap.size w w') : MsgAt w' b o e := h.of_block (hb.block b h.lt)
theorem ownMs_cell {w : World} {base g cap n : Nat} {es : List MsX} (h : w.ownsRow base 38 20 (.slice (some ⟨g, 0, none⟩) n cap) n (MsV es)) (hn : n = es.length) (i : Nat) (hi : i < n) : MsgAt w g (i * 20) (nthMs es i) := by
  subst hn
  have c : ∀ j, j < 20 → w.cell? ⟨g, i * 20 + j, none⟩ = (MsC (nthMs es i))[j]? := fun j hj => (h.cellAt (i * 20 + j) (by omega)).trans (MsV_get es i hi j hj)
  exact ⟨c 0 (by omega), c 1 (by omega), c 2 (by omega), c 3 (by omega), c 4 (by omega), c 5 (by omega), c 6 (by omega), c 7 (by omega), c 8 (by omega), c 9 (by omega), c 10 (by omega), c 11 (by omega), c 12 (by omega), c 13 (by omega), c 14 (by omega), c 15 (by omega), c 16 (by omega), c 17 (by omega), c 18 (by omega), c 19 (by omega)⟩
theorem OwnMs.rd {w : World} {base : Nat} {v : Value} {es : List MsX} (h : OwnMs w base v es) : RdMs w v es := by
  have h' := h
  rcases h.2 with ⟨rfl, h0⟩ | ⟨g, cap, cur, rfl, hb, hg, hn, hc, hs, ht⟩
  · have : es = [] := List.length_eq_zero_iff.1 h0
    subst this
    exact ⟨none, 0, rfl, Nat.le_refl _, Nat.zero_le _, fun _ => rfl, .inl rfl⟩
  · refine ⟨some ⟨g, 0, none⟩, cap, rfl, hn, hc, (fun h => by cases h), .inr ⟨g, 0, rfl, fun i hi => ?_⟩⟩
    rw [Nat.zero_add]
    exact ownMs_cell h' rfl i hi
theorem OwnMs.below {w w' : World} {base : Nat} {v : Value} {es : List MsX} (h : OwnMs w base v es) (hb : Below w.heap.size w w') : OwnMs w' base v es := own_below h hb
theorem OwnMs.drewN {w : World} {base : Nat} {v : Value} {es : List MsX} (h : OwnMs w base v es) (q : Nat) : OwnMs (w.drewN q) base v es := h
theorem OwnMs.mono {w : World} {base base' : Nat} {v : Value} {es : List MsX} (h : OwnMs w base v es) (hb : base' ≤ base) : OwnMs w base' v es := by
  refine ⟨h.1, ?_⟩
  rcases h.2 with h2 | ⟨g, cap, cur, hv, hg, r⟩
  · exact .inl h2
  · exact .inr ⟨g, cap, cur, hv, Nat.le_trans hb hg, r⟩
theorem RdMs.below {w w' : World} {v : Value} {es : List MsX} (h : RdMs w v es) (hb : Below w.heap.size w w') : RdMs w' v es := by
  obtain ⟨a, cap, hv, h1, h2, h0, h3⟩ := h
  refine ⟨a, cap, hv, h1, h2, h0, ?_⟩
  rcases h3 with h3 | ⟨b, off, ha, hc⟩
  · exact .inl h3
  · exact .inr ⟨b, off, ha, fun i hi => (hc i hi).below hb⟩
theorem RdMs.drewN {w : World} {v : Value} {es : List MsX} (h : RdMs w v es) (q : Nat) : RdMs (w.drewN q) v es := h
theorem rdMs_nil (w : World) : RdMs w (.slice none 0 0) [] := ⟨none, 0, rfl, Nat.le_refl _, Nat.zero_le _, fun _ => rfl, .inl rfl⟩
theorem ownMs_none (w : World) : OwnMs (w.alloc (.cells #[] 38)) w.heap.size (.slice (some ⟨w.heap.size, 0, none⟩) 0 0) [] := World.ownsRow_lit w #[] 0 (Nat.le_refl _) (Nat.zero_le _) rfl
theorem ownMs_lt {w : World} {B : Nat} {v : Value} {es : List MsX} (h : OwnMs w B v es) : ∀ k, v.ownBlock = some k → k < w.heap.size := fun k hk => (World.ownsRow.lt h k hk).2
theorem ownMs_more {w1 : World} {B : Nat} {v' : Value} {ys zs : List MsX} (h : w1.ownsRow B 38 20 v' (ys.length + zs.length) (MsV ys ++ MsV zs)) : OwnMs w1 B v' (ys ++ zs) := by
  unfold OwnMs
  rw [MsV_append, List.length_append]
  exact h
/-- Where an entry of a slice lies. -/
theorem RdMs.at {w : World} {a : Option Addr} {n cap : Nat} {es : List MsX} (h : RdMs w (.slice a n cap) es) (hn : n = es.length) (i : Nat) (hi : i < es.length) : ∃ b off, a = some ⟨b, off, none⟩ ∧ MsgAt w b (off + i * 20) (nthMs es i) := by
  obtain ⟨a', cap', hv, _, _, _, h3⟩ := h
  simp only [Value.slice.injEq] at hv
  obtain ⟨rfl, _, _⟩ := hv
  rcases h3 with rfl | ⟨b, off, ha, hc⟩
  · simp at hi
  · exact ⟨b, off, ha, hc i hi⟩
theorem MsV_nth {es : List MsX} {j : Nat} {u : Value} (h : (MsV es)[j]? = some u) : j / 20 < es.length ∧ (MsC (nthMs es (j / 20)))[j % 20]? = some u := by
  have hj : j < (MsV es).length := (List.getElem?_eq_some_iff.1 h).1
  rw [MsV_length] at hj
  have h1 : j / 20 < es.length := by omega
  refine ⟨h1, ?_⟩
  have h2 := MsV_get es (j / 20) h1 (j % 20) (by omega)
  rw [show j / 20 * 20 + j % 20 = j by omega] at h2
  rw [← h2]; exact h
theorem MsgAt.cellAt {w : World} {b o : Nat} {e : MsX} (h : MsgAt w b o e) {j : Nat} {u : Value} (hu : (MsC e)[j]? = some u) : w.cell? ⟨b, o + j, none⟩ = some u := by
  obtain ⟨h0, h1, h2, h3, h4, h5, h6, h7, h8, h9, h10, h11, h12, h13, h14, h15, h16, h17, h18, h19⟩ := h
  match j, hu with
  | 0, hu => simp [MsC] at hu; subst hu; exact h0
  | 1, hu => simp [MsC] at hu; subst hu; exact h1
  | 2, hu => simp [MsC] at hu; subst hu; exact h2
  | 3, hu => simp [MsC] at hu; subst hu; exact h3
  | 4, hu => simp [MsC] at hu; subst hu; exact h4
  | 5, hu => simp [MsC] at hu; subst hu; exact h5
  | 6, hu => simp [MsC] at hu; subst hu; exact h6
  | 7, hu => simp [MsC] at hu; subst hu; exact h7
  | 8, hu => simp [MsC] at hu; subst hu; exact h8
  | 9, hu => simp [MsC] at hu; subst hu; exact h9
  | 10, hu => simp [MsC] at hu; subst hu; exact h10
  | 11, hu => simp [MsC] at hu; subst hu; exact h11
  | 12, hu => simp [MsC] at hu; subst hu; exact h12
  | 13, hu => simp [MsC] at hu; subst hu; exact h13
  | 14, hu => simp [MsC] at hu; subst hu; exact h14
  | 15, hu => simp [MsC] at hu; subst hu; exact h15
  | 16, hu => simp [MsC] at hu; subst hu; exact h16
  | 17, hu => simp [MsC] at hu; subst hu; exact h17
  | 18, hu => simp [MsC] at hu; subst hu; exact h18
  | 19, hu => simp [MsC] at hu; subst hu; exact h19
/-- The cells of a slice of entries, in a row. -/
theorem messagesAt_cells {w : World} {b off : Nat} {es : List MsX} (h : ∀ i, i < es.length → MsgAt w b (off + i * 20) (nthMs es i)) : ∀ j u, (MsV es)[j]? = some u → w.cell? ((⟨b, off, none⟩ : Addr).add j) = some u := by
  intro j u hu
  obtain ⟨h1, h2⟩ := MsV_nth hu
  have := (h _ h1).cellAt h2
  rw [Addr.add_lit]
  rw [show off + j / 20 * 20 + j % 20 = off + j by omega] at this
  exact this
/-- append of entries that can be read onto a row of the call's own. -/
theorem run_append_messages (ty : TypeId) {w : World} {base : Nat} {v u : Value} {ys zs : List MsX} (hown : OwnMs w base v ys) (hr : RdMs w u zs) (hsl : ∀ X ∈ zs, SlM X) (hl : ys.length + zs.length ≤ 1000000000) (hbase : base ≤ w.heap.size) :
    ∃ v' w', (Builtin.append_ #[41, 41] ty #[v, u]).run Tryz.prog w = .ok v' w' ∧ OwnMs w' base v' (ys ++ zs) ∧ w.grownBy w' v.ownBlock := by
  obtain ⟨i0, hi, hz0, hz1, hz2⟩ := info_parts Tryz.infoMs38
  obtain ⟨a, cap, rfl, h1, h2, h0, h3⟩ := hr
  have row : ∀ ad news, news = MsV zs → (∀ j u, news[j]? = some u → w.cell? (ad.add j) = some u) → ∃ v' w', (Builtin.append_ #[41, 41] ty #[v, .slice (some ad) zs.length cap]).run Tryz.prog w = .ok v' w' ∧ OwnMs w' base v' (ys ++ zs) ∧ w.grownBy w' v.ownBlock := by
    intro ad news hn hc
    subst hn
    obtain ⟨v', w', hrun, r1, r2, _⟩ := run_append_own (P := Tryz.prog) w base 41 ty 38 i0 _ 20 240 Tryz.underlying41 hi hz0 hz1 hz2 rfl (by decide) v ys.length (MsV ys) hown ad zs.length cap (MsV zs) (MsV_length zs) hc (MsV_oneCell zs hsl) (by unfold maxLen; omega) (by omega) hbase
    exact ⟨v', w', hrun, ownMs_more r1, r2⟩
  cases a with
  | some ad =>
    refine row ad (MsV zs) rfl ?_
    rcases h3 with rfl | ⟨b, off, ha, hc⟩
    · intro j u hj; simp [MsV] at hj
    · cases ha; exact messagesAt_cells hc
  | none =>
    have hc0 := h0 rfl
    subst hc0
    rcases h3 with rfl | ⟨b, off, ha, hc⟩
    · refine ⟨v, w, run_append_owned_none (P := Tryz.prog) w base 41 ty 38 i0 20 Tryz.underlying41 hi v ys.length (MsV ys) hown, by simpa using hown, ⟨rfl, rfl, rfl, Nat.le_refl _, fun _ _ _ => rfl⟩⟩
    · cases ha
theorem wpList_append_messages {w : World} {ops : Array Oper} {rest : List Oper} {o : Oper} {a : Act} {Q : Exit → Act → World → Prop} (hgd : o.guard = none) (s x : Operand)
    (ho : o.op = .call { callee := .builtin .append, args := #[s, x], argTypes := #[41, 41] }) (base : Nat) (v u : Value) (ys zs : List MsX) (hs : a.eval s = v) (hx : a.eval x = u) (hown : OwnMs w base v ys) (hr : RdMs w u zs) (hsl : ∀ X ∈ zs, SlM X) (hl : ys.length + zs.length ≤ 1000000000) (hbase : base ≤ w.heap.size)
    (h : ∀ v' w', OwnMs w' base v' (ys ++ zs) → w.grownBy w' v.ownBlock → wpList Tryz.prog ops Q rest (a.put o.dst v') w') : wpList Tryz.prog ops Q (o :: rest) a w := by
  refine wpList_plain hgd fun K hK => ?_
  obtain ⟨v', w', hrun, r1, r2⟩ := run_append_messages o.type hown hr hsl hl hbase
  unfold Oper.wp
  simp [execOp, ho, resolve, invoke, builtin, hs, hx, hrun, Result.andThen]
  exact hK _ _ (h v' w' r1 r2)
theorem step_append_messages {w : World} {ops : Array Oper} {o : Oper} {a : Act} {K : Act → World → Prop} {Q : Exit → Act → World → Prop} {E : Prop} (hgd : o.guard = none) (d : Nat) (hd : o.dst = some d) (s x : Operand)
    (ho : o.op = .call { callee := .builtin .append, args := #[s, x], argTypes := #[41, 41] }) (base : Nat) (v u : Value) (ys zs : List MsX) (hs : a.eval s = v) (hx : a.eval x = u) (hown : OwnMs w base v ys) (hr : RdMs w u zs) (hsl : ∀ X ∈ zs, SlM X) (hl : ys.length + zs.length ≤ 1000000000) (hbase : base ≤ w.heap.size)
    (h : ∀ v' w', OwnMs w' base v' (ys ++ zs) → w.grownBy w' v.ownBlock → K (a.put (some d) v') w') :
    if Region.wanted o (yielded ops a.tmps) = true then Oper.wp Tryz.prog o a w K Q else E := by
  have hw : Region.wanted o (yielded ops a.tmps) = true := by simp [Region.wanted, hgd]
  rw [if_pos hw]
  obtain ⟨v', w', hrun, r1, r2⟩ := run_append_messages o.type hown hr hsl hl hbase
  unfold Oper.wp
  simp [execOp, ho, resolve, invoke, builtin, hs, hx, hrun, Result.andThen]
  have h' := h v' w' r1 r2
  rw [← hd] at h'
  exact h'
/-- A Message's rows can be read. -/
structure RdMg (w : World) (X : MsX) : Prop where
  bl : RdBl w X.bl
  pf : RdPr w X.pf
theorem RdMg.below {w w' : World} {X : MsX} (h : RdMg w X) (hb : Below w.heap.size w w') : RdMg w' X := ⟨h.bl.below hb, h.pf.below hb⟩
theorem RdMg.sl {w : World} {X : MsX} (h : RdMg w X) : SlM X := by
  obtain ⟨h1, h2, h3⟩ := h.bl.sl
  obtain ⟨h4, h5⟩ := OwnPr.sl h.pf
  exact ⟨h1, h2, h3, h4, h5⟩
/-- Each of the Messages can be read. -/
def InMs (w : World) (Xs : List MsX) : Prop := ∀ X ∈ Xs, RdMg w X
theorem InMs.below {w w' : World} {Xs : List MsX} (h : InMs w Xs) (hb : Below w.heap.size w w') : InMs w' Xs := fun X hX => (h X hX).below hb
theorem InMs.sl {w : World} {Xs : List MsX} (h : InMs w Xs) : ∀ X ∈ Xs, SlM X := fun X hX => (h X hX).sl
theorem InMs.nth {w : World} {Xs : List MsX} (h : InMs w Xs) {i : Nat} (hi : i < Xs.length) : RdMg w (nthMs Xs i) := by rw [nthMs_eq hi]; exact h _ (List.getElem_mem hi)
end Go.Proofs.YtilhaokiohbeeaaGreatDoor
namespace Go.Proofs.YtilhaokiohbeeaaGreatDoor
open Go.RowKit
theorem exec_load_mid {P : Program} {op : Oper} {a : Act} {w : World} (ty : TypeId) (x : Operand) (ho : op.op = .load ty x) (b o : Nat) (hx : a.eval x = .pointer (some ⟨b, o, none⟩)) (cs : List Value) (d : TypeDesc) (hc : w.rangeAt b o cs)
    (hu : P.underlying ty = some d) (hd : d.isRow = true) (hi : (P.info? ty).map (·.size) = some cs.length) : (execOp a.eval op).run P w = .ok (.value (.agg cs.toArray)) w := by
  unfold execOp
  simp only [ho, hx, Instr.loadAt, Instr.sureAddr, Sem.run_bind, Sem.run_pure, Result.andThen_ok, run_loadVar_mid w b o ty cs d hc hu hd hi]
theorem touch_setRow {w : World} {g : Nat} {cs : Array Value} : Touch [g] w (w.setRow g cs) := ⟨rfl, rfl, rfl, by simp, fun k _ hn => setRow_other w g k cs (fun e => hn (by simp [e]))⟩
theorem Bx.setRow {w : World} {b t : Nat} {cs : Array Value} (h : Bx w b t cs) (ds : Array Value) : Bx (w.setRow b ds) b t ds := setRow_heap w b cs ds t (0, 0) h
theorem touch_setCells (g : Nat) : ∀ (vs : List Value) (o : Nat) (w : World), Touch [g] w (w.setCells g o vs)
  | [], _, w => Touch.refl _ w
  | v :: r, o, w => (Touch.set (List.mem_singleton.2 rfl)).trans (touch_setCells g r (o + 1) (w.setCell ⟨g, o, none⟩ v))
end Go.Proofs.YtilhaokiohbeeaaGreatDoor
