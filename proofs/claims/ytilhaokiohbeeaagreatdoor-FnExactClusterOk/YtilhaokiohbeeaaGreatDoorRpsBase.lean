/- Plain facts on rows of Replicas (14 cells each) that a call owns or reads. -/
import Derived.Test.YtilhaokiohbeeaaGreatDoorRepCp
namespace Go.Proofs.YtilhaokiohbeeaaGreatDoor
open Go.RowKit
def zeroRs : RepX := ⟨0, 0, 0, 0, 0, 0, ⟨⟨0, 0, [], []⟩, .slice none 0 0, .slice none 0 0⟩, .slice none 0 0, [], .slice none 0 0, [], .slice none 0 0, [], .slice none 0 0, []⟩
def nthRs (xs : List RepX) (i : Nat) : RepX := xs.getD i zeroRs
theorem nthRs_eq {xs : List RepX} {i : Nat} (h : i < xs.length) : nthRs xs i = xs[i] := by simp [nthRs, List.getD, List.getElem?_eq_getElem h]
theorem nthRs_zero (a : RepX) (r : List RepX) : nthRs (a :: r) 0 = a := by simp [nthRs]
instance : Inhabited RepX := ⟨zeroRs⟩
theorem nthRs_succ (a : RepX) (r : List RepX) (i : Nat) : nthRs (a :: r) (i + 1) = nthRs r i := by simp [nthRs, List.getD]
theorem Tryz.infoRs31 : (Tryz.prog.info? 31).map (fun i => (i.zero, i.size, i.bytes)) = some (some (.agg #[.int .i64 0, .int .i64 0, .int .i64 0, .int .i64 0, .int .i64 0, .int .i64 0, .int .i64 0, .int .i64 0, .slice none 0 0, .slice none 0 0, .slice none 0 0, .slice none 0 0, .slice none 0 0, .slice none 0 0]), 14, 208) := by kernel_rfl
/-- The cells of a Replica. -/
def RsC (e : RepX) : List Value := [.int .i64 e.idn, .int .i64 e.n, .int .i64 e.vw, .int .i64 e.vo, .int .i64 e.lo, .int .i64 e.pr, .int .i64 e.hi.p.vw, .int .i64 e.hi.p.nm, e.hi.vs, e.hi.vt, e.vb, e.vv, e.vn, e.vd]
def RsA (e : RepX) : Value := .agg #[.int .i64 e.idn, .int .i64 e.n, .int .i64 e.vw, .int .i64 e.vo, .int .i64 e.lo, .int .i64 e.pr, .int .i64 e.hi.p.vw, .int .i64 e.hi.p.nm, e.hi.vs, e.hi.vt, e.vb, e.vv, e.vn, e.vd]
def RsV (es : List RepX) : List Value := es.flatMap RsC
theorem RsV_length : ∀ es : List RepX, (RsV es).length = es.length * 14
  | [] => rfl
  | a :: r => by
    have := RsV_length r
    unfold RsV at this ⊢
    rw [List.flatMap_cons, List.length_append, this, List.length_cons]
    simp [RsC]; omega
theorem RsV_append (a b : List RepX) : RsV (a ++ b) = RsV a ++ RsV b := by simp [RsV]
theorem RsV_one (e : RepX) : RsV [e] = RsC e := by simp [RsV]
theorem RsV_cons (a : RepX) (r : List RepX) : RsV (a :: r) = RsC a ++ RsV r := by simp [RsV]
theorem RsV_get : ∀ (es : List RepX) (i : Nat), i < es.length → ∀ j, j < 14 → (RsV es)[i * 14 + j]? = (RsC (nthRs es i))[j]?
  | [], i, h, _, _ => by simp at h
  | a :: r, 0, _, j, hj => by
    rw [RsV_cons, nthRs_zero, Nat.zero_mul, Nat.zero_add, List.getElem?_append_left (by simp [RsC]; exact hj)]
  | a :: r, i + 1, h, j, hj => by
    rw [RsV_cons, nthRs_succ, ← RsV_get r i (by simpa using h) j hj, List.getElem?_append_right (by simp [RsC]; omega)]
    congr 1
    simp [RsC]; omega
/-- Its six rows are slices. -/
def SlR (X : RepX) : Prop := X.hi.vs.oneCell' = true ∧ X.hi.vt.oneCell' = true ∧ X.vb.oneCell' = true ∧ X.vv.oneCell' = true ∧ X.vn.oneCell' = true ∧ X.vd.oneCell' = true
theorem RsV_oneCell (es : List RepX) (hsl : ∀ X ∈ es, SlR X) : ∀ u ∈ RsV es, u.oneCell' = true := by
  intro u hu
  simp only [RsV, List.mem_flatMap] at hu
  obtain ⟨e, hel, he⟩ := hu
  obtain ⟨s1, s2, s3, s4, s5, s6⟩ := hsl e hel
  simp only [RsC, List.mem_cons, List.not_mem_nil, or_false] at he
  rcases he with rfl | rfl | rfl | rfl | rfl | rfl | rfl | rfl | rfl | rfl | rfl | rfl | rfl | rfl <;> first | rfl | assumption
/-- The entry e lies at offset o of block b. -/
def RepAt (w : World) (b o : Nat) (e : RepX) : Prop :=
  w.cell? ⟨b, o, none⟩ = some (.int .i64 e.idn) ∧ w.cell? ⟨b, o + 1, none⟩ = some (.int .i64 e.n) ∧ w.cell? ⟨b, o + 2, none⟩ = some (.int .i64 e.vw) ∧ w.cell? ⟨b, o + 3, none⟩ = some (.int .i64 e.vo) ∧ w.cell? ⟨b, o + 4, none⟩ = some (.int .i64 e.lo) ∧ w.cell? ⟨b, o + 5, none⟩ = some (.int .i64 e.pr) ∧ w.cell? ⟨b, o + 6, none⟩ = some (.int .i64 e.hi.p.vw) ∧ w.cell? ⟨b, o + 7, none⟩ = some (.int .i64 e.hi.p.nm) ∧ w.cell? ⟨b, o + 8, none⟩ = some (e.hi.vs) ∧ w.cell? ⟨b, o + 9, none⟩ = some (e.hi.vt) ∧ w.cell? ⟨b, o + 10, none⟩ = some (e.vb) ∧ w.cell? ⟨b, o + 11, none⟩ = some (e.vv) ∧ w.cell? ⟨b, o + 12, none⟩ = some (e.vn) ∧ w.cell? ⟨b, o + 13, none⟩ = some (e.vd)
/-- The slice v is the call's own (its block is at least number base) and holds the entries es. -/
def OwnRs (w : World) (base : Nat) (v : Value) (es : List RepX) : Prop := w.ownsRow base 31 14 v es.length (RsV es)
/-- The slice v can be read and holds the entries es. -/
def RdRs (w : World) (v : Value) (es : List RepX) : Prop :=
  ∃ a cap, v = .slice a es.length cap ∧ es.length ≤ cap ∧ cap ≤ maxLen ∧ (a = none → cap = 0) ∧
    (es = [] ∨ ∃ b off, a = some ⟨b, off, none⟩ ∧ ∀ i, i < es.length → RepAt w b (off + i * 14) (nthRs es i))
theorem RepAt.lt {w : World} {b o : Nat} {e : RepX} (h : RepAt w b o e) : b < w.heap.size := World.block_lt_of_cell? w _ h.1
theorem RepAt.of_block {w w' : World} {b o : Nat} {e : RepX} (h : RepAt w b o e) (hb : w'.heap[b]? = w.heap[b]?) : RepAt w' b o e :=
  ⟨(World.cell?_of_block (a := ⟨b, o, none⟩) hb).trans h.1, (World.cell?_of_block (a := ⟨b, o + 1, none⟩) hb).trans h.2.1, (World.cell?_of_block (a := ⟨b, o + 2, none⟩) hb).trans h.2.2.1, (World.cell?_of_block (a := ⟨b, o + 3, none⟩) hb).trans h.2.2.2.1, (World.cell?_of_block (a := ⟨b, o + 4, none⟩) hb).trans h.2.2.2.2.1, (World.cell?_of_block (a := ⟨b, o + 5, none⟩) hb).trans h.2.2.2.2.2.1, (World.cell?_of_block (a := ⟨b, o + 6, none⟩) hb).trans h.2.2.2.2.2.2.1, (World.cell?_of_block (a := ⟨b, o + 7, none⟩) hb).trans h.2.2.2.2.2.2.2.1, (World.cell?_of_block (a := ⟨b, o + 8, none⟩) hb).trans h.2.2.2.2.2.2.2.2.1, (World.cell?_of_block (a := ⟨b, o + 9, none⟩) hb).trans h.2.2.2.2.2.2.2.2.2.1, (World.cell?_of_block (a := ⟨b, o + 10, none⟩) hb).trans h.2.2.2.2.2.2.2.2.2.2.1, (World.cell?_of_block (a := ⟨b, o + 11, none⟩) hb).trans h.2.2.2.2.2.2.2.2.2.2.2.1, (World.cell?_of_block (a := ⟨b, o + 12, none⟩) hb).trans h.2.2.2.2.2.2.2.2.2.2.2.2.1, (World.cell?_of_block (a := ⟨b, o + 13, none⟩) hb).trans h.2.2.2.2.2.2.2.2.2.2.2.2.2⟩
theorem RepAt.below {w w' : World} {b o : Nat} {e : RepX} (h : RepAt w b o e) (hb : Below w.heap.size w w') : RepAt w' b o e := h.of_block (hb.block b h.lt)
theorem ownRs_cell {w : World} {base g cap n : Nat} {es : List RepX} (h : w.ownsRow base 31 14 (.slice (some ⟨g, 0, none⟩) n cap) n (RsV es)) (hn : n = es.length) (i : Nat) (hi : i < n) : RepAt w g (i * 14) (nthRs es i) := by
  subst hn
  have c : ∀ j, j < 14 → w.cell? ⟨g, i * 14 + j, none⟩ = (RsC (nthRs es i))[j]? := fun j hj => (h.cellAt (i * 14 + j) (by omega)).trans (RsV_get es i hi j hj)
  exact ⟨c 0 (by omega), c 1 (by omega), c 2 (by omega), c 3 (by omega), c 4 (by omega), c 5 (by omega), c 6 (by omega), c 7 (by omega), c 8 (by omega), c 9 (by omega), c 10 (by omega), c 11 (by omega), c 12 (by omega), c 13 (by omega)⟩
theorem OwnRs.rd {w : World} {base : Nat} {v : Value} {es : List RepX} (h : OwnRs w base v es) : RdRs w v es := by
  have h' := h
  rcases h.2 with ⟨rfl, h0⟩ | ⟨g, cap, cur, rfl, hb, hg, hn, hc, hs, ht⟩
  · have : es = [] := List.length_eq_zero_iff.1 h0
    subst this
    exact ⟨none, 0, rfl, Nat.le_refl _, Nat.zero_le _, fun _ => rfl, .inl rfl⟩
  · refine ⟨some ⟨g, 0, none⟩, cap, rfl, hn, hc, (fun h => by cases h), .inr ⟨g, 0, rfl, fun i hi => ?_⟩⟩
    rw [Nat.zero_add]
    exact ownRs_cell h' rfl i hi
theorem OwnRs.below {w w' : World} {base : Nat} {v : Value} {es : List RepX} (h : OwnRs w base v es) (hb : Below w.heap.size w w') : OwnRs w' base v es := own_below h hb
theorem OwnRs.drewN {w : World} {base : Nat} {v : Value} {es : List RepX} (h : OwnRs w base v es) (q : Nat) : OwnRs (w.drewN q) base v es := h
theorem OwnRs.mono {w : World} {base base' : Nat} {v : Value} {es : List RepX} (h : OwnRs w base v es) (hb : base' ≤ base) : OwnRs w base' v es := by
  refine ⟨h.1, ?_⟩
  rcases h.2 with h2 | ⟨g, cap, cur, hv, hg, r⟩
  · exact .inl h2
  · exact .inr ⟨g, cap, cur, hv, Nat.le_trans hb hg, r⟩
theorem RdRs.below {w w' : World} {v : Value} {es : List RepX} (h : RdRs w v es) (hb : Below w.heap.size w w') : RdRs w' v es := by
  obtain ⟨a, cap, hv, h1, h2, h0, h3⟩ := h
  refine ⟨a, cap, hv, h1, h2, h0, ?_⟩
  rcases h3 with h3 | ⟨b, off, ha, hc⟩
  · exact .inl h3
  · exact .inr ⟨b, off, ha, fun i hi => (hc i hi).below hb⟩
theorem RdRs.drewN {w : World} {v : Value} {es : List RepX} (h : RdRs w v es) (q : Nat) : RdRs (w.drewN q) v es := h
theorem rdRs_nil (w : World) : RdRs w (.slice none 0 0) [] := ⟨none, 0, rfl, Nat.le_refl _, Nat.zero_le _, fun _ => rfl, .inl rfl⟩
theorem ownRs_none (w : World) : OwnRs (w.alloc (.cells #[] 31)) w.heap.size (.slice (some ⟨w.heap.size, 0, none⟩) 0 0) [] := World.ownsRow_lit w #[] 0 (Nat.le_refl _) (Nat.zero_le _) rfl
theorem ownRs_lt {w : World} {B : Nat} {v : Value} {es : List RepX} (h : OwnRs w B v es) : ∀ k, v.ownBlock = some k → k < w.heap.size := fun k hk => (World.ownsRow.lt h k hk).2
theorem ownRs_more {w1 : World} {B : Nat} {v' : Value} {ys zs : List RepX} (h : w1.ownsRow B 31 14 v' (ys.length + zs.length) (RsV ys ++ RsV zs)) : OwnRs w1 B v' (ys ++ zs) := by
  unfold OwnRs
  rw [RsV_append, List.length_append]
  exact h
/-- Where an entry of a slice lies. -/
theorem RdRs.at {w : World} {a : Option Addr} {n cap : Nat} {es : List RepX} (h : RdRs w (.slice a n cap) es) (hn : n = es.length) (i : Nat) (hi : i < es.length) : ∃ b off, a = some ⟨b, off, none⟩ ∧ RepAt w b (off + i * 14) (nthRs es i) := by
  obtain ⟨a', cap', hv, _, _, _, h3⟩ := h
  simp only [Value.slice.injEq] at hv
  obtain ⟨rfl, _, _⟩ := hv
  rcases h3 with rfl | ⟨b, off, ha, hc⟩
  · simp at hi
  · exact ⟨b, off, ha, hc i hi⟩
theorem RsV_nth {es : List RepX} {j : Nat} {u : Value} (h : (RsV es)[j]? = some u) : j / 14 < es.length ∧ (RsC (nthRs es (j / 14)))[j % 14]? = some u := by
  have hj : j < (RsV es).length := (List.getElem?_eq_some_iff.1 h).1
  rw [RsV_length] at hj
  have h1 : j / 14 < es.length := by omega
  refine ⟨h1, ?_⟩
  have h2 := RsV_get es (j / 14) h1 (j % 14) (by omega)
  rw [show j / 14 * 14 + j % 14 = j by omega] at h2
  rw [← h2]; exact h
theorem RepAt.cellAt {w : World} {b o : Nat} {e : RepX} (h : RepAt w b o e) {j : Nat} {u : Value} (hu : (RsC e)[j]? = some u) : w.cell? ⟨b, o + j, none⟩ = some u := by
  obtain ⟨h0, h1, h2, h3, h4, h5, h6, h7, h8, h9, h10, h11, h12, h13⟩ := h
  match j, hu with
  | 0, hu => simp [RsC] at hu; subst hu; exact h0
  | 1, hu => simp [RsC] at hu; subst hu; exact h1
  | 2, hu => simp [RsC] at hu; subst hu; exact h2
  | 3, hu => simp [RsC] at hu; subst hu; exact h3
  | 4, hu => simp [RsC] at hu; subst hu; exact h4
  | 5, hu => simp [RsC] at hu; subst hu; exact h5
  | 6, hu => simp [RsC] at hu; subst hu; exact h6
  | 7, hu => simp [RsC] at hu; subst hu; exact h7
  | 8, hu => simp [RsC] at hu; subst hu; exact h8
  | 9, hu => simp [RsC] at hu; subst hu; exact h9
  | 10, hu => simp [RsC] at hu; subst hu; exact h10
  | 11, hu => simp [RsC] at hu; subst hu; exact h11
  | 12, hu => simp [RsC] at hu; subst hu; exact h12
  | 13, hu => simp [RsC] at hu; subst hu; exact h13
/-- The cells of a slice of entries, in a row. -/
theorem replicasAt_cells {w : World} {b off : Nat} {es : List RepX} (h : ∀ i, i < es.length → RepAt w b (off + i * 14) (nthRs es i)) : ∀ j u, (RsV es)[j]? = some u → w.cell? ((⟨b, off, none⟩ : Addr).add j) = some u := by
  intro j u hu
  obtain ⟨h1, h2⟩ := RsV_nth hu
  have := (h _ h1).cellAt h2
  rw [Addr.add_lit]
  rw [show off + j / 14 * 14 + j % 14 = off + j by omega] at this
  exact this
/-- Each of the Replicas can be read. -/
def InRs (w : World) (Xs : List RepX) : Prop := ∀ X ∈ Xs, RdRep w X
theorem InRs.below {w w' : World} {Xs : List RepX} (h : InRs w Xs) (hb : Below w.heap.size w w') : InRs w' Xs := fun X hX => (h X hX).below hb
theorem InRs.nth {w : World} {Xs : List RepX} (h : InRs w Xs) {i : Nat} (hi : i < Xs.length) : RdRep w (nthRs Xs i) := by rw [nthRs_eq hi]; exact h _ (List.getElem_mem hi)
end Go.Proofs.YtilhaokiohbeeaaGreatDoor
