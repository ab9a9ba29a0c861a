/- Plain facts on rows of writes (three cells each) that a call owns or reads. -/
import Derived.Test.YthkckgjcecommaaTreMath2
import Derived.Test.YthkckgjcecommaaEntSpecOk
import Derived.Deep.RegionLaw
namespace Go.Proofs.Ythkckgjcecommaa
open Go.RowKit
def zeroW : Wri := ⟨⟨#[]⟩, ⟨#[]⟩, false⟩
def nthW (xs : List Wri) (i : Nat) : Wri := xs.getD i zeroW
theorem nthW_eq {xs : List Wri} {i : Nat} (h : i < xs.length) : nthW xs i = xs[i] := by simp [nthW, List.getD, List.getElem?_eq_getElem h]
theorem nthW_zero (a : Wri) (r : List Wri) : nthW (a :: r) 0 = a := by simp [nthW]
theorem nthW_succ (a : Wri) (r : List Wri) (i : Nat) : nthW (a :: r) (i + 1) = nthW r i := by simp [nthW, List.getD]
theorem Try.infoW37 : (Try.prog.info? 37).map (fun i => (i.zero, i.size, i.bytes)) = some (some (.agg #[.string ⟨#[]⟩, .string ⟨#[]⟩, .bool false]), 3, 40) := by kernel_rfl
/-- The four cells of an entry. -/
def WC (e : Wri) : List Value := [.string e.key, .string e.val, .bool e.gone]
def WA (e : Wri) : Value := .agg #[.string e.key, .string e.val, .bool e.gone]
def WV (es : List Wri) : List Value := es.flatMap WC
theorem WV_length : ∀ es : List Wri, (WV es).length = es.length * 3
  | [] => rfl
  | a :: r => by
    have := WV_length r
    unfold WV at this ⊢
    rw [List.flatMap_cons, List.length_append, this, List.length_cons]
    simp [WC]; omega
theorem WV_append (a b : List Wri) : WV (a ++ b) = WV a ++ WV b := by simp [WV]
theorem WV_one (e : Wri) : WV [e] = WC e := by simp [WV]
theorem WV_cons (a : Wri) (r : List Wri) : WV (a :: r) = WC a ++ WV r := by simp [WV]
theorem WV_get : ∀ (es : List Wri) (i : Nat), i < es.length → ∀ j, j < 3 → (WV es)[i * 3 + j]? = (WC (nthW es i))[j]?
  | [], i, h, _, _ => by simp at h
  | a :: r, 0, _, j, hj => by
    rw [WV_cons, nthW_zero, Nat.zero_mul, Nat.zero_add, List.getElem?_append_left (by simp [WC]; exact hj)]
  | a :: r, i + 1, h, j, hj => by
    rw [WV_cons, nthW_succ, ← WV_get r i (by simpa using h) j hj, List.getElem?_append_right (by simp [WC]; omega)]
    congr 1
    simp [WC]; omega
theorem WV_oneCell (es : List Wri) : ∀ u ∈ WV es, u.oneCell' = true := by
  intro u hu
  simp only [WV, List.mem_flatMap] at hu
  obtain ⟨e, _, he⟩ := hu
  simp only [WC, List.mem_cons, List.not_mem_nil, or_false] at he
  rcases he with rfl | rfl | rfl <;> rfl
/-- The entry e lies at offset o of block b. -/
def WriAt (w : World) (b o : Nat) (e : Wri) : Prop :=
  w.cell? ⟨b, o, none⟩ = some (.string e.key) ∧ w.cell? ⟨b, o + 1, none⟩ = some (.string e.val) ∧ w.cell? ⟨b, o + 2, none⟩ = some (.bool e.gone)
/-- The slice v is the call's own (its block is at least number base) and holds the entries es. -/
def OwnW (w : World) (base : Nat) (v : Value) (es : List Wri) : Prop := w.ownsRow base 37 3 v es.length (WV es)
/-- The slice v can be read and holds the entries es. -/
def RdW (w : World) (v : Value) (es : List Wri) : Prop :=
  ∃ a cap, v = .slice a es.length cap ∧ es.length ≤ cap ∧ cap ≤ maxLen ∧ (a = none → cap = 0) ∧
    (es = [] ∨ ∃ b off, a = some ⟨b, off, none⟩ ∧ ∀ i, i < es.length → WriAt w b (off + i * 3) (nthW es i))
theorem WriAt.lt {w : World} {b o : Nat} {e : Wri} (h : WriAt w b o e) : b < w.heap.size := World.block_lt_of_cell? w _ h.1
theorem WriAt.of_block {w w' : World} {b o : Nat} {e : Wri} (h : WriAt w b o e) (hb : w'.heap[b]? = w.heap[b]?) : WriAt w' b o e :=
  ⟨(World.cell?_of_block (a := ⟨b, o, none⟩) hb).trans h.1, (World.cell?_of_block (a := ⟨b, o + 1, none⟩) hb).trans h.2.1, (World.cell?_of_block (a := ⟨b, o + 2, none⟩) hb).trans h.2.2⟩
theorem WriAt.below {w w' : World} {b o : Nat} {e : Wri} (h : WriAt w b o e) (hb : Below w.heap.size w w') : WriAt w' b o e := h.of_block (hb.block b h.lt)
theorem ownW_cell {w : World} {base g cap n : Nat} {es : List Wri} (h : w.ownsRow base 37 3 (.slice (some ⟨g, 0, none⟩) n cap) n (WV es)) (hn : n = es.length) (i : Nat) (hi : i < n) : WriAt w g (i * 3) (nthW es i) := by
  subst hn
  have c : ∀ j, j < 3 → w.cell? ⟨g, i * 3 + j, none⟩ = (WC (nthW es i))[j]? := fun j hj => (h.cellAt (i * 3 + j) (by omega)).trans (WV_get es i hi j hj)
  exact ⟨c 0 (by omega), c 1 (by omega), c 2 (by omega)⟩
theorem OwnW.rd {w : World} {base : Nat} {v : Value} {es : List Wri} (h : OwnW w base v es) : RdW w v es := by
  have h' := h
  rcases h.2 with ⟨rfl, h0⟩ | ⟨g, cap, cur, rfl, hb, hg, hn, hc, hs, ht⟩
  · have : es = [] := List.length_eq_zero_iff.1 h0
    subst this
    exact ⟨none, 0, rfl, Nat.le_refl _, Nat.zero_le _, fun _ => rfl, .inl rfl⟩
  · refine ⟨some ⟨g, 0, none⟩, cap, rfl, hn, hc, (fun h => by cases h), .inr ⟨g, 0, rfl, fun i hi => ?_⟩⟩
    rw [Nat.zero_add]
    exact ownW_cell h' rfl i hi
theorem OwnW.below {w w' : World} {base : Nat} {v : Value} {es : List Wri} (h : OwnW w base v es) (hb : Below w.heap.size w w') : OwnW w' base v es := own_below h hb
theorem OwnW.drewN {w : World} {base : Nat} {v : Value} {es : List Wri} (h : OwnW w base v es) (q : Nat) : OwnW (w.drewN q) base v es := h
theorem OwnW.mono {w : World} {base base' : Nat} {v : Value} {es : List Wri} (h : OwnW w base v es) (hb : base' ≤ base) : OwnW w base' v es := by
  refine ⟨h.1, ?_⟩
  rcases h.2 with h2 | ⟨g, cap, cur, hv, hg, r⟩
  · exact .inl h2
  · exact .inr ⟨g, cap, cur, hv, Nat.le_trans hb hg, r⟩
theorem RdW.below {w w' : World} {v : Value} {es : List Wri} (h : RdW w v es) (hb : Below w.heap.size w w') : RdW w' v es := by
  obtain ⟨a, cap, hv, h1, h2, h0, h3⟩ := h
  refine ⟨a, cap, hv, h1, h2, h0, ?_⟩
  rcases h3 with h3 | ⟨b, off, ha, hc⟩
  · exact .inl h3
  · exact .inr ⟨b, off, ha, fun i hi => (hc i hi).below hb⟩
theorem RdW.drewN {w : World} {v : Value} {es : List Wri} (h : RdW w v es) (q : Nat) : RdW (w.drewN q) v es := h
theorem rdW_nil (w : World) : RdW w (.slice none 0 0) [] := ⟨none, 0, rfl, Nat.le_refl _, Nat.zero_le _, fun _ => rfl, .inl rfl⟩
theorem ownW_none (w : World) : OwnW (w.alloc (.cells #[] 37)) w.heap.size (.slice (some ⟨w.heap.size, 0, none⟩) 0 0) [] := World.ownsRow_lit w #[] 0 (Nat.le_refl _) (Nat.zero_le _) rfl
theorem ownW_lt {w : World} {B : Nat} {v : Value} {es : List Wri} (h : OwnW w B v es) : ∀ k, v.ownBlock = some k → k < w.heap.size := fun k hk => (World.ownsRow.lt h k hk).2
theorem ownW_more {w1 : World} {B : Nat} {v' : Value} {ys zs : List Wri} (h : w1.ownsRow B 37 3 v' (ys.length + zs.length) (WV ys ++ WV zs)) : OwnW w1 B v' (ys ++ zs) := by
  unfold OwnW
  rw [WV_append, List.length_append]
  exact h
/-- Where an entry of a slice lies. -/
theorem RdW.at {w : World} {a : Option Addr} {n cap : Nat} {es : List Wri} (h : RdW w (.slice a n cap) es) (hn : n = es.length) (i : Nat) (hi : i < es.length) : ∃ b off, a = some ⟨b, off, none⟩ ∧ WriAt w b (off + i * 3) (nthW es i) := by
  obtain ⟨a', cap', hv, _, _, _, h3⟩ := h
  simp only [Value.slice.injEq] at hv
  obtain ⟨rfl, _, _⟩ := hv
  rcases h3 with rfl | ⟨b, off, ha, hc⟩
  · simp at hi
  · exact ⟨b, off, ha, hc i hi⟩
theorem WV_nth {es : List Wri} {j : Nat} {u : Value} (h : (WV es)[j]? = some u) : j / 3 < es.length ∧ (WC (nthW es (j / 3)))[j % 3]? = some u := by
  have hj : j < (WV es).length := (List.getElem?_eq_some_iff.1 h).1
  rw [WV_length] at hj
  have h1 : j / 3 < es.length := by omega
  refine ⟨h1, ?_⟩
  have h2 := WV_get es (j / 3) h1 (j % 3) (by omega)
  rw [show j / 3 * 3 + j % 3 = j by omega] at h2
  rw [← h2]; exact h
theorem WriAt.cellAt {w : World} {b o : Nat} {e : Wri} (h : WriAt w b o e) {j : Nat} {u : Value} (hu : (WC e)[j]? = some u) : w.cell? ⟨b, o + j, none⟩ = some u := by
  obtain ⟨h0, h1, h2⟩ := h
  match j, hu with
  | 0, hu => simp [WC] at hu; subst hu; exact h0
  | 1, hu => simp [WC] at hu; subst hu; exact h1
  | 2, hu => simp [WC] at hu; subst hu; exact h2
/-- The cells of a slice of entries, in a row. -/
theorem wrisAt_cells {w : World} {b off : Nat} {es : List Wri} (h : ∀ i, i < es.length → WriAt w b (off + i * 3) (nthW es i)) : ∀ j u, (WV es)[j]? = some u → w.cell? ((⟨b, off, none⟩ : Addr).add j) = some u := by
  intro j u hu
  obtain ⟨h1, h2⟩ := WV_nth hu
  have := (h _ h1).cellAt h2
  rw [Addr.add_lit]
  rw [show off + j / 3 * 3 + j % 3 = off + j by omega] at this
  exact this
end Go.Proofs.Ythkckgjcecommaa
