/- Plain facts on rows of entries (four cells each) that a call owns or reads. -/
import Derived.Test.YtilhaokiohbeeabGreatDoorStrBase
import Derived.Test.YtilhaokiohbeeabGreatDoorEntMath
import Derived.Deep.RegionLaw
namespace Go.Proofs.YtilhaokiohbeeabGreatDoor
open Go.RowKit
/-- The four cells of an entry. -/
def EC (e : Ent) : List Value := [.string e.key, .string e.val, .int .i64 e.seq, .bool e.gone]
def EA (e : Ent) : Value := .agg #[.string e.key, .string e.val, .int .i64 e.seq, .bool e.gone]
def EV (es : List Ent) : List Value := es.flatMap EC
theorem EV_length : ∀ es : List Ent, (EV es).length = es.length * 4
  | [] => rfl
  | a :: r => by
    have := EV_length r
    unfold EV at this ⊢
    rw [List.flatMap_cons, List.length_append, this, List.length_cons]
    simp [EC]; omega
theorem EV_append (a b : List Ent) : EV (a ++ b) = EV a ++ EV b := by simp [EV]
theorem EV_one (e : Ent) : EV [e] = EC e := by simp [EV]
theorem EV_cons (a : Ent) (r : List Ent) : EV (a :: r) = EC a ++ EV r := by simp [EV]
theorem EV_get : ∀ (es : List Ent) (i : Nat), i < es.length → ∀ j, j < 4 → (EV es)[i * 4 + j]? = (EC (nth es i))[j]?
  | [], i, h, _, _ => by simp at h
  | a :: r, 0, _, j, hj => by
    rw [EV_cons, nth_zero, Nat.zero_mul, Nat.zero_add, List.getElem?_append_left (by simp [EC]; exact hj)]
  | a :: r, i + 1, h, j, hj => by
    rw [EV_cons, nth_succ, ← EV_get r i (by simpa using h) j hj, List.getElem?_append_right (by simp [EC]; omega)]
    congr 1
    simp [EC]; omega
theorem EV_oneCell (es : List Ent) : ∀ u ∈ EV es, u.oneCell' = true := by
  intro u hu
  simp only [EV, List.mem_flatMap] at hu
  obtain ⟨e, _, he⟩ := hu
  simp only [EC, List.mem_cons, List.not_mem_nil, or_false] at he
  rcases he with rfl | rfl | rfl | rfl <;> rfl
/-- The entry e lies at offset o of block b. -/
def EntAt (w : World) (b o : Nat) (e : Ent) : Prop :=
  w.cell? ⟨b, o, none⟩ = some (.string e.key) ∧ w.cell? ⟨b, o + 1, none⟩ = some (.string e.val) ∧ w.cell? ⟨b, o + 2, none⟩ = some (.int .i64 e.seq) ∧ w.cell? ⟨b, o + 3, none⟩ = some (.bool e.gone)
/-- The slice v can be read and holds the entries es. -/
def RdE (w : World) (v : Value) (es : List Ent) : Prop :=
  ∃ a cap, v = .slice a es.length cap ∧ es.length ≤ cap ∧ cap ≤ maxLen ∧ (a = none → cap = 0) ∧
    (es = [] ∨ ∃ b off, a = some ⟨b, off, none⟩ ∧ ∀ i, i < es.length → EntAt w b (off + i * 4) (nth es i))
theorem EntAt.lt {w : World} {b o : Nat} {e : Ent} (h : EntAt w b o e) : b < w.heap.size := World.block_lt_of_cell? w _ h.1
theorem EntAt.of_block {w w' : World} {b o : Nat} {e : Ent} (h : EntAt w b o e) (hb : w'.heap[b]? = w.heap[b]?) : EntAt w' b o e :=
  ⟨(World.cell?_of_block (a := ⟨b, o, none⟩) hb).trans h.1, (World.cell?_of_block (a := ⟨b, o + 1, none⟩) hb).trans h.2.1, (World.cell?_of_block (a := ⟨b, o + 2, none⟩) hb).trans h.2.2.1, (World.cell?_of_block (a := ⟨b, o + 3, none⟩) hb).trans h.2.2.2⟩
theorem EntAt.below {w w' : World} {b o : Nat} {e : Ent} (h : EntAt w b o e) (hb : Below w.heap.size w w') : EntAt w' b o e := h.of_block (hb.block b h.lt)
theorem RdE.below {w w' : World} {v : Value} {es : List Ent} (h : RdE w v es) (hb : Below w.heap.size w w') : RdE w' v es := by
  obtain ⟨a, cap, hv, h1, h2, h0, h3⟩ := h
  refine ⟨a, cap, hv, h1, h2, h0, ?_⟩
  rcases h3 with h3 | ⟨b, off, ha, hc⟩
  · exact .inl h3
  · exact .inr ⟨b, off, ha, fun i hi => (hc i hi).below hb⟩
theorem RdE.drewN {w : World} {v : Value} {es : List Ent} (h : RdE w v es) (q : Nat) : RdE (w.drewN q) v es := h
theorem rdE_nil (w : World) : RdE w (.slice none 0 0) [] := ⟨none, 0, rfl, Nat.le_refl _, Nat.zero_le _, fun _ => rfl, .inl rfl⟩
/-- Where an entry of a slice lies. -/
theorem RdE.at {w : World} {a : Option Addr} {n cap : Nat} {es : List Ent} (h : RdE w (.slice a n cap) es) (hn : n = es.length) (i : Nat) (hi : i < es.length) : ∃ b off, a = some ⟨b, off, none⟩ ∧ EntAt w b (off + i * 4) (nth es i) := by
  obtain ⟨a', cap', hv, _, _, _, h3⟩ := h
  simp only [Value.slice.injEq] at hv
  obtain ⟨rfl, _, _⟩ := hv
  rcases h3 with rfl | ⟨b, off, ha, hc⟩
  · simp at hi
  · exact ⟨b, off, ha, hc i hi⟩
theorem EV_nth {es : List Ent} {j : Nat} {u : Value} (h : (EV es)[j]? = some u) : j / 4 < es.length ∧ (EC (nth es (j / 4)))[j % 4]? = some u := by
  have hj : j < (EV es).length := (List.getElem?_eq_some_iff.1 h).1
  rw [EV_length] at hj
  have h1 : j / 4 < es.length := by omega
  refine ⟨h1, ?_⟩
  have h2 := EV_get es (j / 4) h1 (j % 4) (by omega)
  rw [show j / 4 * 4 + j % 4 = j by omega] at h2
  rw [← h2]; exact h
theorem EntAt.cellAt {w : World} {b o : Nat} {e : Ent} (h : EntAt w b o e) {j : Nat} {u : Value} (hu : (EC e)[j]? = some u) : w.cell? ⟨b, o + j, none⟩ = some u := by
  obtain ⟨h0, h1, h2, h3⟩ := h
  match j, hu with
  | 0, hu => simp [EC] at hu; subst hu; exact h0
  | 1, hu => simp [EC] at hu; subst hu; exact h1
  | 2, hu => simp [EC] at hu; subst hu; exact h2
  | 3, hu => simp [EC] at hu; subst hu; exact h3
/-- The cells of a slice of entries, in a row. -/
theorem entsAt_cells {w : World} {b off : Nat} {es : List Ent} (h : ∀ i, i < es.length → EntAt w b (off + i * 4) (nth es i)) : ∀ j u, (EV es)[j]? = some u → w.cell? ((⟨b, off, none⟩ : Addr).add j) = some u := by
  intro j u hu
  obtain ⟨h1, h2⟩ := EV_nth hu
  have := (h _ h1).cellAt h2
  rw [Addr.add_lit]
  rw [show off + j / 4 * 4 + j % 4 = off + j by omega] at this
  exact this
/-- Texts and numbers of an entry are such as a program can hold. -/
def Fits (e : Ent) : Prop := e.key.size ≤ 4503599627370496 ∧ e.val.size ≤ 4503599627370496 ∧ -9223372036854775808 ≤ e.seq ∧ e.seq ≤ 9223372036854775807
end Go.Proofs.YtilhaokiohbeeabGreatDoor
