/- The contract of the model's l5Built: the table of some entries. -/
import Derived.Test.YtbefmbjlogkmbaaGreatTabSpec2
namespace Go.Proofs.YtbefmbjlogkmbaaGreat
open Go.RowKit
def BoxT (w : World) (b : Nat) (f l : ByteArray) (vb vk : Value) : Prop := w.heap[b]? = some (.cells #[.string f, .string l, vb, vk] 72 (0, 0))
theorem BoxT.lt {w : World} {b : Nat} {f l : ByteArray} {vb vk : Value} (h : BoxT w b f l vb vk) : b < w.heap.size := (Array.getElem?_eq_some_iff.1 h).1
theorem BoxT.block {w w' : World} {b : Nat} {f l : ByteArray} {vb vk : Value} (h : BoxT w b f l vb vk) (hb : w'.heap[b]? = w.heap[b]?) : BoxT w' b f l vb vk := hb.trans h
theorem BoxT.below {w w' : World} {b : Nat} {f l : ByteArray} {vb vk : Value} (h : BoxT w b f l vb vk) (hb : Below w.heap.size w w') : BoxT w' b f l vb vk := h.block (hb.block b h.lt)
theorem BoxT.facts {w : World} {b : Nat} {f l : ByteArray} {vb vk : Value} (h : BoxT w b f l vb vk) : w.cell? ⟨b, 0, none⟩ = some (.string f) ∧ w.cell? ⟨b, 1, none⟩ = some (.string l) ∧ w.cell? ⟨b, 2, none⟩ = some vb ∧ w.cell? ⟨b, 3, none⟩ = some vk ∧
    w.frozen? ⟨b, 0, none⟩ = false ∧ w.frozen? ⟨b, 1, none⟩ = false ∧ w.frozen? ⟨b, 2, none⟩ = false ∧ w.frozen? ⟨b, 3, none⟩ = false := by
  unfold BoxT at h
  refine ⟨?_, ?_, ?_, ?_, ?_, ?_, ?_, ?_⟩ <;> simp [World.cell?, World.frozen?, h]
theorem boxT_new (w : World) (f l : ByteArray) (vb vk : Value) : BoxT (w.alloc (.cells #[.string f, .string l, vb, vk] 72)) w.heap.size f l vb vk := heap_alloc_new w _
theorem boxT_set3 {w : World} {b : Nat} {f l : ByteArray} {vb vk vk' : Value} (h : BoxT w b f l vb vk) : BoxT (w.setCell ⟨b, 3, none⟩ vk') b f l vb vk' := by
  unfold BoxT at h ⊢
  exact heap_setCell_same w b 3 _ _ vk' h
theorem boxT_row {w : World} {B b t s n : Nat} {f l : ByteArray} {vb vk v : Value} {xs : List Value} (h : BoxT w b f l vb vk) (ho : w.ownsRow B t s v n xs) (ht : t ≠ 72) : ∀ k, v.ownBlock = some k → b ≠ k := by
  intro k hk e
  subst e
  rcases ho.2 with ⟨rfl, _⟩ | ⟨g, cap, cur, rfl, _, hg, _⟩
  · simp [Value.ownBlock] at hk
  · obtain rfl : g = b := by simpa [Value.ownBlock] using hk
    unfold BoxT at h
    rw [h] at hg
    injection hg with hg
    injection hg with _ h2
    exact ht h2.symm
def TabPost (w : World) (T : Tbl) (e : Ending) (w' : World) : Prop :=
  ∃ vb vk, e = .returned (.agg #[.string T.first, .string T.last, vb, vk]) ∧ OwnI w' w.heap.size vb T.bits ∧ OwnS w' w.heap.size vk T.blocks ∧ Below w.heap.size w w'
end Go.Proofs.YtbefmbjlogkmbaaGreat
