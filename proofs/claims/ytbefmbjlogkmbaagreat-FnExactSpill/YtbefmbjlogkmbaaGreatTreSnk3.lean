/- The contract of the program's Sink. -/
import Derived.Test.YtbefmbjlogkmbaaGreatTreUnp
import Derived.Test.YtbefmbjlogkmbaaGreatG49
import Derived.Test.YtbefmbjlogkmbaaGreatTabImpl
-- UNF Gen
namespace Go.Proofs.YtbefmbjlogkmbaaGreat
set_option maxHeartbeats 16000000
set_option maxRecDepth 100000
open Go.RowKit
def BoxTb (w : World) (b : Nat) (f l : ByteArray) (vb vk : Value) : Prop := w.heap[b]? = some (.cells #[.string f, .string l, vb, vk] 72 (0, 0))
theorem BoxTb.lt {w : World} {b : Nat} {f l : ByteArray} {vb vk : Value} (h : BoxTb w b f l vb vk) : b < w.heap.size := (Array.getElem?_eq_some_iff.1 h).1
theorem BoxTb.on {w w' : World} {b : Nat} {f l : ByteArray} {vb vk : Value} (h : BoxTb w b f l vb vk) (hb : Below w.heap.size w w') : BoxTb w' b f l vb vk := (hb.block b h.lt).trans h
theorem BoxTb.facts {w : World} {b : Nat} {f l : ByteArray} {vb vk : Value} (h : BoxTb w b f l vb vk) : w.cell? ⟨b, 0, none⟩ = some (.string f) ∧ w.cell? ⟨b, 1, none⟩ = some (.string l) ∧ w.cell? ⟨b, 2, none⟩ = some vb ∧ w.cell? ⟨b, 3, none⟩ = some vk ∧
    w.frozen? ⟨b, 0, none⟩ = false ∧ w.frozen? ⟨b, 1, none⟩ = false ∧ w.frozen? ⟨b, 2, none⟩ = false ∧ w.frozen? ⟨b, 3, none⟩ = false := by
  unfold BoxTb at h
  refine ⟨?_, ?_, ?_, ?_, ?_, ?_, ?_, ?_⟩ <;> simp [World.cell?, World.frozen?, h]
end Go.Proofs.YtbefmbjlogkmbaaGreat
