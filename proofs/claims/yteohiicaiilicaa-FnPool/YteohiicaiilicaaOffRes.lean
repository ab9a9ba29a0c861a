/- What both Offered tell. -/
-- UNF Gen
import Derived.Test.YteohiicaiilicaaOffLess
namespace Go.Proofs.Yteohiicaiilicaa
open Go.RowKit
/-- What both Offered tell. -/
def OffRes (es : List Off) (o : Off) (w : World) (e : Ending) (w' : World) : Prop :=
  ∃ u, e = .returned (.tuple #[u, .bool (offO es o)]) ∧ OwnO w' w.heap.size u (offR es o) ∧ Below w.heap.size w w'
theorem offRes_no {es : List Off} {o : Off} {w w1 : World} (h : offO es o = false) (hb : Below w.heap.size w w1) : OffRes es o w (.returned (.tuple #[.slice (some ⟨w1.heap.size, 0, none⟩) 0 0, .bool false])) (w1.alloc (.cells #[] 26)) := by
  refine ⟨_, by rw [h], ?_, hb.alloc hb.size _⟩
  unfold offR
  rw [h]
  exact (ownO_none w1).mono hb.size
theorem offRes_yes {es : List Off} {o : Off} {w w' : World} {B : Nat} {u : Value} (h : offO es o = true) (ho : OwnO w' B u (offL es o)) (h1 : w.heap.size ≤ B) (hb : Below w.heap.size w w') : OffRes es o w (.returned (.tuple #[u, .bool true])) w' := by
  refine ⟨_, by rw [h], ?_, hb⟩
  unfold offR
  rw [if_pos h]
  exact ho.mono h1
end Go.Proofs.Yteohiicaiilicaa
