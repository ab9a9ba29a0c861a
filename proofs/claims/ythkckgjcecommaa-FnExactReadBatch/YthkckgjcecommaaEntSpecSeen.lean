/- The contracts of the model's Seen and Shown. -/
import Derived.Test.YthkckgjcecommaaEntSpecOk
namespace Go.Proofs.Ythkckgjcecommaa
open Go.RowKit
/-- What a function that sees leaves: the entry and true, or the zero entry and false. -/
def SeenPost (w : World) (o : Option Ent) (e : Ending) (w' : World) : Prop :=
  e = .returned (.tuple #[.agg #[.string (o.getD zeroE).key, .string (o.getD zeroE).val, .int .i64 (o.getD zeroE).seq, .bool (o.getD zeroE).gone], .bool o.isSome]) ∧ Below w.heap.size w w'
theorem seenPost_some {w w' : World} {o : Option Ent} {x : Ent} (ho : o = some x) (hb : Below w.heap.size w w') : SeenPost w o (.returned (.tuple #[.agg #[.string x.key, .string x.val, .int .i64 x.seq, .bool x.gone], .bool true])) w' := by
  subst ho; exact ⟨rfl, hb⟩
theorem seenPost_none {w w' : World} {o : Option Ent} (ho : o = none) (hb : Below w.heap.size w w') : SeenPost w o (.returned (.tuple #[.agg #[.string ⟨#[]⟩, .string ⟨#[]⟩, .int .i64 0, .bool false], .bool false])) w' := by
  subst ho; exact ⟨rfl, hb⟩
/-- A result of the call's own: an entry in a block that is its own. -/
def BoxAt (w : World) (b : Nat) (x : Ent) : Prop := EntAt w b 0 x ∧ ∀ o, w.frozen? ⟨b, o, none⟩ = false
theorem BoxAt.below {w w' : World} {b : Nat} {x : Ent} (h : BoxAt w b x) (hb : Below w.heap.size w w') : BoxAt w' b x :=
  ⟨h.1.below hb, fun o => ((bcell hb).2 b o h.1.lt).trans (h.2 o)⟩
theorem box_zero (w : World) (t : TypeId) : BoxAt (w.alloc (.cells #[.string ⟨#[]⟩, .string ⟨#[]⟩, .int .i64 0, .bool false] t)) w.heap.size zeroE :=
  ⟨⟨by simp [zeroE], by simp [zeroE], by simp [zeroE], by simp [zeroE]⟩, fun o => by simp⟩
theorem BoxAt.facts {w : World} {b : Nat} {x : Ent} (h : BoxAt w b x) : w.cell? ⟨b, 0, none⟩ = some (.string x.key) ∧ w.cell? ⟨b, 1, none⟩ = some (.string x.val) ∧ w.cell? ⟨b, 2, none⟩ = some (.int .i64 x.seq) ∧ w.cell? ⟨b, 3, none⟩ = some (.bool x.gone) ∧
    w.frozen? ⟨b, 0, none⟩ = false ∧ w.frozen? ⟨b, 1, none⟩ = false ∧ w.frozen? ⟨b, 2, none⟩ = false ∧ w.frozen? ⟨b, 3, none⟩ = false := by
  obtain ⟨⟨h0, h1, h2, h3⟩, hf⟩ := h
  simp only [Nat.zero_add] at h1 h2 h3
  exact ⟨h0, h1, h2, h3, hf 0, hf 1, hf 2, hf 3⟩
theorem below4 {B : Nat} {w0 w : World} (h : Below B w0 w) {g : Nat} (hg : B ≤ g) (a b c d : Value) (i j k l : Nat) : Below B w0 ((((w.setCell ⟨g, i, none⟩ a).setCell ⟨g, j, none⟩ b).setCell ⟨g, k, none⟩ c).setCell ⟨g, l, none⟩ d) :=
  (((h.setCell (by exact hg) _).setCell (by exact hg) _).setCell (by exact hg) _).setCell (by exact hg) _
end Go.Proofs.Ythkckgjcecommaa
