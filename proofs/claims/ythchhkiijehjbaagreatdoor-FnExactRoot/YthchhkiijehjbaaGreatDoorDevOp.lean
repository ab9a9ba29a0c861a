/- Devices by their two slices, and boxes of them. -/
import Derived.Test.YthchhkiijehjbaaGreatDoorDevNew
namespace Go.Proofs.YthchhkiijehjbaaGreatDoor
open Go.RowKit
/-- A device by its two slices. -/
abbrev dvOf (sa la : Option Addr) (cs cl : Nat) (ss : List ByteArray) (ps : List Pat) : DvX := ⟨.slice sa ss.length cs, .slice la ps.length cl, ss, ps⟩
theorem RdDv.op {w : World} {X : DvX} (h : RdDv w X) : ∃ (sa la : Option Addr) (cs cl : Nat), X = dvOf sa la cs cl X.secs X.late := by
  obtain ⟨sa, la, cs, cl, e1, e2, _⟩ := h.slices
  obtain ⟨vs, vl, ss, ps⟩ := X
  simp only at e1 e2
  subst e1 e2
  exact ⟨sa, la, cs, cl, rfl⟩
theorem ToDv.op {w w' : World} {ss : List ByteArray} {ps : List Pat} {e : Ending} (h : ToDv w ss ps e w') : ∃ (sa la : Option Addr) (cs cl : Nat), e = .returned (.agg #[.slice sa ss.length cs, .slice la ps.length cl]) ∧ RdDv w' (dvOf sa la cs cl ss ps) ∧ Below w.heap.size w w' := by
  obtain ⟨Y, rfl, rfl, rfl, ho, hb⟩ := h
  have hr := ho.rd
  obtain ⟨sa, la, cs, cl, e⟩ := hr.op
  rw [e] at hr
  exact ⟨sa, la, cs, cl, by rw [e], hr, hb⟩
theorem DvRes.op {w w' : World} {ss : List ByteArray} {ps : List Pat} {o : Bool} {e : Ending} (h : DvRes w ss ps o e w') : ∃ (sa la : Option Addr) (cs cl : Nat), e = .returned (.tuple #[.agg #[.slice sa ss.length cs, .slice la ps.length cl], .bool o]) ∧ RdDv w' (dvOf sa la cs cl ss ps) ∧ Below w.heap.size w w' := by
  obtain ⟨Y, rfl, rfl, rfl, ho, hb⟩ := h
  have hr := ho.rd
  obtain ⟨sa, la, cs, cl, e⟩ := hr.op
  rw [e] at hr
  exact ⟨sa, la, cs, cl, by rw [e], hr, hb⟩
/-- Devices that lie in boxes and can be read. -/
def Bx (W : World) (l : List (Nat × DvX)) : Prop := ∀ p ∈ l, DvAt W p.1 p.2 ∧ RdDv W p.2
theorem Bx.below {w w' : World} {l : List (Nat × DvX)} (h : Bx w l) (hb : Below w.heap.size w w') : Bx w' l := fun p hp => ⟨(h p hp).1.below hb, (h p hp).2.below hb⟩
theorem bx_nil (w : World) : Bx w [] := fun _ hp => by cases hp
theorem Bx.new {w : World} {l : List (Nat × DvX)} {X : DvX} (h : Bx w l) (hx : RdDv w X) (t : TypeId) : Bx (w.alloc (.cells #[X.vs, X.vl] t)) ((w.heap.size, X) :: l) := by
  intro p hp
  rcases List.mem_cons.1 hp with rfl | hp
  · exact ⟨dvAt_new w X t, hx.below (below1 _ _)⟩
  · exact h.below (below1 _ _) p hp
theorem Bx.at {w : World} {l : List (Nat × DvX)} (h : Bx w l) (b : Nat) (sa la : Option Addr) (cs cl : Nat) (ss : List ByteArray) (ps : List Pat) (hm : (b, dvOf sa la cs cl ss ps) ∈ l) : w.cell? ⟨b, 0, none⟩ = some (.slice sa ss.length cs) ∧ w.cell? ⟨b, 1, none⟩ = some (.slice la ps.length cl) := (h _ hm).1
theorem Bx.rd {w : World} {l : List (Nat × DvX)} (h : Bx w l) (b : Nat) (sa la : Option Addr) (cs cl : Nat) (ss : List ByteArray) (ps : List Pat) (hm : (b, dvOf sa la cs cl ss ps) ∈ l) : RdDv w (dvOf sa la cs cl ss ps) := (h _ hm).2

end Go.Proofs.YthchhkiijehjbaaGreatDoor
