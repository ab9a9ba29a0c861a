/- The contracts of the draws of a text and of some texts: each is some text, or some texts, of a bounded size; nothing but the cursor's own block turns. -/
import Derived.Test.YtmfopbkhlekhkaaDoorDraw
import Derived.Test.YtmfopbkhlekhkaaDoorAid
import Derived.Test.YtmfopbkhlekhkaaDoorStrBase
namespace Go.Proofs.YtmfopbkhlekhkaaDoor
open Go.RowKit
/-- What the draw of a text leaves. -/
def TextD (w0 w : World) (g m : Nat) (e : Ending) (w' : World) : Prop := ∃ s : ByteArray, e = .returned (.string s) ∧ s.size ≤ m ∧ DCur w0 w' g ∧ w.grownBy w' (some g)
theorem gr_alloc {a w : World} {row : Option Nat} (h : a.grownBy w row) (o : Obj) : a.grownBy (w.alloc o) row := by
  have := h.size
  exact ⟨h.os, h.tape, h.output, by simp; omega, fun k hk hr => (Below.heap_alloc w o k (by omega)).trans (h.block k hk hr)⟩
/-- A write into a row that is younger than the world a. -/
theorem gr_young {a w w' : World} {row row2 : Option Nat} (h : a.grownBy w row) (hg : w.grownBy w' row2) (hy : ∀ k, row2 = some k → a.heap.size ≤ k) : a.grownBy w' row := by
  have := h.size
  exact ⟨hg.os.trans h.os, hg.tape.trans h.tape, hg.output.trans h.output, Nat.le_trans h.size hg.size, fun k hk hr => (hg.block k (by omega) (fun e => by have := hy k e.symm; omega)).trans (h.block k hk hr)⟩

end Go.Proofs.YtmfopbkhlekhkaaDoor
