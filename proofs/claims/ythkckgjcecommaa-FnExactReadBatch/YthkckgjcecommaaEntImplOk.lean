/- The contract of the program's EntriesOk. -/
import Derived.Test.YthkckgjcecommaaEntCmp
import Derived.Test.YthkckgjcecommaaEntSpecOk
import Derived.Deep.RegionHeld3
namespace Go.Proofs.Ythkckgjcecommaa
open Go.RowKit
theorem entryOk_yes (a : Ent) (w : World) (hf : Fits a) (h : okE a = true) :
    Calls Try.prog 29 #[.agg #[.string a.key, .string a.val, .int .i64 a.seq, .bool a.gone]] w fun e w' => e = .returned (.bool true) ∧ Below w.heap.size w w' := by
  have := entryOk_any a w hf; rwa [h] at this
theorem entryOk_no (a : Ent) (w : World) (hf : Fits a) (h : okE a = false) :
    Calls Try.prog 29 #[.agg #[.string a.key, .string a.val, .int .i64 a.seq, .bool a.gone]] w fun e w' => e = .returned (.bool false) ∧ Below w.heap.size w w' := by
  have := entryOk_any a w hf; rwa [h] at this
theorem entAt_new (W : World) (x : Ent) (t : TypeId) : EntAt (W.alloc (.cells #[.string x.key, .string x.val, .int .i64 x.seq, .bool x.gone] t)) W.heap.size 0 x :=
  ⟨by simp [World.cell?_alloc_at], by simp [World.cell?_alloc_at], by simp [World.cell?_alloc_at], by simp [World.cell?_alloc_at]⟩
theorem EntAt.alloc {w : World} {b o : Nat} {e : Ent} (h : EntAt w b o e) (x : Obj) : EntAt (w.alloc x) b o e := h.below (below1 _ _)
theorem ordE_lt {a b : Ent} (h : ahd a b = true) : ordE a b < 0 := (ordE_neg a b).2 h
theorem ordE_ge {a b : Ent} (h : ahd a b = false) : 0 ≤ ordE a b := by
  rcases Int.lt_or_le (ordE a b) 0 with h1 | h1
  · rw [(ordE_neg a b).1 h1] at h; cases h
  · exact h1
end Go.Proofs.Ythkckgjcecommaa
