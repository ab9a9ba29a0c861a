/- The contracts of the law's marking of a slice of entries, and of finding the marks again. -/
import Derived.Test.YthkckgjcecommaaEntCp
import Derived.Test.YthkckgjcecommaaMarkText
namespace Go.Proofs.Ythkckgjcecommaa
open Go.RowKit
/-- The law's mark number k, as an entry. -/
def emk (k : Nat) : Ent := ⟨mk k, mk (k + 1), ((k + 2 : Nat) : Int), decide ((k + 3) % 3 = 0)⟩
def emarks (k n : Nat) : List Ent := (List.range n).map fun i => emk (k + 4 * i)
theorem emarks_length (k n : Nat) : (emarks k n).length = n := by simp [emarks]
theorem emarks_succ (k n : Nat) : emarks k (n + 1) = emarks k n ++ [emk (k + 4 * n)] := by simp [emarks, List.range_succ]
theorem emarks_nth (k n i : Nat) (h : i < n) : nth (emarks k n) i = emk (k + 4 * i) := by
  rw [nth_eq (by rw [emarks_length]; exact h)]; simp [emarks]
theorem emark_step (k i : Nat) (bs : List Ent) (h : i < bs.length) : (emarks k i ++ bs.drop i).set i (emk (k + 4 * i)) = emarks k (i + 1) ++ bs.drop (i + 1) := by
  rw [emarks_succ, List.set_append_right _ _ (by rw [emarks_length]; omega), emarks_length, Nat.sub_self, List.drop_eq_getElem_cons h, List.set_cons_zero]
  simp
theorem emark_frame {w wr w1 : World} {g : Nat} {u : Value} {j : Nat} (hg : w.grownBy wr (some g)) (hb : Below wr.heap.size wr w1) : w.grownBy (w1.setCell ⟨g, j, none⟩ u) (some g) :=
  ⟨hb.os.trans hg.os, hb.tape.trans hg.tape, hb.output.trans hg.output, by have := hg.size; have := hb.size; simp; omega, fun k hk hr => by
    rw [heap_setCell_other w1 ⟨g, j, none⟩ k u (fun e => hr (by simp [e])), hb.block k (by have := hg.size; omega)]
    exact hg.block k hk hr⟩
theorem emark_frame0 {w w1 : World} {g : Nat} {u : Value} {j : Nat} (hg : w.grownBy w1 (some g)) : w.grownBy (w1.setCell ⟨g, j, none⟩ u) (some g) := emark_frame hg (Below.refl _ _)
theorem egrownBy_one (a : World) (row : Option Nat) : a.grownBy a row := ⟨rfl, rfl, rfl, Nat.le_refl _, fun _ _ _ => rfl⟩
end Go.Proofs.Ythkckgjcecommaa
