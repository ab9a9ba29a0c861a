/- The contracts of the laws' own helpers over slices of numbers: copied, alike, marked, held. -/
import Derived.Test.YtdleolgkbkoekaaDoorNumBase
import Derived.Test.YtdleolgkbkoekaaDoorMarkText
import Derived.Test.YtdleolgkbkoekaaDoorEntSpecOk
namespace Go.Proofs.YtdleolgkbkoekaaDoor
open Go.RowKit
theorem ret_i64 {a b : Int} (h : a = b) : Ending.returned (.int .i64 a) = .returned (.int .i64 b) := by rw [h]
theorem made_IV (n : Nat) : (madeCells #[Value.int .i64 0] n).toList = IV (List.replicate n 0) := by
  rw [toList_madeCells_one]
  simp [IV]
theorem cpI_step (bs : List Int) (k : Nat) (h : k < bs.length) : (bs.take k ++ List.replicate (bs.length - k) 0).set k bs[k] = bs.take (k + 1) ++ List.replicate (bs.length - (k + 1)) 0 := by
  have hl : (bs.take k).length = k := by rw [List.length_take]; omega
  rw [List.set_append_right _ _ (by omega), hl, Nat.sub_self]
  obtain ⟨m, hm⟩ : ∃ m, bs.length - k = m + 1 := ⟨bs.length - k - 1, by omega⟩
  have hm2 : bs.length - (k + 1) = m := by omega
  rw [hm, hm2, List.replicate_succ, List.set_cons_zero, List.take_succ_eq_append_getElem h, List.append_assoc, List.singleton_append]
theorem cpI_len (bs : List Int) (k : Nat) (h : k ≤ bs.length) : (bs.take k ++ List.replicate (bs.length - k) 0).length = bs.length := by
  rw [List.length_append, List.length_take, List.length_replicate]; omega
/-- The marks that are laid from number k on. -/
def imarks (k n : Nat) : List Int := (List.range n).map fun i => ((k + i : Nat) : Int)
theorem imarks_length (k n : Nat) : (imarks k n).length = n := by simp [imarks]
theorem imarks_succ (k n : Nat) : imarks k (n + 1) = imarks k n ++ [((k + n : Nat) : Int)] := by simp [imarks, List.range_succ]
theorem imarks_get (k n i : Nat) (h : i < (imarks k n).length) : (imarks k n)[i] = ((k + i : Nat) : Int) := by simp [imarks]
theorem imark_step (k i : Nat) (bs : List Int) (h : i < bs.length) : (imarks k i ++ bs.drop i).set i ((k + i : Nat) : Int) = imarks k (i + 1) ++ bs.drop (i + 1) := by
  have hl := imarks_length k i
  rw [List.set_append_right _ _ (by omega), hl, Nat.sub_self, List.drop_eq_getElem_cons h, List.set_cons_zero, imarks_succ, List.append_assoc, List.singleton_append]
end Go.Proofs.YtdleolgkbkoekaaDoor
