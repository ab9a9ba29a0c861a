/- The contracts of the law's measure and copy of a slice of texts. -/
import Derived.Test.YtgmjoejoehhekaaStrBase
namespace Go.Proofs.Ytgmjoejoehhekaa
open Go.RowKit
theorem made_SV (n : Nat) : (madeCells #[Value.string ⟨#[]⟩] n).toList = SV (List.replicate n ⟨#[]⟩) := by
  rw [toList_madeCells_one]
  simp [SV]
theorem cpS_step (bs : List ByteArray) (z : ByteArray) (k : Nat) (h : k < bs.length) : (bs.take k ++ List.replicate (bs.length - k) z).set k bs[k] = bs.take (k + 1) ++ List.replicate (bs.length - (k + 1)) z := by
  have hl : (bs.take k).length = k := by rw [List.length_take]; omega
  rw [List.set_append_right _ _ (by omega), hl, Nat.sub_self]
  obtain ⟨m, hm⟩ : ∃ m, bs.length - k = m + 1 := ⟨bs.length - k - 1, by omega⟩
  have hm2 : bs.length - (k + 1) = m := by omega
  rw [hm, hm2, List.replicate_succ, List.set_cons_zero, List.take_succ_eq_append_getElem h, List.append_assoc, List.singleton_append]
theorem cpS_len (bs : List ByteArray) (z : ByteArray) (k : Nat) (h : k ≤ bs.length) : (bs.take k ++ List.replicate (bs.length - k) z).length = bs.length := by
  rw [List.length_append, List.length_take, List.length_replicate]; omega

/-- What the measure leaves: a number below 0, or the list and each of its texts are small. -/
def SzPost (w : World) (ss : List ByteArray) (e : Ending) (w' : World) : Prop :=
  w' = w ∧ ∃ x : Int, e = .returned (.int .i64 x) ∧ (x < 0 ∨ 0 ≤ x ∧ ss.length ≤ 1048576 ∧ ∀ s ∈ ss, s.size ≤ 1048576)
end Go.Proofs.Ytgmjoejoehhekaa
