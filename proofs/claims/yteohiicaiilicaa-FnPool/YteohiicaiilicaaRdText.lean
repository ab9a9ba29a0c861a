/- The contract of the model's ReadText over any slice of bytes that can be read. -/
import Derived.Test.YteohiicaiilicaaRdNum
import Derived.Test.YteohiicaiilicaaAid
import Derived.Laws.IdiomStrings
import Derived.Laws.BytesArg
namespace Go.Proofs.Yteohiicaiilicaa
open Go.RowKit
/-- The text with which the bytes begin, and how many bytes it takes with its number; none and 0 where there is none. -/
def rdText (bs : List UInt8) : List UInt8 × Nat :=
  if (rdNum bs).2 = 0 ∨ 3000 < (rdNum bs).1 ∨ bs.length < (rdNum bs).2 + (rdNum bs).1 then ([], 0) else ((bs.drop (rdNum bs).2).take (rdNum bs).1, (rdNum bs).2 + (rdNum bs).1)
theorem cut_len (bs : List UInt8) (k n : Nat) (h : k + n ≤ bs.length) : ((bs.drop k).take n).length = n := by rw [List.length_take, List.length_drop]; omega
theorem conv_cut (w : World) (b off k n c : Nat) (bs : List UInt8) (h : k + n ≤ bs.length) (hc : ∀ i (h : i < bs.length), w.cell? ⟨b, off + i, none⟩ = some (.int .u8 (bs[i].toNat : Int))) :
    (convert 22 9 (.slice (some ⟨b, off + k, none⟩) n c)).run Try.prog w = .ok (.string ⟨((bs.drop k).take n).toArray⟩) w :=
  conv_at w b (off + k) n c _ (cut_len bs k n h) fun j hj => by
    rw [cut_len bs k n h] at hj
    have := hc (k + j) (by omega)
    rw [← Nat.add_assoc] at this
    rw [this]
    simp
theorem conv_none (w : World) (b off n c : Nat) (h : n = 0) (l : List UInt8) (hl : l = []) : (convert 22 9 (.slice (some ⟨b, off, none⟩) n c)).run Try.prog w = .ok (.string ⟨l.toArray⟩) w := by
  subst h
  subst hl
  exact conv_at w b off 0 c [] rfl fun j hj => by simp at hj
end Go.Proofs.Yteohiicaiilicaa
