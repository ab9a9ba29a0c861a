/- The digest of some bytes, and the contract of the model's Digest. -/
import Derived.Test.YtdleolgkbkoekaaDoorAid
import Derived.Lib.ConvBytes
namespace Go.Proofs.YtdleolgkbkoekaaDoor
open Go.RowKit
/-- One byte more. -/
def stepD (h : Nat) (b : UInt8) : Nat := (h * 1000003 + b.toNat + 1) % 2147483647
/-- Some bytes more. -/
def dig (h : Nat) (bs : List UInt8) : Nat := bs.foldl stepD h
theorem stepD_lt (h : Nat) (b : UInt8) : stepD h b < 2147483647 := Nat.mod_lt _ (by omega)
theorem dig_lt (bs : List UInt8) : ∀ h, h < 2147483647 → dig h bs < 2147483647 := by
  induction bs with
  | nil => intro h hh; exact hh
  | cons b bs ih => intro h _; exact ih _ (stepD_lt h b)
theorem dig_append (h : Nat) (a b : List UInt8) : dig h (a ++ b) = dig (dig h a) b := List.foldl_append
theorem dig_at (h k : Nat) (bs : List UInt8) (hk : k < bs.length) : dig h (bs.drop k) = dig (stepD h bs[k]) (bs.drop (k + 1)) := by
  rw [List.drop_eq_getElem_cons hk]; rfl
theorem dig_end (h k : Nat) (bs : List UInt8) (hk : bs.length ≤ k) : dig h (bs.drop k) = h := by
  rw [List.drop_eq_nil_of_le hk]; rfl
theorem ret_int {k : IntKind} {a b : Int} (h : a = b) : Ending.returned (.int k a) = .returned (.int k b) := by rw [h]
theorem wrap_in (n : Int) (h : -9223372036854775808 ≤ n ∧ n ≤ 9223372036854775807) : wrap64 n = n := by unfold wrap64; omega
/-- The round's number, as the walk spells it. -/
theorem round_num (m : Nat) (b : UInt8) (hm : m < 2147483647) : (wrap64 (wrap64 ((m : Int) * 1000003 + wrap64 (b.toNat : Int)) + 1)).tmod 2147483647 = (stepD m b : Int) := by
  have hb := UInt8.toNat_lt b
  rw [wrap_in (b.toNat : Int) (by omega), wrap_in ((m : Int) * 1000003 + (b.toNat : Int)) (by omega), wrap_in _ (by omega), Int.tmod_eq_emod_of_nonneg (by omega)]
  unfold stepD
  omega

end Go.Proofs.YtdleolgkbkoekaaDoor
