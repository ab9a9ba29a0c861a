/- The contracts of the two Pairs, Tags and Signeds. -/
import Derived.Test.YtdleolgkbkoekaaDoorClash
import Derived.Test.YtdleolgkbkoekaaDoorFmt
import Derived.Test.YtdleolgkbkoekaaDoorStrBase
namespace Go.Proofs.YtdleolgkbkoekaaDoor
open Go.RowKit
theorem itoaS_size (n : Int) (h0 : -9223372036854775808 ≤ n) (h1 : n ≤ 9223372036854775807) : (itoaS n).size ≤ 21 := by
  have := Lib.itoa_length_le n h0 h1
  show (Lib.itoa n).toArray.size ≤ 21
  simpa using this
theorem dig_lt' (h : Nat) (bs : List UInt8) (hh : h < 2147483647) : dig h bs < 2147483647 := dig_lt bs h hh
/-- The digest of a pair of numbers. -/
def pairD (a b : Int) : Nat := dig (dig (dig 1 (itoaS a).data.toList) [44]) (itoaS b).data.toList
theorem app_toList (a b : ByteArray) : (a ++ b).data.toList = a.data.toList ++ b.data.toList := by simp [ByteArray.data_append]
theorem app_size (a b : ByteArray) : (a ++ b).size = a.size + b.size := ByteArray.size_append
/-- The digest of some texts, one behind the other. -/
def digAll (h : Nat) (ss : List ByteArray) : Nat := ss.foldl (fun d s => dig d s.data.toList) h
theorem digAll_at (h k : Nat) (ss : List ByteArray) (hk : k < ss.length) : digAll h (ss.drop k) = digAll (dig h ss[k].data.toList) (ss.drop (k + 1)) := by
  rw [List.drop_eq_getElem_cons hk]; rfl
theorem digAll_end (h k : Nat) (ss : List ByteArray) (hk : ss.length ≤ k) : digAll h (ss.drop k) = h := by
  rw [List.drop_eq_nil_of_le hk]; rfl
end Go.Proofs.YtdleolgkbkoekaaDoor
