/- The contracts of the two Pairs, Tags and Signeds. -/
import Derived.Test.YtmfopbkhlekhkaaDoorClash
import Derived.Test.YtmfopbkhlekhkaaDoorFmt
import Derived.Test.YtmfopbkhlekhkaaDoorStrBase
namespace Go.Proofs.YtmfopbkhlekhkaaDoor
open Go.RowKit
theorem itoaS_size (n : Int) (h0 : -9223372036854775808 ≤ n) (h1 : n ≤ 9223372036854775807) : (itoaS n).size ≤ 21 := by
  have := Lib.itoa_length_le n h0 h1
  show (Lib.itoa n).toArray.size ≤ 21
  simpa using this
theorem dig_lt' (h : Nat) (bs : List UInt8) (hh : h < 2147483647) : dig h bs < 2147483647 := dig_lt bs h hh
/-- The digest of a pair of numbers. -/
def pairD (a b : Int) : Nat := dig (dig (dig 1 (itoaS a).data.toList) [44]) (itoaS b).data.toList
set_option maxHeartbeats 400000 in
set_option maxRecDepth 100000 in
theorem withNumber_any (m : Nat) (n : Int) (w : World) (hm : m < 2147483647) (h0 : -9223372036854775808 ≤ n) (h1 : n ≤ 9223372036854775807) (ht : Tab w) :
    Calls Tryd.prog 62 #[.int .i64 m, .int .i64 n] w fun e w' => e = .returned (.int .i64 (dig m (itoaS n).data.toList : Int)) ∧ Below w.heap.size w w' := by
  have hsz := itoaS_size n h0 h1
  go_enter Tryd.func62, Tryd.ntmps62
  go_wp2_with fail
  refine (fmt_any n _ h0 h1 ht).mono ?_
  rintro e w1 ⟨rfl, hb1⟩
  go_wp2_with fail
  refine (withText_any m _ _ hm (by omega)).mono ?_
  rintro e w2 ⟨rfl, hb2⟩
  have hb := hb1.trans (hb2.mono hb1.size)
  clear hb1 hb2
  go_wp2
  go_ret
  exact ⟨rfl, hb⟩
set_option maxHeartbeats 400000 in
set_option maxRecDepth 100000 in
theorem implPair_any (a b : Int) (w : World) (ha0 : -9223372036854775808 ≤ a) (ha1 : a ≤ 9223372036854775807) (hb0 : -9223372036854775808 ≤ b) (hb1 : b ≤ 9223372036854775807) (ht : Tab w) :
    Calls Tryd.prog 28 #[.int .i64 a, .int .i64 b] w fun e w' => e = .returned (.int .i64 (pairD a b : Int)) ∧ Below w.heap.size w w' := by
  have hl1 := dig_lt' 1 (itoaS a).data.toList (by omega)
  have hl2 := dig_lt' _ [44] hl1
  have HP : Hid (pairD a b = dig (dig (dig 1 (itoaS a).data.toList) [44]) (itoaS b).data.toList) := rfl
  generalize pairD a b = R at HP
  generalize hd1 : dig 1 (itoaS a).data.toList = d1 at hl1 hl2 HP
  have H1 : Hid (dig 1 (itoaS a).data.toList = d1) := hd1
  generalize hd2 : dig d1 [44] = d2 at hl2 HP
  have H2 : Hid (dig d1 [44] = d2) := hd2
  clear hd1 hd2
  go_enter Tryd.func28, Tryd.ntmps28
  go_wp2_with fail
  refine (withNumber_any 1 a _ (by omega) ha0 ha1 ht).mono ?_
  rw [H1.out]
  rintro e w1 ⟨rfl, hw1⟩
  go_wp2_with fail
  refine (withText_any d1 _ _ hl1 (by decide)).mono ?_
  rw [show (⟨#[44]⟩ : ByteArray).data.toList = [44] from rfl, H2.out]
  rintro e w2 ⟨rfl, hw2⟩
  have hw12 := hw1.trans (hw2.mono hw1.size)
  have ht2 := ht.on hw12
  clear hw1 hw2
  go_wp2_with fail
  refine (withNumber_any d2 b _ hl2 hb0 hb1 ht2).mono ?_
  rw [← HP.out]
  rintro e w3 ⟨rfl, hw3⟩
  have hw := hw12.trans (hw3.mono hw12.size)
  clear hw12 hw3
  go_wp2
  go_ret
  exact ⟨rfl, hw⟩
theorem app_toList (a b : ByteArray) : (a ++ b).data.toList = a.data.toList ++ b.data.toList := by simp [ByteArray.data_append]
theorem app_size (a b : ByteArray) : (a ++ b).size = a.size + b.size := ByteArray.size_append
set_option maxHeartbeats 400000 in
set_option maxRecDepth 100000 in
theorem specPair_any (a b : Int) (w : World) (ha0 : -9223372036854775808 ≤ a) (ha1 : a ≤ 9223372036854775807) (hb0 : -9223372036854775808 ≤ b) (hb1 : b ≤ 9223372036854775807) :
    Calls Tryd.prog 54 #[.int .i64 a, .int .i64 b] w fun e w' => e = .returned (.int .i64 (pairD a b : Int)) ∧ Below w.heap.size w w' := by
  have hsa := itoaS_size a ha0 ha1
  have hsb := itoaS_size b hb0 hb1
  go_enter Tryd.func54, Tryd.ntmps54
  go_wp2_with fail
  refine (l2Int_any a _ ha0 ha1).mono ?_
  rintro e w1 ⟨rfl, hw1⟩
  go_wp2_with fail
  refine (l2Int_any b _ hb0 hb1).mono ?_
  rintro e w2 ⟨rfl, hw2⟩
  have hw12 := hw1.trans (hw2.mono hw1.size)
  clear hw1 hw2
  have hz : (itoaS a ++ ⟨#[44]⟩ ++ itoaS b).size ≤ 100 := by
    rw [app_size, app_size]
    have : (⟨#[44]⟩ : ByteArray).size = 1 := rfl
    omega
  have HP : Hid (dig 1 (itoaS a ++ ⟨#[44]⟩ ++ itoaS b).data.toList = pairD a b) := by
    show _ = _
    rw [app_toList, app_toList, dig_append, dig_append]; rfl
  go_wp2_with fail
  refine (specDigest_any _ _ (by omega)).mono ?_
  rw [HP.out]
  rintro e w3 ⟨rfl, rfl⟩
  go_wp2
  go_ret
  exact ⟨rfl, hw12⟩
/-- The digest of some texts, one behind the other. -/
def digAll (h : Nat) (ss : List ByteArray) : Nat := ss.foldl (fun d s => dig d s.data.toList) h
theorem digAll_at (h k : Nat) (ss : List ByteArray) (hk : k < ss.length) : digAll h (ss.drop k) = digAll (dig h ss[k].data.toList) (ss.drop (k + 1)) := by
  rw [List.drop_eq_getElem_cons hk]; rfl
theorem digAll_end (h k : Nat) (ss : List ByteArray) (hk : ss.length ≤ k) : digAll h (ss.drop k) = h := by
  rw [List.drop_eq_nil_of_le hk]; rfl
end Go.Proofs.YtmfopbkhlekhkaaDoor
