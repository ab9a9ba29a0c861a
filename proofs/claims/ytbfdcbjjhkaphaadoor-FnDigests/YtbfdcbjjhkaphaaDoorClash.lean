/- The contracts of the two Clashes: are the texts unlike, and have they one digest? -/
import Derived.Test.YtbfdcbjjhkaphaaDoorDig
import Derived.BigQuiet
import Derived.Deep.RegionWith
namespace Go.Proofs.YtbfdcbjjhkaphaaDoor
open Go.RowKit
/-- Do the two texts clash? -/
def clash (a b : ByteArray) : Bool := decide (¬ a.toList = b.toList ∧ dig 1 a.data.toList = dig 1 b.data.toList)
theorem clash_alike {a b : ByteArray} (h : a.toList = b.toList) : clash a b = false := by unfold clash; simp [h]
theorem clash_other {a b : ByteArray} (h : ¬ a.toList = b.toList) : clash a b = decide (dig 1 a.data.toList = dig 1 b.data.toList) := by unfold clash; simp [h]
theorem beq_dig (x y : Nat) : ((x : Int) == (y : Int)) = decide (x = y) := by
  by_cases h : x = y
  · subst h; simp
  · simp only [h, decide_false, beq_eq_false_iff_ne]; omega
theorem both_dig {a b : ByteArray} (h : ¬ a.toList = b.toList) (x y : Nat) : (!a.toList == b.toList && (x : Int) == (y : Int)) = decide (x = y) := by
  rw [beq_dig]; simp [h]
theorem ret_bool {a b : Bool} (h : a = b) : Ending.returned (.bool a) = .returned (.bool b) := by rw [h]
set_option maxHeartbeats 400000 in
set_option maxRecDepth 100000 in
theorem specClash_any (a b : ByteArray) (w : World) (ha : a.size ≤ 1099511627776) (hb : b.size ≤ 1099511627776) :
    Calls Tryd.prog 14 #[.string a, .string b] w fun e w' => e = .returned (.bool (clash a b)) ∧ w' = w := by
  by_cases hab : a.toList = b.toList
  · rw [clash_alike hab]
    go_enter Tryd.func14, Tryd.ntmps14
    go_wp2
    go_ret
    exact ⟨rfl, rfl⟩
  · rw [clash_other hab]
    go_enter Tryd.func14, Tryd.ntmps14
    go_wp2_with fail
    refine (specDigest_any a _ ha).mono ?_
    rintro e w1 ⟨rfl, rfl⟩
    go_wp2_with fail
    refine (specDigest_any b _ hb).mono ?_
    rintro e w2 ⟨rfl, rfl⟩
    go_wp2
    go_ret
    exact ⟨ret_bool (both_dig hab _ _), rfl⟩
set_option maxHeartbeats 400000 in
set_option maxRecDepth 100000 in
theorem implClash_any (a b : ByteArray) (w : World) (ha : a.size ≤ 1099511627776) (hb : b.size ≤ 1099511627776) :
    Calls Tryd.prog 9 #[.string a, .string b] w fun e w' => e = .returned (.bool (clash a b)) ∧ Below w.heap.size w w' := by
  by_cases hab : a.toList = b.toList
  · rw [clash_alike hab]
    go_enter Tryd.func9, Tryd.ntmps9
    go_wp2
    go_ret
    exact ⟨rfl, Below.refl _ _⟩
  · rw [clash_other hab]
    go_enter Tryd.func9, Tryd.ntmps9
    go_wp2_with fail
    refine (implDigest_any a _ ha).mono ?_
    rintro e w1 ⟨rfl, hb1⟩
    go_wp2_with fail
    refine (implDigest_any b _ hb).mono ?_
    rintro e w2 ⟨rfl, hb2⟩
    have hb3 := hb1.trans (hb2.mono hb1.size)
    clear hb1 hb2
    go_wp2
    go_ret
    exact ⟨ret_bool (both_dig hab _ _), hb3⟩
end Go.Proofs.YtbfdcbjjhkaphaaDoor
