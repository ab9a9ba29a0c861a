/- The contracts of the two Clashes: are the texts unlike, and have they one digest? -/
import Derived.Test.YtckidhcknibceaaDoorDig
import Derived.BigQuiet
import Derived.Deep.RegionWith
namespace Go.Proofs.YtckidhcknibceaaDoor
open Go.RowKit
/-- Do the two texts clash? -/
def clash (a b : ByteArray) : Bool := decide (¬ a.toList = b.toList ∧ dig 1 a.data.toList = dig 1 b.data.toList)
theorem clash_alike {a b : ByteArray} (h : a.toList = b.toList) : clash a b = false := by unfold clash; simp [h]
theorem clash_other {a b : ByteArray} (h : ¬ a.toList = b.toList) : clash a b = decide (dig 1 a.data.toList = dig 1 b.data.toList) := by unfold clash; simp [h]
theorem beq_dig (x y : Nat) : ((x : Int) == (y : Int)) = decide (x = y) := by
  by_cases h : x = y
  · subst h; simp
  · simp only [h, decide_false, beq_eq_false_iff_ne]; omega
theorem both_dig {a b : ByteArray} (h : ¬ a.toList = b.toList) (x y : Nat) : (!a.toList == b.toList && (x : Int) == (y : Int)) = decide (x = y) := by
  rw [beq_dig]; simp [h]
theorem ret_boolC {a b : Bool} (h : a = b) : Ending.returned (.bool a) = .returned (.bool b) := by rw [h]
end Go.Proofs.YtckidhcknibceaaDoor
