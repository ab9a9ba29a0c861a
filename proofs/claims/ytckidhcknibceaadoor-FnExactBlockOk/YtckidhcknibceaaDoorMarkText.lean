/- The contract of the law's own mark of a number, as a text. -/
import Derived.Test.YtckidhcknibceaaDoorAid
import Derived.Test.YtckidhcknibceaaDoorStrBase
import Derived.Deep.RegionHeld3
namespace Go.Proofs.YtckidhcknibceaaDoor
open Go.RowKit
/-- The digits of k ahead of acc. -/
def digs (k : Nat) (acc : List UInt8) : List UInt8 := if h : k = 0 then acc else digs (k / 10) (UInt8.ofNat (48 + k % 10) :: acc)
theorem digs_zero (acc : List UInt8) : digs 0 acc = acc := by rw [digs, dif_pos rfl]
theorem digs_step (k : Nat) (h : 0 < k) (acc : List UInt8) : digs k acc = digs (k / 10) (UInt8.ofNat (48 + k % 10) :: acc) := by rw [digs, dif_neg (by omega)]
/-- The law's mark number k. -/
def mk (k : Nat) : ByteArray := ⟨((109 : UInt8) :: digs k []).toArray⟩
end Go.Proofs.YtckidhcknibceaaDoor
