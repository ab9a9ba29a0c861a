/- What a slot is, and the contracts of both Slots. -/
import Derived.Test.YtdleolgkbkoekaaDoorTag
namespace Go.Proofs.YtdleolgkbkoekaaDoor
open Go.RowKit
abbrev blankB : ByteArray := ⟨#[32]⟩
/-- The text that Slot writes. -/
def slotT (g : Int) (t : ByteArray) : ByteArray := itoaS g ++ blankB ++ itoaS (dig 1 t.data.toList : Int) ++ blankB ++ t
def slotOk (g : Int) (t : ByteArray) : Bool := decide (1 ≤ g) && decide (g ≤ 1000000) && decide (t.size ≤ 300)
def slotS (g : Int) (t : ByteArray) : ByteArray := if slotOk g t then slotT g t else ⟨#[]⟩
theorem slotOk_iff {g : Int} {t : ByteArray} : slotOk g t = true ↔ 1 ≤ g ∧ g ≤ 1000000 ∧ t.size ≤ 300 := by
  unfold slotOk
  simp only [Bool.and_eq_true, decide_eq_true_eq, and_assoc]
theorem slotS_yes {g : Int} {t : ByteArray} (h : 1 ≤ g ∧ g ≤ 1000000 ∧ t.size ≤ 300) : slotS g t = slotT g t := by unfold slotS; rw [if_pos (slotOk_iff.2 h)]
theorem slotS_no {g : Int} {t : ByteArray} (h : ¬ (1 ≤ g ∧ g ≤ 1000000 ∧ t.size ≤ 300)) : slotS g t = ⟨#[]⟩ := by unfold slotS; rw [if_neg (fun e => h (slotOk_iff.1 e))]
set_option maxHeartbeats 400000 in
theorem inS_any (x lo hi : Int) (w : World) : Calls Tryd.prog 24 #[.int .i64 x, .int .i64 lo, .int .i64 hi] w fun e w' => e = .returned (.bool (decide (lo ≤ x) && decide (x ≤ hi))) ∧ w' = w := by
  go_enter Tryd.func24, Tryd.ntmps24
  by_cases h : lo ≤ x
  · have h1 : decide (lo ≤ x) = true := by simp [h]
    go_wp2
    go_ret
    exact ⟨by rw [h1]; rfl, rfl⟩
  · have h1 : decide (lo ≤ x) = false := by simp [h]
    go_wp2
    go_ret
    exact ⟨rfl, rfl⟩
end Go.Proofs.YtdleolgkbkoekaaDoor
