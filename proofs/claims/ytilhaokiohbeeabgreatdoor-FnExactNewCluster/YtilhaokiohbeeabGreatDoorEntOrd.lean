/- The contracts of the small functions over entries: which of two is ahead, and whether one is as told; the model's and the program's. -/
import Derived.Test.YtilhaokiohbeeabGreatDoorEntBase
import Derived.Test.YtilhaokiohbeeabGreatDoorGen
import Derived.BigQuiet
import Derived.Laws.Cover1
import Derived.Deep.RegionWith
namespace Go.Proofs.YtilhaokiohbeeabGreatDoor
open Go.RowKit
theorem beq_kEq (a b : ByteArray) : (a.toList == b.toList) = kEq a b := by
  rw [Bool.eq_iff_iff, beq_iff_eq]
  unfold kEq
  rw [decide_eq_true_eq]
  exact ⟨ba_toList_inj, fun h => by rw [h]⟩
theorem ahd_w1 {a b : Ent} (h : Op.bytesLess a.key.toList b.key.toList = true) : true = ahd a b := by
  have : kLt a.key b.key = true := h
  simp [ahd, this]
theorem ahd_w2 {a b : Ent} (_h : ¬ Op.bytesLess a.key.toList b.key.toList = true) (h2 : a.key.toList = b.key.toList) : decide (b.seq < a.seq) = ahd a b := by
  have h3 := ba_toList_inj h2
  simp [ahd, h3, kLt_irrefl, kEq]
theorem ahd_w3 {a b : Ent} (h : ¬ Op.bytesLess a.key.toList b.key.toList = true) (h2 : ¬ a.key.toList = b.key.toList) : false = ahd a b := by
  have h3 : a.key ≠ b.key := fun e => h2 (by rw [e])
  have h4 : kLt a.key b.key = false := by simpa [kLt] using h
  simp [ahd, h3, h4, kEq]
set_option maxHeartbeats 400000 in
theorem l1In_any (x lo hi : Int) (w : World) :
    Calls Tryz.prog 62 #[.int .i64 x, .int .i64 lo, .int .i64 hi] w fun e w' => e = .returned (.bool (decide (lo ≤ x) && decide (x ≤ hi))) ∧ w' = w := by
  go_enter Tryz.func62, Tryz.ntmps62
  go_wp2
  all_goals go_ret
  · exact ⟨by simp_all, rfl⟩
  · exact ⟨ret_bool (by rw [Bool.eq_iff_iff]; simp; omega), rfl⟩
theorem empty_iff (s : ByteArray) : s.toList = [] ↔ s.size = 0 := by
  rw [ByteArray.toList_eq, List.eq_nil_iff_length_eq_zero, Array.length_toList]
  exact Iff.rfl
theorem okE_iff (a : Ent) : okE a = true ↔ 1 ≤ (a.key.size : Int) ∧ (a.key.size : Int) ≤ 40 ∧ (a.val.size : Int) ≤ 200 ∧ (a.gone = true → a.val.size = 0) ∧ 1 ≤ a.seq ∧ a.seq ≤ 1000000 := by
  simp only [okE, Bool.and_eq_true, Bool.or_eq_true, Bool.not_eq_true', decide_eq_true_eq]
  generalize a.val.size = v
  generalize a.key.size = k
  cases a.gone <;> simp <;> omega
theorem empty_toList : (⟨#[]⟩ : ByteArray).toList = [] := by rw [empty_iff]; rfl
theorem cmpK_w1 {a b : ByteArray} (h : Op.bytesLess a.toList b.toList = true) : -1 = cmpK a b := by
  have : kLt a b = true := h
  simp [cmpK, this]
theorem cmpK_w2 {a b : ByteArray} (h : Op.bytesLess a.toList b.toList = false) (h2 : ¬ a.toList = b.toList) : 1 = cmpK a b := by
  have h3 : kLt a b = false := h
  have h4 : kLt b a = true := by
    cases h5 : kLt b a with
    | true => rfl
    | false => exact absurd (congrArg ByteArray.toList (kLt_tri h3 h5)) h2
  simp [cmpK, h3, h4]
theorem cmpK_w3 {a b : ByteArray} (h2 : a.toList = b.toList) : 0 = cmpK a b := by
  have := ba_toList_inj h2
  subst this
  simp [cmpK, kLt_irrefl]
theorem cmpK_bd (a b : ByteArray) : -1 ≤ cmpK a b ∧ cmpK a b ≤ 1 := by unfold cmpK; split <;> (try split) <;> omega
theorem cmpI_bd (a b : Int) : -1 ≤ cmpI a b ∧ cmpI a b ≤ 1 := by unfold cmpI; split <;> (try split) <;> omega
end Go.Proofs.YtilhaokiohbeeabGreatDoor
