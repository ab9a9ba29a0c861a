/- The contracts of what a pool is asked: is an Offer right, is one ahead of another, and both PoolOk. -/
-- UNF Gen
import Derived.Test.YteohiicaiilicaaOffMath
import Derived.Deep.RegionHeld3
namespace Go.Proofs.Yteohiicaiilicaa
open Go.RowKit
set_option maxHeartbeats 400000 in
theorem inO_any (x lo hi : Int) (w : World) :
    Calls Try.prog 59 #[.int .i64 x, .int .i64 lo, .int .i64 hi] w fun e w' => e = .returned (.bool (decide (lo ≤ x ∧ x ≤ hi))) ∧ w' = w := by
  go_enter Try.func59, Try.ntmps59
  go_wp2
  all_goals go_ret
  · exact ⟨ret_bool (by rw [Bool.eq_iff_iff]; simp; omega), rfl⟩
  · exact ⟨ret_bool (by rw [Bool.eq_iff_iff]; simp; omega), rfl⟩
set_option maxHeartbeats 400000 in
theorem valO_any (x : Int) (w : World) :
    Calls Try.prog 56 #[.int .i64 x] w fun e w' => e = .returned (.bool (decide (0 ≤ x ∧ x ≤ 1000000000))) ∧ w' = w := by
  go_enter Try.func56, Try.ntmps56
  go_wp2_with (go_at_call 59; refine (inO_any _ _ _ _).mono ?_; rintro e w' ⟨rfl, rfl⟩)
  go_ret
  exact ⟨ret_bool (by rw [Bool.eq_iff_iff]; simp), rfl⟩
set_option maxHeartbeats 1000000 in
set_option maxRecDepth 100000 in
theorem l14Ahead_any (a b : Off) (w : World) :
    Calls Try.prog 45 #[.agg #[.int .i64 a.fee, .string a.text], .agg #[.int .i64 b.fee, .string b.text]] w fun e w' => e = .returned (.bool (ahO a b)) ∧ Below w.heap.size w w' := by
  go_enter Try.func45, Try.ntmps45
  go_wp2
  all_goals go_ret
  · exact ⟨ret_bool (ahO_w2 (by omega) ‹_›), below2 _ _ _⟩
  · exact ⟨ret_bool (by rw [← ahO_w3 (by omega) ‹_›]; simp; omega), below2 _ _ _⟩
  · exact ⟨ret_bool (ahO_w1 ‹_›), below2 _ _ _⟩
set_option maxHeartbeats 1000000 in
set_option maxRecDepth 100000 in
theorem ahead_any (a b : Off) (w : World) :
    Calls Try.prog 57 #[.agg #[.int .i64 a.fee, .string a.text], .agg #[.int .i64 b.fee, .string b.text]] w fun e w' => e = .returned (.bool (ahO a b)) ∧ Below w.heap.size w w' := by
  by_cases h : a.fee = b.fee
  · have hne : (a.fee != b.fee) = false := by simp [h]
    have RES : Hid (Op.bytesLess a.text.toList b.text.toList = ahO a b) := ahO_w2 (by omega) h
    clear h
    go_enter Try.func57, Try.ntmps57
    go_wp2
    go_ret
    exact ⟨ret_bool RES.out, below2 _ _ _⟩
  · have hne : (a.fee != b.fee) = true := by simp [h]
    have RES : Hid (decide (b.fee < a.fee) = ahO a b) := by unfold Hid; simp [ahO, h]
    clear h
    go_enter Try.func57, Try.ntmps57
    go_wp2
    go_ret
    exact ⟨ret_bool RES.out, below2 _ _ _⟩
set_option maxHeartbeats 1000000 in
set_option maxRecDepth 100000 in
theorem l14Offer_any (a : Off) (w : World) (hs : a.text.size ≤ maxLen) :
    Calls Try.prog 44 #[.agg #[.int .i64 a.fee, .string a.text]] w fun e w' => e = .returned (.bool (okO a)) ∧ Below w.heap.size w w' := by
  unfold maxLen at hs
  by_cases h : 0 ≤ a.fee ∧ a.fee ≤ 1000000000
  · have H1 : Hid (∀ W, Calls Try.prog 56 #[.int .i64 a.fee] W fun e w' => e = .returned (.bool true) ∧ w' = W) := fun W => by have := valO_any a.fee W; rwa [decide_eq_true h] at this
    have RES : Hid (decide (a.text.size ≤ 60) = okO a) := by unfold Hid okO; rw [decide_eq_true h]; rfl
    clear h
    go_enter Try.func44, Try.ntmps44
    go_wp2_with (go_at_call 56; refine (H1.out _).mono ?_; rintro e w' ⟨rfl, rfl⟩)
    go_ret
    exact ⟨ret_bool (by rw [← RES.out, Bool.eq_iff_iff]; simp; omega), below1 _ _⟩
  · have H1 : Hid (∀ W, Calls Try.prog 56 #[.int .i64 a.fee] W fun e w' => e = .returned (.bool false) ∧ w' = W) := fun W => by have := valO_any a.fee W; rwa [decide_eq_false h] at this
    have RES : Hid (false = okO a) := by unfold Hid okO; rw [decide_eq_false h]; rfl
    clear h
    go_enter Try.func44, Try.ntmps44
    go_wp2_with (go_at_call 56; refine (H1.out _).mono ?_; rintro e w' ⟨rfl, rfl⟩)
    go_ret
    exact ⟨ret_bool RES.out, below1 _ _⟩
set_option maxHeartbeats 1000000 in
set_option maxRecDepth 100000 in
theorem offerOk_any (a : Off) (w : World) (hs : a.text.size ≤ maxLen) :
    Calls Try.prog 38 #[.agg #[.int .i64 a.fee, .string a.text]] w fun e w' => e = .returned (.bool (okO a)) ∧ Below w.heap.size w w' := by
  unfold maxLen at hs
  go_enter Try.func38, Try.ntmps38
  go_wp2
  all_goals go_ret
  all_goals exact ⟨ret_bool (by rw [Bool.eq_iff_iff]; simp [okO]; omega), below1 _ _⟩
end Go.Proofs.Yteohiicaiilicaa
