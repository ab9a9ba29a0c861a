/- Numbers of servers and quorums: plain notions, and the contracts of both Quorums. -/
-- UNF Gen
import Derived.Test.YtilhaokiohbeeabGreatDoorGen
namespace Go.Proofs.YtilhaokiohbeeabGreatDoor
open Go.RowKit
/-- Is it a number of servers? -/
def srvB (n : Int) : Bool := decide (n = 1 ∨ n = 4 ∨ n = 7)
theorem srvB_iff {n : Int} : srvB n = true ↔ n = 1 ∨ n = 4 ∨ n = 7 := by unfold srvB; exact decide_eq_true_iff
def quoR (n : Int) : Int := if n = 1 then 1 else if n = 4 then 3 else if n = 7 then 5 else -1
set_option maxHeartbeats 1000000 in
set_option maxRecDepth 100000 in
theorem l15Servers_any (n : Int) (w : World) :
    Calls Tryz.prog 31 #[.int .i64 n] w fun e w' => e = .returned (.bool (srvB n)) ∧ w' = w := by
  by_cases h1 : n = 1
  · subst h1
    go_enter Tryz.func31, Tryz.ntmps31
    go_wp2
    go_ret
    exact ⟨rfl, rfl⟩
  · have e1 : (n == 1) = false := beq_false_of_ne h1
    by_cases h4 : n = 4
    · subst h4
      go_enter Tryz.func31, Tryz.ntmps31
      go_wp2
      go_ret
      exact ⟨rfl, rfl⟩
    · have e4 : (n == 4) = false := beq_false_of_ne h4
      have RES : Hid (srvB n = (n == 7)) := by
        unfold Hid srvB
        rw [Bool.eq_iff_iff]
        simp [h1, h4]
      clear h1 h4
      go_enter Tryz.func31, Tryz.ntmps31
      go_wp2
      go_ret
      exact ⟨ret_bool (by rw [RES.out]), rfl⟩
set_option maxHeartbeats 1000000 in
set_option maxRecDepth 100000 in
theorem specQuorum_any (n : Int) (w : World) :
    Calls Tryz.prog 120 #[.int .i64 n] w fun e w' => e = .returned (.int .i64 (quoR n)) ∧ w' = w := by
  have HS : Hid (∀ b, b = srvB n → ∀ W, Calls Tryz.prog 31 #[.int .i64 n] W fun e w' => e = .returned (.bool b) ∧ w' = W) := fun b hb W => by rw [hb]; exact l15Servers_any n W
  by_cases h1 : n = 1 ∨ n = 4 ∨ n = 7
  · have hb : Hid (true = srvB n) := (srvB_iff.2 h1).symm
    rcases h1 with rfl | rfl | rfl
    all_goals
      go_enter Tryz.func120, Tryz.ntmps120
      go_wp2_with fail
      refine (HS.out true hb.out _).mono ?_
      rintro e w1 ⟨rfl, rfl⟩
      go_wp2
      go_ret
      exact ⟨rfl, rfl⟩
  · have hb : Hid (false = srvB n) := by
      unfold Hid
      cases h : srvB n with
      | false => rfl
      | true => exact absurd (srvB_iff.1 h) h1
    have RES : Hid (quoR n = -1) := by unfold Hid quoR; rw [if_neg (by omega), if_neg (by omega), if_neg (by omega)]
    clear h1
    go_enter Tryz.func120, Tryz.ntmps120
    go_wp2_with fail
    refine (HS.out false hb.out _).mono ?_
    rintro e w1 ⟨rfl, rfl⟩
    go_wp2
    go_ret
    exact ⟨by rw [RES.out]; rfl, rfl⟩
set_option maxHeartbeats 1000000 in
set_option maxRecDepth 100000 in
theorem implQuorum_any (n : Int) (w : World) :
    Calls Tryz.prog 33 #[.int .i64 n] w fun e w' => e = .returned (.int .i64 (quoR n)) ∧ w' = w := by
  by_cases h1 : n = 1 ∨ n = 4 ∨ n = 7
  · rcases h1 with rfl | rfl | rfl
    all_goals
      go_enter Tryz.func33, Tryz.ntmps33
      go_wp2
      go_ret
      exact ⟨rfl, rfl⟩
  · have RES : Hid (quoR n = -1) := by unfold Hid quoR; rw [if_neg (by omega), if_neg (by omega), if_neg (by omega)]
    have e1 : (n == 1) = false := beq_false_of_ne (by omega)
    have e4 : (n == 4) = false := beq_false_of_ne (by omega)
    have e7 : (n == 7) = false := beq_false_of_ne (by omega)
    clear h1
    go_enter Tryz.func33, Tryz.ntmps33
    go_wp2
    go_ret
    exact ⟨ret_intE (by rw [RES.out]), rfl⟩
theorem l15ServersB_any (b : Bool) (n : Int) (h : srvB n = b) (w : World) :
    Calls Tryz.prog 31 #[.int .i64 n] w fun e w' => e = .returned (.bool b) ∧ w' = w := by rw [← h]; exact l15Servers_any n w
theorem implQuorumZ_any (q : Int) (n : Int) (h : quoR n = q) (w : World) :
    Calls Tryz.prog 33 #[.int .i64 n] w fun e w' => e = .returned (.int .i64 q) ∧ w' = w := by rw [← h]; exact implQuorum_any n w
theorem specQuorumZ_any (q : Int) (n : Int) (h : quoR n = q) (w : World) :
    Calls Tryz.prog 120 #[.int .i64 n] w fun e w' => e = .returned (.int .i64 q) ∧ w' = w := by rw [← h]; exact specQuorum_any n w
theorem quoR_no {n : Int} (h : srvB n = false) : quoR n = -1 := by
  have h1 : ¬ (n = 1 ∨ n = 4 ∨ n = 7) := fun e => by rw [srvB_iff.2 e] at h; cases h
  unfold quoR
  rw [if_neg (by omega), if_neg (by omega), if_neg (by omega)]
theorem quoR_yes {n : Int} (h : srvB n = true) : 1 ≤ quoR n ∧ quoR n ≤ 5 ∧ 1 ≤ n ∧ n ≤ 7 := by
  rcases srvB_iff.1 h with rfl | rfl | rfl <;> decide
end Go.Proofs.YtilhaokiohbeeabGreatDoor
