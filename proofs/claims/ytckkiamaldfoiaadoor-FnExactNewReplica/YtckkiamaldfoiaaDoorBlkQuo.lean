/- Numbers of servers and quorums: plain notions, and the contracts of both Quorums. -/
-- UNF Gen
import Derived.Test.YtckkiamaldfoiaaDoorGen
namespace Go.Proofs.YtckkiamaldfoiaaDoor
open Go.RowKit
/-- Is it a number of servers? -/
def srvB (n : Int) : Bool := decide (n = 1 ∨ n = 4 ∨ n = 7)
theorem srvB_iff {n : Int} : srvB n = true ↔ n = 1 ∨ n = 4 ∨ n = 7 := by unfold srvB; exact decide_eq_true_iff
def quoR (n : Int) : Int := if n = 1 then 1 else if n = 4 then 3 else if n = 7 then 5 else -1
set_option maxHeartbeats 1000000 in
set_option maxRecDepth 100000 in
theorem l15Servers_any (n : Int) (w : World) :
    Calls Tryd.prog 9 #[.int .i64 n] w fun e w' => e = .returned (.bool (srvB n)) ∧ w' = w := by
  by_cases h1 : n = 1
  · subst h1
    go_enter Tryd.func9, Tryd.ntmps9
    go_wp2
    go_ret
    exact ⟨rfl, rfl⟩
  · have e1 : (n == 1) = false := beq_false_of_ne h1
    by_cases h4 : n = 4
    · subst h4
      go_enter Tryd.func9, Tryd.ntmps9
      go_wp2
      go_ret
      exact ⟨rfl, rfl⟩
    · have e4 : (n == 4) = false := beq_false_of_ne h4
      have RES : Hid (srvB n = (n == 7)) := by
        unfold Hid srvB
        rw [Bool.eq_iff_iff]
        simp [h1, h4]
      clear h1 h4
      go_enter Tryd.func9, Tryd.ntmps9
      go_wp2
      go_ret
      exact ⟨ret_bool (by rw [RES.out]), rfl⟩
set_option maxHeartbeats 1000000 in
set_option maxRecDepth 100000 in
theorem implQuorum_any (n : Int) (w : World) :
    Calls Tryd.prog 44 #[.int .i64 n] w fun e w' => e = .returned (.int .i64 (quoR n)) ∧ w' = w := by
  by_cases h1 : n = 1 ∨ n = 4 ∨ n = 7
  · rcases h1 with rfl | rfl | rfl
    all_goals
      go_enter Tryd.func44, Tryd.ntmps44
      go_wp2
      go_ret
      exact ⟨rfl, rfl⟩
  · have RES : Hid (quoR n = -1) := by unfold Hid quoR; rw [if_neg (by omega), if_neg (by omega), if_neg (by omega)]
    have e1 : (n == 1) = false := beq_false_of_ne (by omega)
    have e4 : (n == 4) = false := beq_false_of_ne (by omega)
    have e7 : (n == 7) = false := beq_false_of_ne (by omega)
    clear h1
    go_enter Tryd.func44, Tryd.ntmps44
    go_wp2
    go_ret
    exact ⟨ret_intE (by rw [RES.out]), rfl⟩
theorem l15ServersB_any (b : Bool) (n : Int) (h : srvB n = b) (w : World) :
    Calls Tryd.prog 9 #[.int .i64 n] w fun e w' => e = .returned (.bool b) ∧ w' = w := by rw [← h]; exact l15Servers_any n w
theorem implQuorumZ_any (q : Int) (n : Int) (h : quoR n = q) (w : World) :
    Calls Tryd.prog 44 #[.int .i64 n] w fun e w' => e = .returned (.int .i64 q) ∧ w' = w := by rw [← h]; exact implQuorum_any n w
theorem quoR_no {n : Int} (h : srvB n = false) : quoR n = -1 := by
  have h1 : ¬ (n = 1 ∨ n = 4 ∨ n = 7) := fun e => by rw [srvB_iff.2 e] at h; cases h
  unfold quoR
  rw [if_neg (by omega), if_neg (by omega), if_neg (by omega)]
theorem quoR_yes {n : Int} (h : srvB n = true) : 1 ≤ quoR n ∧ quoR n ≤ 5 ∧ 1 ≤ n ∧ n ≤ 7 := by
  rcases srvB_iff.1 h with rfl | rfl | rfl <;> decide
end Go.Proofs.YtckkiamaldfoiaaDoor
