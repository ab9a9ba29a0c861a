/- The model's NewReplica, and of the program's what asks a Replica without lists for its numbers and lists. -/
-- UNF Gen
import Derived.Test.YtilhaokiohbeeabGreatDoorNrpBase
namespace Go.Proofs.YtilhaokiohbeeabGreatDoor
open Go.RowKit
/-- Is there a new Replica of this number? -/
def nrB (d n : Int) : Bool := srvB n && (decide (0 ≤ d) && decide (d < n))
theorem quo_of {n : Int} (h : srvB n = true) : (quoR n == -1) = false := by
  rcases srvB_iff.1 h with rfl | rfl | rfl <;> rfl
theorem quo_no {n : Int} (h : srvB n = false) : (quoR n == -1) = true := by
  unfold quoR; unfold srvB at h; rw [decide_eq_false_iff_not] at h; rw [if_neg (by omega), if_neg (by omega), if_neg (by omega)]; rfl
theorem nr_dec {d n : Int} {b : Bool} (h : nrB d n = b) (hs : srvB n = true) : (decide (0 ≤ d) && decide (d ≤ n - 1)) = b := by
  rw [← h]; unfold nrB; rw [hs, Bool.eq_iff_iff]; simp; omega
set_option maxHeartbeats 2000000 in
set_option maxRecDepth 100000 in
theorem specNew_yes1 (d : Int) (h : nrB d 1 = true) (w : World) :
    Calls Tryz.prog 32 #[.int .i64 d, .int .i64 1] w fun e w' => e = .returned (.tuple #[(.agg #[.int .i64 d, .int .i64 1, .int .i64 1, .int .i64 0, .int .i64 0, .int .i64 0, .int .i64 0, .int .i64 0, .slice none 0 0, .slice none 0 0, .slice none 0 0, .slice none 0 0, .slice none 0 0, .slice none 0 0]), .bool true]) ∧ Below w.heap.size w w' := by
  have HI : Hid (∀ W, Calls Tryz.prog 62 #[.int .i64 d, .int .i64 0, .int .i64 0] W fun e w' => e = .returned (.bool true) ∧ w' = W) := fun W => l1InN_any d 0 0 true (nr_dec h (srvB_iff.2 (by omega))) W
  have HS : Hid (∀ W, Calls Tryz.prog 31 #[.int .i64 1] W fun e w' => e = .returned (.bool true) ∧ w' = W) := fun W => by have := l15Servers_any 1 W; rwa [srvB_iff.2 (by omega)] at this
  clear h
  go_enter Tryz.func32, Tryz.ntmps32
  go_wp2_with fail
  refine (HS.out _).mono ?_
  rintro e w2 ⟨rfl, rfl⟩
  go_wp2_with fail
  refine (HI.out _).mono ?_
  rintro e w2 ⟨rfl, rfl⟩
  go_wp2
  refine bodyPost_ret (v := .tuple #[(.agg #[.int .i64 d, .int .i64 1, .int .i64 1, .int .i64 0, .int .i64 0, .int .i64 0, .int .i64 0, .int .i64 0, .slice none 0 0, .slice none 0 0, .slice none 0 0, .slice none 0 0, .slice none 0 0, .slice none 0 0]), .bool true]) (by simp [results, Tryz.results32, go_sem]) rfl ⟨rfl, ?_⟩
  first | exact below1 _ _ | exact (below1 _ _).setCell (by simp) _
set_option maxHeartbeats 2000000 in
set_option maxRecDepth 100000 in
theorem specNew_yes4 (d : Int) (h : nrB d 4 = true) (w : World) :
    Calls Tryz.prog 32 #[.int .i64 d, .int .i64 4] w fun e w' => e = .returned (.tuple #[(.agg #[.int .i64 d, .int .i64 4, .int .i64 1, .int .i64 0, .int .i64 0, .int .i64 0, .int .i64 0, .int .i64 0, .slice none 0 0, .slice none 0 0, .slice none 0 0, .slice none 0 0, .slice none 0 0, .slice none 0 0]), .bool true]) ∧ Below w.heap.size w w' := by
  have HI : Hid (∀ W, Calls Tryz.prog 62 #[.int .i64 d, .int .i64 0, .int .i64 3] W fun e w' => e = .returned (.bool true) ∧ w' = W) := fun W => l1InN_any d 0 3 true (nr_dec h (srvB_iff.2 (by omega))) W
  have HS : Hid (∀ W, Calls Tryz.prog 31 #[.int .i64 4] W fun e w' => e = .returned (.bool true) ∧ w' = W) := fun W => by have := l15Servers_any 4 W; rwa [srvB_iff.2 (by omega)] at this
  clear h
  go_enter Tryz.func32, Tryz.ntmps32
  go_wp2_with fail
  refine (HS.out _).mono ?_
  rintro e w2 ⟨rfl, rfl⟩
  go_wp2_with fail
  refine (HI.out _).mono ?_
  rintro e w2 ⟨rfl, rfl⟩
  go_wp2
  refine bodyPost_ret (v := .tuple #[(.agg #[.int .i64 d, .int .i64 4, .int .i64 1, .int .i64 0, .int .i64 0, .int .i64 0, .int .i64 0, .int .i64 0, .slice none 0 0, .slice none 0 0, .slice none 0 0, .slice none 0 0, .slice none 0 0, .slice none 0 0]), .bool true]) (by simp [results, Tryz.results32, go_sem]) rfl ⟨rfl, ?_⟩
  first | exact below1 _ _ | exact (below1 _ _).setCell (by simp) _
set_option maxHeartbeats 2000000 in
set_option maxRecDepth 100000 in
theorem specNew_yes7 (d : Int) (h : nrB d 7 = true) (w : World) :
    Calls Tryz.prog 32 #[.int .i64 d, .int .i64 7] w fun e w' => e = .returned (.tuple #[(.agg #[.int .i64 d, .int .i64 7, .int .i64 1, .int .i64 0, .int .i64 0, .int .i64 0, .int .i64 0, .int .i64 0, .slice none 0 0, .slice none 0 0, .slice none 0 0, .slice none 0 0, .slice none 0 0, .slice none 0 0]), .bool true]) ∧ Below w.heap.size w w' := by
  have HI : Hid (∀ W, Calls Tryz.prog 62 #[.int .i64 d, .int .i64 0, .int .i64 6] W fun e w' => e = .returned (.bool true) ∧ w' = W) := fun W => l1InN_any d 0 6 true (nr_dec h (srvB_iff.2 (by omega))) W
  have HS : Hid (∀ W, Calls Tryz.prog 31 #[.int .i64 7] W fun e w' => e = .returned (.bool true) ∧ w' = W) := fun W => by have := l15Servers_any 7 W; rwa [srvB_iff.2 (by omega)] at this
  clear h
  go_enter Tryz.func32, Tryz.ntmps32
  go_wp2_with fail
  refine (HS.out _).mono ?_
  rintro e w2 ⟨rfl, rfl⟩
  go_wp2_with fail
  refine (HI.out _).mono ?_
  rintro e w2 ⟨rfl, rfl⟩
  go_wp2
  refine bodyPost_ret (v := .tuple #[(.agg #[.int .i64 d, .int .i64 7, .int .i64 1, .int .i64 0, .int .i64 0, .int .i64 0, .int .i64 0, .int .i64 0, .slice none 0 0, .slice none 0 0, .slice none 0 0, .slice none 0 0, .slice none 0 0, .slice none 0 0]), .bool true]) (by simp [results, Tryz.results32, go_sem]) rfl ⟨rfl, ?_⟩
  first | exact below1 _ _ | exact (below1 _ _).setCell (by simp) _
set_option maxHeartbeats 2000000 in
set_option maxRecDepth 100000 in
theorem specNew_no1 (d : Int) (h : nrB d 1 = false) (w : World) :
    Calls Tryz.prog 32 #[.int .i64 d, .int .i64 1] w fun e w' => e = .returned (.tuple #[(.agg #[.int .i64 0, .int .i64 0, .int .i64 0, .int .i64 0, .int .i64 0, .int .i64 0, .int .i64 0, .int .i64 0, .slice none 0 0, .slice none 0 0, .slice none 0 0, .slice none 0 0, .slice none 0 0, .slice none 0 0]), .bool false]) ∧ Below w.heap.size w w' := by
  have HI : Hid (∀ W, Calls Tryz.prog 62 #[.int .i64 d, .int .i64 0, .int .i64 0] W fun e w' => e = .returned (.bool false) ∧ w' = W) := fun W => l1InN_any d 0 0 false (nr_dec h (srvB_iff.2 (by omega))) W
  have HS : Hid (∀ W, Calls Tryz.prog 31 #[.int .i64 1] W fun e w' => e = .returned (.bool true) ∧ w' = W) := fun W => by have := l15Servers_any 1 W; rwa [srvB_iff.2 (by omega)] at this
  clear h
  go_enter Tryz.func32, Tryz.ntmps32
  go_wp2_with fail
  refine (HS.out _).mono ?_
  rintro e w2 ⟨rfl, rfl⟩
  go_wp2_with fail
  refine (HI.out _).mono ?_
  rintro e w2 ⟨rfl, rfl⟩
  go_wp2
  refine bodyPost_ret (v := .tuple #[(.agg #[.int .i64 0, .int .i64 0, .int .i64 0, .int .i64 0, .int .i64 0, .int .i64 0, .int .i64 0, .int .i64 0, .slice none 0 0, .slice none 0 0, .slice none 0 0, .slice none 0 0, .slice none 0 0, .slice none 0 0]), .bool false]) (by simp [results, Tryz.results32, go_sem]) rfl ⟨rfl, ?_⟩
  first | exact below1 _ _ | exact (below1 _ _).setCell (by simp) _
set_option maxHeartbeats 2000000 in
set_option maxRecDepth 100000 in
theorem specNew_no4 (d : Int) (h : nrB d 4 = false) (w : World) :
    Calls Tryz.prog 32 #[.int .i64 d, .int .i64 4] w fun e w' => e = .returned (.tuple #[(.agg #[.int .i64 0, .int .i64 0, .int .i64 0, .int .i64 0, .int .i64 0, .int .i64 0, .int .i64 0, .int .i64 0, .slice none 0 0, .slice none 0 0, .slice none 0 0, .slice none 0 0, .slice none 0 0, .slice none 0 0]), .bool false]) ∧ Below w.heap.size w w' := by
  have HI : Hid (∀ W, Calls Tryz.prog 62 #[.int .i64 d, .int .i64 0, .int .i64 3] W fun e w' => e = .returned (.bool false) ∧ w' = W) := fun W => l1InN_any d 0 3 false (nr_dec h (srvB_iff.2 (by omega))) W
  have HS : Hid (∀ W, Calls Tryz.prog 31 #[.int .i64 4] W fun e w' => e = .returned (.bool true) ∧ w' = W) := fun W => by have := l15Servers_any 4 W; rwa [srvB_iff.2 (by omega)] at this
  clear h
  go_enter Tryz.func32, Tryz.ntmps32
  go_wp2_with fail
  refine (HS.out _).mono ?_
  rintro e w2 ⟨rfl, rfl⟩
  go_wp2_with fail
  refine (HI.out _).mono ?_
  rintro e w2 ⟨rfl, rfl⟩
  go_wp2
  refine bodyPost_ret (v := .tuple #[(.agg #[.int .i64 0, .int .i64 0, .int .i64 0, .int .i64 0, .int .i64 0, .int .i64 0, .int .i64 0, .int .i64 0, .slice none 0 0, .slice none 0 0, .slice none 0 0, .slice none 0 0, .slice none 0 0, .slice none 0 0]), .bool false]) (by simp [results, Tryz.results32, go_sem]) rfl ⟨rfl, ?_⟩
  first | exact below1 _ _ | exact (below1 _ _).setCell (by simp) _
set_option maxHeartbeats 2000000 in
set_option maxRecDepth 100000 in
theorem specNew_no7 (d : Int) (h : nrB d 7 = false) (w : World) :
    Calls Tryz.prog 32 #[.int .i64 d, .int .i64 7] w fun e w' => e = .returned (.tuple #[(.agg #[.int .i64 0, .int .i64 0, .int .i64 0, .int .i64 0, .int .i64 0, .int .i64 0, .int .i64 0, .int .i64 0, .slice none 0 0, .slice none 0 0, .slice none 0 0, .slice none 0 0, .slice none 0 0, .slice none 0 0]), .bool false]) ∧ Below w.heap.size w w' := by
  have HI : Hid (∀ W, Calls Tryz.prog 62 #[.int .i64 d, .int .i64 0, .int .i64 6] W fun e w' => e = .returned (.bool false) ∧ w' = W) := fun W => l1InN_any d 0 6 false (nr_dec h (srvB_iff.2 (by omega))) W
  have HS : Hid (∀ W, Calls Tryz.prog 31 #[.int .i64 7] W fun e w' => e = .returned (.bool true) ∧ w' = W) := fun W => by have := l15Servers_any 7 W; rwa [srvB_iff.2 (by omega)] at this
  clear h
  go_enter Tryz.func32, Tryz.ntmps32
  go_wp2_with fail
  refine (HS.out _).mono ?_
  rintro e w2 ⟨rfl, rfl⟩
  go_wp2_with fail
  refine (HI.out _).mono ?_
  rintro e w2 ⟨rfl, rfl⟩
  go_wp2
  refine bodyPost_ret (v := .tuple #[(.agg #[.int .i64 0, .int .i64 0, .int .i64 0, .int .i64 0, .int .i64 0, .int .i64 0, .int .i64 0, .int .i64 0, .slice none 0 0, .slice none 0 0, .slice none 0 0, .slice none 0 0, .slice none 0 0, .slice none 0 0]), .bool false]) (by simp [results, Tryz.results32, go_sem]) rfl ⟨rfl, ?_⟩
  first | exact below1 _ _ | exact (below1 _ _).setCell (by simp) _
set_option maxHeartbeats 2000000 in
set_option maxRecDepth 100000 in
theorem specNew_yes (d n : Int) (h : nrB d n = true) (w : World) :
    Calls Tryz.prog 32 #[.int .i64 d, .int .i64 n] w fun e w' => e = .returned (.tuple #[(.agg #[.int .i64 d, .int .i64 n, .int .i64 1, .int .i64 0, .int .i64 0, .int .i64 0, .int .i64 0, .int .i64 0, .slice none 0 0, .slice none 0 0, .slice none 0 0, .slice none 0 0, .slice none 0 0, .slice none 0 0]), .bool true]) ∧ Below w.heap.size w w' := by
  have hs : srvB n = true := by unfold nrB at h; simp at h; exact h.1
  rcases srvB_iff.1 hs with rfl | rfl | rfl
  · exact specNew_yes1 d h w
  · exact specNew_yes4 d h w
  · exact specNew_yes7 d h w
set_option maxHeartbeats 2000000 in
set_option maxRecDepth 100000 in
theorem specNew_no (d n : Int) (h : nrB d n = false) (w : World) :
    Calls Tryz.prog 32 #[.int .i64 d, .int .i64 n] w fun e w' => e = .returned (.tuple #[(.agg #[.int .i64 0, .int .i64 0, .int .i64 0, .int .i64 0, .int .i64 0, .int .i64 0, .int .i64 0, .int .i64 0, .slice none 0 0, .slice none 0 0, .slice none 0 0, .slice none 0 0, .slice none 0 0, .slice none 0 0]), .bool false]) ∧ Below w.heap.size w w' := by
  cases hs : srvB n with
  | true =>
    rcases srvB_iff.1 hs with rfl | rfl | rfl
    · exact specNew_no1 d h w
    · exact specNew_no4 d h w
    · exact specNew_no7 d h w
  | false =>
    have HS : Hid (∀ W, Calls Tryz.prog 31 #[.int .i64 n] W fun e w' => e = .returned (.bool false) ∧ w' = W) := fun W => by have := l15Servers_any n W; rwa [hs] at this
    clear hs h
    go_enter Tryz.func32, Tryz.ntmps32
    go_wp2_with fail
    refine (HS.out _).mono ?_
    rintro e w2 ⟨rfl, rfl⟩
    go_wp2
    refine bodyPost_ret (v := .tuple #[(.agg #[.int .i64 0, .int .i64 0, .int .i64 0, .int .i64 0, .int .i64 0, .int .i64 0, .int .i64 0, .int .i64 0, .slice none 0 0, .slice none 0 0, .slice none 0 0, .slice none 0 0, .slice none 0 0, .slice none 0 0]), .bool false]) (by simp [results, Tryz.results32, go_sem]) rfl ⟨rfl, ?_⟩
    first | exact below1 _ _ | exact (below1 _ _).setCell (by simp) _
set_option maxHeartbeats 2000000 in
set_option maxRecDepth 100000 in
theorem heardOk_nil (d n : Int) (w : World) :
    Calls Tryz.prog 129 #[(.agg #[.int .i64 d, .int .i64 n, .int .i64 1, .int .i64 0, .int .i64 0, .int .i64 0, .int .i64 0, .int .i64 0, .slice none 0 0, .slice none 0 0, .slice none 0 0, .slice none 0 0, .slice none 0 0, .slice none 0 0])] w fun e w' => e = .returned (.bool true) ∧ Below w.heap.size w w' := by
  have B0 := below1 w (.cells #[.int .i64 d, .int .i64 n, .int .i64 1, .int .i64 0, .int .i64 0, .int .i64 0, .int .i64 0, .int .i64 0, .slice none 0 0, .slice none 0 0, .slice none 0 0, .slice none 0 0, .slice none 0 0, .slice none 0 0] 81)
  go_enter Tryz.func129, Tryz.ntmps129
  go_wp2
  refine wp_loop_rounds 1 ?_
  rw [rounds_succ]
  go_wp2
  refine wp_loop_rounds 1 ?_
  rw [rounds_succ]
  go_wp2
  go_ret
  exact ⟨rfl, B0⟩
set_option maxHeartbeats 2000000 in
set_option maxRecDepth 100000 in
theorem numbersOk_no (d n : Int) (h : srvB n = false) (w : World) :
    Calls Tryz.prog 128 #[(.agg #[.int .i64 d, .int .i64 n, .int .i64 1, .int .i64 0, .int .i64 0, .int .i64 0, .int .i64 0, .int .i64 0, .slice none 0 0, .slice none 0 0, .slice none 0 0, .slice none 0 0, .slice none 0 0, .slice none 0 0])] w fun e w' => e = .returned (.bool false) ∧ Below w.heap.size w w' := by
  have B0 := below1 w (.cells #[.int .i64 d, .int .i64 n, .int .i64 1, .int .i64 0, .int .i64 0, .int .i64 0, .int .i64 0, .int .i64 0, .slice none 0 0, .slice none 0 0, .slice none 0 0, .slice none 0 0, .slice none 0 0, .slice none 0 0] 81)
  have HQ : Hid (∀ z, quoR n = z → ∀ W, Calls Tryz.prog 33 #[.int .i64 n] W fun e w' => e = .returned (.int .i64 z) ∧ w' = W) := fun z hz W => implQuorumZ_any z n hz W
  have hq := quo_no h
  obtain ⟨q, hqe⟩ : ∃ q, quoR n = q := ⟨_, rfl⟩
  rw [hqe] at hq
  have HE : Hid (quoR n = q) := hqe
  clear hqe h
  go_enter Tryz.func128, Tryz.ntmps128
  go_wp2_with fail
  refine (HQ.out _ HE.out _).mono ?_
  rintro e w2 ⟨rfl, rfl⟩
  go_wp2
  go_ret
  exact ⟨rfl, B0⟩
set_option maxHeartbeats 2000000 in
set_option maxRecDepth 100000 in
theorem numbersOk_srv (d n : Int) (b : Bool) (h : srvB n = true) (hb : (decide (0 ≤ d) && decide (d < n)) = b) (w : World) :
    Calls Tryz.prog 128 #[(.agg #[.int .i64 d, .int .i64 n, .int .i64 1, .int .i64 0, .int .i64 0, .int .i64 0, .int .i64 0, .int .i64 0, .slice none 0 0, .slice none 0 0, .slice none 0 0, .slice none 0 0, .slice none 0 0, .slice none 0 0])] w fun e w' => e = .returned (.bool b) ∧ Below w.heap.size w w' := by
  have B0 := below1 w (.cells #[.int .i64 d, .int .i64 n, .int .i64 1, .int .i64 0, .int .i64 0, .int .i64 0, .int .i64 0, .int .i64 0, .slice none 0 0, .slice none 0 0, .slice none 0 0, .slice none 0 0, .slice none 0 0, .slice none 0 0] 81)
  have HQ : Hid (∀ z, quoR n = z → ∀ W, Calls Tryz.prog 33 #[.int .i64 n] W fun e w' => e = .returned (.int .i64 z) ∧ w' = W) := fun z hz W => implQuorumZ_any z n hz W
  have HO : Hid (∀ W, Calls Tryz.prog 137 #[.int .i64 d, .int .i64 n] W fun e w' => e = .returned (.bool b) ∧ w' = W) := fun W => serverOkN_any d n b hb W
  have hq := quo_of h
  obtain ⟨q, hqe⟩ : ∃ q, quoR n = q := ⟨_, rfl⟩
  rw [hqe] at hq
  have HE : Hid (quoR n = q) := hqe
  clear hqe h hb
  cases b with
  | false =>
    go_enter Tryz.func128, Tryz.ntmps128
    go_wp2_with fail
    refine (HQ.out _ HE.out _).mono ?_
    rintro e w2 ⟨rfl, rfl⟩
    go_wp2_with fail
    refine (HO.out _).mono ?_
    rintro e w2 ⟨rfl, rfl⟩
    go_wp2
    go_ret
    exact ⟨rfl, B0⟩
  | true =>
    go_enter Tryz.func128, Tryz.ntmps128
    go_wp2_with fail
    refine (HQ.out _ HE.out _).mono ?_
    rintro e w2 ⟨rfl, rfl⟩
    go_wp2_with fail
    refine (HO.out _).mono ?_
    rintro e w2 ⟨rfl, rfl⟩
    go_wp2_with fail
    refine (viewOk_one _).mono ?_
    rintro e w2 ⟨rfl, rfl⟩
    go_wp2
    refine wp_loop_rounds 4 ?_
    rw [rounds_succ]
    go_wp2
    rw [rounds_succ]
    go_wp2
    rw [rounds_succ]
    go_wp2
    rw [rounds_succ]
    go_wp2
    go_ret
    exact ⟨rfl, B0.alloc (by simp) _⟩
set_option maxHeartbeats 2000000 in
set_option maxRecDepth 100000 in
theorem proofOk_zero (n : Int) (h : srvB n = true) (w : World) :
    Calls Tryz.prog 168 #[.agg #[.int .i64 0, .int .i64 0, .slice none 0 0, .slice none 0 0], .int .i64 n] w fun e w' => e = .returned (.bool true) ∧ Below w.heap.size w w' := by
  have B0 := below1 w (.cells #[.int .i64 0, .int .i64 0, .slice none 0 0, .slice none 0 0] 52)
  have HB0 : Hid (Below w.heap.size w (w.alloc (.cells #[.int .i64 0, .int .i64 0, .slice none 0 0, .slice none 0 0] 52))) := B0
  have HQ : Hid (∀ z, quoR n = z → ∀ W, Calls Tryz.prog 33 #[.int .i64 n] W fun e w' => e = .returned (.int .i64 z) ∧ w' = W) := fun z hz W => implQuorumZ_any z n hz W
  have hq : (quoR n != -1) = true := by rw [bne, quo_of h]; rfl
  obtain ⟨q, hqe⟩ : ∃ q, quoR n = q := ⟨_, rfl⟩
  rw [hqe] at hq
  have HE : Hid (quoR n = q) := hqe
  clear hqe h B0
  go_enter Tryz.func168, Tryz.ntmps168
  go_wp2_with fail
  refine (isFirst_zero _).mono ?_
  rintro e w2 ⟨rfl, hb2⟩
  have bz := HB0.out.trans (hb2.mono HB0.out.size)
  clear hb2
  go_wp2_with fail
  refine (HQ.out _ HE.out _).mono ?_
  rintro e w3 ⟨rfl, rfl⟩
  go_wp2
  go_ret
  exact ⟨rfl, bz⟩
end Go.Proofs.YtilhaokiohbeeabGreatDoor
