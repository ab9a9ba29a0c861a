/- The contracts of both VoteOk. -/
import Derived.Test.YtilhaokiohbeeaaGreatDoorG28
-- UNF Gen
namespace Go.Proofs.YtilhaokiohbeeaaGreatDoor
open Go.RowKit
theorem beq_dec (a b : Int) : (a == b) = decide (a = b) := by by_cases h : a = b <;> simp [h]
theorem vok_out {x : Vot} {n : Int} (hs : srvB n = true) (hn : x.sv ≤ n - 1) (hv : inV x.vw = true) : vokR x n = decide (x = votR x.sv x.vw x.nm) := by
  have hq := quoR_yes hs
  unfold vokR votR
  rw [hs, hv]
  by_cases h0 : 0 ≤ x.sv
  · rw [decide_eq_true (show 0 ≤ x.sv ∧ x.sv ≤ n - 1 from ⟨h0, hn⟩), decide_eq_true (show 0 ≤ x.sv ∧ x.sv ≤ 6 by omega)]
    cases hN : inN x.nm with
    | false =>
      have : x ≠ votZ := fun e => by rw [e] at hv; revert hv; decide
      simp [this]
    | true =>
      simp only [Bool.true_and, if_true]
      by_cases ht : (tagD x.sv (balS x.vw x.nm) : Int) = x.tg
      · rw [decide_eq_true ht, eq_comm]
        refine decide_eq_true ?_
        unfold vtd
        rw [ht]
      · rw [decide_eq_false ht, eq_comm]
        refine decide_eq_false fun e => ht ?_
        have := congrArg Vot.tg e
        unfold vtd at this
        exact this.symm
  · rw [decide_eq_false (show ¬ (0 ≤ x.sv ∧ x.sv ≤ n - 1) by omega), decide_eq_false (show ¬ (0 ≤ x.sv ∧ x.sv ≤ 6) by omega)]
    have : x ≠ votZ := fun e => by rw [e] at hv; revert hv; decide
    simp [this]
set_option maxHeartbeats 4000000 in
set_option maxRecDepth 100000 in
theorem specVoteOk_any (x : Vot) (n : Int) (w : World) (hf : FitVo x) :
    Calls Tryz.prog 17 #[.agg #[.int .i64 x.vw, .int .i64 x.nm, .int .i64 x.sv, .int .i64 x.tg], .int .i64 n] w fun e w' => e = .returned (.bool (vokR x n)) ∧ Below w.heap.size w w' := by
  have X0 : BoxV (w.alloc (.cells (VC x) 36)) w.heap.size x := boxV_new w x
  have HB0 : Hid (Below w.heap.size w (w.alloc (.cells (VC x) 36))) := below1 w _
  obtain ⟨p0, p1, p2, p3⟩ := X0.facts
  unfold VC at p0 p1 p2 p3
  have XD : Hid (BoxV (World.drew (w.alloc (.cells (VC x) 36))) w.heap.size x) := boxV_new w x
  have HI : Hid (∀ b y lo hi, decide (lo ≤ y ∧ y ≤ hi) = b → ∀ W, Calls Tryz.prog 74 #[.int .i64 y, .int .i64 lo, .int .i64 hi] W fun e w' => e = .returned (.bool b) ∧ w' = W) := fun b y lo hi h W => l1InB_any b y lo hi h W
  have HF : Hid (FitVo x) := hf
  clear hf X0
  cases hS : srvB n with
  | false =>
    have HS : ∀ W, Calls Tryz.prog 73 #[.int .i64 n] W fun e w' => e = .returned (.bool false) ∧ w' = W := fun W => l15ServersB_any false n hS W
    have RES : Hid (vokR x n = false) := by unfold Hid vokR; rw [hS]; rfl
    clear hS
    go_enter Tryz.func17, Tryz.ntmps17
    go_wp2_with fail
    refine wp_region_noPanic ?_
    refine wp_region_held_drew (S := fun w' => w'.cell? ⟨w.heap.size, 0, none⟩ = some (.int .i64 x.vw) ∧ w'.cell? ⟨w.heap.size, 1, none⟩ = some (.int .i64 x.nm) ∧ w'.cell? ⟨w.heap.size, 2, none⟩ = some (.int .i64 x.sv) ∧ w'.cell? ⟨w.heap.size, 3, none⟩ = some (.int .i64 x.tg)) (by kernel_rfl) ⟨p0, p1, p2, p3⟩ (fun h0 => ?_)
    refine tkG 0 5 h0 ?_
    try simp only [Act.put, List.setIfInBounds_toArray, List.set_cons_zero, List.set_cons_succ]
    refine wpAnyH_ready (rs := [1]) (by kernel_rfl) (by simp) ?_
    refine AllReadyH.cons rfl (fun K hK => ?_) AllReadyH.nil
    go_simp
    refine (HS _).mono ?_
    rintro e w1 ⟨rfl, rfl⟩
    refine hK.out _ _ h0 (fun h1 => ?_)
    clear hK K
    try simp only [Act.put, List.setIfInBounds_toArray, List.set_cons_zero, List.set_cons_succ]
    clear h0
    refine tkG 2 7 h1 ?_
    try simp only [Act.put, List.setIfInBounds_toArray, List.set_cons_zero, List.set_cons_succ]
    refine tkS 3 8 h1 ?_
    try simp only [Act.put, List.setIfInBounds_toArray, List.set_cons_zero, List.set_cons_succ]
    refine tkS 4 9 h1 ?_
    try simp only [Act.put, List.setIfInBounds_toArray, List.set_cons_zero, List.set_cons_succ]
    refine tkS 5 10 h1 ?_
    try simp only [Act.put, List.setIfInBounds_toArray, List.set_cons_zero, List.set_cons_succ]
    refine tkS 6 11 h1 ?_
    try simp only [Act.put, List.setIfInBounds_toArray, List.set_cons_zero, List.set_cons_succ]
    refine tkS 7 12 h1 ?_
    try simp only [Act.put, List.setIfInBounds_toArray, List.set_cons_zero, List.set_cons_succ]
    refine tkG 8 13 h1 ?_
    try simp only [Act.put, List.setIfInBounds_toArray, List.set_cons_zero, List.set_cons_succ]
    refine tkG 9 14 h1 ?_
    try simp only [Act.put, List.setIfInBounds_toArray, List.set_cons_zero, List.set_cons_succ]
    refine tkS 10 15 h1 ?_
    try simp only [Act.put, List.setIfInBounds_toArray, List.set_cons_zero, List.set_cons_succ]
    refine tkS 11 16 h1 ?_
    try simp only [Act.put, List.setIfInBounds_toArray, List.set_cons_zero, List.set_cons_succ]
    refine tkS 12 17 h1 ?_
    try simp only [Act.put, List.setIfInBounds_toArray, List.set_cons_zero, List.set_cons_succ]
    refine tkG 13 18 h1 ?_
    try simp only [Act.put, List.setIfInBounds_toArray, List.set_cons_zero, List.set_cons_succ]
    refine tkG 14 19 h1 ?_
    try simp only [Act.put, List.setIfInBounds_toArray, List.set_cons_zero, List.set_cons_succ]
    refine tkS 15 20 h1 ?_
    try simp only [Act.put, List.setIfInBounds_toArray, List.set_cons_zero, List.set_cons_succ]
    refine tkS 16 21 h1 ?_
    try simp only [Act.put, List.setIfInBounds_toArray, List.set_cons_zero, List.set_cons_succ]
    refine tkS 17 22 h1 ?_
    try simp only [Act.put, List.setIfInBounds_toArray, List.set_cons_zero, List.set_cons_succ]
    refine tkG 18 23 h1 ?_
    try simp only [Act.put, List.setIfInBounds_toArray, List.set_cons_zero, List.set_cons_succ]
    refine tkG 19 24 h1 ?_
    try simp only [Act.put, List.setIfInBounds_toArray, List.set_cons_zero, List.set_cons_succ]
    refine tkS 20 25 h1 ?_
    try simp only [Act.put, List.setIfInBounds_toArray, List.set_cons_zero, List.set_cons_succ]
    refine tkS 21 26 h1 ?_
    try simp only [Act.put, List.setIfInBounds_toArray, List.set_cons_zero, List.set_cons_succ]
    refine tkS 22 27 h1 ?_
    try simp only [Act.put, List.setIfInBounds_toArray, List.set_cons_zero, List.set_cons_succ]
    refine tkS 23 28 h1 ?_
    try simp only [Act.put, List.setIfInBounds_toArray, List.set_cons_zero, List.set_cons_succ]
    refine tkS 24 29 h1 ?_
    try simp only [Act.put, List.setIfInBounds_toArray, List.set_cons_zero, List.set_cons_succ]
    refine tkS 25 30 h1 ?_
    try simp only [Act.put, List.setIfInBounds_toArray, List.set_cons_zero, List.set_cons_succ]
    refine tkS 26 31 h1 ?_
    try simp only [Act.put, List.setIfInBounds_toArray, List.set_cons_zero, List.set_cons_succ]
    refine tkS 27 32 h1 ?_
    try simp only [Act.put, List.setIfInBounds_toArray, List.set_cons_zero, List.set_cons_succ]
    refine tkS 28 33 h1 ?_
    try simp only [Act.put, List.setIfInBounds_toArray, List.set_cons_zero, List.set_cons_succ]
    refine tkG 29 34 h1 ?_
    try simp only [Act.put, List.setIfInBounds_toArray, List.set_cons_zero, List.set_cons_succ]
    refine tkG 30 4 h1 ?_
    try simp only [Act.put, List.setIfInBounds_toArray, List.set_cons_zero, List.set_cons_succ]
    refine wpAnyH_done (by kernel_rfl) ?_ _
    refine NoPanic.normal ?_
    go_wp2
    go_ret
    exact ⟨ret_bool RES.out.symm, below_drewN HB0.out 1⟩
  | true =>
  have HS : ∀ W, Calls Tryz.prog 73 #[.int .i64 n] W fun e w' => e = .returned (.bool true) ∧ w' = W := fun W => l15ServersB_any true n hS W
  obtain ⟨-, -, hn0, hn1⟩ := quoR_yes hS
  have hnw : IntKind.i64.wrap (n - 1) = n - 1 := by rw [IntKind.wrap_i64]; omega
  cases hR : decide ((0 : Int) ≤ x.sv ∧ x.sv ≤ n - 1) with
  | false =>
    have H1 : ∀ W, Calls Tryz.prog 74 #[.int .i64 x.sv, .int .i64 0, .int .i64 (n - 1)] W fun e w' => e = .returned (.bool false) ∧ w' = W := fun W => HI.out false _ _ _ hR W
    have RES : Hid (vokR x n = false) := by unfold Hid vokR; rw [hS, hR]; rfl
    clear hS hR
    go_enter Tryz.func17, Tryz.ntmps17
    go_wp2_with fail
    refine wp_region_noPanic ?_
    refine wp_region_held_drew (S := fun w' => w'.cell? ⟨w.heap.size, 0, none⟩ = some (.int .i64 x.vw) ∧ w'.cell? ⟨w.heap.size, 1, none⟩ = some (.int .i64 x.nm) ∧ w'.cell? ⟨w.heap.size, 2, none⟩ = some (.int .i64 x.sv) ∧ w'.cell? ⟨w.heap.size, 3, none⟩ = some (.int .i64 x.tg)) (by kernel_rfl) ⟨p0, p1, p2, p3⟩ (fun h0 => ?_)
    refine tkG 0 5 h0 ?_
    try simp only [Act.put, List.setIfInBounds_toArray, List.set_cons_zero, List.set_cons_succ]
    refine wpAnyH_ready (rs := [1]) (by kernel_rfl) (by simp) ?_
    refine AllReadyH.cons rfl (fun K hK => ?_) AllReadyH.nil
    go_simp
    refine (HS _).mono ?_
    rintro e w1 ⟨rfl, rfl⟩
    refine hK.out _ _ h0 (fun h1 => ?_)
    clear hK K
    try simp only [Act.put, List.setIfInBounds_toArray, List.set_cons_zero, List.set_cons_succ]
    clear h0
    refine tkG 2 7 h1 ?_
    try simp only [Act.put, List.setIfInBounds_toArray, List.set_cons_zero, List.set_cons_succ]
    refine tkG 3 8 h1 ?_
    try simp only [Act.put, List.setIfInBounds_toArray, List.set_cons_zero, List.set_cons_succ]
    refine tkG 4 9 h1 ?_
    try simp only [Act.put, List.setIfInBounds_toArray, List.set_cons_zero, List.set_cons_succ]
    refine tkG 5 10 h1 ?_
    try simp only [Act.put, List.setIfInBounds_toArray, List.set_cons_zero, List.set_cons_succ]
    refine tkG 6 11 h1 ?_
    try simp only [Act.put, List.setIfInBounds_toArray, List.set_cons_zero, List.set_cons_succ]
    refine wpAnyH_ready (rs := [7]) (by kernel_rfl) (by simp) ?_
    refine AllReadyH.cons rfl (fun K hK => ?_) AllReadyH.nil
    go_simp
    refine (H1 _).mono ?_
    rintro e w1 ⟨rfl, rfl⟩
    refine hK.out _ _ h1 (fun h2 => ?_)
    clear hK K
    try simp only [Act.put, List.setIfInBounds_toArray, List.set_cons_zero, List.set_cons_succ]
    clear h1
    refine tkG 8 13 h2 ?_
    try simp only [Act.put, List.setIfInBounds_toArray, List.set_cons_zero, List.set_cons_succ]
    refine tkG 9 14 h2 ?_
    try simp only [Act.put, List.setIfInBounds_toArray, List.set_cons_zero, List.set_cons_succ]
    refine tkS 10 15 h2 ?_
    try simp only [Act.put, List.setIfInBounds_toArray, List.set_cons_zero, List.set_cons_succ]
    refine tkS 11 16 h2 ?_
    try simp only [Act.put, List.setIfInBounds_toArray, List.set_cons_zero, List.set_cons_succ]
    refine tkS 12 17 h2 ?_
    try simp only [Act.put, List.setIfInBounds_toArray, List.set_cons_zero, List.set_cons_succ]
    refine tkG 13 18 h2 ?_
    try simp only [Act.put, List.setIfInBounds_toArray, List.set_cons_zero, List.set_cons_succ]
    refine tkG 14 19 h2 ?_
    try simp only [Act.put, List.setIfInBounds_toArray, List.set_cons_zero, List.set_cons_succ]
    refine tkS 15 20 h2 ?_
    try simp only [Act.put, List.setIfInBounds_toArray, List.set_cons_zero, List.set_cons_succ]
    refine tkS 16 21 h2 ?_
    try simp only [Act.put, List.setIfInBounds_toArray, List.set_cons_zero, List.set_cons_succ]
    refine tkS 17 22 h2 ?_
    try simp only [Act.put, List.setIfInBounds_toArray, List.set_cons_zero, List.set_cons_succ]
    refine tkG 18 23 h2 ?_
    try simp only [Act.put, List.setIfInBounds_toArray, List.set_cons_zero, List.set_cons_succ]
    refine tkG 19 24 h2 ?_
    try simp only [Act.put, List.setIfInBounds_toArray, List.set_cons_zero, List.set_cons_succ]
    refine tkS 20 25 h2 ?_
    try simp only [Act.put, List.setIfInBounds_toArray, List.set_cons_zero, List.set_cons_succ]
    refine tkS 21 26 h2 ?_
    try simp only [Act.put, List.setIfInBounds_toArray, List.set_cons_zero, List.set_cons_succ]
    refine tkS 22 27 h2 ?_
    try simp only [Act.put, List.setIfInBounds_toArray, List.set_cons_zero, List.set_cons_succ]
    refine tkS 23 28 h2 ?_
    try simp only [Act.put, List.setIfInBounds_toArray, List.set_cons_zero, List.set_cons_succ]
    refine tkS 24 29 h2 ?_
    try simp only [Act.put, List.setIfInBounds_toArray, List.set_cons_zero, List.set_cons_succ]
    refine tkS 25 30 h2 ?_
    try simp only [Act.put, List.setIfInBounds_toArray, List.set_cons_zero, List.set_cons_succ]
    refine tkS 26 31 h2 ?_
    try simp only [Act.put, List.setIfInBounds_toArray, List.set_cons_zero, List.set_cons_succ]
    refine tkS 27 32 h2 ?_
    try simp only [Act.put, List.setIfInBounds_toArray, List.set_cons_zero, List.set_cons_succ]
    refine tkS 28 33 h2 ?_
    try simp only [Act.put, List.setIfInBounds_toArray, List.set_cons_zero, List.set_cons_succ]
    refine tkG 29 34 h2 ?_
    try simp only [Act.put, List.setIfInBounds_toArray, List.set_cons_zero, List.set_cons_succ]
    refine tkG 30 4 h2 ?_
    try simp only [Act.put, List.setIfInBounds_toArray, List.set_cons_zero, List.set_cons_succ]
    refine wpAnyH_done (by kernel_rfl) ?_ _
    refine NoPanic.normal ?_
    go_wp2
    go_ret
    exact ⟨ret_bool RES.out.symm, below_drewN HB0.out 1⟩
  | true =>
  have H1 : ∀ W, Calls Tryz.prog 74 #[.int .i64 x.sv, .int .i64 0, .int .i64 (n - 1)] W fun e w' => e = .returned (.bool true) ∧ w' = W := fun W => HI.out true _ _ _ hR W
  cases hV : inV x.vw with
  | false =>
    have H2 : ∀ W, Calls Tryz.prog 74 #[.int .i64 x.vw, .int .i64 1, .int .i64 100000] W fun e w' => e = .returned (.bool false) ∧ w' = W := fun W => HI.out false _ _ _ hV W
    have RES : Hid (vokR x n = false) := by unfold Hid vokR; rw [hS, hR, hV]; rfl
    clear hS hR hV
    go_enter Tryz.func17, Tryz.ntmps17
    go_wp2_with fail
    refine wp_region_noPanic ?_
    refine wp_region_held_drew (S := fun w' => w'.cell? ⟨w.heap.size, 0, none⟩ = some (.int .i64 x.vw) ∧ w'.cell? ⟨w.heap.size, 1, none⟩ = some (.int .i64 x.nm) ∧ w'.cell? ⟨w.heap.size, 2, none⟩ = some (.int .i64 x.sv) ∧ w'.cell? ⟨w.heap.size, 3, none⟩ = some (.int .i64 x.tg)) (by kernel_rfl) ⟨p0, p1, p2, p3⟩ (fun h0 => ?_)
    refine tkG 0 5 h0 ?_
    try simp only [Act.put, List.setIfInBounds_toArray, List.set_cons_zero, List.set_cons_succ]
    refine wpAnyH_ready (rs := [1]) (by kernel_rfl) (by simp) ?_
    refine AllReadyH.cons rfl (fun K hK => ?_) AllReadyH.nil
    go_simp
    refine (HS _).mono ?_
    rintro e w1 ⟨rfl, rfl⟩
    refine hK.out _ _ h0 (fun h1 => ?_)
    clear hK K
    try simp only [Act.put, List.setIfInBounds_toArray, List.set_cons_zero, List.set_cons_succ]
    clear h0
    refine tkG 2 7 h1 ?_
    try simp only [Act.put, List.setIfInBounds_toArray, List.set_cons_zero, List.set_cons_succ]
    refine tkG 3 8 h1 ?_
    try simp only [Act.put, List.setIfInBounds_toArray, List.set_cons_zero, List.set_cons_succ]
    refine tkG 4 9 h1 ?_
    try simp only [Act.put, List.setIfInBounds_toArray, List.set_cons_zero, List.set_cons_succ]
    refine tkG 5 10 h1 ?_
    try simp only [Act.put, List.setIfInBounds_toArray, List.set_cons_zero, List.set_cons_succ]
    refine tkG 6 11 h1 ?_
    try simp only [Act.put, List.setIfInBounds_toArray, List.set_cons_zero, List.set_cons_succ]
    refine wpAnyH_ready (rs := [7]) (by kernel_rfl) (by simp) ?_
    refine AllReadyH.cons rfl (fun K hK => ?_) AllReadyH.nil
    go_simp
    refine (H1 _).mono ?_
    rintro e w1 ⟨rfl, rfl⟩
    refine hK.out _ _ h1 (fun h2 => ?_)
    clear hK K
    try simp only [Act.put, List.setIfInBounds_toArray, List.set_cons_zero, List.set_cons_succ]
    clear h1
    refine tkG 8 13 h2 ?_
    try simp only [Act.put, List.setIfInBounds_toArray, List.set_cons_zero, List.set_cons_succ]
    refine tkG 9 14 h2 ?_
    try simp only [Act.put, List.setIfInBounds_toArray, List.set_cons_zero, List.set_cons_succ]
    refine tkG 10 15 h2 ?_
    try simp only [Act.put, List.setIfInBounds_toArray, List.set_cons_zero, List.set_cons_succ]
    refine tkG 11 16 h2 ?_
    try simp only [Act.put, List.setIfInBounds_toArray, List.set_cons_zero, List.set_cons_succ]
    refine wpAnyH_ready (rs := [12]) (by kernel_rfl) (by simp) ?_
    refine AllReadyH.cons rfl (fun K hK => ?_) AllReadyH.nil
    go_simp
    refine (H2 _).mono ?_
    rintro e w1 ⟨rfl, rfl⟩
    refine hK.out _ _ h2 (fun h3 => ?_)
    clear hK K
    try simp only [Act.put, List.setIfInBounds_toArray, List.set_cons_zero, List.set_cons_succ]
    clear h2
    refine tkG 13 18 h3 ?_
    try simp only [Act.put, List.setIfInBounds_toArray, List.set_cons_zero, List.set_cons_succ]
    refine tkG 14 19 h3 ?_
    try simp only [Act.put, List.setIfInBounds_toArray, List.set_cons_zero, List.set_cons_succ]
    refine tkS 15 20 h3 ?_
    try simp only [Act.put, List.setIfInBounds_toArray, List.set_cons_zero, List.set_cons_succ]
    refine tkS 16 21 h3 ?_
    try simp only [Act.put, List.setIfInBounds_toArray, List.set_cons_zero, List.set_cons_succ]
    refine tkS 17 22 h3 ?_
    try simp only [Act.put, List.setIfInBounds_toArray, List.set_cons_zero, List.set_cons_succ]
    refine tkG 18 23 h3 ?_
    try simp only [Act.put, List.setIfInBounds_toArray, List.set_cons_zero, List.set_cons_succ]
    refine tkG 19 24 h3 ?_
    try simp only [Act.put, List.setIfInBounds_toArray, List.set_cons_zero, List.set_cons_succ]
    refine tkS 20 25 h3 ?_
    try simp only [Act.put, List.setIfInBounds_toArray, List.set_cons_zero, List.set_cons_succ]
    refine tkS 21 26 h3 ?_
    try simp only [Act.put, List.setIfInBounds_toArray, List.set_cons_zero, List.set_cons_succ]
    refine tkS 22 27 h3 ?_
    try simp only [Act.put, List.setIfInBounds_toArray, List.set_cons_zero, List.set_cons_succ]
    refine tkS 23 28 h3 ?_
    try simp only [Act.put, List.setIfInBounds_toArray, List.set_cons_zero, List.set_cons_succ]
    refine tkS 24 29 h3 ?_
    try simp only [Act.put, List.setIfInBounds_toArray, List.set_cons_zero, List.set_cons_succ]
    refine tkS 25 30 h3 ?_
    try simp only [Act.put, List.setIfInBounds_toArray, List.set_cons_zero, List.set_cons_succ]
    refine tkS 26 31 h3 ?_
    try simp only [Act.put, List.setIfInBounds_toArray, List.set_cons_zero, List.set_cons_succ]
    refine tkS 27 32 h3 ?_
    try simp only [Act.put, List.setIfInBounds_toArray, List.set_cons_zero, List.set_cons_succ]
    refine tkS 28 33 h3 ?_
    try simp only [Act.put, List.setIfInBounds_toArray, List.set_cons_zero, List.set_cons_succ]
    refine tkG 29 34 h3 ?_
    try simp only [Act.put, List.setIfInBounds_toArray, List.set_cons_zero, List.set_cons_succ]
    refine tkG 30 4 h3 ?_
    try simp only [Act.put, List.setIfInBounds_toArray, List.set_cons_zero, List.set_cons_succ]
    refine wpAnyH_done (by kernel_rfl) ?_ _
    refine NoPanic.normal ?_
    go_wp2
    go_ret
    exact ⟨ret_bool RES.out.symm, below_drewN HB0.out 1⟩
  | true =>
  have H2 : ∀ W, Calls Tryz.prog 74 #[.int .i64 x.vw, .int .i64 1, .int .i64 100000] W fun e w' => e = .returned (.bool true) ∧ w' = W := fun W => HI.out true _ _ _ hV W
  cases hN : inN x.nm with
  | false =>
    have H3 : ∀ W, Calls Tryz.prog 80 #[.int .i64 x.nm] W fun e w' => e = .returned (.bool false) ∧ w' = W := fun W => l15NameB_any false _ hN W
    have RES : Hid (vokR x n = false) := by unfold Hid vokR; rw [hS, hR, hV, hN]; rfl
    clear hS hR hV hN
    go_enter Tryz.func17, Tryz.ntmps17
    go_wp2_with fail
    refine wp_region_noPanic ?_
    refine wp_region_held_drew (S := fun w' => w'.cell? ⟨w.heap.size, 0, none⟩ = some (.int .i64 x.vw) ∧ w'.cell? ⟨w.heap.size, 1, none⟩ = some (.int .i64 x.nm) ∧ w'.cell? ⟨w.heap.size, 2, none⟩ = some (.int .i64 x.sv) ∧ w'.cell? ⟨w.heap.size, 3, none⟩ = some (.int .i64 x.tg)) (by kernel_rfl) ⟨p0, p1, p2, p3⟩ (fun h0 => ?_)
    refine tkG 0 5 h0 ?_
    try simp only [Act.put, List.setIfInBounds_toArray, List.set_cons_zero, List.set_cons_succ]
    refine wpAnyH_ready (rs := [1]) (by kernel_rfl) (by simp) ?_
    refine AllReadyH.cons rfl (fun K hK => ?_) AllReadyH.nil
    go_simp
    refine (HS _).mono ?_
    rintro e w1 ⟨rfl, rfl⟩
    refine hK.out _ _ h0 (fun h1 => ?_)
    clear hK K
    try simp only [Act.put, List.setIfInBounds_toArray, List.set_cons_zero, List.set_cons_succ]
    clear h0
    refine tkG 2 7 h1 ?_
    try simp only [Act.put, List.setIfInBounds_toArray, List.set_cons_zero, List.set_cons_succ]
    refine tkG 3 8 h1 ?_
    try simp only [Act.put, List.setIfInBounds_toArray, List.set_cons_zero, List.set_cons_succ]
    refine tkG 4 9 h1 ?_
    try simp only [Act.put, List.setIfInBounds_toArray, List.set_cons_zero, List.set_cons_succ]
    refine tkG 5 10 h1 ?_
    try simp only [Act.put, List.setIfInBounds_toArray, List.set_cons_zero, List.set_cons_succ]
    refine tkG 6 11 h1 ?_
    try simp only [Act.put, List.setIfInBounds_toArray, List.set_cons_zero, List.set_cons_succ]
    refine wpAnyH_ready (rs := [7]) (by kernel_rfl) (by simp) ?_
    refine AllReadyH.cons rfl (fun K hK => ?_) AllReadyH.nil
    go_simp
    refine (H1 _).mono ?_
    rintro e w1 ⟨rfl, rfl⟩
    refine hK.out _ _ h1 (fun h2 => ?_)
    clear hK K
    try simp only [Act.put, List.setIfInBounds_toArray, List.set_cons_zero, List.set_cons_succ]
    clear h1
    refine tkG 8 13 h2 ?_
    try simp only [Act.put, List.setIfInBounds_toArray, List.set_cons_zero, List.set_cons_succ]
    refine tkG 9 14 h2 ?_
    try simp only [Act.put, List.setIfInBounds_toArray, List.set_cons_zero, List.set_cons_succ]
    refine tkG 10 15 h2 ?_
    try simp only [Act.put, List.setIfInBounds_toArray, List.set_cons_zero, List.set_cons_succ]
    refine tkG 11 16 h2 ?_
    try simp only [Act.put, List.setIfInBounds_toArray, List.set_cons_zero, List.set_cons_succ]
    refine wpAnyH_ready (rs := [12]) (by kernel_rfl) (by simp) ?_
    refine AllReadyH.cons rfl (fun K hK => ?_) AllReadyH.nil
    go_simp
    refine (H2 _).mono ?_
    rintro e w1 ⟨rfl, rfl⟩
    refine hK.out _ _ h2 (fun h3 => ?_)
    clear hK K
    try simp only [Act.put, List.setIfInBounds_toArray, List.set_cons_zero, List.set_cons_succ]
    clear h2
    refine tkG 13 18 h3 ?_
    try simp only [Act.put, List.setIfInBounds_toArray, List.set_cons_zero, List.set_cons_succ]
    refine tkG 14 19 h3 ?_
    try simp only [Act.put, List.setIfInBounds_toArray, List.set_cons_zero, List.set_cons_succ]
    refine tkG 15 20 h3 ?_
    try simp only [Act.put, List.setIfInBounds_toArray, List.set_cons_zero, List.set_cons_succ]
    refine tkG 16 21 h3 ?_
    try simp only [Act.put, List.setIfInBounds_toArray, List.set_cons_zero, List.set_cons_succ]
    refine wpAnyH_ready (rs := [17]) (by kernel_rfl) (by simp) ?_
    refine AllReadyH.cons rfl (fun K hK => ?_) AllReadyH.nil
    go_simp
    refine (H3 _).mono ?_
    rintro e w1 ⟨rfl, rfl⟩
    refine hK.out _ _ h3 (fun h4 => ?_)
    clear hK K
    try simp only [Act.put, List.setIfInBounds_toArray, List.set_cons_zero, List.set_cons_succ]
    clear h3
    refine tkG 18 23 h4 ?_
    try simp only [Act.put, List.setIfInBounds_toArray, List.set_cons_zero, List.set_cons_succ]
    refine tkG 19 24 h4 ?_
    try simp only [Act.put, List.setIfInBounds_toArray, List.set_cons_zero, List.set_cons_succ]
    refine tkS 20 25 h4 ?_
    try simp only [Act.put, List.setIfInBounds_toArray, List.set_cons_zero, List.set_cons_succ]
    refine tkS 21 26 h4 ?_
    try simp only [Act.put, List.setIfInBounds_toArray, List.set_cons_zero, List.set_cons_succ]
    refine tkS 22 27 h4 ?_
    try simp only [Act.put, List.setIfInBounds_toArray, List.set_cons_zero, List.set_cons_succ]
    refine tkS 23 28 h4 ?_
    try simp only [Act.put, List.setIfInBounds_toArray, List.set_cons_zero, List.set_cons_succ]
    refine tkS 24 29 h4 ?_
    try simp only [Act.put, List.setIfInBounds_toArray, List.set_cons_zero, List.set_cons_succ]
    refine tkS 25 30 h4 ?_
    try simp only [Act.put, List.setIfInBounds_toArray, List.set_cons_zero, List.set_cons_succ]
    refine tkS 26 31 h4 ?_
    try simp only [Act.put, List.setIfInBounds_toArray, List.set_cons_zero, List.set_cons_succ]
    refine tkS 27 32 h4 ?_
    try simp only [Act.put, List.setIfInBounds_toArray, List.set_cons_zero, List.set_cons_succ]
    refine tkS 28 33 h4 ?_
    try simp only [Act.put, List.setIfInBounds_toArray, List.set_cons_zero, List.set_cons_succ]
    refine tkG 29 34 h4 ?_
    try simp only [Act.put, List.setIfInBounds_toArray, List.set_cons_zero, List.set_cons_succ]
    refine tkG 30 4 h4 ?_
    try simp only [Act.put, List.setIfInBounds_toArray, List.set_cons_zero, List.set_cons_succ]
    refine wpAnyH_done (by kernel_rfl) ?_ _
    refine NoPanic.normal ?_
    go_wp2
    go_ret
    exact ⟨ret_bool RES.out.symm, below_drewN HB0.out 1⟩
  | true =>
  have H3 : ∀ W, Calls Tryz.prog 80 #[.int .i64 x.nm] W fun e w' => e = .returned (.bool true) ∧ w' = W := fun W => l15NameB_any true _ hN W
  have RES : Hid (vokR x n = decide ((tagD x.sv (balS x.vw x.nm) : Int) = x.tg)) := by unfold Hid vokR; rw [hS, hR, hV, hN]; rfl
  have H4 : ∀ W, Calls Tryz.prog 81 #[.int .i64 x.sv, .int .i64 x.vw, .int .i64 x.nm] W fun e w' => e = .returned (.agg (VC (vtd x.sv x.vw x.nm))) ∧ Below W.heap.size W w' := fun W => l15Voted_any x.sv x.vw x.nm W HF.out.sv.1 HF.out.sv.2 HF.out.vw.1 HF.out.vw.2 HF.out.nm.1 HF.out.nm.2
  clear hS hR hV hN
  obtain ⟨t, htt⟩ : ∃ t : Int, t = (tagD x.sv (balS x.vw x.nm) : Int) := ⟨_, rfl⟩
  have HV : Hid (vtd x.sv x.vw x.nm = ⟨x.vw, x.nm, x.sv, t⟩) := by unfold Hid vtd; rw [htt]
  rw [HV.out] at H4
  rw [← htt] at RES
  clear htt
  unfold VC at H4
  go_enter Tryz.func17, Tryz.ntmps17
  go_wp2_with fail
  refine wp_region_noPanic ?_
  refine wp_region_held_drew (S := fun w' => w'.cell? ⟨w.heap.size, 0, none⟩ = some (.int .i64 x.vw) ∧ w'.cell? ⟨w.heap.size, 1, none⟩ = some (.int .i64 x.nm) ∧ w'.cell? ⟨w.heap.size, 2, none⟩ = some (.int .i64 x.sv) ∧ w'.cell? ⟨w.heap.size, 3, none⟩ = some (.int .i64 x.tg)) (by kernel_rfl) ⟨p0, p1, p2, p3⟩ (fun h0 => ?_)
  refine tkG 0 5 h0 ?_
  try simp only [Act.put, List.setIfInBounds_toArray, List.set_cons_zero, List.set_cons_succ]
  refine wpAnyH_ready (rs := [1]) (by kernel_rfl) (by simp) ?_
  refine AllReadyH.cons rfl (fun K hK => ?_) AllReadyH.nil
  go_simp
  refine (HS _).mono ?_
  rintro e w1 ⟨rfl, rfl⟩
  refine hK.out _ _ h0 (fun h1 => ?_)
  clear hK K
  try simp only [Act.put, List.setIfInBounds_toArray, List.set_cons_zero, List.set_cons_succ]
  clear h0
  refine tkG 2 7 h1 ?_
  try simp only [Act.put, List.setIfInBounds_toArray, List.set_cons_zero, List.set_cons_succ]
  refine tkG 3 8 h1 ?_
  try simp only [Act.put, List.setIfInBounds_toArray, List.set_cons_zero, List.set_cons_succ]
  refine tkG 4 9 h1 ?_
  try simp only [Act.put, List.setIfInBounds_toArray, List.set_cons_zero, List.set_cons_succ]
  refine tkG 5 10 h1 ?_
  try simp only [Act.put, List.setIfInBounds_toArray, List.set_cons_zero, List.set_cons_succ]
  refine tkG 6 11 h1 ?_
  try simp only [Act.put, List.setIfInBounds_toArray, List.set_cons_zero, List.set_cons_succ]
  refine wpAnyH_ready (rs := [7]) (by kernel_rfl) (by simp) ?_
  refine AllReadyH.cons rfl (fun K hK => ?_) AllReadyH.nil
  go_simp
  refine (H1 _).mono ?_
  rintro e w1 ⟨rfl, rfl⟩
  refine hK.out _ _ h1 (fun h2 => ?_)
  clear hK K
  try simp only [Act.put, List.setIfInBounds_toArray, List.set_cons_zero, List.set_cons_succ]
  clear h1
  refine tkG 8 13 h2 ?_
  try simp only [Act.put, List.setIfInBounds_toArray, List.set_cons_zero, List.set_cons_succ]
  refine tkG 9 14 h2 ?_
  try simp only [Act.put, List.setIfInBounds_toArray, List.set_cons_zero, List.set_cons_succ]
  refine tkG 10 15 h2 ?_
  try simp only [Act.put, List.setIfInBounds_toArray, List.set_cons_zero, List.set_cons_succ]
  refine tkG 11 16 h2 ?_
  try simp only [Act.put, List.setIfInBounds_toArray, List.set_cons_zero, List.set_cons_succ]
  refine wpAnyH_ready (rs := [12]) (by kernel_rfl) (by simp) ?_
  refine AllReadyH.cons rfl (fun K hK => ?_) AllReadyH.nil
  go_simp
  refine (H2 _).mono ?_
  rintro e w1 ⟨rfl, rfl⟩
  refine hK.out _ _ h2 (fun h3 => ?_)
  clear hK K
  try simp only [Act.put, List.setIfInBounds_toArray, List.set_cons_zero, List.set_cons_succ]
  clear h2
  refine tkG 13 18 h3 ?_
  try simp only [Act.put, List.setIfInBounds_toArray, List.set_cons_zero, List.set_cons_succ]
  refine tkG 14 19 h3 ?_
  try simp only [Act.put, List.setIfInBounds_toArray, List.set_cons_zero, List.set_cons_succ]
  refine tkG 15 20 h3 ?_
  try simp only [Act.put, List.setIfInBounds_toArray, List.set_cons_zero, List.set_cons_succ]
  refine tkG 16 21 h3 ?_
  try simp only [Act.put, List.setIfInBounds_toArray, List.set_cons_zero, List.set_cons_succ]
  refine wpAnyH_ready (rs := [17]) (by kernel_rfl) (by simp) ?_
  refine AllReadyH.cons rfl (fun K hK => ?_) AllReadyH.nil
  go_simp
  refine (H3 _).mono ?_
  rintro e w1 ⟨rfl, rfl⟩
  refine hK.out _ _ h3 (fun h4 => ?_)
  clear hK K
  try simp only [Act.put, List.setIfInBounds_toArray, List.set_cons_zero, List.set_cons_succ]
  clear h3
  refine tkG 18 23 h4 ?_
  try simp only [Act.put, List.setIfInBounds_toArray, List.set_cons_zero, List.set_cons_succ]
  refine tkG 19 24 h4 ?_
  try simp only [Act.put, List.setIfInBounds_toArray, List.set_cons_zero, List.set_cons_succ]
  refine tkG 20 25 h4 ?_
  try simp only [Act.put, List.setIfInBounds_toArray, List.set_cons_zero, List.set_cons_succ]
  refine tkG 21 26 h4 ?_
  try simp only [Act.put, List.setIfInBounds_toArray, List.set_cons_zero, List.set_cons_succ]
  refine tkG 22 27 h4 ?_
  try simp only [Act.put, List.setIfInBounds_toArray, List.set_cons_zero, List.set_cons_succ]
  refine tkG 23 28 h4 ?_
  try simp only [Act.put, List.setIfInBounds_toArray, List.set_cons_zero, List.set_cons_succ]
  refine tkG 24 29 h4 ?_
  try simp only [Act.put, List.setIfInBounds_toArray, List.set_cons_zero, List.set_cons_succ]
  refine tkG 25 30 h4 ?_
  try simp only [Act.put, List.setIfInBounds_toArray, List.set_cons_zero, List.set_cons_succ]
  refine tkG 27 32 h4 ?_
  try simp only [Act.put, List.setIfInBounds_toArray, List.set_cons_zero, List.set_cons_succ]
  refine wpAnyH_ready (rs := [26]) (by kernel_rfl) (by simp) ?_
  refine AllReadyH.cons rfl (fun K hK => ?_) AllReadyH.nil
  go_simp
  refine (H4 _).mono ?_
  rintro e w1 ⟨rfl, hb1⟩
  have hE1 := (XD.out.below hb1).facts
  refine hK.out _ _ hE1 (fun h5 => ?_)
  clear hK K
  try simp only [Act.put, List.setIfInBounds_toArray, List.set_cons_zero, List.set_cons_succ]
  clear h4
  refine tkG 28 33 h5 ?_ (v := .bool (decide (t = x.tg))) (hy := by intro w hS; (try dsimp only [Nat.zero_add] at hS); go_simp; split <;> simp [*])
  try simp only [Act.put, List.setIfInBounds_toArray, List.set_cons_zero, List.set_cons_succ]
  refine tkG 29 34 h5 ?_
  try simp only [Act.put, List.setIfInBounds_toArray, List.set_cons_zero, List.set_cons_succ]
  refine tkG 30 4 h5 ?_
  try simp only [Act.put, List.setIfInBounds_toArray, List.set_cons_zero, List.set_cons_succ]
  refine wpAnyH_done (by kernel_rfl) ?_ _
  refine NoPanic.normal ?_
  go_wp2
  go_ret
  exact ⟨ret_bool RES.out.symm, (below_drewN HB0.out 1).trans (hb1.mono (below_drewN HB0.out 1).size)⟩
set_option maxHeartbeats 4000000 in
set_option maxRecDepth 100000 in
theorem implVoteOk_any (x : Vot) (n : Int) (w : World) (hf : FitVo x) (ht : Tab w) :
    Calls Tryz.prog 193 #[.agg #[.int .i64 x.vw, .int .i64 x.nm, .int .i64 x.sv, .int .i64 x.tg], .int .i64 n] w fun e w' => e = .returned (.bool (vokR x n)) ∧ Below w.heap.size w w' := by
  have X0 : BoxV (w.alloc (.cells (VC x) 36)) w.heap.size x := boxV_new w x
  have HB0 : Hid (Below w.heap.size w (w.alloc (.cells (VC x) 36))) := below1 w _
  obtain ⟨p0, p1, p2, p3⟩ := X0.facts
  unfold VC at p0 p1 p2 p3
  have XD : Hid (BoxV (World.drew (w.alloc (.cells (VC x) 36))) w.heap.size x) := boxV_new w x
  have HF : Hid (FitVo x) := hf
  have HT : Hid (Tab w) := ht
  clear hf ht X0
  cases hS : srvB n with
  | false =>
    have HS : ∀ W, Calls Tryz.prog 99 #[.int .i64 n] W fun e w' => e = .returned (.int .i64 (-1)) ∧ w' = W := fun W => implQuorumZ_any (-1) n (quoR_no hS) W
    have RES : Hid (vokR x n = false) := by unfold Hid vokR; rw [hS]; rfl
    clear hS
    go_enter Tryz.func193, Tryz.ntmps193
    go_wp2_with fail
    refine wp_region_noPanic ?_
    refine wp_region_held_drew (S := fun w' => w'.cell? ⟨w.heap.size, 0, none⟩ = some (.int .i64 x.vw) ∧ w'.cell? ⟨w.heap.size, 1, none⟩ = some (.int .i64 x.nm) ∧ w'.cell? ⟨w.heap.size, 2, none⟩ = some (.int .i64 x.sv) ∧ w'.cell? ⟨w.heap.size, 3, none⟩ = some (.int .i64 x.tg)) (by kernel_rfl) ⟨p0, p1, p2, p3⟩ (fun h0 => ?_)
    refine tkG 0 5 h0 ?_
    try simp only [Act.put, List.setIfInBounds_toArray, List.set_cons_zero, List.set_cons_succ]
    refine wpAnyH_ready (rs := [1]) (by kernel_rfl) (by simp) ?_
    refine AllReadyH.cons rfl (fun K hK => ?_) AllReadyH.nil
    go_simp
    refine (HS _).mono ?_
    rintro e w1 ⟨rfl, rfl⟩
    refine hK.out _ _ h0 (fun h1 => ?_)
    clear hK K
    try simp only [Act.put, List.setIfInBounds_toArray, List.set_cons_zero, List.set_cons_succ]
    clear h0
    refine tkG 2 7 h1 ?_
    try simp only [Act.put, List.setIfInBounds_toArray, List.set_cons_zero, List.set_cons_succ]
    refine tkG 3 8 h1 ?_
    try simp only [Act.put, List.setIfInBounds_toArray, List.set_cons_zero, List.set_cons_succ]
    refine tkS 4 9 h1 ?_
    try simp only [Act.put, List.setIfInBounds_toArray, List.set_cons_zero, List.set_cons_succ]
    refine tkS 5 10 h1 ?_
    try simp only [Act.put, List.setIfInBounds_toArray, List.set_cons_zero, List.set_cons_succ]
    refine tkS 6 11 h1 ?_
    try simp only [Act.put, List.setIfInBounds_toArray, List.set_cons_zero, List.set_cons_succ]
    refine tkS 7 12 h1 ?_
    try simp only [Act.put, List.setIfInBounds_toArray, List.set_cons_zero, List.set_cons_succ]
    refine tkG 8 13 h1 ?_
    try simp only [Act.put, List.setIfInBounds_toArray, List.set_cons_zero, List.set_cons_succ]
    refine tkG 9 14 h1 ?_
    try simp only [Act.put, List.setIfInBounds_toArray, List.set_cons_zero, List.set_cons_succ]
    refine tkS 10 15 h1 ?_
    try simp only [Act.put, List.setIfInBounds_toArray, List.set_cons_zero, List.set_cons_succ]
    refine tkS 11 16 h1 ?_
    try simp only [Act.put, List.setIfInBounds_toArray, List.set_cons_zero, List.set_cons_succ]
    refine tkS 12 17 h1 ?_
    try simp only [Act.put, List.setIfInBounds_toArray, List.set_cons_zero, List.set_cons_succ]
    refine tkG 13 18 h1 ?_
    try simp only [Act.put, List.setIfInBounds_toArray, List.set_cons_zero, List.set_cons_succ]
    refine tkG 14 19 h1 ?_
    try simp only [Act.put, List.setIfInBounds_toArray, List.set_cons_zero, List.set_cons_succ]
    refine tkS 15 20 h1 ?_
    try simp only [Act.put, List.setIfInBounds_toArray, List.set_cons_zero, List.set_cons_succ]
    refine tkS 16 21 h1 ?_
    try simp only [Act.put, List.setIfInBounds_toArray, List.set_cons_zero, List.set_cons_succ]
    refine tkS 17 22 h1 ?_
    try simp only [Act.put, List.setIfInBounds_toArray, List.set_cons_zero, List.set_cons_succ]
    refine tkS 18 23 h1 ?_
    try simp only [Act.put, List.setIfInBounds_toArray, List.set_cons_zero, List.set_cons_succ]
    refine tkS 19 24 h1 ?_
    try simp only [Act.put, List.setIfInBounds_toArray, List.set_cons_zero, List.set_cons_succ]
    refine tkS 20 25 h1 ?_
    try simp only [Act.put, List.setIfInBounds_toArray, List.set_cons_zero, List.set_cons_succ]
    refine tkS 21 26 h1 ?_
    try simp only [Act.put, List.setIfInBounds_toArray, List.set_cons_zero, List.set_cons_succ]
    refine tkS 22 27 h1 ?_
    try simp only [Act.put, List.setIfInBounds_toArray, List.set_cons_zero, List.set_cons_succ]
    refine tkS 23 28 h1 ?_
    try simp only [Act.put, List.setIfInBounds_toArray, List.set_cons_zero, List.set_cons_succ]
    refine tkG 24 29 h1 ?_
    try simp only [Act.put, List.setIfInBounds_toArray, List.set_cons_zero, List.set_cons_succ]
    refine tkG 25 4 h1 ?_
    try simp only [Act.put, List.setIfInBounds_toArray, List.set_cons_zero, List.set_cons_succ]
    refine wpAnyH_done (by kernel_rfl) ?_ _
    refine NoPanic.normal ?_
    go_wp2
    go_ret
    exact ⟨ret_bool RES.out.symm, below_drewN HB0.out 1⟩
  | true =>
  obtain ⟨hq0, hq1, hn0, hn1⟩ := quoR_yes hS
  obtain ⟨q, hq⟩ : ∃ q, q = quoR n := ⟨_, rfl⟩
  rw [← hq] at hq0 hq1
  have hqn : (q != -1) = true := by simp; omega
  have HS : ∀ W, Calls Tryz.prog 99 #[.int .i64 n] W fun e w' => e = .returned (.int .i64 q) ∧ w' = W := fun W => implQuorumZ_any q n hq.symm W
  clear hq
  by_cases hR : x.sv < n
  · have hRd : decide (x.sv < n) = true := decide_eq_true hR
    cases hV : inV x.vw with
    | false =>
      have H2 : ∀ W, Calls Tryz.prog 192 #[.int .i64 x.vw] W fun e w' => e = .returned (.bool false) ∧ w' = W := fun W => viewOk_any false _ hV W
      have RES : Hid (vokR x n = false) := by unfold Hid vokR; rw [hV, Bool.and_false, Bool.false_and, Bool.false_and]
      clear hS hV
      go_enter Tryz.func193, Tryz.ntmps193
      go_wp2_with fail
      refine wp_region_noPanic ?_
      refine wp_region_held_drew (S := fun w' => w'.cell? ⟨w.heap.size, 0, none⟩ = some (.int .i64 x.vw) ∧ w'.cell? ⟨w.heap.size, 1, none⟩ = some (.int .i64 x.nm) ∧ w'.cell? ⟨w.heap.size, 2, none⟩ = some (.int .i64 x.sv) ∧ w'.cell? ⟨w.heap.size, 3, none⟩ = some (.int .i64 x.tg)) (by kernel_rfl) ⟨p0, p1, p2, p3⟩ (fun h0 => ?_)
      refine tkG 0 5 h0 ?_
      try simp only [Act.put, List.setIfInBounds_toArray, List.set_cons_zero, List.set_cons_succ]
      refine wpAnyH_ready (rs := [1]) (by kernel_rfl) (by simp) ?_
      refine AllReadyH.cons rfl (fun K hK => ?_) AllReadyH.nil
      go_simp
      refine (HS _).mono ?_
      rintro e w1 ⟨rfl, rfl⟩
      refine hK.out _ _ h0 (fun h1 => ?_)
      clear hK K
      try simp only [Act.put, List.setIfInBounds_toArray, List.set_cons_zero, List.set_cons_succ]
      clear h0
      refine tkG 2 7 h1 ?_
      try simp only [Act.put, List.setIfInBounds_toArray, List.set_cons_zero, List.set_cons_succ]
      refine tkG 3 8 h1 ?_
      try simp only [Act.put, List.setIfInBounds_toArray, List.set_cons_zero, List.set_cons_succ]
      refine tkG 4 9 h1 ?_
      try simp only [Act.put, List.setIfInBounds_toArray, List.set_cons_zero, List.set_cons_succ]
      refine tkG 5 10 h1 ?_
      try simp only [Act.put, List.setIfInBounds_toArray, List.set_cons_zero, List.set_cons_succ]
      refine tkG 6 11 h1 ?_
      try simp only [Act.put, List.setIfInBounds_toArray, List.set_cons_zero, List.set_cons_succ]
      refine tkG 7 12 h1 ?_
      try simp only [Act.put, List.setIfInBounds_toArray, List.set_cons_zero, List.set_cons_succ]
      refine tkG 8 13 h1 ?_
      try simp only [Act.put, List.setIfInBounds_toArray, List.set_cons_zero, List.set_cons_succ]
      refine tkG 9 14 h1 ?_
      try simp only [Act.put, List.setIfInBounds_toArray, List.set_cons_zero, List.set_cons_succ]
      refine tkG 10 15 h1 ?_
      try simp only [Act.put, List.setIfInBounds_toArray, List.set_cons_zero, List.set_cons_succ]
      refine tkG 11 16 h1 ?_
      try simp only [Act.put, List.setIfInBounds_toArray, List.set_cons_zero, List.set_cons_succ]
      refine wpAnyH_ready (rs := [12]) (by kernel_rfl) (by simp) ?_
      refine AllReadyH.cons rfl (fun K hK => ?_) AllReadyH.nil
      go_simp
      refine (H2 _).mono ?_
      rintro e w1 ⟨rfl, rfl⟩
      refine hK.out _ _ h1 (fun h2 => ?_)
      clear hK K
      try simp only [Act.put, List.setIfInBounds_toArray, List.set_cons_zero, List.set_cons_succ]
      clear h1
      refine tkG 13 18 h2 ?_
      try simp only [Act.put, List.setIfInBounds_toArray, List.set_cons_zero, List.set_cons_succ]
      refine tkG 14 19 h2 ?_
      try simp only [Act.put, List.setIfInBounds_toArray, List.set_cons_zero, List.set_cons_succ]
      refine tkS 15 20 h2 ?_
      try simp only [Act.put, List.setIfInBounds_toArray, List.set_cons_zero, List.set_cons_succ]
      refine tkS 16 21 h2 ?_
      try simp only [Act.put, List.setIfInBounds_toArray, List.set_cons_zero, List.set_cons_succ]
      refine tkS 17 22 h2 ?_
      try simp only [Act.put, List.setIfInBounds_toArray, List.set_cons_zero, List.set_cons_succ]
      refine tkS 18 23 h2 ?_
      try simp only [Act.put, List.setIfInBounds_toArray, List.set_cons_zero, List.set_cons_succ]
      refine tkS 19 24 h2 ?_
      try simp only [Act.put, List.setIfInBounds_toArray, List.set_cons_zero, List.set_cons_succ]
      refine tkS 20 25 h2 ?_
      try simp only [Act.put, List.setIfInBounds_toArray, List.set_cons_zero, List.set_cons_succ]
      refine tkS 21 26 h2 ?_
      try simp only [Act.put, List.setIfInBounds_toArray, List.set_cons_zero, List.set_cons_succ]
      refine tkS 22 27 h2 ?_
      try simp only [Act.put, List.setIfInBounds_toArray, List.set_cons_zero, List.set_cons_succ]
      refine tkS 23 28 h2 ?_
      try simp only [Act.put, List.setIfInBounds_toArray, List.set_cons_zero, List.set_cons_succ]
      refine tkG 24 29 h2 ?_
      try simp only [Act.put, List.setIfInBounds_toArray, List.set_cons_zero, List.set_cons_succ]
      refine tkG 25 4 h2 ?_
      try simp only [Act.put, List.setIfInBounds_toArray, List.set_cons_zero, List.set_cons_succ]
      refine wpAnyH_done (by kernel_rfl) ?_ _
      refine NoPanic.normal ?_
      go_wp2
      go_ret
      exact ⟨ret_bool RES.out.symm, below_drewN HB0.out 1⟩
    | true =>
      have H2 : ∀ W, Calls Tryz.prog 192 #[.int .i64 x.vw] W fun e w' => e = .returned (.bool true) ∧ w' = W := fun W => viewOk_any true _ hV W
      have RES : Hid (vokR x n = decide (x = votR x.sv x.vw x.nm)) := vok_out hS (by omega) hV
      have H4 : Hid (∀ W, Tab W → Calls Tryz.prog 212 #[.int .i64 x.sv, .int .i64 x.vw, .int .i64 x.nm] W fun e w' => e = .returned (.agg (VC (votR x.sv x.vw x.nm))) ∧ Below W.heap.size W w') := fun W t => implVoted_any x.sv x.vw x.nm W HF.out.vw.1 HF.out.vw.2 HF.out.nm.1 HF.out.nm.2 t
      generalize votR x.sv x.vw x.nm = y at RES H4
      have HQ : Hid ((decide (x.vw = y.vw) && (decide (x.nm = y.nm) && (decide (x.sv = y.sv) && decide (x.tg = y.tg)))) = vokR x n) := by
        unfold Hid
        rw [RES.out, Bool.eq_iff_iff]
        simp only [Bool.and_eq_true, decide_eq_true_eq]
        constructor
        · rintro ⟨a, b, c, d⟩; cases x; cases y; simp only at a b c d; subst a b c d; rfl
        · intro h; rw [← h]; exact ⟨rfl, rfl, rfl, rfl⟩
      clear hS hV RES
      unfold VC at H4
      go_enter Tryz.func193, Tryz.ntmps193
      go_wp2_with fail
      refine wp_region_noPanic ?_
      refine wp_region_held_drew (S := fun w' => w'.cell? ⟨w.heap.size, 0, none⟩ = some (.int .i64 x.vw) ∧ w'.cell? ⟨w.heap.size, 1, none⟩ = some (.int .i64 x.nm) ∧ w'.cell? ⟨w.heap.size, 2, none⟩ = some (.int .i64 x.sv) ∧ w'.cell? ⟨w.heap.size, 3, none⟩ = some (.int .i64 x.tg)) (by kernel_rfl) ⟨p0, p1, p2, p3⟩ (fun h0 => ?_)
      refine tkG 0 5 h0 ?_
      try simp only [Act.put, List.setIfInBounds_toArray, List.set_cons_zero, List.set_cons_succ]
      refine wpAnyH_ready (rs := [1]) (by kernel_rfl) (by simp) ?_
      refine AllReadyH.cons rfl (fun K hK => ?_) AllReadyH.nil
      go_simp
      refine (HS _).mono ?_
      rintro e w1 ⟨rfl, rfl⟩
      refine hK.out _ _ h0 (fun h1 => ?_)
      clear hK K
      try simp only [Act.put, List.setIfInBounds_toArray, List.set_cons_zero, List.set_cons_succ]
      clear h0
      refine tkG 2 7 h1 ?_
      try simp only [Act.put, List.setIfInBounds_toArray, List.set_cons_zero, List.set_cons_succ]
      refine tkG 3 8 h1 ?_
      try simp only [Act.put, List.setIfInBounds_toArray, List.set_cons_zero, List.set_cons_succ]
      refine tkG 4 9 h1 ?_
      try simp only [Act.put, List.setIfInBounds_toArray, List.set_cons_zero, List.set_cons_succ]
      refine tkG 5 10 h1 ?_
      try simp only [Act.put, List.setIfInBounds_toArray, List.set_cons_zero, List.set_cons_succ]
      refine tkG 6 11 h1 ?_
      try simp only [Act.put, List.setIfInBounds_toArray, List.set_cons_zero, List.set_cons_succ]
      refine tkG 7 12 h1 ?_
      try simp only [Act.put, List.setIfInBounds_toArray, List.set_cons_zero, List.set_cons_succ]
      refine tkG 8 13 h1 ?_
      try simp only [Act.put, List.setIfInBounds_toArray, List.set_cons_zero, List.set_cons_succ]
      refine tkG 9 14 h1 ?_
      try simp only [Act.put, List.setIfInBounds_toArray, List.set_cons_zero, List.set_cons_succ]
      refine tkG 10 15 h1 ?_
      try simp only [Act.put, List.setIfInBounds_toArray, List.set_cons_zero, List.set_cons_succ]
      refine tkG 11 16 h1 ?_
      try simp only [Act.put, List.setIfInBounds_toArray, List.set_cons_zero, List.set_cons_succ]
      refine wpAnyH_ready (rs := [12]) (by kernel_rfl) (by simp) ?_
      refine AllReadyH.cons rfl (fun K hK => ?_) AllReadyH.nil
      go_simp
      refine (H2 _).mono ?_
      rintro e w1 ⟨rfl, rfl⟩
      refine hK.out _ _ h1 (fun h2 => ?_)
      clear hK K
      try simp only [Act.put, List.setIfInBounds_toArray, List.set_cons_zero, List.set_cons_succ]
      clear h1
      refine tkG 13 18 h2 ?_
      try simp only [Act.put, List.setIfInBounds_toArray, List.set_cons_zero, List.set_cons_succ]
      refine tkG 14 19 h2 ?_
      try simp only [Act.put, List.setIfInBounds_toArray, List.set_cons_zero, List.set_cons_succ]
      refine tkG 15 20 h2 ?_
      try simp only [Act.put, List.setIfInBounds_toArray, List.set_cons_zero, List.set_cons_succ]
      refine tkG 16 21 h2 ?_
      try simp only [Act.put, List.setIfInBounds_toArray, List.set_cons_zero, List.set_cons_succ]
      refine tkG 17 22 h2 ?_
      try simp only [Act.put, List.setIfInBounds_toArray, List.set_cons_zero, List.set_cons_succ]
      refine tkG 18 23 h2 ?_
      try simp only [Act.put, List.setIfInBounds_toArray, List.set_cons_zero, List.set_cons_succ]
      refine tkG 19 24 h2 ?_
      try simp only [Act.put, List.setIfInBounds_toArray, List.set_cons_zero, List.set_cons_succ]
      refine tkG 20 25 h2 ?_
      try simp only [Act.put, List.setIfInBounds_toArray, List.set_cons_zero, List.set_cons_succ]
      refine tkG 21 26 h2 ?_
      try simp only [Act.put, List.setIfInBounds_toArray, List.set_cons_zero, List.set_cons_succ]
      refine wpAnyH_ready (rs := [22]) (by kernel_rfl) (by simp) ?_
      refine AllReadyH.cons rfl (fun K hK => ?_) AllReadyH.nil
      go_simp
      refine (H4.out _ (HT.out.on (below_drewN HB0.out 1))).mono ?_
      rintro e w1 ⟨rfl, hb1⟩
      have hE1 := (XD.out.below hb1).facts
      refine hK.out _ _ hE1 (fun h3 => ?_)
      clear hK K
      try simp only [Act.put, List.setIfInBounds_toArray, List.set_cons_zero, List.set_cons_succ]
      clear h2
      refine tkG 23 28 h3 ?_ (v := .bool ((decide (x.vw = y.vw) && (decide (x.nm = y.nm) && (decide (x.sv = y.sv) && decide (x.tg = y.tg)))))) (hy := by intro w hS; (try dsimp only [Nat.zero_add] at hS); go_simp; by_cases a : x.vw = y.vw <;> by_cases b : x.nm = y.nm <;> by_cases c : x.sv = y.sv <;> by_cases d : x.tg = y.tg <;> simp [a, b, c, d])
      try simp only [Act.put, List.setIfInBounds_toArray, List.set_cons_zero, List.set_cons_succ]
      refine tkG 24 29 h3 ?_
      try simp only [Act.put, List.setIfInBounds_toArray, List.set_cons_zero, List.set_cons_succ]
      refine tkG 25 4 h3 ?_
      try simp only [Act.put, List.setIfInBounds_toArray, List.set_cons_zero, List.set_cons_succ]
      refine wpAnyH_done (by kernel_rfl) ?_ _
      refine NoPanic.normal ?_
      go_wp2
      go_ret
      exact ⟨ret_bool HQ.out, (below_drewN HB0.out 1).trans (hb1.mono (below_drewN HB0.out 1).size)⟩
  · have hRd : decide (x.sv < n) = false := decide_eq_false hR
    have RES : Hid (vokR x n = false) := by unfold Hid vokR; rw [decide_eq_false (show ¬ (0 ≤ x.sv ∧ x.sv ≤ n - 1) by omega), Bool.and_false, Bool.false_and, Bool.false_and, Bool.false_and]
    clear hS
    go_enter Tryz.func193, Tryz.ntmps193
    go_wp2_with fail
    refine wp_region_noPanic ?_
    refine wp_region_held_drew (S := fun w' => w'.cell? ⟨w.heap.size, 0, none⟩ = some (.int .i64 x.vw) ∧ w'.cell? ⟨w.heap.size, 1, none⟩ = some (.int .i64 x.nm) ∧ w'.cell? ⟨w.heap.size, 2, none⟩ = some (.int .i64 x.sv) ∧ w'.cell? ⟨w.heap.size, 3, none⟩ = some (.int .i64 x.tg)) (by kernel_rfl) ⟨p0, p1, p2, p3⟩ (fun h0 => ?_)
    refine tkG 0 5 h0 ?_
    try simp only [Act.put, List.setIfInBounds_toArray, List.set_cons_zero, List.set_cons_succ]
    refine wpAnyH_ready (rs := [1]) (by kernel_rfl) (by simp) ?_
    refine AllReadyH.cons rfl (fun K hK => ?_) AllReadyH.nil
    go_simp
    refine (HS _).mono ?_
    rintro e w1 ⟨rfl, rfl⟩
    refine hK.out _ _ h0 (fun h1 => ?_)
    clear hK K
    try simp only [Act.put, List.setIfInBounds_toArray, List.set_cons_zero, List.set_cons_succ]
    clear h0
    refine tkG 2 7 h1 ?_
    try simp only [Act.put, List.setIfInBounds_toArray, List.set_cons_zero, List.set_cons_succ]
    refine tkG 3 8 h1 ?_
    try simp only [Act.put, List.setIfInBounds_toArray, List.set_cons_zero, List.set_cons_succ]
    refine tkG 4 9 h1 ?_
    try simp only [Act.put, List.setIfInBounds_toArray, List.set_cons_zero, List.set_cons_succ]
    refine tkG 5 10 h1 ?_
    try simp only [Act.put, List.setIfInBounds_toArray, List.set_cons_zero, List.set_cons_succ]
    refine tkG 6 11 h1 ?_
    try simp only [Act.put, List.setIfInBounds_toArray, List.set_cons_zero, List.set_cons_succ]
    refine tkG 7 12 h1 ?_
    try simp only [Act.put, List.setIfInBounds_toArray, List.set_cons_zero, List.set_cons_succ]
    refine tkG 8 13 h1 ?_
    try simp only [Act.put, List.setIfInBounds_toArray, List.set_cons_zero, List.set_cons_succ]
    refine tkG 9 14 h1 ?_
    try simp only [Act.put, List.setIfInBounds_toArray, List.set_cons_zero, List.set_cons_succ]
    refine tkS 10 15 h1 ?_
    try simp only [Act.put, List.setIfInBounds_toArray, List.set_cons_zero, List.set_cons_succ]
    refine tkS 11 16 h1 ?_
    try simp only [Act.put, List.setIfInBounds_toArray, List.set_cons_zero, List.set_cons_succ]
    refine tkS 12 17 h1 ?_
    try simp only [Act.put, List.setIfInBounds_toArray, List.set_cons_zero, List.set_cons_succ]
    refine tkG 13 18 h1 ?_
    try simp only [Act.put, List.setIfInBounds_toArray, List.set_cons_zero, List.set_cons_succ]
    refine tkG 14 19 h1 ?_
    try simp only [Act.put, List.setIfInBounds_toArray, List.set_cons_zero, List.set_cons_succ]
    refine tkS 15 20 h1 ?_
    try simp only [Act.put, List.setIfInBounds_toArray, List.set_cons_zero, List.set_cons_succ]
    refine tkS 16 21 h1 ?_
    try simp only [Act.put, List.setIfInBounds_toArray, List.set_cons_zero, List.set_cons_succ]
    refine tkS 17 22 h1 ?_
    try simp only [Act.put, List.setIfInBounds_toArray, List.set_cons_zero, List.set_cons_succ]
    refine tkS 18 23 h1 ?_
    try simp only [Act.put, List.setIfInBounds_toArray, List.set_cons_zero, List.set_cons_succ]
    refine tkS 19 24 h1 ?_
    try simp only [Act.put, List.setIfInBounds_toArray, List.set_cons_zero, List.set_cons_succ]
    refine tkS 20 25 h1 ?_
    try simp only [Act.put, List.setIfInBounds_toArray, List.set_cons_zero, List.set_cons_succ]
    refine tkS 21 26 h1 ?_
    try simp only [Act.put, List.setIfInBounds_toArray, List.set_cons_zero, List.set_cons_succ]
    refine tkS 22 27 h1 ?_
    try simp only [Act.put, List.setIfInBounds_toArray, List.set_cons_zero, List.set_cons_succ]
    refine tkS 23 28 h1 ?_
    try simp only [Act.put, List.setIfInBounds_toArray, List.set_cons_zero, List.set_cons_succ]
    refine tkG 24 29 h1 ?_
    try simp only [Act.put, List.setIfInBounds_toArray, List.set_cons_zero, List.set_cons_succ]
    refine tkG 25 4 h1 ?_
    try simp only [Act.put, List.setIfInBounds_toArray, List.set_cons_zero, List.set_cons_succ]
    refine wpAnyH_done (by kernel_rfl) ?_ _
    refine NoPanic.normal ?_
    go_wp2
    go_ret
    exact ⟨ret_bool RES.out.symm, below_drewN HB0.out 1⟩
end Go.Proofs.YtilhaokiohbeeaaGreatDoor
