/- The contracts of the model's ProofOk. -/
import Derived.Test.YtilhaokiohbeeaaGreatDoorG28
import Derived.Test.YtilhaokiohbeeaaGreatDoorBlkVok
-- UNF Gen
namespace Go.Proofs.YtilhaokiohbeeaaGreatDoor
open Go.RowKit
theorem prfR_val {p : Prf} {n : Int} (hs : srvB n = true) (hf : frsB p = false) (hv : inV p.vw = true) (hm : inN p.nm = true) : prfR p n = decide (PrfV p n) := by unfold prfR; rw [hs, hf, hv, hm]; rfl
theorem frsB_len (p : Prf) : frsB p = (decide (p.vw = 0) && (decide (p.nm = 0) && (decide (p.sv.length = 0) && decide (p.tg.length = 0)))) := rfl
theorem belD {a w : World} (h : Below a.heap.size a w) : Below a.heap.size a w.drew := h.drew
theorem bel9 {a w w' : World} (h : Below a.heap.size a w) (hb : Below w.drew.heap.size w.drew w') : Below a.heap.size a w' := h.drew.trans (hb.mono h.size)
set_option maxHeartbeats 1000000 in
set_option maxRecDepth 100000 in
theorem l15First_any (vw nm : Int) (a1 a2 : Option Addr) (n1 c1 n2 c2 : Nat) (b : Bool) (hm1 : n1 ≤ 9223372036854775807) (hm2 : n2 ≤ 9223372036854775807) (h : (decide (vw = 0) && (decide (nm = 0) && (decide (n1 = 0) && decide (n2 = 0)))) = b) (w : World) :
    Calls Tryz.prog 161 #[.agg #[.int .i64 vw, .int .i64 nm, .slice a1 n1 c1, .slice a2 n2 c2]] w fun e w' => e = .returned (.bool b) ∧ Below w.heap.size w w' := by
  have hb := below1 w (.cells #[.int .i64 vw, .int .i64 nm, .slice a1 n1 c1, .slice a2 n2 c2] 26)
  by_cases h0 : vw = 0
  · by_cases h1 : nm = 0
    · subst h0 h1
      subst h
      go_enter Tryz.func161, Tryz.ntmps161
      go_wp2
      go_ret
      have e : (wrap64 ((n1 : Int) + (n2 : Int)) == 0) = (decide (n1 = 0) && decide (n2 = 0)) := by rw [Bool.eq_iff_iff]; simp only [beq_iff_eq, Bool.and_eq_true, decide_eq_true_eq]; unfold wrap64; omega
      exact ⟨ret_bool (by rw [e]; simp), hb⟩
    · have e1 : (nm == 0) = false := beq_false_of_ne h1
      have HB : Hid (false = b) := by unfold Hid; rw [← h, decide_eq_false h1]; simp
      subst h0
      clear h h1
      go_enter Tryz.func161, Tryz.ntmps161
      go_wp2
      go_ret
      exact ⟨ret_bool HB.out, hb⟩
  · have e0 : (vw == 0) = false := beq_false_of_ne h0
    have HB : Hid (false = b) := by unfold Hid; rw [← h, decide_eq_false h0]; simp
    clear h h0
    go_enter Tryz.func161, Tryz.ntmps161
    go_wp2
    go_ret
    exact ⟨ret_bool HB.out, hb⟩
set_option maxHeartbeats 1000000 in
set_option maxRecDepth 100000 in
theorem isFirst_any (vw nm : Int) (a1 a2 : Option Addr) (n1 c1 n2 c2 : Nat) (b : Bool) (h : (decide (vw = 0) && (decide (nm = 0) && (decide (n1 = 0) && decide (n2 = 0)))) = b) (w : World) :
    Calls Tryz.prog 221 #[.agg #[.int .i64 vw, .int .i64 nm, .slice a1 n1 c1, .slice a2 n2 c2]] w fun e w' => e = .returned (.bool b) ∧ Below w.heap.size w w' := by
  have hb := below1 w (.cells #[.int .i64 vw, .int .i64 nm, .slice a1 n1 c1, .slice a2 n2 c2] 26)
  by_cases h0 : vw = 0
  · by_cases h1 : nm = 0
    · subst h0 h1
      subst h
      by_cases h2 : n1 = 0
      · subst h2
        go_enter Tryz.func221, Tryz.ntmps221
        go_wp2
        go_ret
        exact ⟨ret_bool (by rw [Bool.eq_iff_iff]; simp), hb⟩
      · have e2 : ((n1 : Int) == 0) = false := by simp; omega
        go_enter Tryz.func221, Tryz.ntmps221
        go_wp2
        go_ret
        exact ⟨ret_bool (by simp [h2]), hb⟩
    · have e1 : (nm == 0) = false := beq_false_of_ne h1
      have HB : Hid (false = b) := by unfold Hid; rw [← h, decide_eq_false h1]; simp
      subst h0
      clear h h1
      go_enter Tryz.func221, Tryz.ntmps221
      go_wp2
      go_ret
      exact ⟨ret_bool HB.out, hb⟩
  · have e0 : (vw == 0) = false := beq_false_of_ne h0
    have HB : Hid (false = b) := by unfold Hid; rw [← h, decide_eq_false h0]; simp
    clear h h0
    go_enter Tryz.func221, Tryz.ntmps221
    go_wp2
    go_ret
    exact ⟨ret_bool HB.out, hb⟩
set_option maxHeartbeats 8000000 in
set_option maxRecDepth 100000 in
theorem specProofOk_any (X : PrX) (n : Int) (w : World) (hr : RdPr w X) (hf : FitPr X.p) :
    Calls Tryz.prog 76 #[.agg #[.int .i64 X.p.vw, .int .i64 X.p.nm, X.vs, X.vt], .int .i64 n] w fun e w' => e = .returned (.bool (prfR X.p n)) ∧ Below w.heap.size w w' := by
  obtain ⟨p, vs, vt⟩ := X
  obtain ⟨hrs, hrt⟩ := hr
  simp only at hrs hrt hf ⊢
  obtain ⟨a1, c1, hv1, hl1, hm1, -, -⟩ := id hrs
  obtain ⟨a2, c2, hv2, hl2, hm2, -, -⟩ := id hrt
  unfold maxLen at hm1 hm2
  obtain ⟨n1, hn1⟩ : ∃ n1, n1 = p.sv.length := ⟨_, rfl⟩
  obtain ⟨n2, hn2⟩ : ∃ n2, n2 = p.tg.length := ⟨_, rfl⟩
  have HFB : Hid ((decide (p.vw = 0) && (decide (p.nm = 0) && (decide (n1 = 0) && decide (n2 = 0)))) = frsB p) := by unfold Hid; rw [hn1, hn2]; rfl
  rw [← hn1] at hv1 hl1
  rw [← hn2] at hv2 hl2
  subst hv1 hv2
  have HN1 : Hid (n1 = p.sv.length) := hn1
  have HN2 : Hid (n2 = p.tg.length) := hn2
  have HRS : Hid (RdI w (.slice a1 n1 c1) p.sv) := hrs
  have HRT : Hid (RdI w (.slice a2 n2 c2) p.tg) := hrt
  have HF : Hid (FitPr p) := hf
  have X0 := bx_new w 26 #[.int .i64 p.vw, .int .i64 p.nm, .slice a1 n1 c1, .slice a2 n2 c2]
  have HB0 : Hid (Below w.heap.size w (w.alloc (.cells #[.int .i64 p.vw, .int .i64 p.nm, .slice a1 n1 c1, .slice a2 n2 c2] 26))) := below1 w _
  obtain ⟨p0, p1, p2, p3⟩ := X0.c4
  have HFR : Hid (∀ b, frsB p = b → ∀ W, Calls Tryz.prog 161 #[.agg #[.int .i64 p.vw, .int .i64 p.nm, .slice a1 n1 c1, .slice a2 n2 c2]] W fun e w' => e = .returned (.bool b) ∧ Below W.heap.size W w') := fun b h W => l15First_any p.vw p.nm a1 a2 n1 c1 n2 c2 b (by omega) (by omega) (HFB.out.trans h) W
  have HSV : Hid (∀ b, srvB n = b → ∀ W, Calls Tryz.prog 73 #[.int .i64 n] W fun e w' => e = .returned (.bool b) ∧ w' = W) := fun b h W => l15ServersB_any b n h W
  clear hrs hrt hf hn1 hn2 HFB
  cases hS : srvB n with
  | false =>
    have HSf : Hid (srvB n = false) := hS
    have RES : Hid (prfR p n = false) := by unfold Hid prfR; rw [hS]; rfl
    clear hS
    go_enter Tryz.func76, Tryz.ntmps76
    go_wp2_with fail
    refine (HSV.out false HSf.out _).mono ?_
    rintro e w1 ⟨rfl, rfl⟩
    go_wp2
    go_ret
    exact ⟨ret_bool RES.out.symm, HB0.out⟩
  | true =>
  have HSf : Hid (srvB n = true) := hS
  cases hFr : frsB p with
  | true =>
    have HFf : Hid (frsB p = true) := hFr
    have RES : Hid (prfR p n = true) := by unfold Hid prfR; rw [hS, hFr]; rfl
    clear hS hFr
    go_enter Tryz.func76, Tryz.ntmps76
    go_wp2_with fail
    refine (HSV.out true HSf.out _).mono ?_
    rintro e w1 ⟨rfl, rfl⟩
    go_wp2_with fail
    refine (HFR.out true HFf.out _).mono ?_
    rintro e w1 ⟨rfl, hb1⟩
    have bz := HB0.out.trans (hb1.mono HB0.out.size)
    clear hb1
    go_wp2
    go_ret
    exact ⟨ret_bool RES.out.symm, bz⟩
  | false =>
  have HFf : Hid (frsB p = false) := hFr
  obtain ⟨hq0, hq1, hn0, hn7⟩ := quoR_yes hS
  obtain ⟨q, hq⟩ : ∃ q, q = quoR n := ⟨_, rfl⟩
  rw [← hq] at hq0 hq1
  have HQE : Hid (q = quoR n) := hq
  have HQ : Hid (∀ z, z = q → ∀ W, Calls Tryz.prog 162 #[.int .i64 n] W fun e w' => e = .returned (.int .i64 z) ∧ w' = W) := fun z hz W => specQuorumZ_any z n (by rw [hz, hq]) W
  have HVV : Hid (∀ b, inV p.vw = b → ∀ W, Calls Tryz.prog 74 #[.int .i64 p.vw, .int .i64 1, .int .i64 100000] W fun e w' => e = .returned (.bool b) ∧ w' = W) := fun b h W => l1InB_any b _ _ _ h W
  have HMM : Hid (∀ b, inN p.nm = b → ∀ W, Calls Tryz.prog 80 #[.int .i64 p.nm] W fun e w' => e = .returned (.bool b) ∧ w' = W) := fun b h W => l15NameB_any b _ h W
  clear hq hS hFr
  have HK : Hid (∀ x, FitVo x → ∀ b, vokR x n = b → ∀ W, Calls Tryz.prog 17 #[.agg #[.int .i64 x.vw, .int .i64 x.nm, .int .i64 x.sv, .int .i64 x.tg], .int .i64 n] W fun e w' => e = .returned (.bool b) ∧ Below W.heap.size W w') := fun x hx b hb W => by rw [← hb]; exact specVoteOk_any x n W hx
  go_enter Tryz.func76, Tryz.ntmps76
  go_wp2_with fail
  refine (HSV.out true HSf.out _).mono ?_
  rintro e w1 ⟨rfl, rfl⟩
  go_wp2_with fail
  refine (HFR.out false HFf.out _).mono ?_
  rintro e w2 ⟨rfl, hb2⟩
  have X2 := X0.below hb2
  have HX2 : Hid (Bx w2 w.heap.size 26 #[.int .i64 p.vw, .int .i64 p.nm, .slice a1 n1 c1, .slice a2 n2 c2]) := X2
  replace HB0 : Hid (Below w.heap.size w w2) := HB0.out.trans (hb2.mono HB0.out.size)
  clear p0 p1 p2 p3
  obtain ⟨p0, p1, p2, p3⟩ := X2.c4
  clear X0 hb2 X2 HFR HSV
  go_wp2_with fail
  cases hV : inV p.vw with
  | false =>
    have HV : ∀ W, Calls Tryz.prog 74 #[.int .i64 p.vw, .int .i64 1, .int .i64 100000] W fun e w' => e = .returned (.bool false) ∧ w' = W := HVV.out false hV
    have RES : Hid (prfR p n = false) := by unfold Hid prfR; rw [HSf.out, HFf.out, hV]; rfl
    clear hV
    refine wp_region_noPanic ?_
    refine wp_region_held_drew (S := fun w' => w'.cell? ⟨w.heap.size, 0, none⟩ = some (.int .i64 p.vw) ∧ w'.cell? ⟨w.heap.size, 1, none⟩ = some (.int .i64 p.nm) ∧ w'.cell? ⟨w.heap.size, 2, none⟩ = some (.slice a1 n1 c1) ∧ w'.cell? ⟨w.heap.size, 3, none⟩ = some (.slice a2 n2 c2)) (by kernel_rfl) ⟨p0, p1, p2, p3⟩ (fun h0 => ?_)
    refine tkG 0 11 h0 ?_
    try simp only [Act.put, List.setIfInBounds_toArray, List.set_cons_zero, List.set_cons_succ]
    refine tkG 1 12 h0 ?_
    try simp only [Act.put, List.setIfInBounds_toArray, List.set_cons_zero, List.set_cons_succ]
    refine wpAnyH_ready (rs := [2]) (by kernel_rfl) (by simp) ?_
    refine AllReadyH.cons rfl (fun K hK => ?_) AllReadyH.nil
    go_simp
    refine (HV _).mono ?_
    rintro e w9 ⟨rfl, rfl⟩
    refine hK.out _ _ h0 (fun h1 => ?_)
    clear hK K
    try simp only [Act.put, List.setIfInBounds_toArray, List.set_cons_zero, List.set_cons_succ]
    clear h0
    refine tkG 3 14 h1 ?_
    try simp only [Act.put, List.setIfInBounds_toArray, List.set_cons_zero, List.set_cons_succ]
    refine tkG 4 15 h1 ?_
    try simp only [Act.put, List.setIfInBounds_toArray, List.set_cons_zero, List.set_cons_succ]
    refine tkS 5 16 h1 ?_
    try simp only [Act.put, List.setIfInBounds_toArray, List.set_cons_zero, List.set_cons_succ]
    refine tkS 6 17 h1 ?_
    try simp only [Act.put, List.setIfInBounds_toArray, List.set_cons_zero, List.set_cons_succ]
    refine tkS 7 18 h1 ?_
    try simp only [Act.put, List.setIfInBounds_toArray, List.set_cons_zero, List.set_cons_succ]
    refine tkS 8 19 h1 ?_
    try simp only [Act.put, List.setIfInBounds_toArray, List.set_cons_zero, List.set_cons_succ]
    refine tkG 9 20 h1 ?_
    try simp only [Act.put, List.setIfInBounds_toArray, List.set_cons_zero, List.set_cons_succ]
    refine tkG 10 21 h1 ?_
    try simp only [Act.put, List.setIfInBounds_toArray, List.set_cons_zero, List.set_cons_succ]
    refine tkS 11 22 h1 ?_
    try simp only [Act.put, List.setIfInBounds_toArray, List.set_cons_zero, List.set_cons_succ]
    refine tkS 12 23 h1 ?_
    try simp only [Act.put, List.setIfInBounds_toArray, List.set_cons_zero, List.set_cons_succ]
    refine tkS 13 24 h1 ?_
    try simp only [Act.put, List.setIfInBounds_toArray, List.set_cons_zero, List.set_cons_succ]
    refine tkS 14 25 h1 ?_
    try simp only [Act.put, List.setIfInBounds_toArray, List.set_cons_zero, List.set_cons_succ]
    refine tkS 15 26 h1 ?_
    try simp only [Act.put, List.setIfInBounds_toArray, List.set_cons_zero, List.set_cons_succ]
    refine tkS 16 27 h1 ?_
    try simp only [Act.put, List.setIfInBounds_toArray, List.set_cons_zero, List.set_cons_succ]
    refine tkG 17 28 h1 ?_
    try simp only [Act.put, List.setIfInBounds_toArray, List.set_cons_zero, List.set_cons_succ]
    refine tkG 18 29 h1 ?_
    try simp only [Act.put, List.setIfInBounds_toArray, List.set_cons_zero, List.set_cons_succ]
    refine tkS 19 30 h1 ?_
    try simp only [Act.put, List.setIfInBounds_toArray, List.set_cons_zero, List.set_cons_succ]
    refine tkS 20 31 h1 ?_
    try simp only [Act.put, List.setIfInBounds_toArray, List.set_cons_zero, List.set_cons_succ]
    refine tkS 21 32 h1 ?_
    try simp only [Act.put, List.setIfInBounds_toArray, List.set_cons_zero, List.set_cons_succ]
    refine tkS 22 33 h1 ?_
    try simp only [Act.put, List.setIfInBounds_toArray, List.set_cons_zero, List.set_cons_succ]
    refine tkS 23 34 h1 ?_
    try simp only [Act.put, List.setIfInBounds_toArray, List.set_cons_zero, List.set_cons_succ]
    refine tkS 24 35 h1 ?_
    try simp only [Act.put, List.setIfInBounds_toArray, List.set_cons_zero, List.set_cons_succ]
    refine tkS 25 36 h1 ?_
    try simp only [Act.put, List.setIfInBounds_toArray, List.set_cons_zero, List.set_cons_succ]
    refine tkG 26 37 h1 ?_
    try simp only [Act.put, List.setIfInBounds_toArray, List.set_cons_zero, List.set_cons_succ]
    refine wpAnyH_done (by kernel_rfl) ?_ _
    refine NoPanic.normal ?_
    go_wp2
    go_ret
    exact ⟨ret_bool RES.out.symm, below_drewN HB0.out 1⟩
  | true =>
  have HV : ∀ W, Calls Tryz.prog 74 #[.int .i64 p.vw, .int .i64 1, .int .i64 100000] W fun e w' => e = .returned (.bool true) ∧ w' = W := HVV.out true hV
  cases hM : inN p.nm with
  | false =>
    have HM : ∀ W, Calls Tryz.prog 80 #[.int .i64 p.nm] W fun e w' => e = .returned (.bool false) ∧ w' = W := HMM.out false hM
    have RES : Hid (prfR p n = false) := by unfold Hid prfR; rw [HSf.out, HFf.out, hV, hM]; rfl
    clear hV hM
    refine wp_region_noPanic ?_
    refine wp_region_held_drew (S := fun w' => w'.cell? ⟨w.heap.size, 0, none⟩ = some (.int .i64 p.vw) ∧ w'.cell? ⟨w.heap.size, 1, none⟩ = some (.int .i64 p.nm) ∧ w'.cell? ⟨w.heap.size, 2, none⟩ = some (.slice a1 n1 c1) ∧ w'.cell? ⟨w.heap.size, 3, none⟩ = some (.slice a2 n2 c2)) (by kernel_rfl) ⟨p0, p1, p2, p3⟩ (fun h0 => ?_)
    refine tkG 0 11 h0 ?_
    try simp only [Act.put, List.setIfInBounds_toArray, List.set_cons_zero, List.set_cons_succ]
    refine tkG 1 12 h0 ?_
    try simp only [Act.put, List.setIfInBounds_toArray, List.set_cons_zero, List.set_cons_succ]
    refine wpAnyH_ready (rs := [2]) (by kernel_rfl) (by simp) ?_
    refine AllReadyH.cons rfl (fun K hK => ?_) AllReadyH.nil
    go_simp
    refine (HV _).mono ?_
    rintro e w9 ⟨rfl, rfl⟩
    refine hK.out _ _ h0 (fun h1 => ?_)
    clear hK K
    try simp only [Act.put, List.setIfInBounds_toArray, List.set_cons_zero, List.set_cons_succ]
    clear h0
    refine tkG 3 14 h1 ?_
    try simp only [Act.put, List.setIfInBounds_toArray, List.set_cons_zero, List.set_cons_succ]
    refine tkG 4 15 h1 ?_
    try simp only [Act.put, List.setIfInBounds_toArray, List.set_cons_zero, List.set_cons_succ]
    refine tkG 5 16 h1 ?_
    try simp only [Act.put, List.setIfInBounds_toArray, List.set_cons_zero, List.set_cons_succ]
    refine tkG 6 17 h1 ?_
    try simp only [Act.put, List.setIfInBounds_toArray, List.set_cons_zero, List.set_cons_succ]
    refine wpAnyH_ready (rs := [7]) (by kernel_rfl) (by simp) ?_
    refine AllReadyH.cons rfl (fun K hK => ?_) AllReadyH.nil
    go_simp
    refine (HM _).mono ?_
    rintro e w9 ⟨rfl, rfl⟩
    refine hK.out _ _ h1 (fun h2 => ?_)
    clear hK K
    try simp only [Act.put, List.setIfInBounds_toArray, List.set_cons_zero, List.set_cons_succ]
    clear h1
    refine tkG 8 19 h2 ?_
    try simp only [Act.put, List.setIfInBounds_toArray, List.set_cons_zero, List.set_cons_succ]
    refine tkG 9 20 h2 ?_
    try simp only [Act.put, List.setIfInBounds_toArray, List.set_cons_zero, List.set_cons_succ]
    refine tkG 10 21 h2 ?_
    try simp only [Act.put, List.setIfInBounds_toArray, List.set_cons_zero, List.set_cons_succ]
    refine tkS 11 22 h2 ?_
    try simp only [Act.put, List.setIfInBounds_toArray, List.set_cons_zero, List.set_cons_succ]
    refine tkS 12 23 h2 ?_
    try simp only [Act.put, List.setIfInBounds_toArray, List.set_cons_zero, List.set_cons_succ]
    refine tkS 13 24 h2 ?_
    try simp only [Act.put, List.setIfInBounds_toArray, List.set_cons_zero, List.set_cons_succ]
    refine tkS 14 25 h2 ?_
    try simp only [Act.put, List.setIfInBounds_toArray, List.set_cons_zero, List.set_cons_succ]
    refine tkS 15 26 h2 ?_
    try simp only [Act.put, List.setIfInBounds_toArray, List.set_cons_zero, List.set_cons_succ]
    refine tkS 16 27 h2 ?_
    try simp only [Act.put, List.setIfInBounds_toArray, List.set_cons_zero, List.set_cons_succ]
    refine tkG 17 28 h2 ?_
    try simp only [Act.put, List.setIfInBounds_toArray, List.set_cons_zero, List.set_cons_succ]
    refine tkG 18 29 h2 ?_
    try simp only [Act.put, List.setIfInBounds_toArray, List.set_cons_zero, List.set_cons_succ]
    refine tkS 19 30 h2 ?_
    try simp only [Act.put, List.setIfInBounds_toArray, List.set_cons_zero, List.set_cons_succ]
    refine tkS 20 31 h2 ?_
    try simp only [Act.put, List.setIfInBounds_toArray, List.set_cons_zero, List.set_cons_succ]
    refine tkS 21 32 h2 ?_
    try simp only [Act.put, List.setIfInBounds_toArray, List.set_cons_zero, List.set_cons_succ]
    refine tkS 22 33 h2 ?_
    try simp only [Act.put, List.setIfInBounds_toArray, List.set_cons_zero, List.set_cons_succ]
    refine tkS 23 34 h2 ?_
    try simp only [Act.put, List.setIfInBounds_toArray, List.set_cons_zero, List.set_cons_succ]
    refine tkS 24 35 h2 ?_
    try simp only [Act.put, List.setIfInBounds_toArray, List.set_cons_zero, List.set_cons_succ]
    refine tkS 25 36 h2 ?_
    try simp only [Act.put, List.setIfInBounds_toArray, List.set_cons_zero, List.set_cons_succ]
    refine tkG 26 37 h2 ?_
    try simp only [Act.put, List.setIfInBounds_toArray, List.set_cons_zero, List.set_cons_succ]
    refine wpAnyH_done (by kernel_rfl) ?_ _
    refine NoPanic.normal ?_
    go_wp2
    go_ret
    exact ⟨ret_bool RES.out.symm, below_drewN HB0.out 1⟩
  | true =>
  have HM : ∀ W, Calls Tryz.prog 80 #[.int .i64 p.nm] W fun e w' => e = .returned (.bool true) ∧ w' = W := HMM.out true hM
  have HPV : Hid (prfR p n = decide (PrfV p n)) := prfR_val HSf.out HFf.out hV hM
  have hVM : inV p.vw = true ∧ inN p.nm = true := ⟨hV, hM⟩
  clear hV hM HVV HMM
  by_cases hq : (n1 : Int) < q
  · have RES : Hid (prfR p n = false) := by unfold Hid; rw [HPV.out]; exact decide_eq_false (fun h => by have h1 := h.1; rw [← HQE.out, ← HN1.out] at h1; omega)
    have hqd : decide ((n1 : Int) < q) = true := decide_eq_true hq
    clear hq hVM
    refine wp_region_noPanic ?_
    refine wp_region_held_drew (S := fun w' => w'.cell? ⟨w.heap.size, 0, none⟩ = some (.int .i64 p.vw) ∧ w'.cell? ⟨w.heap.size, 1, none⟩ = some (.int .i64 p.nm) ∧ w'.cell? ⟨w.heap.size, 2, none⟩ = some (.slice a1 n1 c1) ∧ w'.cell? ⟨w.heap.size, 3, none⟩ = some (.slice a2 n2 c2)) (by kernel_rfl) ⟨p0, p1, p2, p3⟩ (fun h0 => ?_)
    refine tkG 0 11 h0 ?_
    try simp only [Act.put, List.setIfInBounds_toArray, List.set_cons_zero, List.set_cons_succ]
    refine tkG 1 12 h0 ?_
    try simp only [Act.put, List.setIfInBounds_toArray, List.set_cons_zero, List.set_cons_succ]
    refine wpAnyH_ready (rs := [2]) (by kernel_rfl) (by simp) ?_
    refine AllReadyH.cons rfl (fun K hK => ?_) AllReadyH.nil
    go_simp
    refine (HV _).mono ?_
    rintro e w9 ⟨rfl, rfl⟩
    refine hK.out _ _ h0 (fun h1 => ?_)
    clear hK K
    try simp only [Act.put, List.setIfInBounds_toArray, List.set_cons_zero, List.set_cons_succ]
    clear h0
    refine tkG 3 14 h1 ?_
    try simp only [Act.put, List.setIfInBounds_toArray, List.set_cons_zero, List.set_cons_succ]
    refine tkG 4 15 h1 ?_
    try simp only [Act.put, List.setIfInBounds_toArray, List.set_cons_zero, List.set_cons_succ]
    refine tkG 5 16 h1 ?_
    try simp only [Act.put, List.setIfInBounds_toArray, List.set_cons_zero, List.set_cons_succ]
    refine tkG 6 17 h1 ?_
    try simp only [Act.put, List.setIfInBounds_toArray, List.set_cons_zero, List.set_cons_succ]
    refine wpAnyH_ready (rs := [7]) (by kernel_rfl) (by simp) ?_
    refine AllReadyH.cons rfl (fun K hK => ?_) AllReadyH.nil
    go_simp
    refine (HM _).mono ?_
    rintro e w9 ⟨rfl, rfl⟩
    refine hK.out _ _ h1 (fun h2 => ?_)
    clear hK K
    try simp only [Act.put, List.setIfInBounds_toArray, List.set_cons_zero, List.set_cons_succ]
    clear h1
    refine tkG 8 19 h2 ?_
    try simp only [Act.put, List.setIfInBounds_toArray, List.set_cons_zero, List.set_cons_succ]
    refine tkG 9 20 h2 ?_
    try simp only [Act.put, List.setIfInBounds_toArray, List.set_cons_zero, List.set_cons_succ]
    refine tkG 10 21 h2 ?_
    try simp only [Act.put, List.setIfInBounds_toArray, List.set_cons_zero, List.set_cons_succ]
    refine tkG 11 22 h2 ?_
    try simp only [Act.put, List.setIfInBounds_toArray, List.set_cons_zero, List.set_cons_succ]
    refine tkG 12 23 h2 ?_
    try simp only [Act.put, List.setIfInBounds_toArray, List.set_cons_zero, List.set_cons_succ]
    refine tkG 13 24 h2 ?_
    try simp only [Act.put, List.setIfInBounds_toArray, List.set_cons_zero, List.set_cons_succ]
    refine tkG 14 25 h2 ?_
    try simp only [Act.put, List.setIfInBounds_toArray, List.set_cons_zero, List.set_cons_succ]
    refine wpAnyH_ready (rs := [15]) (by kernel_rfl) (by simp) ?_
    refine AllReadyH.cons rfl (fun K hK => ?_) AllReadyH.nil
    go_simp
    refine (HQ.out _ rfl _).mono ?_
    rintro e w9 ⟨rfl, rfl⟩
    refine hK.out _ _ h2 (fun h3 => ?_)
    clear hK K
    try simp only [Act.put, List.setIfInBounds_toArray, List.set_cons_zero, List.set_cons_succ]
    clear h2
    refine tkG 16 27 h3 ?_
    try simp only [Act.put, List.setIfInBounds_toArray, List.set_cons_zero, List.set_cons_succ]
    refine tkG 17 28 h3 ?_
    try simp only [Act.put, List.setIfInBounds_toArray, List.set_cons_zero, List.set_cons_succ]
    refine tkG 18 29 h3 ?_
    try simp only [Act.put, List.setIfInBounds_toArray, List.set_cons_zero, List.set_cons_succ]
    refine tkS 19 30 h3 ?_
    try simp only [Act.put, List.setIfInBounds_toArray, List.set_cons_zero, List.set_cons_succ]
    refine tkS 20 31 h3 ?_
    try simp only [Act.put, List.setIfInBounds_toArray, List.set_cons_zero, List.set_cons_succ]
    refine tkS 21 32 h3 ?_
    try simp only [Act.put, List.setIfInBounds_toArray, List.set_cons_zero, List.set_cons_succ]
    refine tkS 22 33 h3 ?_
    try simp only [Act.put, List.setIfInBounds_toArray, List.set_cons_zero, List.set_cons_succ]
    refine tkS 23 34 h3 ?_
    try simp only [Act.put, List.setIfInBounds_toArray, List.set_cons_zero, List.set_cons_succ]
    refine tkS 24 35 h3 ?_
    try simp only [Act.put, List.setIfInBounds_toArray, List.set_cons_zero, List.set_cons_succ]
    refine tkS 25 36 h3 ?_
    try simp only [Act.put, List.setIfInBounds_toArray, List.set_cons_zero, List.set_cons_succ]
    refine tkG 26 37 h3 ?_
    try simp only [Act.put, List.setIfInBounds_toArray, List.set_cons_zero, List.set_cons_succ]
    refine wpAnyH_done (by kernel_rfl) ?_ _
    refine NoPanic.normal ?_
    go_wp2
    go_ret
    exact ⟨ret_bool RES.out.symm, below_drewN HB0.out 1⟩
  have hqd : decide ((n1 : Int) < q) = false := decide_eq_false hq
  by_cases hl : n1 = n2
  · subst hl
    have HQL : Hid (q ≤ (n1 : Int)) := by unfold Hid; omega
    have hne : ((n1 : Int) != (n1 : Int)) = false := by simp
    have HL12 : Hid (p.sv.length = p.tg.length) := by unfold Hid; rw [← HN1.out, ← HN2.out]
    clear hq hVM
    refine wp_region_noPanic ?_
    refine wp_region_held_drew (S := fun w' => w'.cell? ⟨w.heap.size, 0, none⟩ = some (.int .i64 p.vw) ∧ w'.cell? ⟨w.heap.size, 1, none⟩ = some (.int .i64 p.nm) ∧ w'.cell? ⟨w.heap.size, 2, none⟩ = some (.slice a1 n1 c1) ∧ w'.cell? ⟨w.heap.size, 3, none⟩ = some (.slice a2 n1 c2)) (by kernel_rfl) ⟨p0, p1, p2, p3⟩ (fun h0 => ?_)
    refine tkG 0 11 h0 ?_
    try simp only [Act.put, List.setIfInBounds_toArray, List.set_cons_zero, List.set_cons_succ]
    refine tkG 1 12 h0 ?_
    try simp only [Act.put, List.setIfInBounds_toArray, List.set_cons_zero, List.set_cons_succ]
    refine wpAnyH_ready (rs := [2]) (by kernel_rfl) (by simp) ?_
    refine AllReadyH.cons rfl (fun K hK => ?_) AllReadyH.nil
    go_simp
    refine (HV _).mono ?_
    rintro e w9 ⟨rfl, rfl⟩
    refine hK.out _ _ h0 (fun h1 => ?_)
    clear hK K
    try simp only [Act.put, List.setIfInBounds_toArray, List.set_cons_zero, List.set_cons_succ]
    clear h0
    refine tkG 3 14 h1 ?_
    try simp only [Act.put, List.setIfInBounds_toArray, List.set_cons_zero, List.set_cons_succ]
    refine tkG 4 15 h1 ?_
    try simp only [Act.put, List.setIfInBounds_toArray, List.set_cons_zero, List.set_cons_succ]
    refine tkG 5 16 h1 ?_
    try simp only [Act.put, List.setIfInBounds_toArray, List.set_cons_zero, List.set_cons_succ]
    refine tkG 6 17 h1 ?_
    try simp only [Act.put, List.setIfInBounds_toArray, List.set_cons_zero, List.set_cons_succ]
    refine wpAnyH_ready (rs := [7]) (by kernel_rfl) (by simp) ?_
    refine AllReadyH.cons rfl (fun K hK => ?_) AllReadyH.nil
    go_simp
    refine (HM _).mono ?_
    rintro e w9 ⟨rfl, rfl⟩
    refine hK.out _ _ h1 (fun h2 => ?_)
    clear hK K
    try simp only [Act.put, List.setIfInBounds_toArray, List.set_cons_zero, List.set_cons_succ]
    clear h1
    refine tkG 8 19 h2 ?_
    try simp only [Act.put, List.setIfInBounds_toArray, List.set_cons_zero, List.set_cons_succ]
    refine tkG 9 20 h2 ?_
    try simp only [Act.put, List.setIfInBounds_toArray, List.set_cons_zero, List.set_cons_succ]
    refine tkG 10 21 h2 ?_
    try simp only [Act.put, List.setIfInBounds_toArray, List.set_cons_zero, List.set_cons_succ]
    refine tkG 11 22 h2 ?_
    try simp only [Act.put, List.setIfInBounds_toArray, List.set_cons_zero, List.set_cons_succ]
    refine tkG 12 23 h2 ?_
    try simp only [Act.put, List.setIfInBounds_toArray, List.set_cons_zero, List.set_cons_succ]
    refine tkG 13 24 h2 ?_
    try simp only [Act.put, List.setIfInBounds_toArray, List.set_cons_zero, List.set_cons_succ]
    refine tkG 14 25 h2 ?_
    try simp only [Act.put, List.setIfInBounds_toArray, List.set_cons_zero, List.set_cons_succ]
    refine wpAnyH_ready (rs := [15]) (by kernel_rfl) (by simp) ?_
    refine AllReadyH.cons rfl (fun K hK => ?_) AllReadyH.nil
    go_simp
    refine (HQ.out _ rfl _).mono ?_
    rintro e w9 ⟨rfl, rfl⟩
    refine hK.out _ _ h2 (fun h3 => ?_)
    clear hK K
    try simp only [Act.put, List.setIfInBounds_toArray, List.set_cons_zero, List.set_cons_succ]
    clear h2
    refine tkG 16 27 h3 ?_
    try simp only [Act.put, List.setIfInBounds_toArray, List.set_cons_zero, List.set_cons_succ]
    refine tkG 17 28 h3 ?_
    try simp only [Act.put, List.setIfInBounds_toArray, List.set_cons_zero, List.set_cons_succ]
    refine tkG 18 29 h3 ?_
    try simp only [Act.put, List.setIfInBounds_toArray, List.set_cons_zero, List.set_cons_succ]
    refine tkG 19 30 h3 ?_
    try simp only [Act.put, List.setIfInBounds_toArray, List.set_cons_zero, List.set_cons_succ]
    refine tkG 20 31 h3 ?_
    try simp only [Act.put, List.setIfInBounds_toArray, List.set_cons_zero, List.set_cons_succ]
    refine tkG 21 32 h3 ?_
    try simp only [Act.put, List.setIfInBounds_toArray, List.set_cons_zero, List.set_cons_succ]
    refine tkG 22 33 h3 ?_
    try simp only [Act.put, List.setIfInBounds_toArray, List.set_cons_zero, List.set_cons_succ]
    refine tkG 23 34 h3 ?_
    try simp only [Act.put, List.setIfInBounds_toArray, List.set_cons_zero, List.set_cons_succ]
    refine tkG 24 35 h3 ?_
    try simp only [Act.put, List.setIfInBounds_toArray, List.set_cons_zero, List.set_cons_succ]
    refine tkG 25 36 h3 ?_
    try simp only [Act.put, List.setIfInBounds_toArray, List.set_cons_zero, List.set_cons_succ]
    refine tkG 26 37 h3 ?_
    try simp only [Act.put, List.setIfInBounds_toArray, List.set_cons_zero, List.set_cons_succ]
    refine wpAnyH_done (by kernel_rfl) ?_ _
    refine NoPanic.normal ?_
    clear HV HM
    go_wp2
    go_loopw [5] (fun i wr => ∃ k : Nat, k ≤ n1 ∧ i = .int .i64 k ∧ Hid (∀ i, i < k → vokR (vAt p i) n = true ∧ (0 < i → nI p.sv (i - 1) < nI p.sv i)) ∧ Hid (Below w2.heap.size w2 wr)) (fun i _ => n1 - (intOf i).toNat)
    case atStart => exact ⟨0, Nat.zero_le _, rfl, (fun i hi => by omega), (Below.refl _ _).drew⟩
    case round =>
      obtain ⟨k, hk, rfl, HO, HW⟩ := hrel
      by_cases hlt : k < n1
      · have hks : k < p.sv.length := by rw [← HN1.out]; exact hlt
        obtain ⟨b1, o1, rfl, hc1⟩ := HRS.out.at k hks
        obtain ⟨b2, o2, rfl, hc2⟩ := HRT.out.at k (by rw [← HL12.out]; exact hks)
        rw [← nI_eq] at hc1 hc2
        obtain ⟨y, hy⟩ : ∃ y, y = nI p.sv k := ⟨_, rfl⟩
        obtain ⟨t, ht⟩ : ∃ t, t = nI p.tg k := ⟨_, rfl⟩
        have HYE : Hid (y = nI p.sv k) := hy
        have HVA : Hid (vAt p k = ⟨p.vw, p.nm, y, t⟩) := by unfold Hid vAt; rw [hy, ht]
        rw [← hy] at hc1
        rw [← ht] at hc2
        have HFV : Hid (FitVo ⟨p.vw, p.nm, y, t⟩) := ⟨HF.out.vw, HF.out.nm, by rw [hy, nI_eq hks]; exact HF.out.sv _ (List.getElem_mem hks), by rw [ht, nI_eq (by rw [← HL12.out]; exact hks)]; exact HF.out.tg _ (List.getElem_mem _)⟩
        have hk1 : (k : Int) < (n1 : Int) := by omega
        clear hy ht
        cases hvk : vokR ⟨p.vw, p.nm, y, t⟩ n with
        | false =>
          have HKf : ∀ W, Calls Tryz.prog 17 #[.agg #[.int .i64 p.vw, .int .i64 p.nm, .int .i64 y, .int .i64 t], .int .i64 n] W fun e w' => e = .returned (.bool false) ∧ Below W.heap.size W w' := HK.out _ HFV.out false hvk
          have RES : Hid (prfR p n = false) := by
            unfold Hid
            rw [HPV.out]
            exact decide_eq_false (fun h => by have h1 := (h.2.2 k hks).1; rw [HVA.out, hvk] at h1; cases h1)
          have HS : Hid (∀ V, Below w2.heap.size w2 V → V.cell? ⟨w.heap.size, 0, none⟩ = some (.int .i64 p.vw) ∧ V.cell? ⟨w.heap.size, 1, none⟩ = some (.int .i64 p.nm) ∧ V.cell? ⟨w.heap.size, 2, none⟩ = some (.slice (some ⟨b1, o1, none⟩) n1 c1) ∧ V.cell? ⟨w.heap.size, 3, none⟩ = some (.slice (some ⟨b2, o2, none⟩) n1 c2) ∧ V.cell? ⟨b1, o1 + k, none⟩ = some (.int .i64 y) ∧ V.cell? ⟨b2, o2 + k, none⟩ = some (.int .i64 t)) := fun V hb => ⟨(HX2.out.below hb).c4.1, (HX2.out.below hb).c4.2.1, (HX2.out.below hb).c4.2.2.1, (HX2.out.below hb).c4.2.2.2, ((Below.cell (HB0.out.trans (hb.mono HB0.out.size)) (p := ⟨b1, o1 + k, none⟩) (World.block_lt_of_cell? w _ hc1)).trans hc1), ((Below.cell (HB0.out.trans (hb.mono HB0.out.size)) (p := ⟨b2, o2 + k, none⟩) (World.block_lt_of_cell? w _ hc2)).trans hc2)⟩
          clear hvk
          obtain ⟨-, -, p2, -⟩ := (HX2.out.below HW.out).c4
          go_wp2_with fail
          refine wp_region_noPanic ?_
          refine wp_region_held_drew (S := fun w' => w'.cell? ⟨w.heap.size, 0, none⟩ = some (.int .i64 p.vw) ∧ w'.cell? ⟨w.heap.size, 1, none⟩ = some (.int .i64 p.nm) ∧ w'.cell? ⟨w.heap.size, 2, none⟩ = some (.slice (some ⟨b1, o1, none⟩) n1 c1) ∧ w'.cell? ⟨w.heap.size, 3, none⟩ = some (.slice (some ⟨b2, o2, none⟩) n1 c2) ∧ w'.cell? ⟨b1, o1 + k, none⟩ = some (.int .i64 y) ∧ w'.cell? ⟨b2, o2 + k, none⟩ = some (.int .i64 t)) (by kernel_rfl) (HS.out _ (belD HW.out)) (fun h0 => ?_)
          refine tkG 0 45 h0 ?_
          try simp only [Act.put, List.setIfInBounds_toArray, List.set_cons_zero, List.set_cons_succ]
          refine tkG 1 46 h0 ?_
          try simp only [Act.put, List.setIfInBounds_toArray, List.set_cons_zero, List.set_cons_succ]
          refine tkG 2 47 h0 ?_
          try simp only [Act.put, List.setIfInBounds_toArray, List.set_cons_zero, List.set_cons_succ]
          refine tkG 3 48 h0 ?_
          try simp only [Act.put, List.setIfInBounds_toArray, List.set_cons_zero, List.set_cons_succ]
          refine tkG 4 49 h0 ?_
          try simp only [Act.put, List.setIfInBounds_toArray, List.set_cons_zero, List.set_cons_succ]
          refine tkG 5 50 h0 ?_
          try simp only [Act.put, List.setIfInBounds_toArray, List.set_cons_zero, List.set_cons_succ]
          refine tkG 6 51 h0 ?_
          try simp only [Act.put, List.setIfInBounds_toArray, List.set_cons_zero, List.set_cons_succ]
          refine tkG 7 52 h0 ?_
          try simp only [Act.put, List.setIfInBounds_toArray, List.set_cons_zero, List.set_cons_succ]
          refine tkG 8 53 h0 ?_
          try simp only [Act.put, List.setIfInBounds_toArray, List.set_cons_zero, List.set_cons_succ]
          refine tkG 9 54 h0 ?_
          try simp only [Act.put, List.setIfInBounds_toArray, List.set_cons_zero, List.set_cons_succ]
          refine tkG 10 55 h0 ?_
          try simp only [Act.put, List.setIfInBounds_toArray, List.set_cons_zero, List.set_cons_succ]
          refine tkG 11 56 h0 ?_
          try simp only [Act.put, List.setIfInBounds_toArray, List.set_cons_zero, List.set_cons_succ]
          refine tkG 12 57 h0 ?_
          try simp only [Act.put, List.setIfInBounds_toArray, List.set_cons_zero, List.set_cons_succ]
          refine tkG 13 58 h0 ?_
          try simp only [Act.put, List.setIfInBounds_toArray, List.set_cons_zero, List.set_cons_succ]
          refine tkG 14 59 h0 ?_
          try simp only [Act.put, List.setIfInBounds_toArray, List.set_cons_zero, List.set_cons_succ]
          refine tkG 15 60 h0 ?_
          try simp only [Act.put, List.setIfInBounds_toArray, List.set_cons_zero, List.set_cons_succ]
          refine wpAnyH_ready (rs := [16]) (by kernel_rfl) (by simp) ?_
          refine AllReadyH.cons rfl (fun K hK => ?_) AllReadyH.nil
          go_simp
          refine (HKf _).mono ?_
          rintro e w9 ⟨rfl, hb9⟩
          have hz := HS.out _ (bel9 HW.out hb9)
          refine hK.out _ _ hz (fun h1 => ?_)
          clear hK K
          try simp only [Act.put, List.setIfInBounds_toArray, List.set_cons_zero, List.set_cons_succ]
          clear h0
          refine tkG 17 62 h1 ?_
          try simp only [Act.put, List.setIfInBounds_toArray, List.set_cons_zero, List.set_cons_succ]
          refine tkG 18 63 h1 ?_
          try simp only [Act.put, List.setIfInBounds_toArray, List.set_cons_zero, List.set_cons_succ]
          refine tkS 19 64 h1 ?_
          try simp only [Act.put, List.setIfInBounds_toArray, List.set_cons_zero, List.set_cons_succ]
          refine tkS 20 65 h1 ?_
          try simp only [Act.put, List.setIfInBounds_toArray, List.set_cons_zero, List.set_cons_succ]
          refine tkS 21 66 h1 ?_
          try simp only [Act.put, List.setIfInBounds_toArray, List.set_cons_zero, List.set_cons_succ]
          refine tkS 22 67 h1 ?_
          try simp only [Act.put, List.setIfInBounds_toArray, List.set_cons_zero, List.set_cons_succ]
          refine tkS 23 68 h1 ?_
          try simp only [Act.put, List.setIfInBounds_toArray, List.set_cons_zero, List.set_cons_succ]
          refine tkS 24 69 h1 ?_
          try simp only [Act.put, List.setIfInBounds_toArray, List.set_cons_zero, List.set_cons_succ]
          refine tkS 25 70 h1 ?_
          try simp only [Act.put, List.setIfInBounds_toArray, List.set_cons_zero, List.set_cons_succ]
          refine tkS 26 71 h1 ?_
          try simp only [Act.put, List.setIfInBounds_toArray, List.set_cons_zero, List.set_cons_succ]
          refine tkS 27 72 h1 ?_
          try simp only [Act.put, List.setIfInBounds_toArray, List.set_cons_zero, List.set_cons_succ]
          refine tkS 28 73 h1 ?_
          try simp only [Act.put, List.setIfInBounds_toArray, List.set_cons_zero, List.set_cons_succ]
          refine tkS 29 74 h1 ?_
          try simp only [Act.put, List.setIfInBounds_toArray, List.set_cons_zero, List.set_cons_succ]
          refine tkS 30 75 h1 ?_
          try simp only [Act.put, List.setIfInBounds_toArray, List.set_cons_zero, List.set_cons_succ]
          refine tkS 31 76 h1 ?_
          try simp only [Act.put, List.setIfInBounds_toArray, List.set_cons_zero, List.set_cons_succ]
          refine tkS 32 77 h1 ?_
          try simp only [Act.put, List.setIfInBounds_toArray, List.set_cons_zero, List.set_cons_succ]
          refine tkS 33 78 h1 ?_
          try simp only [Act.put, List.setIfInBounds_toArray, List.set_cons_zero, List.set_cons_succ]
          refine tkS 34 79 h1 ?_
          try simp only [Act.put, List.setIfInBounds_toArray, List.set_cons_zero, List.set_cons_succ]
          refine tkG 35 80 h1 ?_
          try simp only [Act.put, List.setIfInBounds_toArray, List.set_cons_zero, List.set_cons_succ]
          refine wpAnyH_done (by kernel_rfl) ?_ _
          refine NoPanic.normal ?_
          have BZ := bel9 HW.out hb9
          clear hb9
          go_wp2
          go_ret
          exact ⟨ret_bool RES.out.symm, HB0.out.trans (BZ.mono HB0.out.size)⟩
        | true =>
          have HKt : ∀ W, Calls Tryz.prog 17 #[.agg #[.int .i64 p.vw, .int .i64 p.nm, .int .i64 y, .int .i64 t], .int .i64 n] W fun e w' => e = .returned (.bool true) ∧ Below W.heap.size W w' := HK.out _ HFV.out true hvk
          have HVK : Hid (vokR (vAt p k) n = true) := by unfold Hid; rw [HVA.out]; exact hvk
          clear hvk
          by_cases hk0 : k = 0
          · have hkn : decide (0 < k) = false := by simpa using hk0
            have HO2 : Hid (∀ i, i < k + 1 → vokR (vAt p i) n = true ∧ (0 < i → nI p.sv (i - 1) < nI p.sv i)) := by
              intro i hi
              have hik : i = k := by omega
              rw [hik]; exact ⟨HVK.out, fun h => by omega⟩
            have HS : Hid (∀ V, Below w2.heap.size w2 V → V.cell? ⟨w.heap.size, 0, none⟩ = some (.int .i64 p.vw) ∧ V.cell? ⟨w.heap.size, 1, none⟩ = some (.int .i64 p.nm) ∧ V.cell? ⟨w.heap.size, 2, none⟩ = some (.slice (some ⟨b1, o1, none⟩) n1 c1) ∧ V.cell? ⟨w.heap.size, 3, none⟩ = some (.slice (some ⟨b2, o2, none⟩) n1 c2) ∧ V.cell? ⟨b1, o1 + k, none⟩ = some (.int .i64 y) ∧ V.cell? ⟨b2, o2 + k, none⟩ = some (.int .i64 t)) := fun V hb => ⟨(HX2.out.below hb).c4.1, (HX2.out.below hb).c4.2.1, (HX2.out.below hb).c4.2.2.1, (HX2.out.below hb).c4.2.2.2, ((Below.cell (HB0.out.trans (hb.mono HB0.out.size)) (p := ⟨b1, o1 + k, none⟩) (World.block_lt_of_cell? w _ hc1)).trans hc1), ((Below.cell (HB0.out.trans (hb.mono HB0.out.size)) (p := ⟨b2, o2 + k, none⟩) (World.block_lt_of_cell? w _ hc2)).trans hc2)⟩
            clear hk0
            obtain ⟨-, -, p2, -⟩ := (HX2.out.below HW.out).c4
            go_wp2_with fail
            refine wp_region_noPanic ?_
            refine wp_region_held_drew (S := fun w' => w'.cell? ⟨w.heap.size, 0, none⟩ = some (.int .i64 p.vw) ∧ w'.cell? ⟨w.heap.size, 1, none⟩ = some (.int .i64 p.nm) ∧ w'.cell? ⟨w.heap.size, 2, none⟩ = some (.slice (some ⟨b1, o1, none⟩) n1 c1) ∧ w'.cell? ⟨w.heap.size, 3, none⟩ = some (.slice (some ⟨b2, o2, none⟩) n1 c2) ∧ w'.cell? ⟨b1, o1 + k, none⟩ = some (.int .i64 y) ∧ w'.cell? ⟨b2, o2 + k, none⟩ = some (.int .i64 t)) (by kernel_rfl) (HS.out _ (belD HW.out)) (fun h0 => ?_)
            refine tkG 0 45 h0 ?_
            try simp only [Act.put, List.setIfInBounds_toArray, List.set_cons_zero, List.set_cons_succ]
            refine tkG 1 46 h0 ?_
            try simp only [Act.put, List.setIfInBounds_toArray, List.set_cons_zero, List.set_cons_succ]
            refine tkG 2 47 h0 ?_
            try simp only [Act.put, List.setIfInBounds_toArray, List.set_cons_zero, List.set_cons_succ]
            refine tkG 3 48 h0 ?_
            try simp only [Act.put, List.setIfInBounds_toArray, List.set_cons_zero, List.set_cons_succ]
            refine tkG 4 49 h0 ?_
            try simp only [Act.put, List.setIfInBounds_toArray, List.set_cons_zero, List.set_cons_succ]
            refine tkG 5 50 h0 ?_
            try simp only [Act.put, List.setIfInBounds_toArray, List.set_cons_zero, List.set_cons_succ]
            refine tkG 6 51 h0 ?_
            try simp only [Act.put, List.setIfInBounds_toArray, List.set_cons_zero, List.set_cons_succ]
            refine tkG 7 52 h0 ?_
            try simp only [Act.put, List.setIfInBounds_toArray, List.set_cons_zero, List.set_cons_succ]
            refine tkG 8 53 h0 ?_
            try simp only [Act.put, List.setIfInBounds_toArray, List.set_cons_zero, List.set_cons_succ]
            refine tkG 9 54 h0 ?_
            try simp only [Act.put, List.setIfInBounds_toArray, List.set_cons_zero, List.set_cons_succ]
            refine tkG 10 55 h0 ?_
            try simp only [Act.put, List.setIfInBounds_toArray, List.set_cons_zero, List.set_cons_succ]
            refine tkG 11 56 h0 ?_
            try simp only [Act.put, List.setIfInBounds_toArray, List.set_cons_zero, List.set_cons_succ]
            refine tkG 12 57 h0 ?_
            try simp only [Act.put, List.setIfInBounds_toArray, List.set_cons_zero, List.set_cons_succ]
            refine tkG 13 58 h0 ?_
            try simp only [Act.put, List.setIfInBounds_toArray, List.set_cons_zero, List.set_cons_succ]
            refine tkG 14 59 h0 ?_
            try simp only [Act.put, List.setIfInBounds_toArray, List.set_cons_zero, List.set_cons_succ]
            refine tkG 15 60 h0 ?_
            try simp only [Act.put, List.setIfInBounds_toArray, List.set_cons_zero, List.set_cons_succ]
            refine wpAnyH_ready (rs := [16]) (by kernel_rfl) (by simp) ?_
            refine AllReadyH.cons rfl (fun K hK => ?_) AllReadyH.nil
            go_simp
            refine (HKt _).mono ?_
            rintro e w9 ⟨rfl, hb9⟩
            have hz := HS.out _ (bel9 HW.out hb9)
            refine hK.out _ _ hz (fun h1 => ?_)
            clear hK K
            try simp only [Act.put, List.setIfInBounds_toArray, List.set_cons_zero, List.set_cons_succ]
            clear h0
            refine tkG 17 62 h1 ?_
            try simp only [Act.put, List.setIfInBounds_toArray, List.set_cons_zero, List.set_cons_succ]
            refine tkG 18 63 h1 ?_
            try simp only [Act.put, List.setIfInBounds_toArray, List.set_cons_zero, List.set_cons_succ]
            refine tkG 19 64 h1 ?_
            try simp only [Act.put, List.setIfInBounds_toArray, List.set_cons_zero, List.set_cons_succ]
            refine tkG 20 65 h1 ?_
            try simp only [Act.put, List.setIfInBounds_toArray, List.set_cons_zero, List.set_cons_succ]
            refine tkG 21 66 h1 ?_
            try simp only [Act.put, List.setIfInBounds_toArray, List.set_cons_zero, List.set_cons_succ]
            refine tkS 22 67 h1 ?_
            try simp only [Act.put, List.setIfInBounds_toArray, List.set_cons_zero, List.set_cons_succ]
            refine tkS 23 68 h1 ?_
            try simp only [Act.put, List.setIfInBounds_toArray, List.set_cons_zero, List.set_cons_succ]
            refine tkS 24 69 h1 ?_
            try simp only [Act.put, List.setIfInBounds_toArray, List.set_cons_zero, List.set_cons_succ]
            refine tkS 25 70 h1 ?_
            try simp only [Act.put, List.setIfInBounds_toArray, List.set_cons_zero, List.set_cons_succ]
            refine tkS 26 71 h1 ?_
            try simp only [Act.put, List.setIfInBounds_toArray, List.set_cons_zero, List.set_cons_succ]
            refine tkS 27 72 h1 ?_
            try simp only [Act.put, List.setIfInBounds_toArray, List.set_cons_zero, List.set_cons_succ]
            refine tkS 28 73 h1 ?_
            try simp only [Act.put, List.setIfInBounds_toArray, List.set_cons_zero, List.set_cons_succ]
            refine tkS 29 74 h1 ?_
            try simp only [Act.put, List.setIfInBounds_toArray, List.set_cons_zero, List.set_cons_succ]
            refine tkS 30 75 h1 ?_
            try simp only [Act.put, List.setIfInBounds_toArray, List.set_cons_zero, List.set_cons_succ]
            refine tkS 31 76 h1 ?_
            try simp only [Act.put, List.setIfInBounds_toArray, List.set_cons_zero, List.set_cons_succ]
            refine tkS 32 77 h1 ?_
            try simp only [Act.put, List.setIfInBounds_toArray, List.set_cons_zero, List.set_cons_succ]
            refine tkS 33 78 h1 ?_
            try simp only [Act.put, List.setIfInBounds_toArray, List.set_cons_zero, List.set_cons_succ]
            refine tkG 34 79 h1 ?_
            try simp only [Act.put, List.setIfInBounds_toArray, List.set_cons_zero, List.set_cons_succ]
            refine tkG 35 80 h1 ?_
            try simp only [Act.put, List.setIfInBounds_toArray, List.set_cons_zero, List.set_cons_succ]
            refine wpAnyH_done (by kernel_rfl) ?_ _
            refine NoPanic.normal ?_
            have BZ := bel9 HW.out hb9
            clear hb9
            go_wp2
            go_roundw
            case rel => exact ⟨k + 1, by omega, by go_num, HO2, BZ⟩
            case measure => simp [intOf]; omega
          · obtain ⟨j, hj⟩ : ∃ j, j = k - 1 := ⟨k - 1, rfl⟩
            obtain ⟨b3, o3, ha3, hc3⟩ := HRS.out.at j (by omega)
            rw [← nI_eq] at hc3
            simp only [Option.some.injEq, Addr.mk.injEq] at ha3
            obtain ⟨rfl, rfl, _⟩ := ha3
            obtain ⟨y0, hy0⟩ : ∃ y0, y0 = nI p.sv j := ⟨_, rfl⟩
            rw [← hy0] at hc3
            have HY0 : Hid (y0 = nI p.sv (k - 1)) := by unfold Hid; rw [hy0, hj]
            have hkj : (k : Int) - 1 = (j : Int) := by omega
            have hkp : decide (0 < k) = true := by simp; omega
            have hkp2 : (0 : Int) < (k : Int) := by omega
            have hj1 : (j : Int) < (n1 : Int) := by omega
            have hj0 : (0 : Int) ≤ (j : Int) := by omega
            have hwr : IntKind.i64.wrap ((k : Int) - 1) = (j : Int) := by rw [IntKind.wrap_i64]; omega
            have hwr2 : IntKind.i64.wrap (j : Int) = (j : Int) := by rw [IntKind.wrap_i64]; omega
            have HS : Hid (∀ V, Below w2.heap.size w2 V → V.cell? ⟨w.heap.size, 0, none⟩ = some (.int .i64 p.vw) ∧ V.cell? ⟨w.heap.size, 1, none⟩ = some (.int .i64 p.nm) ∧ V.cell? ⟨w.heap.size, 2, none⟩ = some (.slice (some ⟨b1, o1, none⟩) n1 c1) ∧ V.cell? ⟨w.heap.size, 3, none⟩ = some (.slice (some ⟨b2, o2, none⟩) n1 c2) ∧ V.cell? ⟨b1, o1 + k, none⟩ = some (.int .i64 y) ∧ V.cell? ⟨b2, o2 + k, none⟩ = some (.int .i64 t) ∧ V.cell? ⟨b1, o1 + j, none⟩ = some (.int .i64 y0)) := fun V hb => ⟨(HX2.out.below hb).c4.1, (HX2.out.below hb).c4.2.1, (HX2.out.below hb).c4.2.2.1, (HX2.out.below hb).c4.2.2.2, ((Below.cell (HB0.out.trans (hb.mono HB0.out.size)) (p := ⟨b1, o1 + k, none⟩) (World.block_lt_of_cell? w _ hc1)).trans hc1), ((Below.cell (HB0.out.trans (hb.mono HB0.out.size)) (p := ⟨b2, o2 + k, none⟩) (World.block_lt_of_cell? w _ hc2)).trans hc2), ((Below.cell (HB0.out.trans (hb.mono HB0.out.size)) (p := ⟨b1, o1 + j, none⟩) (World.block_lt_of_cell? w _ hc3)).trans hc3)⟩
            have HKP : Hid (0 < k) := by unfold Hid; omega
            clear hj hy0 hk0
            obtain ⟨-, -, p2, -⟩ := (HX2.out.below HW.out).c4
            by_cases h3 : y ≤ y0
            · have h3d : decide (y ≤ y0) = true := decide_eq_true h3
              have RES : Hid (prfR p n = false) := by
                unfold Hid
                rw [HPV.out]
                exact decide_eq_false (fun h => by have h1 := (h.2.2 k hks).2 HKP.out; rw [← HY0.out, ← HYE.out] at h1; omega)
              clear h3
              go_wp2_with fail
              refine wp_region_noPanic ?_
              refine wp_region_held_drew (S := fun w' => w'.cell? ⟨w.heap.size, 0, none⟩ = some (.int .i64 p.vw) ∧ w'.cell? ⟨w.heap.size, 1, none⟩ = some (.int .i64 p.nm) ∧ w'.cell? ⟨w.heap.size, 2, none⟩ = some (.slice (some ⟨b1, o1, none⟩) n1 c1) ∧ w'.cell? ⟨w.heap.size, 3, none⟩ = some (.slice (some ⟨b2, o2, none⟩) n1 c2) ∧ w'.cell? ⟨b1, o1 + k, none⟩ = some (.int .i64 y) ∧ w'.cell? ⟨b2, o2 + k, none⟩ = some (.int .i64 t) ∧ w'.cell? ⟨b1, o1 + j, none⟩ = some (.int .i64 y0)) (by kernel_rfl) (HS.out _ (belD HW.out)) (fun h0 => ?_)
              refine tkG 0 45 h0 ?_
              try simp only [Act.put, List.setIfInBounds_toArray, List.set_cons_zero, List.set_cons_succ]
              refine tkG 1 46 h0 ?_
              try simp only [Act.put, List.setIfInBounds_toArray, List.set_cons_zero, List.set_cons_succ]
              refine tkG 2 47 h0 ?_
              try simp only [Act.put, List.setIfInBounds_toArray, List.set_cons_zero, List.set_cons_succ]
              refine tkG 3 48 h0 ?_
              try simp only [Act.put, List.setIfInBounds_toArray, List.set_cons_zero, List.set_cons_succ]
              refine tkG 4 49 h0 ?_
              try simp only [Act.put, List.setIfInBounds_toArray, List.set_cons_zero, List.set_cons_succ]
              refine tkG 5 50 h0 ?_
              try simp only [Act.put, List.setIfInBounds_toArray, List.set_cons_zero, List.set_cons_succ]
              refine tkG 6 51 h0 ?_
              try simp only [Act.put, List.setIfInBounds_toArray, List.set_cons_zero, List.set_cons_succ]
              refine tkG 7 52 h0 ?_
              try simp only [Act.put, List.setIfInBounds_toArray, List.set_cons_zero, List.set_cons_succ]
              refine tkG 8 53 h0 ?_
              try simp only [Act.put, List.setIfInBounds_toArray, List.set_cons_zero, List.set_cons_succ]
              refine tkG 9 54 h0 ?_
              try simp only [Act.put, List.setIfInBounds_toArray, List.set_cons_zero, List.set_cons_succ]
              refine tkG 10 55 h0 ?_
              try simp only [Act.put, List.setIfInBounds_toArray, List.set_cons_zero, List.set_cons_succ]
              refine tkG 11 56 h0 ?_
              try simp only [Act.put, List.setIfInBounds_toArray, List.set_cons_zero, List.set_cons_succ]
              refine tkG 12 57 h0 ?_
              try simp only [Act.put, List.setIfInBounds_toArray, List.set_cons_zero, List.set_cons_succ]
              refine tkG 13 58 h0 ?_
              try simp only [Act.put, List.setIfInBounds_toArray, List.set_cons_zero, List.set_cons_succ]
              refine tkG 14 59 h0 ?_
              try simp only [Act.put, List.setIfInBounds_toArray, List.set_cons_zero, List.set_cons_succ]
              refine tkG 15 60 h0 ?_
              try simp only [Act.put, List.setIfInBounds_toArray, List.set_cons_zero, List.set_cons_succ]
              refine wpAnyH_ready (rs := [16]) (by kernel_rfl) (by simp) ?_
              refine AllReadyH.cons rfl (fun K hK => ?_) AllReadyH.nil
              go_simp
              refine (HKt _).mono ?_
              rintro e w9 ⟨rfl, hb9⟩
              have hz := HS.out _ (bel9 HW.out hb9)
              refine hK.out _ _ hz (fun h1 => ?_)
              clear hK K
              try simp only [Act.put, List.setIfInBounds_toArray, List.set_cons_zero, List.set_cons_succ]
              clear h0
              refine tkG 17 62 h1 ?_
              try simp only [Act.put, List.setIfInBounds_toArray, List.set_cons_zero, List.set_cons_succ]
              refine tkG 18 63 h1 ?_
              try simp only [Act.put, List.setIfInBounds_toArray, List.set_cons_zero, List.set_cons_succ]
              refine tkG 19 64 h1 ?_
              try simp only [Act.put, List.setIfInBounds_toArray, List.set_cons_zero, List.set_cons_succ]
              refine tkG 20 65 h1 ?_
              try simp only [Act.put, List.setIfInBounds_toArray, List.set_cons_zero, List.set_cons_succ]
              refine tkG 21 66 h1 ?_
              try simp only [Act.put, List.setIfInBounds_toArray, List.set_cons_zero, List.set_cons_succ]
              refine tkG 22 67 h1 ?_
              try simp only [Act.put, List.setIfInBounds_toArray, List.set_cons_zero, List.set_cons_succ]
              refine tkG 23 68 h1 ?_
              try simp only [Act.put, List.setIfInBounds_toArray, List.set_cons_zero, List.set_cons_succ]
              refine tkG 24 69 h1 ?_
              try simp only [Act.put, List.setIfInBounds_toArray, List.set_cons_zero, List.set_cons_succ]
              refine tkG 25 70 h1 ?_
              try simp only [Act.put, List.setIfInBounds_toArray, List.set_cons_zero, List.set_cons_succ]
              refine tkG 26 71 h1 ?_
              try simp only [Act.put, List.setIfInBounds_toArray, List.set_cons_zero, List.set_cons_succ]
              refine tkG 27 72 h1 ?_
              try simp only [Act.put, List.setIfInBounds_toArray, List.set_cons_zero, List.set_cons_succ]
              refine tkG 28 73 h1 ?_
              try simp only [Act.put, List.setIfInBounds_toArray, List.set_cons_zero, List.set_cons_succ]
              refine tkG 29 74 h1 ?_
              try simp only [Act.put, List.setIfInBounds_toArray, List.set_cons_zero, List.set_cons_succ]
              refine tkG 30 75 h1 ?_
              try simp only [Act.put, List.setIfInBounds_toArray, List.set_cons_zero, List.set_cons_succ]
              refine tkG 31 76 h1 ?_
              try simp only [Act.put, List.setIfInBounds_toArray, List.set_cons_zero, List.set_cons_succ]
              refine tkG 32 77 h1 ?_
              try simp only [Act.put, List.setIfInBounds_toArray, List.set_cons_zero, List.set_cons_succ]
              refine tkG 33 78 h1 ?_
              try simp only [Act.put, List.setIfInBounds_toArray, List.set_cons_zero, List.set_cons_succ]
              refine tkG 34 79 h1 ?_
              try simp only [Act.put, List.setIfInBounds_toArray, List.set_cons_zero, List.set_cons_succ]
              refine tkG 35 80 h1 ?_
              try simp only [Act.put, List.setIfInBounds_toArray, List.set_cons_zero, List.set_cons_succ]
              refine wpAnyH_done (by kernel_rfl) ?_ _
              refine NoPanic.normal ?_
              have BZ := bel9 HW.out hb9
              clear hb9
              go_wp2
              go_ret
              exact ⟨ret_bool RES.out.symm, HB0.out.trans (BZ.mono HB0.out.size)⟩
            · have h3d : decide (y ≤ y0) = false := decide_eq_false h3
              have HO2 : Hid (∀ i, i < k + 1 → vokR (vAt p i) n = true ∧ (0 < i → nI p.sv (i - 1) < nI p.sv i)) := by
                intro i hi
                by_cases hik : i = k
                · rw [hik]; exact ⟨HVK.out, fun _ => by rw [← HY0.out, ← HYE.out]; omega⟩
                · exact HO.out i (by omega)
              clear h3
              go_wp2_with fail
              refine wp_region_noPanic ?_
              refine wp_region_held_drew (S := fun w' => w'.cell? ⟨w.heap.size, 0, none⟩ = some (.int .i64 p.vw) ∧ w'.cell? ⟨w.heap.size, 1, none⟩ = some (.int .i64 p.nm) ∧ w'.cell? ⟨w.heap.size, 2, none⟩ = some (.slice (some ⟨b1, o1, none⟩) n1 c1) ∧ w'.cell? ⟨w.heap.size, 3, none⟩ = some (.slice (some ⟨b2, o2, none⟩) n1 c2) ∧ w'.cell? ⟨b1, o1 + k, none⟩ = some (.int .i64 y) ∧ w'.cell? ⟨b2, o2 + k, none⟩ = some (.int .i64 t) ∧ w'.cell? ⟨b1, o1 + j, none⟩ = some (.int .i64 y0)) (by kernel_rfl) (HS.out _ (belD HW.out)) (fun h0 => ?_)
              refine tkG 0 45 h0 ?_
              try simp only [Act.put, List.setIfInBounds_toArray, List.set_cons_zero, List.set_cons_succ]
              refine tkG 1 46 h0 ?_
              try simp only [Act.put, List.setIfInBounds_toArray, List.set_cons_zero, List.set_cons_succ]
              refine tkG 2 47 h0 ?_
              try simp only [Act.put, List.setIfInBounds_toArray, List.set_cons_zero, List.set_cons_succ]
              refine tkG 3 48 h0 ?_
              try simp only [Act.put, List.setIfInBounds_toArray, List.set_cons_zero, List.set_cons_succ]
              refine tkG 4 49 h0 ?_
              try simp only [Act.put, List.setIfInBounds_toArray, List.set_cons_zero, List.set_cons_succ]
              refine tkG 5 50 h0 ?_
              try simp only [Act.put, List.setIfInBounds_toArray, List.set_cons_zero, List.set_cons_succ]
              refine tkG 6 51 h0 ?_
              try simp only [Act.put, List.setIfInBounds_toArray, List.set_cons_zero, List.set_cons_succ]
              refine tkG 7 52 h0 ?_
              try simp only [Act.put, List.setIfInBounds_toArray, List.set_cons_zero, List.set_cons_succ]
              refine tkG 8 53 h0 ?_
              try simp only [Act.put, List.setIfInBounds_toArray, List.set_cons_zero, List.set_cons_succ]
              refine tkG 9 54 h0 ?_
              try simp only [Act.put, List.setIfInBounds_toArray, List.set_cons_zero, List.set_cons_succ]
              refine tkG 10 55 h0 ?_
              try simp only [Act.put, List.setIfInBounds_toArray, List.set_cons_zero, List.set_cons_succ]
              refine tkG 11 56 h0 ?_
              try simp only [Act.put, List.setIfInBounds_toArray, List.set_cons_zero, List.set_cons_succ]
              refine tkG 12 57 h0 ?_
              try simp only [Act.put, List.setIfInBounds_toArray, List.set_cons_zero, List.set_cons_succ]
              refine tkG 13 58 h0 ?_
              try simp only [Act.put, List.setIfInBounds_toArray, List.set_cons_zero, List.set_cons_succ]
              refine tkG 14 59 h0 ?_
              try simp only [Act.put, List.setIfInBounds_toArray, List.set_cons_zero, List.set_cons_succ]
              refine tkG 15 60 h0 ?_
              try simp only [Act.put, List.setIfInBounds_toArray, List.set_cons_zero, List.set_cons_succ]
              refine wpAnyH_ready (rs := [16]) (by kernel_rfl) (by simp) ?_
              refine AllReadyH.cons rfl (fun K hK => ?_) AllReadyH.nil
              go_simp
              refine (HKt _).mono ?_
              rintro e w9 ⟨rfl, hb9⟩
              have hz := HS.out _ (bel9 HW.out hb9)
              refine hK.out _ _ hz (fun h1 => ?_)
              clear hK K
              try simp only [Act.put, List.setIfInBounds_toArray, List.set_cons_zero, List.set_cons_succ]
              clear h0
              refine tkG 17 62 h1 ?_
              try simp only [Act.put, List.setIfInBounds_toArray, List.set_cons_zero, List.set_cons_succ]
              refine tkG 18 63 h1 ?_
              try simp only [Act.put, List.setIfInBounds_toArray, List.set_cons_zero, List.set_cons_succ]
              refine tkG 19 64 h1 ?_
              try simp only [Act.put, List.setIfInBounds_toArray, List.set_cons_zero, List.set_cons_succ]
              refine tkG 20 65 h1 ?_
              try simp only [Act.put, List.setIfInBounds_toArray, List.set_cons_zero, List.set_cons_succ]
              refine tkG 21 66 h1 ?_
              try simp only [Act.put, List.setIfInBounds_toArray, List.set_cons_zero, List.set_cons_succ]
              refine tkG 22 67 h1 ?_
              try simp only [Act.put, List.setIfInBounds_toArray, List.set_cons_zero, List.set_cons_succ]
              refine tkG 23 68 h1 ?_
              try simp only [Act.put, List.setIfInBounds_toArray, List.set_cons_zero, List.set_cons_succ]
              refine tkG 24 69 h1 ?_
              try simp only [Act.put, List.setIfInBounds_toArray, List.set_cons_zero, List.set_cons_succ]
              refine tkG 25 70 h1 ?_
              try simp only [Act.put, List.setIfInBounds_toArray, List.set_cons_zero, List.set_cons_succ]
              refine tkG 26 71 h1 ?_
              try simp only [Act.put, List.setIfInBounds_toArray, List.set_cons_zero, List.set_cons_succ]
              refine tkG 27 72 h1 ?_
              try simp only [Act.put, List.setIfInBounds_toArray, List.set_cons_zero, List.set_cons_succ]
              refine tkG 28 73 h1 ?_
              try simp only [Act.put, List.setIfInBounds_toArray, List.set_cons_zero, List.set_cons_succ]
              refine tkG 29 74 h1 ?_
              try simp only [Act.put, List.setIfInBounds_toArray, List.set_cons_zero, List.set_cons_succ]
              refine tkG 30 75 h1 ?_
              try simp only [Act.put, List.setIfInBounds_toArray, List.set_cons_zero, List.set_cons_succ]
              refine tkG 31 76 h1 ?_
              try simp only [Act.put, List.setIfInBounds_toArray, List.set_cons_zero, List.set_cons_succ]
              refine tkG 32 77 h1 ?_
              try simp only [Act.put, List.setIfInBounds_toArray, List.set_cons_zero, List.set_cons_succ]
              refine tkG 33 78 h1 ?_
              try simp only [Act.put, List.setIfInBounds_toArray, List.set_cons_zero, List.set_cons_succ]
              refine tkG 34 79 h1 ?_
              try simp only [Act.put, List.setIfInBounds_toArray, List.set_cons_zero, List.set_cons_succ]
              refine tkG 35 80 h1 ?_
              try simp only [Act.put, List.setIfInBounds_toArray, List.set_cons_zero, List.set_cons_succ]
              refine wpAnyH_done (by kernel_rfl) ?_ _
              refine NoPanic.normal ?_
              have BZ := bel9 HW.out hb9
              clear hb9
              go_wp2
              go_roundw
              case rel => exact ⟨k + 1, by omega, by go_num, HO2, BZ⟩
              case measure => simp [intOf]; omega
      · have hke : k = n1 := by omega
        subst hke
        have RES : Hid (prfR p n = true) := by
          unfold Hid
          rw [HPV.out]
          exact decide_eq_true ⟨by rw [← HQE.out, ← HN1.out]; exact HQL.out, HL12.out, fun i hi => HO.out i (by rw [HN1.out]; exact hi)⟩
        obtain ⟨-, -, p2, -⟩ := (HX2.out.below HW.out).c4
        go_wp2
        go_ret
        exact ⟨ret_bool RES.out.symm, HB0.out.trans (HW.out.mono HB0.out.size)⟩
  · have RES : Hid (prfR p n = false) := by unfold Hid; rw [HPV.out]; exact decide_eq_false (fun h => by have h1 := h.2.1; rw [← HN1.out, ← HN2.out] at h1; exact hl h1)
    have hne : ((n1 : Int) != (n2 : Int)) = true := by simp; omega
    clear hq hl hVM
    refine wp_region_noPanic ?_
    refine wp_region_held_drew (S := fun w' => w'.cell? ⟨w.heap.size, 0, none⟩ = some (.int .i64 p.vw) ∧ w'.cell? ⟨w.heap.size, 1, none⟩ = some (.int .i64 p.nm) ∧ w'.cell? ⟨w.heap.size, 2, none⟩ = some (.slice a1 n1 c1) ∧ w'.cell? ⟨w.heap.size, 3, none⟩ = some (.slice a2 n2 c2)) (by kernel_rfl) ⟨p0, p1, p2, p3⟩ (fun h0 => ?_)
    refine tkG 0 11 h0 ?_
    try simp only [Act.put, List.setIfInBounds_toArray, List.set_cons_zero, List.set_cons_succ]
    refine tkG 1 12 h0 ?_
    try simp only [Act.put, List.setIfInBounds_toArray, List.set_cons_zero, List.set_cons_succ]
    refine wpAnyH_ready (rs := [2]) (by kernel_rfl) (by simp) ?_
    refine AllReadyH.cons rfl (fun K hK => ?_) AllReadyH.nil
    go_simp
    refine (HV _).mono ?_
    rintro e w9 ⟨rfl, rfl⟩
    refine hK.out _ _ h0 (fun h1 => ?_)
    clear hK K
    try simp only [Act.put, List.setIfInBounds_toArray, List.set_cons_zero, List.set_cons_succ]
    clear h0
    refine tkG 3 14 h1 ?_
    try simp only [Act.put, List.setIfInBounds_toArray, List.set_cons_zero, List.set_cons_succ]
    refine tkG 4 15 h1 ?_
    try simp only [Act.put, List.setIfInBounds_toArray, List.set_cons_zero, List.set_cons_succ]
    refine tkG 5 16 h1 ?_
    try simp only [Act.put, List.setIfInBounds_toArray, List.set_cons_zero, List.set_cons_succ]
    refine tkG 6 17 h1 ?_
    try simp only [Act.put, List.setIfInBounds_toArray, List.set_cons_zero, List.set_cons_succ]
    refine wpAnyH_ready (rs := [7]) (by kernel_rfl) (by simp) ?_
    refine AllReadyH.cons rfl (fun K hK => ?_) AllReadyH.nil
    go_simp
    refine (HM _).mono ?_
    rintro e w9 ⟨rfl, rfl⟩
    refine hK.out _ _ h1 (fun h2 => ?_)
    clear hK K
    try simp only [Act.put, List.setIfInBounds_toArray, List.set_cons_zero, List.set_cons_succ]
    clear h1
    refine tkG 8 19 h2 ?_
    try simp only [Act.put, List.setIfInBounds_toArray, List.set_cons_zero, List.set_cons_succ]
    refine tkG 9 20 h2 ?_
    try simp only [Act.put, List.setIfInBounds_toArray, List.set_cons_zero, List.set_cons_succ]
    refine tkG 10 21 h2 ?_
    try simp only [Act.put, List.setIfInBounds_toArray, List.set_cons_zero, List.set_cons_succ]
    refine tkG 11 22 h2 ?_
    try simp only [Act.put, List.setIfInBounds_toArray, List.set_cons_zero, List.set_cons_succ]
    refine tkG 12 23 h2 ?_
    try simp only [Act.put, List.setIfInBounds_toArray, List.set_cons_zero, List.set_cons_succ]
    refine tkG 13 24 h2 ?_
    try simp only [Act.put, List.setIfInBounds_toArray, List.set_cons_zero, List.set_cons_succ]
    refine tkG 14 25 h2 ?_
    try simp only [Act.put, List.setIfInBounds_toArray, List.set_cons_zero, List.set_cons_succ]
    refine wpAnyH_ready (rs := [15]) (by kernel_rfl) (by simp) ?_
    refine AllReadyH.cons rfl (fun K hK => ?_) AllReadyH.nil
    go_simp
    refine (HQ.out _ rfl _).mono ?_
    rintro e w9 ⟨rfl, rfl⟩
    refine hK.out _ _ h2 (fun h3 => ?_)
    clear hK K
    try simp only [Act.put, List.setIfInBounds_toArray, List.set_cons_zero, List.set_cons_succ]
    clear h2
    refine tkG 16 27 h3 ?_
    try simp only [Act.put, List.setIfInBounds_toArray, List.set_cons_zero, List.set_cons_succ]
    refine tkG 17 28 h3 ?_
    try simp only [Act.put, List.setIfInBounds_toArray, List.set_cons_zero, List.set_cons_succ]
    refine tkG 18 29 h3 ?_
    try simp only [Act.put, List.setIfInBounds_toArray, List.set_cons_zero, List.set_cons_succ]
    refine tkG 19 30 h3 ?_
    try simp only [Act.put, List.setIfInBounds_toArray, List.set_cons_zero, List.set_cons_succ]
    refine tkG 20 31 h3 ?_
    try simp only [Act.put, List.setIfInBounds_toArray, List.set_cons_zero, List.set_cons_succ]
    refine tkG 21 32 h3 ?_
    try simp only [Act.put, List.setIfInBounds_toArray, List.set_cons_zero, List.set_cons_succ]
    refine tkG 22 33 h3 ?_
    try simp only [Act.put, List.setIfInBounds_toArray, List.set_cons_zero, List.set_cons_succ]
    refine tkG 23 34 h3 ?_
    try simp only [Act.put, List.setIfInBounds_toArray, List.set_cons_zero, List.set_cons_succ]
    refine tkG 24 35 h3 ?_
    try simp only [Act.put, List.setIfInBounds_toArray, List.set_cons_zero, List.set_cons_succ]
    refine tkG 25 36 h3 ?_
    try simp only [Act.put, List.setIfInBounds_toArray, List.set_cons_zero, List.set_cons_succ]
    refine tkG 26 37 h3 ?_
    try simp only [Act.put, List.setIfInBounds_toArray, List.set_cons_zero, List.set_cons_succ]
    refine wpAnyH_done (by kernel_rfl) ?_ _
    refine NoPanic.normal ?_
    go_wp2
    go_ret
    exact ⟨ret_bool RES.out.symm, below_drewN HB0.out 1⟩
end Go.Proofs.YtilhaokiohbeeaaGreatDoor
