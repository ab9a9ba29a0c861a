/- A right Block can be shown: plain. The contract of the program's BlockOk. -/
import Derived.Test.YtilhaokiohbeeaaGreatDoorBlxOkS
import Derived.Test.YtilhaokiohbeeaaGreatDoorG27
import Derived.Test.YtilhaokiohbeeaaGreatDoorG38
import Derived.Test.YtilhaokiohbeeaaGreatDoorG22
import Derived.Test.YtilhaokiohbeeaaGreatDoorG39
namespace Go.Proofs.YtilhaokiohbeeaaGreatDoor
open Go.RowKit
theorem altI_all : ∀ (xs ys : List Int), (∀ x ∈ xs, inO x = true) → (∀ y ∈ ys, inO y = true) → (altI xs ys).all inO = true
  | [], _, _, _ => by simp [altI]
  | _ :: _, [], _, _ => by simp [altI]
  | x :: xs, y :: ys, hx, hy => by
    simp only [altI, List.all_cons, Bool.and_eq_true]
    exact ⟨hx x List.mem_cons_self, hy y List.mem_cons_self, altI_all xs ys (fun z hz => hx z (List.mem_cons_of_mem _ hz)) (fun z hz => hy z (List.mem_cons_of_mem _ hz))⟩
theorem inO_of {n : Int} (h0 : 0 ≤ n) (h1 : n ≤ 1099511627776) : inO n = true := by unfold inO; exact decide_eq_true ⟨h0, h1⟩
theorem nI_mem {l : List Int} {x : Int} (h : x ∈ l) : ∃ i, i < l.length ∧ nI l i = x := by
  obtain ⟨i, hi, rfl⟩ := List.getElem_of_mem h
  exact ⟨i, hi, nI_eq hi⟩
theorem shw_prf {p : Prf} {n : Int} (h : prfR p n = true) : prB7 p = true ∧ (prN p).all inO = true ∧ 0 ≤ p.nm ∧ p.nm ≤ 2147483646 := by
  unfold prfR at h
  simp only [Bool.and_eq_true, Bool.or_eq_true] at h
  obtain ⟨hs, h⟩ := h
  have hn : 1 ≤ n ∧ n ≤ 7 := by rcases srvB_iff.1 hs with rfl | rfl | rfl <;> omega
  rcases h with hf | ⟨hv, hm, hp⟩
  · unfold frsB at hf
    simp only [Bool.and_eq_true, decide_eq_true_eq] at hf
    obtain ⟨h1, h2, h3, h4⟩ := hf
    obtain ⟨vw, nm, sv, tg⟩ := p
    simp only at h1 h2 h3 h4
    have e1 := List.length_eq_zero_iff.1 h3
    have e2 := List.length_eq_zero_iff.1 h4
    subst h1 h2 e1 e2
    exact ⟨by rfl, by decide, by simp, by simp⟩
  · have hp := of_decide_eq_true hp
    unfold inV at hv
    unfold inN at hm
    simp only [decide_eq_true_eq] at hv hm
    obtain ⟨hq, hl, hall⟩ := hp
    have hsv : ∀ x ∈ p.sv, 0 ≤ x ∧ x < n := fun x hx => by
      obtain ⟨i, hi, rfl⟩ := nI_mem hx
      have := (vok_vtd (hall i hi).1).1
      omega
    have hlen : p.sv.length ≤ 7 := by
      have hr := rise_pair (l := p.sv) (fun i hi h0 => (hall i hi).2 h0)
      have := rise_few (n := n.toNat) hr (fun x hx => by have := hsv x hx; omega)
      omega
    refine ⟨by unfold prB7; exact decide_eq_true ⟨hl, hlen⟩, ?_, hm.1, hm.2⟩
    unfold prN
    simp only [List.all_cons, Bool.and_eq_true]
    refine ⟨inO_of (by omega) (by omega), inO_of hm.1 (by omega), inO_of (by omega) (by omega), altI_all _ _ (fun x hx => by have := hsv x hx; exact inO_of (by omega) (by omega)) (fun y hy => ?_)⟩
    obtain ⟨i, hi, rfl⟩ := nI_mem hy
    have h2 := (vok_vtd (hall i (by omega)).1).2
    unfold vAt vtd at h2
    simp only [Vot.mk.injEq] at h2
    rw [h2.2.2.2]
    have := tagD_lt (nI p.sv i) (balS p.vw p.nm)
    exact inO_of (by omega) (by omega)
theorem shw_right {b : Blk} {n : Int} (h : blkR b n = true) : shwB b ≠ [] := by
  unfold blkR at h
  simp only [Bool.and_eq_true, decide_eq_true_eq] at h
  obtain ⟨hs, hv, hsv, hp, hlt, hpa, hmo⟩ := h
  have hn : 1 ≤ n ∧ n ≤ 7 := by rcases srvB_iff.1 hs with rfl | rfl | rfl <;> omega
  obtain ⟨h1, h2, h3, h4⟩ := shw_prf hp
  unfold inV at hv
  simp only [decide_eq_true_eq] at hv
  have ht : textsOf b.mo ≠ [] := by
    unfold movesR at hmo
    simp only [Bool.and_eq_true, decide_eq_true_eq, List.all_eq_true] at hmo
    rw [textsOf_in b.mo (by omega) (fun s hs => by have := hmo.2 s hs; omega)]
    intro e
    have := List.append_eq_nil_iff.1 e
    exact enc_ne _ this.1
  have hm0 := Int.emod_nonneg b.vw (show n ≠ 0 by omega)
  have hm1 := Int.emod_lt_of_pos b.vw (show 0 < n by omega)
  rw [shwB_yes h1 (by unfold blN; simp only [List.all_cons, Bool.and_eq_true]; exact ⟨inO_of (by omega) (by omega), inO_of (by omega) (by omega), h2⟩) ht (by rw [hsv]; exact inO_of hm0 (by omega))]
  intro e
  have := List.append_eq_nil_iff.1 (List.append_eq_nil_iff.1 e).1
  exact ht this.2
theorem nam_right {b : Blk} {n : Int} (h : blkR b n = true) : namZ b = namN b := by
  unfold namZ
  rw [if_neg (shw_right h)]
end Go.Proofs.YtilhaokiohbeeaaGreatDoor
-- UNF Gen
namespace Go.Proofs.YtilhaokiohbeeaaGreatDoor
open Go.RowKit
theorem prfR_srv {p : Prf} {n : Int} (h : prfR p n = true) : srvB n = true := by unfold prfR at h; simp only [Bool.and_eq_true] at h; exact h.1
set_option maxHeartbeats 8000000 in
set_option maxRecDepth 100000 in
theorem implBlockOk_any (X : BlX) (n : Int) (w : World) (hr : RdBl w X) (hf : FitBl X.b) (ht : Tab w) :
    Calls Tryz.prog 171 #[.agg #[.int .i64 X.b.vw, .int .i64 X.b.pa, .int .i64 X.b.p.vw, .int .i64 X.b.p.nm, X.vs, X.vt, X.vm, .int .i64 X.b.sv], .int .i64 n] w fun e w' => e = .returned (.bool (blkR X.b n)) ∧ Below w.heap.size w w' := by
  obtain ⟨⟨vw, pa, p, mo, sv⟩, vs, vt, vm⟩ := X
  obtain ⟨hrp, hrm⟩ := hr
  obtain ⟨hf1, hf2, hfp, hfm, hf3⟩ := hf
  simp only [BlX.pr] at hrp hrm hfp hfm ⊢
  have t0 := bx_new w 34 #[.int .i64 vw, .int .i64 pa, .int .i64 p.vw, .int .i64 p.nm, vs, vt, vm, .int .i64 sv]
  have b0 := below1 w (.cells #[.int .i64 vw, .int .i64 pa, .int .i64 p.vw, .int .i64 p.nm, vs, vt, vm, .int .i64 sv] 34)
  obtain ⟨q0, q1, q2, q3, q4, q5, q6, q7⟩ := t0.c8
  obtain ⟨R, hR⟩ : ∃ R, R = blkR ⟨vw, pa, p, mo, sv⟩ n := ⟨_, rfl⟩
  have HR : Hid (R = (srvB n && (inV vw && (decide (sv = vw % n) && (prfR p n && (decide (p.vw < vw) && (decide (pa = p.nm) && movesR mo))))))) := hR
  rw [← hR]
  clear hR
  have HVV : Hid (∀ b, inV vw = b → ∀ W, Calls Tryz.prog 192 #[.int .i64 vw] W fun e w' => e = .returned (.bool b) ∧ w' = W) := fun b h W => viewOk_any b _ h W
  have HPO : Hid (∀ b, prfR p n = b → ∀ W, Below w.heap.size w W → Calls Tryz.prog 198 #[.agg #[.int .i64 p.vw, .int .i64 p.nm, vs, vt], .int .i64 n] W fun e w' => e = .returned (.bool b) ∧ Below W.heap.size W w') := fun b h W hb => by rw [← h]; exact implProofOk_any ⟨p, vs, vt⟩ n W (hrp.below hb) hfp (ht.on hb)
  have HMO : Hid (∀ W, Below w.heap.size w W → Calls Tryz.prog 209 #[vm] W fun e w' => e = .returned (.bool (movesR mo)) ∧ w' = W) := fun W hb => (movesOk_any vm mo W (hrm.below hb) hfm).mono fun e w' h => ⟨h.2, h.1⟩
  clear hrp hrm hfp hfm hf1 hf2 hf3 ht
  cases hV : inV vw with
  | false =>
    have HVF : Hid (inV vw = false) := hV
    have RES : Hid (R = false) := by unfold Hid; rw [HR.out, hV]; cases srvB n <;> rfl
    clear hV
    go_enter Tryz.func171, Tryz.ntmps171
    go_wp2_with fail
    refine (HVV.out false HVF.out _).mono ?_
    rintro e w9 ⟨rfl, rfl⟩
    go_wp2
    go_ret
    exact ⟨ret_bool RES.out.symm, b0⟩
  | true =>
    have HVF : Hid (inV vw = true) := hV
    obtain ⟨hv0, hv1⟩ := of_decide_eq_true hV
    cases hP : prfR p n with
    | false =>
      have HPF : Hid (prfR p n = false) := hP
      have RES : Hid (R = false) := by unfold Hid; rw [HR.out, hV, hP]; cases srvB n <;> cases decide (sv = vw % n) <;> rfl
      clear hV hP
      go_enter Tryz.func171, Tryz.ntmps171
      go_wp2_with fail
      refine (HVV.out true HVF.out _).mono ?_
      rintro e w9 ⟨rfl, rfl⟩
      go_wp2_with fail
      refine (HPO.out false HPF.out _ b0).mono ?_
      rintro e w5 ⟨rfl, hb5⟩
      have b5 := b0.trans (hb5.mono b0.size)
      clear q0 q1 q2 q3 q4 q5 q6 q7 hb5
      go_wp2
      go_ret
      exact ⟨ret_bool RES.out.symm, b5⟩
    | true =>
      have HPF : Hid (prfR p n = true) := hP
      have hS := prfR_srv hP
      obtain ⟨-, -, hn0, hn7⟩ := quoR_yes hS
      obtain ⟨m, hm⟩ : ∃ m, m = vw % n := ⟨_, rfl⟩
      rw [← hm] at HR
      have HN9 : Hid (n ≠ 0) := by unfold Hid; omega
      have HMT : Hid (vw.tmod n = m) := by unfold Hid; rw [hm, Int.tmod_eq_emod_of_nonneg (by omega)]
      clear hm
      by_cases hL : p.vw < vw
      case neg =>
        have hLd : vw ≤ p.vw := by omega
        have RES : Hid (R = false) := by unfold Hid; rw [HR.out, hV, hP, decide_eq_false hL]; cases srvB n <;> cases decide (sv = m) <;> rfl
        clear hV hP hS hL
        go_enter Tryz.func171, Tryz.ntmps171
        go_wp2_with fail
        refine (HVV.out true HVF.out _).mono ?_
        rintro e w9 ⟨rfl, rfl⟩
        go_wp2_with fail
        refine (HPO.out true HPF.out _ b0).mono ?_
        rintro e w5 ⟨rfl, hb5⟩
        have b5 := b0.trans (hb5.mono b0.size)
        have t5 := t0.below hb5
        clear q0 q1 q2 q3 q4 q5 q6 q7 hb5
        obtain ⟨q0, q1, q2, q3, q4, q5, q6, q7⟩ := t5.c8
        go_wp2
        go_ret
        exact ⟨ret_bool RES.out.symm, b5⟩
      case pos =>
        have hLd : ¬ vw ≤ p.vw := by omega
        have HR2 : Hid (R = (decide (sv = m) && (decide (pa = p.nm) && movesR mo))) := by unfold Hid; rw [HR.out, hV, hP, hS, decide_eq_true hL]; rfl
        clear hV hP hS hL HR
        go_enter Tryz.func171, Tryz.ntmps171
        go_wp2_with fail
        refine (HVV.out true HVF.out _).mono ?_
        rintro e w9 ⟨rfl, rfl⟩
        go_wp2_with fail
        refine (HPO.out true HPF.out _ b0).mono ?_
        rintro e w5 ⟨rfl, hb5⟩
        have b5 := b0.trans (hb5.mono b0.size)
        have t5 := t0.below hb5
        clear q0 q1 q2 q3 q4 q5 q6 q7 hb5 t0 b0
        obtain ⟨q0, q1, q2, q3, q4, q5, q6, q7⟩ := t5.c8
        cases hA : decide (pa = p.nm) with
        | false =>
          have hAd : (pa == p.nm) = false := hA
          have RES : Hid (R = false) := by unfold Hid; rw [HR2.out, hA]; cases decide (sv = m) <;> rfl
          clear hA
          go_wp2_with fail
          refine wp_region_noPanic ?_
          refine wp_region_held_drew (S := fun w' => w'.cell? ⟨w.heap.size, 0, none⟩ = some (.int .i64 vw) ∧ w'.cell? ⟨w.heap.size, 1, none⟩ = some (.int .i64 pa) ∧ w'.cell? ⟨w.heap.size, 2, none⟩ = some (.int .i64 p.vw) ∧ w'.cell? ⟨w.heap.size, 3, none⟩ = some (.int .i64 p.nm) ∧ w'.cell? ⟨w.heap.size, 4, none⟩ = some (vs) ∧ w'.cell? ⟨w.heap.size, 5, none⟩ = some (vt) ∧ w'.cell? ⟨w.heap.size, 6, none⟩ = some (vm) ∧ w'.cell? ⟨w.heap.size, 7, none⟩ = some (.int .i64 sv)) (by kernel_rfl) (t5.below (Below.refl _ _).drew).c8 (fun h0 => ?_)
          refine tkG 0 24 h0 ?_
          try simp only [Act.put, List.setIfInBounds_toArray, List.set_cons_zero, List.set_cons_succ]
          refine tkG 1 25 h0 ?_
          try simp only [Act.put, List.setIfInBounds_toArray, List.set_cons_zero, List.set_cons_succ]
          refine tkG 2 26 h0 ?_
          try simp only [Act.put, List.setIfInBounds_toArray, List.set_cons_zero, List.set_cons_succ]
          refine tkG 3 27 h0 ?_
          try simp only [Act.put, List.setIfInBounds_toArray, List.set_cons_zero, List.set_cons_succ]
          refine tkG 4 28 h0 ?_
          try simp only [Act.put, List.setIfInBounds_toArray, List.set_cons_zero, List.set_cons_succ]
          refine tkG 5 29 h0 ?_
          try simp only [Act.put, List.setIfInBounds_toArray, List.set_cons_zero, List.set_cons_succ]
          refine tkG 6 30 h0 ?_
          try simp only [Act.put, List.setIfInBounds_toArray, List.set_cons_zero, List.set_cons_succ]
          refine tkS 7 31 h0 ?_
          try simp only [Act.put, List.setIfInBounds_toArray, List.set_cons_zero, List.set_cons_succ]
          refine tkS 8 32 h0 ?_
          try simp only [Act.put, List.setIfInBounds_toArray, List.set_cons_zero, List.set_cons_succ]
          refine tkS 9 33 h0 ?_
          try simp only [Act.put, List.setIfInBounds_toArray, List.set_cons_zero, List.set_cons_succ]
          refine tkG 10 34 h0 ?_
          try simp only [Act.put, List.setIfInBounds_toArray, List.set_cons_zero, List.set_cons_succ]
          refine tkG 11 35 h0 ?_
          try simp only [Act.put, List.setIfInBounds_toArray, List.set_cons_zero, List.set_cons_succ]
          refine tkS 12 36 h0 ?_
          try simp only [Act.put, List.setIfInBounds_toArray, List.set_cons_zero, List.set_cons_succ]
          refine tkS 13 37 h0 ?_
          try simp only [Act.put, List.setIfInBounds_toArray, List.set_cons_zero, List.set_cons_succ]
          refine tkS 14 38 h0 ?_
          try simp only [Act.put, List.setIfInBounds_toArray, List.set_cons_zero, List.set_cons_succ]
          refine tkS 15 39 h0 ?_
          try simp only [Act.put, List.setIfInBounds_toArray, List.set_cons_zero, List.set_cons_succ]
          refine tkS 16 40 h0 ?_
          try simp only [Act.put, List.setIfInBounds_toArray, List.set_cons_zero, List.set_cons_succ]
          refine tkS 17 41 h0 ?_
          try simp only [Act.put, List.setIfInBounds_toArray, List.set_cons_zero, List.set_cons_succ]
          refine tkS 18 42 h0 ?_
          try simp only [Act.put, List.setIfInBounds_toArray, List.set_cons_zero, List.set_cons_succ]
          refine tkG 19 43 h0 ?_
          try simp only [Act.put, List.setIfInBounds_toArray, List.set_cons_zero, List.set_cons_succ]
          refine tkG 20 4 h0 ?_
          try simp only [Act.put, List.setIfInBounds_toArray, List.set_cons_zero, List.set_cons_succ]
          refine wpAnyH_done (by kernel_rfl) ?_ _
          refine NoPanic.normal ?_
          go_wp2
          go_ret
          exact ⟨ret_bool RES.out.symm, b5.drew⟩
        | true =>
          have hAd : (pa == p.nm) = true := hA
          cases hM : movesR mo with
          | false =>
            have HMF : Hid (movesR mo = false) := hM
            have RES : Hid (R = false) := by unfold Hid; rw [HR2.out, hA, hM]; cases decide (sv = m) <;> rfl
            rw [hM] at HMO
            clear hA hM
            go_wp2_with fail
            refine wp_region_noPanic ?_
            refine wp_region_held_drew (S := fun w' => w'.cell? ⟨w.heap.size, 0, none⟩ = some (.int .i64 vw) ∧ w'.cell? ⟨w.heap.size, 1, none⟩ = some (.int .i64 pa) ∧ w'.cell? ⟨w.heap.size, 2, none⟩ = some (.int .i64 p.vw) ∧ w'.cell? ⟨w.heap.size, 3, none⟩ = some (.int .i64 p.nm) ∧ w'.cell? ⟨w.heap.size, 4, none⟩ = some (vs) ∧ w'.cell? ⟨w.heap.size, 5, none⟩ = some (vt) ∧ w'.cell? ⟨w.heap.size, 6, none⟩ = some (vm) ∧ w'.cell? ⟨w.heap.size, 7, none⟩ = some (.int .i64 sv)) (by kernel_rfl) (t5.below (Below.refl _ _).drew).c8 (fun h0 => ?_)
            refine tkG 0 24 h0 ?_
            try simp only [Act.put, List.setIfInBounds_toArray, List.set_cons_zero, List.set_cons_succ]
            refine tkG 1 25 h0 ?_
            try simp only [Act.put, List.setIfInBounds_toArray, List.set_cons_zero, List.set_cons_succ]
            refine tkG 2 26 h0 ?_
            try simp only [Act.put, List.setIfInBounds_toArray, List.set_cons_zero, List.set_cons_succ]
            refine tkG 3 27 h0 ?_
            try simp only [Act.put, List.setIfInBounds_toArray, List.set_cons_zero, List.set_cons_succ]
            refine tkG 4 28 h0 ?_
            try simp only [Act.put, List.setIfInBounds_toArray, List.set_cons_zero, List.set_cons_succ]
            refine tkG 5 29 h0 ?_
            try simp only [Act.put, List.setIfInBounds_toArray, List.set_cons_zero, List.set_cons_succ]
            refine tkG 6 30 h0 ?_
            try simp only [Act.put, List.setIfInBounds_toArray, List.set_cons_zero, List.set_cons_succ]
            refine tkG 7 31 h0 ?_
            try simp only [Act.put, List.setIfInBounds_toArray, List.set_cons_zero, List.set_cons_succ]
            refine tkG 8 32 h0 ?_
            try simp only [Act.put, List.setIfInBounds_toArray, List.set_cons_zero, List.set_cons_succ]
            refine wpAnyH_ready (rs := [9]) (by kernel_rfl) (by simp) ?_
            refine AllReadyH.cons rfl (fun K hK => ?_) AllReadyH.nil
            go_simp
            refine (HMO.out _ (b5.drew)).mono ?_
            rintro e w9 ⟨rfl, rfl⟩
            refine hK.out _ _ (h0) (fun h1 => ?_)
            clear hK K
            try simp only [Act.put, List.setIfInBounds_toArray, List.set_cons_zero, List.set_cons_succ]
            clear h0
            refine tkG 10 34 h1 ?_
            try simp only [Act.put, List.setIfInBounds_toArray, List.set_cons_zero, List.set_cons_succ]
            refine tkG 11 35 h1 ?_
            try simp only [Act.put, List.setIfInBounds_toArray, List.set_cons_zero, List.set_cons_succ]
            refine tkS 12 36 h1 ?_
            try simp only [Act.put, List.setIfInBounds_toArray, List.set_cons_zero, List.set_cons_succ]
            refine tkS 13 37 h1 ?_
            try simp only [Act.put, List.setIfInBounds_toArray, List.set_cons_zero, List.set_cons_succ]
            refine tkS 14 38 h1 ?_
            try simp only [Act.put, List.setIfInBounds_toArray, List.set_cons_zero, List.set_cons_succ]
            refine tkS 15 39 h1 ?_
            try simp only [Act.put, List.setIfInBounds_toArray, List.set_cons_zero, List.set_cons_succ]
            refine tkS 16 40 h1 ?_
            try simp only [Act.put, List.setIfInBounds_toArray, List.set_cons_zero, List.set_cons_succ]
            refine tkS 17 41 h1 ?_
            try simp only [Act.put, List.setIfInBounds_toArray, List.set_cons_zero, List.set_cons_succ]
            refine tkS 18 42 h1 ?_
            try simp only [Act.put, List.setIfInBounds_toArray, List.set_cons_zero, List.set_cons_succ]
            refine tkG 19 43 h1 ?_
            try simp only [Act.put, List.setIfInBounds_toArray, List.set_cons_zero, List.set_cons_succ]
            refine tkG 20 4 h1 ?_
            try simp only [Act.put, List.setIfInBounds_toArray, List.set_cons_zero, List.set_cons_succ]
            refine wpAnyH_done (by kernel_rfl) ?_ _
            refine NoPanic.normal ?_
            go_wp2
            go_ret
            exact ⟨ret_bool RES.out.symm, b5.drew⟩
          | true =>
            have RES : Hid (R = decide (sv = m)) := by unfold Hid; rw [HR2.out, hA, hM]; cases decide (sv = m) <;> rfl
            rw [hM] at HMO
            clear hA hM
            go_wp2_with fail
            refine wp_region_noPanic ?_
            refine wp_region_held_drew (S := fun w' => w'.cell? ⟨w.heap.size, 0, none⟩ = some (.int .i64 vw) ∧ w'.cell? ⟨w.heap.size, 1, none⟩ = some (.int .i64 pa) ∧ w'.cell? ⟨w.heap.size, 2, none⟩ = some (.int .i64 p.vw) ∧ w'.cell? ⟨w.heap.size, 3, none⟩ = some (.int .i64 p.nm) ∧ w'.cell? ⟨w.heap.size, 4, none⟩ = some (vs) ∧ w'.cell? ⟨w.heap.size, 5, none⟩ = some (vt) ∧ w'.cell? ⟨w.heap.size, 6, none⟩ = some (vm) ∧ w'.cell? ⟨w.heap.size, 7, none⟩ = some (.int .i64 sv)) (by kernel_rfl) (t5.below (Below.refl _ _).drew).c8 (fun h0 => ?_)
            refine tkG 0 24 h0 ?_
            try simp only [Act.put, List.setIfInBounds_toArray, List.set_cons_zero, List.set_cons_succ]
            refine tkG 1 25 h0 ?_
            try simp only [Act.put, List.setIfInBounds_toArray, List.set_cons_zero, List.set_cons_succ]
            refine tkG 2 26 h0 ?_
            try simp only [Act.put, List.setIfInBounds_toArray, List.set_cons_zero, List.set_cons_succ]
            refine tkG 3 27 h0 ?_
            try simp only [Act.put, List.setIfInBounds_toArray, List.set_cons_zero, List.set_cons_succ]
            refine tkG 4 28 h0 ?_
            try simp only [Act.put, List.setIfInBounds_toArray, List.set_cons_zero, List.set_cons_succ]
            refine tkG 5 29 h0 ?_
            try simp only [Act.put, List.setIfInBounds_toArray, List.set_cons_zero, List.set_cons_succ]
            refine tkG 6 30 h0 ?_
            try simp only [Act.put, List.setIfInBounds_toArray, List.set_cons_zero, List.set_cons_succ]
            refine tkG 7 31 h0 ?_
            try simp only [Act.put, List.setIfInBounds_toArray, List.set_cons_zero, List.set_cons_succ]
            refine tkG 8 32 h0 ?_
            try simp only [Act.put, List.setIfInBounds_toArray, List.set_cons_zero, List.set_cons_succ]
            refine wpAnyH_ready (rs := [9]) (by kernel_rfl) (by simp) ?_
            refine AllReadyH.cons rfl (fun K hK => ?_) AllReadyH.nil
            go_simp
            refine (HMO.out _ (b5.drew)).mono ?_
            rintro e w9 ⟨rfl, rfl⟩
            refine hK.out _ _ (h0) (fun h1 => ?_)
            clear hK K
            try simp only [Act.put, List.setIfInBounds_toArray, List.set_cons_zero, List.set_cons_succ]
            clear h0
            refine tkG 10 34 h1 ?_
            try simp only [Act.put, List.setIfInBounds_toArray, List.set_cons_zero, List.set_cons_succ]
            refine tkG 11 35 h1 ?_
            try simp only [Act.put, List.setIfInBounds_toArray, List.set_cons_zero, List.set_cons_succ]
            refine tkG 12 36 h1 ?_
            try simp only [Act.put, List.setIfInBounds_toArray, List.set_cons_zero, List.set_cons_succ]
            refine tkG 13 37 h1 ?_
            try simp only [Act.put, List.setIfInBounds_toArray, List.set_cons_zero, List.set_cons_succ]
            refine tkG 14 38 h1 ?_
            try simp only [Act.put, List.setIfInBounds_toArray, List.set_cons_zero, List.set_cons_succ]
            refine tkG 15 39 h1 ?_
            try simp only [Act.put, List.setIfInBounds_toArray, List.set_cons_zero, List.set_cons_succ]
            refine tkG 16 40 h1 ?_
            try simp only [Act.put, List.setIfInBounds_toArray, List.set_cons_zero, List.set_cons_succ]
            refine tkG 17 41 h1 ?_ (v := .int .i64 m) (hy := by intro w hS; (try dsimp only [Nat.zero_add] at hS); go_simp; rw [if_neg HN9.out, HMT.out])
            try simp only [Act.put, List.setIfInBounds_toArray, List.set_cons_zero, List.set_cons_succ]
            refine tkG 18 42 h1 ?_
            try simp only [Act.put, List.setIfInBounds_toArray, List.set_cons_zero, List.set_cons_succ]
            refine tkG 19 43 h1 ?_
            try simp only [Act.put, List.setIfInBounds_toArray, List.set_cons_zero, List.set_cons_succ]
            refine tkG 20 4 h1 ?_
            try simp only [Act.put, List.setIfInBounds_toArray, List.set_cons_zero, List.set_cons_succ]
            refine wpAnyH_done (by kernel_rfl) ?_ _
            refine NoPanic.normal ?_
            go_wp2
            go_ret
            exact ⟨ret_bool RES.out.symm, b5.drew⟩
end Go.Proofs.YtilhaokiohbeeaaGreatDoor
