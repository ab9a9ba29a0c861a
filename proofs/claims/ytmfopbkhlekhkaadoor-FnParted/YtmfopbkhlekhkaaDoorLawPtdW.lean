/- The walk of FnParted. -/
-- UNF Gen
import Derived.Test.YtmfopbkhlekhkaaDoorLefDrw
import Derived.Test.YtmfopbkhlekhkaaDoorLefLik
import Derived.Test.YtmfopbkhlekhkaaDoorTriPrt3
import Derived.Deep.DeepCutAuto
namespace Go.Proofs.YtmfopbkhlekhkaaDoor
open Go.RowKit
theorem first_like {A : Nat} {v : Int} {ws : List Int} {o : Int} {us : List Int} : ∀ n, rnL A v ws n = rnL A o us n → ∃ k, k ≤ n ∧ rnL A v ws k = rnL A o us k ∧ ∀ j, j < k → rnL A v ws j ≠ rnL A o us j := by
  intro n
  induction n using Nat.strongRecOn with
  | _ n ih =>
    intro h
    by_cases hx : ∃ j, j < n ∧ rnL A v ws j = rnL A o us j
    · obtain ⟨j, hj, e⟩ := hx
      obtain ⟨k, hk, r⟩ := ih j hj e
      exact ⟨k, by omega, r⟩
    · exact ⟨n, Nat.le_refl _, h, fun j hj e => hx ⟨j, hj, e⟩⟩
theorem pr_lp (A : Nat) (v : Int) (ws : List Int) (k : Nat) : pr (lpa A v ws (k + 1)) (lpb A v ws (k + 1)) = rnL A v ws (k + 1) := by
  rw [← (lp_two A v ws k _ rfl).1, ← (lp_two A v ws k _ rfl).2]
  exact rn_two A v ws k _ rfl
theorem lp_i64 {A : Nat} {v : Int} {ws : List Int} (hA : A ≤ 255) (hv : v = -1 ∨ (0 ≤ v ∧ v ≤ 1000000000)) (hi : ∀ j, I64 (ws.getD j 0)) : ∀ k, I64 (lpa A v ws k) ∧ I64 (lpb A v ws k)
  | 0 => by
    unfold lpa lpb I64
    constructor <;> split <;> omega
  | k + 1 => by
    show I64 (if A / 2 ^ k % 2 = 0 then rnL A v ws k else ws.getD k 0) ∧ I64 (if A / 2 ^ k % 2 = 0 then ws.getD k 0 else rnL A v ws k)
    by_cases h : A / 2 ^ k % 2 = 0
    · rw [if_pos h, if_pos h]; exact ⟨rnL_i64 _ _ _ _, hi k⟩
    · rw [if_neg h, if_neg h]; exact ⟨hi k, rnL_i64 _ _ _ _⟩
/-- What is told where two values lead to one number. -/
theorem ptd_facts {p v : Int} {ws : List Int} {o : Int} {us : List Int} (h : ptdB p v ws o us = true) (hi : ∀ j, I64 (ws.getD j 0)) (hj : ∀ j, I64 (us.getD j 0)) :
    ∃ x1 x2 x3 x4, ptdR p v ws o us = [x1, x2, x3, x4] ∧ ¬ (x1 = x3 ∧ x2 = x4) ∧ ((x2 = -1 ∧ pr x3 x4 = 0) ∨ (x4 = -1 ∧ pr x1 x2 = 0) ∨ pr x1 x2 = pr x3 x4) ∧ I64 x1 ∧ I64 x2 ∧ I64 x3 ∧ I64 x4 := by
  have hR : ptdR p v ws o us = fndL p.toNat v ws o us 8 := by unfold ptdR; rw [if_pos h]
  unfold ptdB at h
  simp only [Bool.and_eq_true, decide_eq_true_eq] at h
  obtain ⟨⟨⟨h1, h2⟩, hvo⟩, he⟩ := h
  obtain ⟨hp, hv, -⟩ := tldB_iff.1 h1
  obtain ⟨-, ho, -⟩ := tldB_iff.1 h2
  obtain ⟨A, rfl⟩ : ∃ A : Nat, p = (A : Int) := ⟨p.toNat, by omega⟩
  rw [Int.toNat_natCast] at hR he
  obtain ⟨k, hk, e, hf⟩ := first_like 8 he
  have h3 := fnd_first hf e
  have h4 := fnd_on (A := A) (v := v) (ws := ws) (o := o) (us := us) (k := k) (by rw [h3]; simp [fourL]) (8 - k)
  rw [show k + (8 - k) = 8 by omega, h3] at h4
  rw [hR, h4]
  have i1 := lp_i64 (A := A) (by omega) hv hi k
  have i2 := lp_i64 (A := A) (by omega) ho hj k
  refine ⟨_, _, _, _, rfl, ?_, ?_, i1.1, i1.2, i2.1, i2.2⟩
  · cases k with
    | zero =>
      rintro ⟨-, e2⟩
      unfold lpb at e2
      split at e2 <;> split at e2 <;> omega
    | succ k =>
      have hne := hf k (by omega)
      rintro ⟨e1, e2⟩
      change (if A / 2 ^ k % 2 = 0 then rnL A v ws k else ws.getD k 0) = (if A / 2 ^ k % 2 = 0 then rnL A o us k else us.getD k 0) at e1
      change (if A / 2 ^ k % 2 = 0 then ws.getD k 0 else rnL A v ws k) = (if A / 2 ^ k % 2 = 0 then us.getD k 0 else rnL A o us k) at e2
      by_cases h : A / 2 ^ k % 2 = 0
      · rw [if_pos h, if_pos h] at e1; exact hne e1
      · rw [if_neg h, if_neg h] at e2; exact hne e2
  · cases k with
    | zero =>
      have e' : numP (A : Int) v = numP (A : Int) o := e
      unfold numP at e'
      unfold lpa lpb
      by_cases v1 : v = -1
      · rw [if_pos v1, if_pos v1, if_neg (show ¬ o = -1 by omega), if_neg (show ¬ o = -1 by omega)]
        rw [if_pos (show v < 0 by omega), if_neg (show ¬ o < 0 by omega)] at e'
        exact .inl ⟨rfl, e'.symm⟩
      · rw [if_neg v1, if_neg v1]
        rw [if_neg (show ¬ v < 0 by omega)] at e'
        by_cases o1 : o = -1
        · rw [if_pos o1, if_pos o1]
          rw [if_pos (show o < 0 by omega)] at e'
          exact .inr (.inl ⟨rfl, e'⟩)
        · rw [if_neg o1, if_neg o1]
          rw [if_neg (show ¬ o < 0 by omega)] at e'
          exact .inr (.inr e')
    | succ k =>
      rw [pr_lp, pr_lp]
      exact .inr (.inr e)
theorem four_below {W W' : World} {q : Nat} {x1 x2 x3 x4 : Int} (h : W.cell? ⟨q, 0, none⟩ = some (.int .i64 x1) ∧ W.cell? ⟨q, 1, none⟩ = some (.int .i64 x2) ∧ W.cell? ⟨q, 2, none⟩ = some (.int .i64 x3) ∧ W.cell? ⟨q, 3, none⟩ = some (.int .i64 x4)) (hb : Below W.heap.size W W') :
    W'.cell? ⟨q, 0, none⟩ = some (.int .i64 x1) ∧ W'.cell? ⟨q, 1, none⟩ = some (.int .i64 x2) ∧ W'.cell? ⟨q, 2, none⟩ = some (.int .i64 x3) ∧ W'.cell? ⟨q, 3, none⟩ = some (.int .i64 x4) := by
  have hl := World.block_lt_of_cell? W _ h.1
  have c := fun o => hb.cell (p := ⟨q, o, none⟩) hl
  exact ⟨(c 0).trans h.1, (c 1).trans h.2.1, (c 2).trans h.2.2.1, (c 3).trans h.2.2.2⟩
theorem own_four {w : World} {B : Nat} {v : Value} {x1 x2 x3 x4 : Int} (h : OwnI w B v [x1, x2, x3, x4]) : ∃ q c, v = .slice (some ⟨q, 0, none⟩) 4 c ∧ 4 ≤ c ∧ c ≤ maxLen ∧ w.cell? ⟨q, 0, none⟩ = some (.int .i64 x1) ∧ w.cell? ⟨q, 1, none⟩ = some (.int .i64 x2) ∧ w.cell? ⟨q, 2, none⟩ = some (.int .i64 x3) ∧ w.cell? ⟨q, 3, none⟩ = some (.int .i64 x4) := by
  obtain ⟨a, c, hv, h1, h2, -, h3⟩ := h.rd
  subst hv
  obtain ⟨q, rfl⟩ := ownI_head h (by simp)
  rcases h3 with h3 | ⟨b, off, e, hc⟩
  · cases h3
  · injection e with e
    injection e with e1 e2 e3
    subst e1
    subst e2
    exact ⟨q, c, rfl, h1, h2, hc 0 (by simp), hc 1 (by simp), hc 2 (by simp), hc 3 (by simp)⟩
set_option maxHeartbeats 16000000 in
set_option maxRecDepth 100000 in
theorem lawParted12 (v : Value) (bs : List UInt8) (w : World) (hr : Rd w v bs) (ht : Tab w) :
    Calls Tryd.prog 4 #[v] w fun e w' => e = .returned (.bool true) ∧ Below w.heap.size w w' := by
  by_cases hbig : 4096 < (bs.length : Int)
  · have hd : decide (4096 < (bs.length : Int)) = true := decide_eq_true hbig
    have HB : Hid (Calls Tryd.prog 7 #[v] w fun e w' => e = .returned (.bool true) ∧ w' = w) := by rw [← hd]; exact bigL_any v bs w hr
    clear hd hbig
    go_enter Tryd.func4, Tryd.ntmps4
    go_wp2_with fail
    refine HB.out.mono ?_
    rintro e w1 ⟨rfl, hw⟩
    subst hw
    go_wp2
    go_ret
    exact ⟨rfl, Below.refl _ _⟩
  have hd : decide (4096 < (bs.length : Int)) = false := decide_eq_false hbig
  have HB : Hid (Calls Tryd.prog 7 #[v] w fun e w' => e = .returned (.bool false) ∧ w' = w) := by rw [← hd]; exact bigL_any v bs w hr
  clear hd
  go_enter Tryd.func4, Tryd.ntmps4
  go_wp2_with fail
  refine HB.out.mono ?_
  rintro e w1 ⟨rfl, hw⟩
  obtain rfl : w = w1 := hw.symm
  clear hw
  go_wp2_with fail
  refine (drawParted_any _ bs _ hr (by omega)).mono ?_
  rintro e w1 ⟨a, x, wv, ws, o, vv, us, rfl, hrw, hru, hi, hj, b1⟩
  obtain ⟨ys, hys⟩ : ∃ ys, ys = ptdR a x ws o us := ⟨_, rfl⟩
  obtain ⟨ok, hok⟩ : ∃ ok, ok = ptdB a x ws o us := ⟨_, rfl⟩
  have HI : Hid (∀ W, RdI W wv ws → RdI W vv us → Tab W → Calls Tryd.prog 25 #[.int .i64 a, .int .i64 x, wv, .int .i64 o, vv] W fun e w'' => ∃ u, e = .returned (.tuple #[u, .bool ok]) ∧ OwnI w'' W.heap.size u ys ∧ Below W.heap.size W w'') := fun W h1 h2 t => by rw [hys, hok]; exact implParted_any a x o wv vv ws us W h1 h2 hi hj t
  have HS : Hid (∀ W, RdI W wv ws → RdI W vv us → Calls Tryd.prog 27 #[.int .i64 a, .int .i64 x, wv, .int .i64 o, vv] W fun e w'' => ∃ u, e = .returned (.tuple #[u, .bool ok]) ∧ OwnI w'' W.heap.size u ys ∧ Below W.heap.size W w'') := fun W h1 h2 => by rw [hys, hok]; exact specParted_any a x o wv vv ws us W h1 h2 hi hj
  have HYN : Hid (ok = false → ys = []) := fun h => by rw [hys]; unfold ptdR; rw [← hok, h]; rfl
  have HYY : Hid (ok = true → ∃ x1 x2 x3 x4, ys = [x1, x2, x3, x4] ∧ ¬ (x1 = x3 ∧ x2 = x4) ∧ ((x2 = -1 ∧ pr x3 x4 = 0) ∨ (x4 = -1 ∧ pr x1 x2 = 0) ∨ pr x1 x2 = pr x3 x4) ∧ I64 x1 ∧ I64 x2 ∧ I64 x3 ∧ I64 x4) := fun h => by rw [hys]; exact ptd_facts (hok.symm.trans h) hi hj
  clear hys hok hi hj hr HB
  go_wp2_with fail
  refine (HI.out _ hrw hru (ht.on b1)).mono ?_
  rintro e w2 ⟨fv, rfl, hf2, hb2⟩
  have b2 := b1.trans (hb2.mono b1.size)
  replace hrw := hrw.below hb2
  replace hru := hru.below hb2
  clear hb2 b1 HI
  go_wp2_with fail
  refine (HS.out _ hrw hru).mono ?_
  rintro e w3 ⟨gv, rfl, hg3, hb3⟩
  have b3 := b2.trans (hb3.mono b2.size)
  have hf3 := OwnI.below hf2 hb3
  clear hb3 b2 hf2 HS hrw hru
  have hne : (ok != ok) = false := by simp
  go_wp2_with fail
  refine (likeIZ fv gv ys _ hf3.rd hg3.rd).mono ?_
  rintro e w4 ⟨rfl, hb4⟩
  have b0 := b3.trans (hb4.mono b3.size)
  have hf := OwnI.below hf3 hb4
  clear hb4 b3 hf3 hg3
  cases ok with
  | false =>
    have hy := HYN.out rfl
    subst hy
    obtain ⟨fa, fc, hfv, -⟩ := hf.rd
    subst hfv
    clear hf
    go_wp2
    go_ret
    exact ⟨rfl, b0⟩
  | true =>
    obtain ⟨x1, x2, x3, x4, hy, hun, hpp, i1, i2, i3, i4⟩ := HYY.out rfl
    subst hy
    obtain ⟨q, c, hfv, hc4, hcm, C0⟩ := own_four hf
    unfold maxLen at hcm
    subst hfv
    have HPP : Hid ((x2 = -1 → pr x3 x4 ≠ 0) → (x4 = -1 → pr x1 x2 ≠ 0) → (pr x1 x2 == pr x3 x4) = true) := fun h1 h2 => by
      rcases hpp with ⟨e1, e2⟩ | ⟨e1, e2⟩ | e
      · exact absurd e2 (h1 e1)
      · exact absurd e2 (h2 e1)
      · exact beq_iff_eq.2 e
    clear hf HYN HYY hpp
    go_upto_region 10 with fail
    go_cut [75] (fun t75 W => t75 = .bool false ∧ (W.cell? ⟨q, 0, none⟩ = some (.int .i64 x1) ∧ W.cell? ⟨q, 1, none⟩ = some (.int .i64 x2) ∧ W.cell? ⟨q, 2, none⟩ = some (.int .i64 x3) ∧ W.cell? ⟨q, 3, none⟩ = some (.int .i64 x4)) ∧ Below w.heap.size w W)
    case first =>
      by_cases h13 : x1 = x3
      · have e24 : (x2 == x4) = false := beq_false_of_ne (fun e => hun ⟨h13, e⟩)
        subst h13
        clear hun
        refine wp_region_noPanic ?_
        refine wp_region_held_drew (S := fun W => W.cell? ⟨q, 0, none⟩ = some (.int .i64 x1) ∧ W.cell? ⟨q, 1, none⟩ = some (.int .i64 x2) ∧ W.cell? ⟨q, 2, none⟩ = some (.int .i64 x1) ∧ W.cell? ⟨q, 3, none⟩ = some (.int .i64 x4)) (by kernel_rfl) C0 (fun hS0 => ?_)
        have c0 := b0.drew
        refine tkG 0 55 hS0 ?_
        try simp only [Act.put, List.setIfInBounds_toArray, List.set_cons_zero, List.set_cons_succ]
        refine tkG 1 56 hS0 ?_
        try simp only [Act.put, List.setIfInBounds_toArray, List.set_cons_zero, List.set_cons_succ]
        refine tkG 2 57 hS0 ?_
        try simp only [Act.put, List.setIfInBounds_toArray, List.set_cons_zero, List.set_cons_succ]
        refine tkG 3 58 hS0 ?_
        try simp only [Act.put, List.setIfInBounds_toArray, List.set_cons_zero, List.set_cons_succ]
        refine tkG 4 59 hS0 ?_
        try simp only [Act.put, List.setIfInBounds_toArray, List.set_cons_zero, List.set_cons_succ]
        refine tkG 5 60 hS0 ?_
        try simp only [Act.put, List.setIfInBounds_toArray, List.set_cons_zero, List.set_cons_succ]
        refine tkG 6 61 hS0 ?_
        try simp only [Act.put, List.setIfInBounds_toArray, List.set_cons_zero, List.set_cons_succ]
        refine tkG 7 62 hS0 ?_
        try simp only [Act.put, List.setIfInBounds_toArray, List.set_cons_zero, List.set_cons_succ]
        refine tkG 8 63 hS0 ?_
        try simp only [Act.put, List.setIfInBounds_toArray, List.set_cons_zero, List.set_cons_succ]
        refine tkG 9 64 hS0 ?_
        try simp only [Act.put, List.setIfInBounds_toArray, List.set_cons_zero, List.set_cons_succ]
        refine tkG 10 65 hS0 ?_
        try simp only [Act.put, List.setIfInBounds_toArray, List.set_cons_zero, List.set_cons_succ]
        refine tkG 11 66 hS0 ?_
        try simp only [Act.put, List.setIfInBounds_toArray, List.set_cons_zero, List.set_cons_succ]
        refine tkG 12 67 hS0 ?_
        try simp only [Act.put, List.setIfInBounds_toArray, List.set_cons_zero, List.set_cons_succ]
        refine tkG 13 68 hS0 ?_
        try simp only [Act.put, List.setIfInBounds_toArray, List.set_cons_zero, List.set_cons_succ]
        refine tkG 14 69 hS0 ?_
        try simp only [Act.put, List.setIfInBounds_toArray, List.set_cons_zero, List.set_cons_succ]
        refine tkG 15 70 hS0 ?_
        try simp only [Act.put, List.setIfInBounds_toArray, List.set_cons_zero, List.set_cons_succ]
        refine tkG 16 71 hS0 ?_
        try simp only [Act.put, List.setIfInBounds_toArray, List.set_cons_zero, List.set_cons_succ]
        refine tkG 17 72 hS0 ?_
        try simp only [Act.put, List.setIfInBounds_toArray, List.set_cons_zero, List.set_cons_succ]
        refine tkG 18 73 hS0 ?_
        try simp only [Act.put, List.setIfInBounds_toArray, List.set_cons_zero, List.set_cons_succ]
        refine tkG 19 74 hS0 ?_
        try simp only [Act.put, List.setIfInBounds_toArray, List.set_cons_zero, List.set_cons_succ]
        refine tkG 20 75 hS0 ?_
        try simp only [Act.put, List.setIfInBounds_toArray, List.set_cons_zero, List.set_cons_succ]
        refine wpAnyH_done (by kernel_rfl) ?_ _
        refine NoPanic.normal ?_
        replace C0 := hS0
        replace b0 := c0
        clear hS0 c0
        go_wp2
        go_meet
        case rel => exact ⟨rfl, C0, b0⟩
      · have e13 : (x1 == x3) = false := beq_false_of_ne h13
        clear hun h13
        refine wp_region_noPanic ?_
        refine wp_region_held_drew (S := fun W => W.cell? ⟨q, 0, none⟩ = some (.int .i64 x1) ∧ W.cell? ⟨q, 1, none⟩ = some (.int .i64 x2) ∧ W.cell? ⟨q, 2, none⟩ = some (.int .i64 x3) ∧ W.cell? ⟨q, 3, none⟩ = some (.int .i64 x4)) (by kernel_rfl) C0 (fun hS0 => ?_)
        have c0 := b0.drew
        refine tkG 0 55 hS0 ?_
        try simp only [Act.put, List.setIfInBounds_toArray, List.set_cons_zero, List.set_cons_succ]
        refine tkG 1 56 hS0 ?_
        try simp only [Act.put, List.setIfInBounds_toArray, List.set_cons_zero, List.set_cons_succ]
        refine tkG 2 57 hS0 ?_
        try simp only [Act.put, List.setIfInBounds_toArray, List.set_cons_zero, List.set_cons_succ]
        refine tkG 3 58 hS0 ?_
        try simp only [Act.put, List.setIfInBounds_toArray, List.set_cons_zero, List.set_cons_succ]
        refine tkG 4 59 hS0 ?_
        try simp only [Act.put, List.setIfInBounds_toArray, List.set_cons_zero, List.set_cons_succ]
        refine tkG 5 60 hS0 ?_
        try simp only [Act.put, List.setIfInBounds_toArray, List.set_cons_zero, List.set_cons_succ]
        refine tkG 6 61 hS0 ?_
        try simp only [Act.put, List.setIfInBounds_toArray, List.set_cons_zero, List.set_cons_succ]
        refine tkG 7 62 hS0 ?_
        try simp only [Act.put, List.setIfInBounds_toArray, List.set_cons_zero, List.set_cons_succ]
        refine tkG 8 63 hS0 ?_
        try simp only [Act.put, List.setIfInBounds_toArray, List.set_cons_zero, List.set_cons_succ]
        refine tkG 9 64 hS0 ?_
        try simp only [Act.put, List.setIfInBounds_toArray, List.set_cons_zero, List.set_cons_succ]
        refine tkG 10 65 hS0 ?_
        try simp only [Act.put, List.setIfInBounds_toArray, List.set_cons_zero, List.set_cons_succ]
        refine tkG 11 66 hS0 ?_
        try simp only [Act.put, List.setIfInBounds_toArray, List.set_cons_zero, List.set_cons_succ]
        refine tkS 12 67 hS0 ?_
        try simp only [Act.put, List.setIfInBounds_toArray, List.set_cons_zero, List.set_cons_succ]
        refine tkS 13 68 hS0 ?_
        try simp only [Act.put, List.setIfInBounds_toArray, List.set_cons_zero, List.set_cons_succ]
        refine tkS 14 69 hS0 ?_
        try simp only [Act.put, List.setIfInBounds_toArray, List.set_cons_zero, List.set_cons_succ]
        refine tkS 15 70 hS0 ?_
        try simp only [Act.put, List.setIfInBounds_toArray, List.set_cons_zero, List.set_cons_succ]
        refine tkS 16 71 hS0 ?_
        try simp only [Act.put, List.setIfInBounds_toArray, List.set_cons_zero, List.set_cons_succ]
        refine tkS 17 72 hS0 ?_
        try simp only [Act.put, List.setIfInBounds_toArray, List.set_cons_zero, List.set_cons_succ]
        refine tkS 18 73 hS0 ?_
        try simp only [Act.put, List.setIfInBounds_toArray, List.set_cons_zero, List.set_cons_succ]
        refine tkG 19 74 hS0 ?_
        try simp only [Act.put, List.setIfInBounds_toArray, List.set_cons_zero, List.set_cons_succ]
        refine tkG 20 75 hS0 ?_
        try simp only [Act.put, List.setIfInBounds_toArray, List.set_cons_zero, List.set_cons_succ]
        refine wpAnyH_done (by kernel_rfl) ?_ _
        refine NoPanic.normal ?_
        replace C0 := hS0
        replace b0 := c0
        clear hS0 c0
        go_wp2
        go_meet
        case rel => exact ⟨rfl, C0, b0⟩
    case rest =>
      clear C0 b0 hun
      obtain ⟨rfl, C0, b0⟩ := hcut
      by_cases h2 : x2 = -1
      · subst h2
        by_cases hy : pr x3 x4 = 0
        · have ey : (pr x3 x4 == 0) = true := beq_iff_eq.2 hy
          clear hy HPP
          go_wp2_with fail
          refine wp_region_noPanic ?_
          refine wp_region_held_drew (S := fun W => W.cell? ⟨q, 0, none⟩ = some (.int .i64 x1) ∧ W.cell? ⟨q, 1, none⟩ = some (.int .i64 (-1)) ∧ W.cell? ⟨q, 2, none⟩ = some (.int .i64 x3) ∧ W.cell? ⟨q, 3, none⟩ = some (.int .i64 x4)) (by kernel_rfl) C0 (fun hS0 => ?_)
          have c0 := b0.drew
          refine tkG 0 76 hS0 ?_
          try simp only [Act.put, List.setIfInBounds_toArray, List.set_cons_zero, List.set_cons_succ]
          refine tkG 1 77 hS0 ?_
          try simp only [Act.put, List.setIfInBounds_toArray, List.set_cons_zero, List.set_cons_succ]
          refine tkG 2 78 hS0 ?_
          try simp only [Act.put, List.setIfInBounds_toArray, List.set_cons_zero, List.set_cons_succ]
          refine tkG 3 79 hS0 ?_
          try simp only [Act.put, List.setIfInBounds_toArray, List.set_cons_zero, List.set_cons_succ]
          refine tkG 4 80 hS0 ?_
          try simp only [Act.put, List.setIfInBounds_toArray, List.set_cons_zero, List.set_cons_succ]
          refine tkG 5 81 hS0 ?_
          try simp only [Act.put, List.setIfInBounds_toArray, List.set_cons_zero, List.set_cons_succ]
          refine tkG 6 82 hS0 ?_
          try simp only [Act.put, List.setIfInBounds_toArray, List.set_cons_zero, List.set_cons_succ]
          refine tkG 7 83 hS0 ?_
          try simp only [Act.put, List.setIfInBounds_toArray, List.set_cons_zero, List.set_cons_succ]
          refine tkG 8 84 hS0 ?_
          try simp only [Act.put, List.setIfInBounds_toArray, List.set_cons_zero, List.set_cons_succ]
          refine tkG 9 85 hS0 ?_
          try simp only [Act.put, List.setIfInBounds_toArray, List.set_cons_zero, List.set_cons_succ]
          refine tkG 10 86 hS0 ?_
          try simp only [Act.put, List.setIfInBounds_toArray, List.set_cons_zero, List.set_cons_succ]
          refine wpAnyH_ready (rs := [11]) (by kernel_rfl) (by simp) ?_
          refine AllReadyH.cons rfl (fun K hK => ?_) AllReadyH.nil
          go_simp
          refine (implPr x3 x4 _ i3 i4 (ht.on c0)).mono ?_
          rintro e Wa ⟨rfl, hb⟩
          have ca := c0.trans (hb.mono c0.size)
          refine hK.out _ _ (four_below hS0 hb) (fun hSa => ?_)
          clear hK K
          try simp only [Act.put, List.setIfInBounds_toArray, List.set_cons_zero, List.set_cons_succ]
          clear hb
          refine tkG 12 88 hSa ?_
          try simp only [Act.put, List.setIfInBounds_toArray, List.set_cons_zero, List.set_cons_succ]
          refine tkG 13 89 hSa ?_
          try simp only [Act.put, List.setIfInBounds_toArray, List.set_cons_zero, List.set_cons_succ]
          refine tkG 14 90 hSa ?_
          try simp only [Act.put, List.setIfInBounds_toArray, List.set_cons_zero, List.set_cons_succ]
          refine tkS 15 91 hSa ?_
          try simp only [Act.put, List.setIfInBounds_toArray, List.set_cons_zero, List.set_cons_succ]
          refine tkS 16 92 hSa ?_
          try simp only [Act.put, List.setIfInBounds_toArray, List.set_cons_zero, List.set_cons_succ]
          refine tkS 17 93 hSa ?_
          try simp only [Act.put, List.setIfInBounds_toArray, List.set_cons_zero, List.set_cons_succ]
          refine tkS 18 94 hSa ?_
          try simp only [Act.put, List.setIfInBounds_toArray, List.set_cons_zero, List.set_cons_succ]
          refine tkS 19 95 hSa ?_
          try simp only [Act.put, List.setIfInBounds_toArray, List.set_cons_zero, List.set_cons_succ]
          refine tkS 20 96 hSa ?_
          try simp only [Act.put, List.setIfInBounds_toArray, List.set_cons_zero, List.set_cons_succ]
          refine tkS 21 97 hSa ?_
          try simp only [Act.put, List.setIfInBounds_toArray, List.set_cons_zero, List.set_cons_succ]
          refine tkS 22 98 hSa ?_
          try simp only [Act.put, List.setIfInBounds_toArray, List.set_cons_zero, List.set_cons_succ]
          refine tkS 23 99 hSa ?_
          try simp only [Act.put, List.setIfInBounds_toArray, List.set_cons_zero, List.set_cons_succ]
          refine tkS 24 100 hSa ?_
          try simp only [Act.put, List.setIfInBounds_toArray, List.set_cons_zero, List.set_cons_succ]
          refine tkS 25 101 hSa ?_
          try simp only [Act.put, List.setIfInBounds_toArray, List.set_cons_zero, List.set_cons_succ]
          refine tkS 26 102 hSa ?_
          try simp only [Act.put, List.setIfInBounds_toArray, List.set_cons_zero, List.set_cons_succ]
          refine tkS 27 103 hSa ?_
          try simp only [Act.put, List.setIfInBounds_toArray, List.set_cons_zero, List.set_cons_succ]
          refine tkS 28 104 hSa ?_
          try simp only [Act.put, List.setIfInBounds_toArray, List.set_cons_zero, List.set_cons_succ]
          refine tkG 29 105 hSa ?_
          try simp only [Act.put, List.setIfInBounds_toArray, List.set_cons_zero, List.set_cons_succ]
          refine tkG 30 12 hSa ?_
          try simp only [Act.put, List.setIfInBounds_toArray, List.set_cons_zero, List.set_cons_succ]
          refine wpAnyH_done (by kernel_rfl) ?_ _
          refine NoPanic.normal ?_
          replace C0 := hSa
          go_wp2_with fail
          refine wp_region_noPanic ?_
          refine wp_region_held_drew (S := fun W => W.cell? ⟨q, 0, none⟩ = some (.int .i64 x1) ∧ W.cell? ⟨q, 1, none⟩ = some (.int .i64 (-1)) ∧ W.cell? ⟨q, 2, none⟩ = some (.int .i64 x3) ∧ W.cell? ⟨q, 3, none⟩ = some (.int .i64 x4)) (by kernel_rfl) C0 (fun hT0 => ?_)
          have d0 := ca.drew
          refine tkG 0 106 hT0 ?_
          try simp only [Act.put, List.setIfInBounds_toArray, List.set_cons_zero, List.set_cons_succ]
          refine tkG 1 107 hT0 ?_
          try simp only [Act.put, List.setIfInBounds_toArray, List.set_cons_zero, List.set_cons_succ]
          refine tkS 2 108 hT0 ?_
          try simp only [Act.put, List.setIfInBounds_toArray, List.set_cons_zero, List.set_cons_succ]
          refine tkS 3 109 hT0 ?_
          try simp only [Act.put, List.setIfInBounds_toArray, List.set_cons_zero, List.set_cons_succ]
          refine tkS 4 110 hT0 ?_
          try simp only [Act.put, List.setIfInBounds_toArray, List.set_cons_zero, List.set_cons_succ]
          refine tkS 5 111 hT0 ?_
          try simp only [Act.put, List.setIfInBounds_toArray, List.set_cons_zero, List.set_cons_succ]
          refine tkS 6 112 hT0 ?_
          try simp only [Act.put, List.setIfInBounds_toArray, List.set_cons_zero, List.set_cons_succ]
          refine tkS 7 113 hT0 ?_
          try simp only [Act.put, List.setIfInBounds_toArray, List.set_cons_zero, List.set_cons_succ]
          refine tkS 8 114 hT0 ?_
          try simp only [Act.put, List.setIfInBounds_toArray, List.set_cons_zero, List.set_cons_succ]
          refine tkS 9 115 hT0 ?_
          try simp only [Act.put, List.setIfInBounds_toArray, List.set_cons_zero, List.set_cons_succ]
          refine tkS 10 116 hT0 ?_
          try simp only [Act.put, List.setIfInBounds_toArray, List.set_cons_zero, List.set_cons_succ]
          refine tkS 11 117 hT0 ?_
          try simp only [Act.put, List.setIfInBounds_toArray, List.set_cons_zero, List.set_cons_succ]
          refine tkS 12 118 hT0 ?_
          try simp only [Act.put, List.setIfInBounds_toArray, List.set_cons_zero, List.set_cons_succ]
          refine tkS 13 119 hT0 ?_
          try simp only [Act.put, List.setIfInBounds_toArray, List.set_cons_zero, List.set_cons_succ]
          refine tkS 14 120 hT0 ?_
          try simp only [Act.put, List.setIfInBounds_toArray, List.set_cons_zero, List.set_cons_succ]
          refine tkS 15 121 hT0 ?_
          try simp only [Act.put, List.setIfInBounds_toArray, List.set_cons_zero, List.set_cons_succ]
          refine tkS 16 122 hT0 ?_
          try simp only [Act.put, List.setIfInBounds_toArray, List.set_cons_zero, List.set_cons_succ]
          refine tkG 17 123 hT0 ?_
          try simp only [Act.put, List.setIfInBounds_toArray, List.set_cons_zero, List.set_cons_succ]
          refine tkG 18 2 hT0 ?_
          try simp only [Act.put, List.setIfInBounds_toArray, List.set_cons_zero, List.set_cons_succ]
          refine wpAnyH_done (by kernel_rfl) ?_ _
          refine NoPanic.normal ?_
          go_wp2
          go_ret
          exact ⟨rfl, d0⟩
        · have ey : (pr x3 x4 == 0) = false := beq_false_of_ne hy
          by_cases h4 : x4 = -1
          · subst h4
            by_cases hz : pr x1 (-1) = 0
            · have ez : (pr x1 (-1) == 0) = true := beq_iff_eq.2 hz
              clear hz HPP
              go_wp2_with fail
              refine wp_region_noPanic ?_
              refine wp_region_held_drew (S := fun W => W.cell? ⟨q, 0, none⟩ = some (.int .i64 x1) ∧ W.cell? ⟨q, 1, none⟩ = some (.int .i64 (-1)) ∧ W.cell? ⟨q, 2, none⟩ = some (.int .i64 x3) ∧ W.cell? ⟨q, 3, none⟩ = some (.int .i64 (-1))) (by kernel_rfl) C0 (fun hS0 => ?_)
              have c0 := b0.drew
              refine tkG 0 76 hS0 ?_
              try simp only [Act.put, List.setIfInBounds_toArray, List.set_cons_zero, List.set_cons_succ]
              refine tkG 1 77 hS0 ?_
              try simp only [Act.put, List.setIfInBounds_toArray, List.set_cons_zero, List.set_cons_succ]
              refine tkG 2 78 hS0 ?_
              try simp only [Act.put, List.setIfInBounds_toArray, List.set_cons_zero, List.set_cons_succ]
              refine tkG 3 79 hS0 ?_
              try simp only [Act.put, List.setIfInBounds_toArray, List.set_cons_zero, List.set_cons_succ]
              refine tkG 4 80 hS0 ?_
              try simp only [Act.put, List.setIfInBounds_toArray, List.set_cons_zero, List.set_cons_succ]
              refine tkG 5 81 hS0 ?_
              try simp only [Act.put, List.setIfInBounds_toArray, List.set_cons_zero, List.set_cons_succ]
              refine tkG 6 82 hS0 ?_
              try simp only [Act.put, List.setIfInBounds_toArray, List.set_cons_zero, List.set_cons_succ]
              refine tkG 7 83 hS0 ?_
              try simp only [Act.put, List.setIfInBounds_toArray, List.set_cons_zero, List.set_cons_succ]
              refine tkG 8 84 hS0 ?_
              try simp only [Act.put, List.setIfInBounds_toArray, List.set_cons_zero, List.set_cons_succ]
              refine tkG 9 85 hS0 ?_
              try simp only [Act.put, List.setIfInBounds_toArray, List.set_cons_zero, List.set_cons_succ]
              refine tkG 10 86 hS0 ?_
              try simp only [Act.put, List.setIfInBounds_toArray, List.set_cons_zero, List.set_cons_succ]
              refine wpAnyH_ready (rs := [11]) (by kernel_rfl) (by simp) ?_
              refine AllReadyH.cons rfl (fun K hK => ?_) AllReadyH.nil
              go_simp
              refine (implPr x3 (-1) _ i3 i4 (ht.on c0)).mono ?_
              rintro e Wa ⟨rfl, hb⟩
              have ca := c0.trans (hb.mono c0.size)
              refine hK.out _ _ (four_below hS0 hb) (fun hSa => ?_)
              clear hK K
              try simp only [Act.put, List.setIfInBounds_toArray, List.set_cons_zero, List.set_cons_succ]
              clear hb
              refine tkG 12 88 hSa ?_
              try simp only [Act.put, List.setIfInBounds_toArray, List.set_cons_zero, List.set_cons_succ]
              refine tkG 13 89 hSa ?_
              try simp only [Act.put, List.setIfInBounds_toArray, List.set_cons_zero, List.set_cons_succ]
              refine tkG 14 90 hSa ?_
              try simp only [Act.put, List.setIfInBounds_toArray, List.set_cons_zero, List.set_cons_succ]
              refine tkG 15 91 hSa ?_
              try simp only [Act.put, List.setIfInBounds_toArray, List.set_cons_zero, List.set_cons_succ]
              refine tkG 16 92 hSa ?_
              try simp only [Act.put, List.setIfInBounds_toArray, List.set_cons_zero, List.set_cons_succ]
              refine tkG 17 93 hSa ?_
              try simp only [Act.put, List.setIfInBounds_toArray, List.set_cons_zero, List.set_cons_succ]
              refine tkG 18 94 hSa ?_
              try simp only [Act.put, List.setIfInBounds_toArray, List.set_cons_zero, List.set_cons_succ]
              refine tkG 19 95 hSa ?_
              try simp only [Act.put, List.setIfInBounds_toArray, List.set_cons_zero, List.set_cons_succ]
              refine tkG 20 96 hSa ?_
              try simp only [Act.put, List.setIfInBounds_toArray, List.set_cons_zero, List.set_cons_succ]
              refine tkG 21 97 hSa ?_
              try simp only [Act.put, List.setIfInBounds_toArray, List.set_cons_zero, List.set_cons_succ]
              refine tkG 22 98 hSa ?_
              try simp only [Act.put, List.setIfInBounds_toArray, List.set_cons_zero, List.set_cons_succ]
              refine tkG 23 99 hSa ?_
              try simp only [Act.put, List.setIfInBounds_toArray, List.set_cons_zero, List.set_cons_succ]
              refine tkG 24 100 hSa ?_
              try simp only [Act.put, List.setIfInBounds_toArray, List.set_cons_zero, List.set_cons_succ]
              refine tkG 25 101 hSa ?_
              try simp only [Act.put, List.setIfInBounds_toArray, List.set_cons_zero, List.set_cons_succ]
              refine wpAnyH_ready (rs := [26]) (by kernel_rfl) (by simp) ?_
              refine AllReadyH.cons rfl (fun K hK => ?_) AllReadyH.nil
              go_simp
              refine (implPr x1 (-1) _ i1 i2 (ht.on ca)).mono ?_
              rintro e Wb ⟨rfl, hb⟩
              have cb := ca.trans (hb.mono ca.size)
              refine hK.out _ _ (four_below hSa hb) (fun hSb => ?_)
              clear hK K
              try simp only [Act.put, List.setIfInBounds_toArray, List.set_cons_zero, List.set_cons_succ]
              clear hb
              refine tkG 27 103 hSb ?_
              try simp only [Act.put, List.setIfInBounds_toArray, List.set_cons_zero, List.set_cons_succ]
              refine tkG 28 104 hSb ?_
              try simp only [Act.put, List.setIfInBounds_toArray, List.set_cons_zero, List.set_cons_succ]
              refine tkG 29 105 hSb ?_
              try simp only [Act.put, List.setIfInBounds_toArray, List.set_cons_zero, List.set_cons_succ]
              refine tkG 30 12 hSb ?_
              try simp only [Act.put, List.setIfInBounds_toArray, List.set_cons_zero, List.set_cons_succ]
              refine wpAnyH_done (by kernel_rfl) ?_ _
              refine NoPanic.normal ?_
              replace C0 := hSb
              go_wp2_with fail
              refine wp_region_noPanic ?_
              refine wp_region_held_drew (S := fun W => W.cell? ⟨q, 0, none⟩ = some (.int .i64 x1) ∧ W.cell? ⟨q, 1, none⟩ = some (.int .i64 (-1)) ∧ W.cell? ⟨q, 2, none⟩ = some (.int .i64 x3) ∧ W.cell? ⟨q, 3, none⟩ = some (.int .i64 (-1))) (by kernel_rfl) C0 (fun hT0 => ?_)
              have d0 := cb.drew
              refine tkG 0 106 hT0 ?_
              try simp only [Act.put, List.setIfInBounds_toArray, List.set_cons_zero, List.set_cons_succ]
              refine tkG 1 107 hT0 ?_
              try simp only [Act.put, List.setIfInBounds_toArray, List.set_cons_zero, List.set_cons_succ]
              refine tkS 2 108 hT0 ?_
              try simp only [Act.put, List.setIfInBounds_toArray, List.set_cons_zero, List.set_cons_succ]
              refine tkS 3 109 hT0 ?_
              try simp only [Act.put, List.setIfInBounds_toArray, List.set_cons_zero, List.set_cons_succ]
              refine tkS 4 110 hT0 ?_
              try simp only [Act.put, List.setIfInBounds_toArray, List.set_cons_zero, List.set_cons_succ]
              refine tkS 5 111 hT0 ?_
              try simp only [Act.put, List.setIfInBounds_toArray, List.set_cons_zero, List.set_cons_succ]
              refine tkS 6 112 hT0 ?_
              try simp only [Act.put, List.setIfInBounds_toArray, List.set_cons_zero, List.set_cons_succ]
              refine tkS 7 113 hT0 ?_
              try simp only [Act.put, List.setIfInBounds_toArray, List.set_cons_zero, List.set_cons_succ]
              refine tkS 8 114 hT0 ?_
              try simp only [Act.put, List.setIfInBounds_toArray, List.set_cons_zero, List.set_cons_succ]
              refine tkS 9 115 hT0 ?_
              try simp only [Act.put, List.setIfInBounds_toArray, List.set_cons_zero, List.set_cons_succ]
              refine tkS 10 116 hT0 ?_
              try simp only [Act.put, List.setIfInBounds_toArray, List.set_cons_zero, List.set_cons_succ]
              refine tkS 11 117 hT0 ?_
              try simp only [Act.put, List.setIfInBounds_toArray, List.set_cons_zero, List.set_cons_succ]
              refine tkS 12 118 hT0 ?_
              try simp only [Act.put, List.setIfInBounds_toArray, List.set_cons_zero, List.set_cons_succ]
              refine tkS 13 119 hT0 ?_
              try simp only [Act.put, List.setIfInBounds_toArray, List.set_cons_zero, List.set_cons_succ]
              refine tkS 14 120 hT0 ?_
              try simp only [Act.put, List.setIfInBounds_toArray, List.set_cons_zero, List.set_cons_succ]
              refine tkS 15 121 hT0 ?_
              try simp only [Act.put, List.setIfInBounds_toArray, List.set_cons_zero, List.set_cons_succ]
              refine tkS 16 122 hT0 ?_
              try simp only [Act.put, List.setIfInBounds_toArray, List.set_cons_zero, List.set_cons_succ]
              refine tkG 17 123 hT0 ?_
              try simp only [Act.put, List.setIfInBounds_toArray, List.set_cons_zero, List.set_cons_succ]
              refine tkG 18 2 hT0 ?_
              try simp only [Act.put, List.setIfInBounds_toArray, List.set_cons_zero, List.set_cons_succ]
              refine wpAnyH_done (by kernel_rfl) ?_ _
              refine NoPanic.normal ?_
              go_wp2
              go_ret
              exact ⟨rfl, d0⟩
            · have ez : (pr x1 (-1) == 0) = false := beq_false_of_ne hz
              have hpp : (pr x1 (-1) == pr x3 (-1)) = true := HPP.out (fun _ => hy) (fun _ => hz)
              clear hz HPP
              go_wp2_with fail
              refine wp_region_noPanic ?_
              refine wp_region_held_drew (S := fun W => W.cell? ⟨q, 0, none⟩ = some (.int .i64 x1) ∧ W.cell? ⟨q, 1, none⟩ = some (.int .i64 (-1)) ∧ W.cell? ⟨q, 2, none⟩ = some (.int .i64 x3) ∧ W.cell? ⟨q, 3, none⟩ = some (.int .i64 (-1))) (by kernel_rfl) C0 (fun hS0 => ?_)
              have c0 := b0.drew
              refine tkG 0 76 hS0 ?_
              try simp only [Act.put, List.setIfInBounds_toArray, List.set_cons_zero, List.set_cons_succ]
              refine tkG 1 77 hS0 ?_
              try simp only [Act.put, List.setIfInBounds_toArray, List.set_cons_zero, List.set_cons_succ]
              refine tkG 2 78 hS0 ?_
              try simp only [Act.put, List.setIfInBounds_toArray, List.set_cons_zero, List.set_cons_succ]
              refine tkG 3 79 hS0 ?_
              try simp only [Act.put, List.setIfInBounds_toArray, List.set_cons_zero, List.set_cons_succ]
              refine tkG 4 80 hS0 ?_
              try simp only [Act.put, List.setIfInBounds_toArray, List.set_cons_zero, List.set_cons_succ]
              refine tkG 5 81 hS0 ?_
              try simp only [Act.put, List.setIfInBounds_toArray, List.set_cons_zero, List.set_cons_succ]
              refine tkG 6 82 hS0 ?_
              try simp only [Act.put, List.setIfInBounds_toArray, List.set_cons_zero, List.set_cons_succ]
              refine tkG 7 83 hS0 ?_
              try simp only [Act.put, List.setIfInBounds_toArray, List.set_cons_zero, List.set_cons_succ]
              refine tkG 8 84 hS0 ?_
              try simp only [Act.put, List.setIfInBounds_toArray, List.set_cons_zero, List.set_cons_succ]
              refine tkG 9 85 hS0 ?_
              try simp only [Act.put, List.setIfInBounds_toArray, List.set_cons_zero, List.set_cons_succ]
              refine tkG 10 86 hS0 ?_
              try simp only [Act.put, List.setIfInBounds_toArray, List.set_cons_zero, List.set_cons_succ]
              refine wpAnyH_ready (rs := [11]) (by kernel_rfl) (by simp) ?_
              refine AllReadyH.cons rfl (fun K hK => ?_) AllReadyH.nil
              go_simp
              refine (implPr x3 (-1) _ i3 i4 (ht.on c0)).mono ?_
              rintro e Wa ⟨rfl, hb⟩
              have ca := c0.trans (hb.mono c0.size)
              refine hK.out _ _ (four_below hS0 hb) (fun hSa => ?_)
              clear hK K
              try simp only [Act.put, List.setIfInBounds_toArray, List.set_cons_zero, List.set_cons_succ]
              clear hb
              refine tkG 12 88 hSa ?_
              try simp only [Act.put, List.setIfInBounds_toArray, List.set_cons_zero, List.set_cons_succ]
              refine tkG 13 89 hSa ?_
              try simp only [Act.put, List.setIfInBounds_toArray, List.set_cons_zero, List.set_cons_succ]
              refine tkG 14 90 hSa ?_
              try simp only [Act.put, List.setIfInBounds_toArray, List.set_cons_zero, List.set_cons_succ]
              refine tkG 15 91 hSa ?_
              try simp only [Act.put, List.setIfInBounds_toArray, List.set_cons_zero, List.set_cons_succ]
              refine tkG 16 92 hSa ?_
              try simp only [Act.put, List.setIfInBounds_toArray, List.set_cons_zero, List.set_cons_succ]
              refine tkG 17 93 hSa ?_
              try simp only [Act.put, List.setIfInBounds_toArray, List.set_cons_zero, List.set_cons_succ]
              refine tkG 18 94 hSa ?_
              try simp only [Act.put, List.setIfInBounds_toArray, List.set_cons_zero, List.set_cons_succ]
              refine tkG 19 95 hSa ?_
              try simp only [Act.put, List.setIfInBounds_toArray, List.set_cons_zero, List.set_cons_succ]
              refine tkG 20 96 hSa ?_
              try simp only [Act.put, List.setIfInBounds_toArray, List.set_cons_zero, List.set_cons_succ]
              refine tkG 21 97 hSa ?_
              try simp only [Act.put, List.setIfInBounds_toArray, List.set_cons_zero, List.set_cons_succ]
              refine tkG 22 98 hSa ?_
              try simp only [Act.put, List.setIfInBounds_toArray, List.set_cons_zero, List.set_cons_succ]
              refine tkG 23 99 hSa ?_
              try simp only [Act.put, List.setIfInBounds_toArray, List.set_cons_zero, List.set_cons_succ]
              refine tkG 24 100 hSa ?_
              try simp only [Act.put, List.setIfInBounds_toArray, List.set_cons_zero, List.set_cons_succ]
              refine tkG 25 101 hSa ?_
              try simp only [Act.put, List.setIfInBounds_toArray, List.set_cons_zero, List.set_cons_succ]
              refine wpAnyH_ready (rs := [26]) (by kernel_rfl) (by simp) ?_
              refine AllReadyH.cons rfl (fun K hK => ?_) AllReadyH.nil
              go_simp
              refine (implPr x1 (-1) _ i1 i2 (ht.on ca)).mono ?_
              rintro e Wb ⟨rfl, hb⟩
              have cb := ca.trans (hb.mono ca.size)
              refine hK.out _ _ (four_below hSa hb) (fun hSb => ?_)
              clear hK K
              try simp only [Act.put, List.setIfInBounds_toArray, List.set_cons_zero, List.set_cons_succ]
              clear hb
              refine tkG 27 103 hSb ?_
              try simp only [Act.put, List.setIfInBounds_toArray, List.set_cons_zero, List.set_cons_succ]
              refine tkG 28 104 hSb ?_
              try simp only [Act.put, List.setIfInBounds_toArray, List.set_cons_zero, List.set_cons_succ]
              refine tkG 29 105 hSb ?_
              try simp only [Act.put, List.setIfInBounds_toArray, List.set_cons_zero, List.set_cons_succ]
              refine tkG 30 12 hSb ?_
              try simp only [Act.put, List.setIfInBounds_toArray, List.set_cons_zero, List.set_cons_succ]
              refine wpAnyH_done (by kernel_rfl) ?_ _
              refine NoPanic.normal ?_
              replace C0 := hSb
              go_wp2_with fail
              refine wp_region_noPanic ?_
              refine wp_region_held_drew (S := fun W => W.cell? ⟨q, 0, none⟩ = some (.int .i64 x1) ∧ W.cell? ⟨q, 1, none⟩ = some (.int .i64 (-1)) ∧ W.cell? ⟨q, 2, none⟩ = some (.int .i64 x3) ∧ W.cell? ⟨q, 3, none⟩ = some (.int .i64 (-1))) (by kernel_rfl) C0 (fun hT0 => ?_)
              have d0 := cb.drew
              refine tkG 0 106 hT0 ?_
              try simp only [Act.put, List.setIfInBounds_toArray, List.set_cons_zero, List.set_cons_succ]
              refine tkG 1 107 hT0 ?_
              try simp only [Act.put, List.setIfInBounds_toArray, List.set_cons_zero, List.set_cons_succ]
              refine tkG 2 108 hT0 ?_
              try simp only [Act.put, List.setIfInBounds_toArray, List.set_cons_zero, List.set_cons_succ]
              refine tkG 3 109 hT0 ?_
              try simp only [Act.put, List.setIfInBounds_toArray, List.set_cons_zero, List.set_cons_succ]
              refine tkG 4 110 hT0 ?_
              try simp only [Act.put, List.setIfInBounds_toArray, List.set_cons_zero, List.set_cons_succ]
              refine tkG 5 111 hT0 ?_
              try simp only [Act.put, List.setIfInBounds_toArray, List.set_cons_zero, List.set_cons_succ]
              refine tkG 6 112 hT0 ?_
              try simp only [Act.put, List.setIfInBounds_toArray, List.set_cons_zero, List.set_cons_succ]
              refine tkG 7 113 hT0 ?_
              try simp only [Act.put, List.setIfInBounds_toArray, List.set_cons_zero, List.set_cons_succ]
              refine tkG 9 115 hT0 ?_
              try simp only [Act.put, List.setIfInBounds_toArray, List.set_cons_zero, List.set_cons_succ]
              refine tkG 10 116 hT0 ?_
              try simp only [Act.put, List.setIfInBounds_toArray, List.set_cons_zero, List.set_cons_succ]
              refine tkG 11 117 hT0 ?_
              try simp only [Act.put, List.setIfInBounds_toArray, List.set_cons_zero, List.set_cons_succ]
              refine tkG 12 118 hT0 ?_
              try simp only [Act.put, List.setIfInBounds_toArray, List.set_cons_zero, List.set_cons_succ]
              refine tkG 13 119 hT0 ?_
              try simp only [Act.put, List.setIfInBounds_toArray, List.set_cons_zero, List.set_cons_succ]
              refine tkG 14 120 hT0 ?_
              try simp only [Act.put, List.setIfInBounds_toArray, List.set_cons_zero, List.set_cons_succ]
              refine wpAnyH_ready (rs := [8]) (by kernel_rfl) (by simp) ?_
              refine AllReadyH.cons rfl (fun K hK => ?_) AllReadyH.nil
              go_simp
              refine (implPr x1 (-1) _ i1 i2 (ht.on d0)).mono ?_
              rintro e Wc ⟨rfl, hb⟩
              have da := d0.trans (hb.mono d0.size)
              refine hK.out _ _ (four_below hT0 hb) (fun hTa => ?_)
              clear hK K
              try simp only [Act.put, List.setIfInBounds_toArray, List.set_cons_zero, List.set_cons_succ]
              clear hb
              refine wpAnyH_ready (rs := [15]) (by kernel_rfl) (by simp) ?_
              refine AllReadyH.cons rfl (fun K hK => ?_) AllReadyH.nil
              go_simp
              refine (implPr x3 (-1) _ i3 i4 (ht.on da)).mono ?_
              rintro e Wd ⟨rfl, hb⟩
              have db := da.trans (hb.mono da.size)
              refine hK.out _ _ (four_below hTa hb) (fun hTb => ?_)
              clear hK K
              try simp only [Act.put, List.setIfInBounds_toArray, List.set_cons_zero, List.set_cons_succ]
              clear hb
              refine tkG 16 122 hTb ?_
              try simp only [Act.put, List.setIfInBounds_toArray, List.set_cons_zero, List.set_cons_succ]
              refine tkG 17 123 hTb ?_
              try simp only [Act.put, List.setIfInBounds_toArray, List.set_cons_zero, List.set_cons_succ]
              refine tkG 18 2 hTb ?_
              try simp only [Act.put, List.setIfInBounds_toArray, List.set_cons_zero, List.set_cons_succ]
              refine wpAnyH_done (by kernel_rfl) ?_ _
              refine NoPanic.normal ?_
              go_wp2
              go_ret
              exact ⟨rfl, db⟩
          · have e4 : (x4 == -1) = false := beq_false_of_ne h4
            have hpp : (pr x1 (-1) == pr x3 x4) = true := HPP.out (fun _ => hy) (fun h => absurd h h4)
            clear h4 HPP
            go_wp2_with fail
            refine wp_region_noPanic ?_
            refine wp_region_held_drew (S := fun W => W.cell? ⟨q, 0, none⟩ = some (.int .i64 x1) ∧ W.cell? ⟨q, 1, none⟩ = some (.int .i64 (-1)) ∧ W.cell? ⟨q, 2, none⟩ = some (.int .i64 x3) ∧ W.cell? ⟨q, 3, none⟩ = some (.int .i64 x4)) (by kernel_rfl) C0 (fun hS0 => ?_)
            have c0 := b0.drew
            refine tkG 0 76 hS0 ?_
            try simp only [Act.put, List.setIfInBounds_toArray, List.set_cons_zero, List.set_cons_succ]
            refine tkG 1 77 hS0 ?_
            try simp only [Act.put, List.setIfInBounds_toArray, List.set_cons_zero, List.set_cons_succ]
            refine tkG 2 78 hS0 ?_
            try simp only [Act.put, List.setIfInBounds_toArray, List.set_cons_zero, List.set_cons_succ]
            refine tkG 3 79 hS0 ?_
            try simp only [Act.put, List.setIfInBounds_toArray, List.set_cons_zero, List.set_cons_succ]
            refine tkG 4 80 hS0 ?_
            try simp only [Act.put, List.setIfInBounds_toArray, List.set_cons_zero, List.set_cons_succ]
            refine tkG 5 81 hS0 ?_
            try simp only [Act.put, List.setIfInBounds_toArray, List.set_cons_zero, List.set_cons_succ]
            refine tkG 6 82 hS0 ?_
            try simp only [Act.put, List.setIfInBounds_toArray, List.set_cons_zero, List.set_cons_succ]
            refine tkG 7 83 hS0 ?_
            try simp only [Act.put, List.setIfInBounds_toArray, List.set_cons_zero, List.set_cons_succ]
            refine tkG 8 84 hS0 ?_
            try simp only [Act.put, List.setIfInBounds_toArray, List.set_cons_zero, List.set_cons_succ]
            refine tkG 9 85 hS0 ?_
            try simp only [Act.put, List.setIfInBounds_toArray, List.set_cons_zero, List.set_cons_succ]
            refine tkG 10 86 hS0 ?_
            try simp only [Act.put, List.setIfInBounds_toArray, List.set_cons_zero, List.set_cons_succ]
            refine wpAnyH_ready (rs := [11]) (by kernel_rfl) (by simp) ?_
            refine AllReadyH.cons rfl (fun K hK => ?_) AllReadyH.nil
            go_simp
            refine (implPr x3 x4 _ i3 i4 (ht.on c0)).mono ?_
            rintro e Wa ⟨rfl, hb⟩
            have ca := c0.trans (hb.mono c0.size)
            refine hK.out _ _ (four_below hS0 hb) (fun hSa => ?_)
            clear hK K
            try simp only [Act.put, List.setIfInBounds_toArray, List.set_cons_zero, List.set_cons_succ]
            clear hb
            refine tkG 12 88 hSa ?_
            try simp only [Act.put, List.setIfInBounds_toArray, List.set_cons_zero, List.set_cons_succ]
            refine tkG 13 89 hSa ?_
            try simp only [Act.put, List.setIfInBounds_toArray, List.set_cons_zero, List.set_cons_succ]
            refine tkG 14 90 hSa ?_
            try simp only [Act.put, List.setIfInBounds_toArray, List.set_cons_zero, List.set_cons_succ]
            refine tkG 15 91 hSa ?_
            try simp only [Act.put, List.setIfInBounds_toArray, List.set_cons_zero, List.set_cons_succ]
            refine tkG 16 92 hSa ?_
            try simp only [Act.put, List.setIfInBounds_toArray, List.set_cons_zero, List.set_cons_succ]
            refine tkG 17 93 hSa ?_
            try simp only [Act.put, List.setIfInBounds_toArray, List.set_cons_zero, List.set_cons_succ]
            refine tkG 18 94 hSa ?_
            try simp only [Act.put, List.setIfInBounds_toArray, List.set_cons_zero, List.set_cons_succ]
            refine tkG 19 95 hSa ?_
            try simp only [Act.put, List.setIfInBounds_toArray, List.set_cons_zero, List.set_cons_succ]
            refine tkS 20 96 hSa ?_
            try simp only [Act.put, List.setIfInBounds_toArray, List.set_cons_zero, List.set_cons_succ]
            refine tkS 21 97 hSa ?_
            try simp only [Act.put, List.setIfInBounds_toArray, List.set_cons_zero, List.set_cons_succ]
            refine tkS 22 98 hSa ?_
            try simp only [Act.put, List.setIfInBounds_toArray, List.set_cons_zero, List.set_cons_succ]
            refine tkS 23 99 hSa ?_
            try simp only [Act.put, List.setIfInBounds_toArray, List.set_cons_zero, List.set_cons_succ]
            refine tkS 24 100 hSa ?_
            try simp only [Act.put, List.setIfInBounds_toArray, List.set_cons_zero, List.set_cons_succ]
            refine tkS 25 101 hSa ?_
            try simp only [Act.put, List.setIfInBounds_toArray, List.set_cons_zero, List.set_cons_succ]
            refine tkS 26 102 hSa ?_
            try simp only [Act.put, List.setIfInBounds_toArray, List.set_cons_zero, List.set_cons_succ]
            refine tkS 27 103 hSa ?_
            try simp only [Act.put, List.setIfInBounds_toArray, List.set_cons_zero, List.set_cons_succ]
            refine tkG 28 104 hSa ?_
            try simp only [Act.put, List.setIfInBounds_toArray, List.set_cons_zero, List.set_cons_succ]
            refine tkG 29 105 hSa ?_
            try simp only [Act.put, List.setIfInBounds_toArray, List.set_cons_zero, List.set_cons_succ]
            refine tkG 30 12 hSa ?_
            try simp only [Act.put, List.setIfInBounds_toArray, List.set_cons_zero, List.set_cons_succ]
            refine wpAnyH_done (by kernel_rfl) ?_ _
            refine NoPanic.normal ?_
            replace C0 := hSa
            go_wp2_with fail
            refine wp_region_noPanic ?_
            refine wp_region_held_drew (S := fun W => W.cell? ⟨q, 0, none⟩ = some (.int .i64 x1) ∧ W.cell? ⟨q, 1, none⟩ = some (.int .i64 (-1)) ∧ W.cell? ⟨q, 2, none⟩ = some (.int .i64 x3) ∧ W.cell? ⟨q, 3, none⟩ = some (.int .i64 x4)) (by kernel_rfl) C0 (fun hT0 => ?_)
            have d0 := ca.drew
            refine tkG 0 106 hT0 ?_
            try simp only [Act.put, List.setIfInBounds_toArray, List.set_cons_zero, List.set_cons_succ]
            refine tkG 1 107 hT0 ?_
            try simp only [Act.put, List.setIfInBounds_toArray, List.set_cons_zero, List.set_cons_succ]
            refine tkG 2 108 hT0 ?_
            try simp only [Act.put, List.setIfInBounds_toArray, List.set_cons_zero, List.set_cons_succ]
            refine tkG 3 109 hT0 ?_
            try simp only [Act.put, List.setIfInBounds_toArray, List.set_cons_zero, List.set_cons_succ]
            refine tkG 4 110 hT0 ?_
            try simp only [Act.put, List.setIfInBounds_toArray, List.set_cons_zero, List.set_cons_succ]
            refine tkG 5 111 hT0 ?_
            try simp only [Act.put, List.setIfInBounds_toArray, List.set_cons_zero, List.set_cons_succ]
            refine tkG 6 112 hT0 ?_
            try simp only [Act.put, List.setIfInBounds_toArray, List.set_cons_zero, List.set_cons_succ]
            refine tkG 7 113 hT0 ?_
            try simp only [Act.put, List.setIfInBounds_toArray, List.set_cons_zero, List.set_cons_succ]
            refine tkG 9 115 hT0 ?_
            try simp only [Act.put, List.setIfInBounds_toArray, List.set_cons_zero, List.set_cons_succ]
            refine tkG 10 116 hT0 ?_
            try simp only [Act.put, List.setIfInBounds_toArray, List.set_cons_zero, List.set_cons_succ]
            refine tkG 11 117 hT0 ?_
            try simp only [Act.put, List.setIfInBounds_toArray, List.set_cons_zero, List.set_cons_succ]
            refine tkG 12 118 hT0 ?_
            try simp only [Act.put, List.setIfInBounds_toArray, List.set_cons_zero, List.set_cons_succ]
            refine tkG 13 119 hT0 ?_
            try simp only [Act.put, List.setIfInBounds_toArray, List.set_cons_zero, List.set_cons_succ]
            refine tkG 14 120 hT0 ?_
            try simp only [Act.put, List.setIfInBounds_toArray, List.set_cons_zero, List.set_cons_succ]
            refine wpAnyH_ready (rs := [8]) (by kernel_rfl) (by simp) ?_
            refine AllReadyH.cons rfl (fun K hK => ?_) AllReadyH.nil
            go_simp
            refine (implPr x1 (-1) _ i1 i2 (ht.on d0)).mono ?_
            rintro e Wc ⟨rfl, hb⟩
            have da := d0.trans (hb.mono d0.size)
            refine hK.out _ _ (four_below hT0 hb) (fun hTa => ?_)
            clear hK K
            try simp only [Act.put, List.setIfInBounds_toArray, List.set_cons_zero, List.set_cons_succ]
            clear hb
            refine wpAnyH_ready (rs := [15]) (by kernel_rfl) (by simp) ?_
            refine AllReadyH.cons rfl (fun K hK => ?_) AllReadyH.nil
            go_simp
            refine (implPr x3 x4 _ i3 i4 (ht.on da)).mono ?_
            rintro e Wd ⟨rfl, hb⟩
            have db := da.trans (hb.mono da.size)
            refine hK.out _ _ (four_below hTa hb) (fun hTb => ?_)
            clear hK K
            try simp only [Act.put, List.setIfInBounds_toArray, List.set_cons_zero, List.set_cons_succ]
            clear hb
            refine tkG 16 122 hTb ?_
            try simp only [Act.put, List.setIfInBounds_toArray, List.set_cons_zero, List.set_cons_succ]
            refine tkG 17 123 hTb ?_
            try simp only [Act.put, List.setIfInBounds_toArray, List.set_cons_zero, List.set_cons_succ]
            refine tkG 18 2 hTb ?_
            try simp only [Act.put, List.setIfInBounds_toArray, List.set_cons_zero, List.set_cons_succ]
            refine wpAnyH_done (by kernel_rfl) ?_ _
            refine NoPanic.normal ?_
            go_wp2
            go_ret
            exact ⟨rfl, db⟩
      · have e2 : (x2 == -1) = false := beq_false_of_ne h2
        by_cases h4 : x4 = -1
        · subst h4
          by_cases hz : pr x1 x2 = 0
          · have ez : (pr x1 x2 == 0) = true := beq_iff_eq.2 hz
            clear hz HPP
            go_wp2_with fail
            refine wp_region_noPanic ?_
            refine wp_region_held_drew (S := fun W => W.cell? ⟨q, 0, none⟩ = some (.int .i64 x1) ∧ W.cell? ⟨q, 1, none⟩ = some (.int .i64 x2) ∧ W.cell? ⟨q, 2, none⟩ = some (.int .i64 x3) ∧ W.cell? ⟨q, 3, none⟩ = some (.int .i64 (-1))) (by kernel_rfl) C0 (fun hS0 => ?_)
            have c0 := b0.drew
            refine tkG 0 76 hS0 ?_
            try simp only [Act.put, List.setIfInBounds_toArray, List.set_cons_zero, List.set_cons_succ]
            refine tkG 1 77 hS0 ?_
            try simp only [Act.put, List.setIfInBounds_toArray, List.set_cons_zero, List.set_cons_succ]
            refine tkG 2 78 hS0 ?_
            try simp only [Act.put, List.setIfInBounds_toArray, List.set_cons_zero, List.set_cons_succ]
            refine tkG 3 79 hS0 ?_
            try simp only [Act.put, List.setIfInBounds_toArray, List.set_cons_zero, List.set_cons_succ]
            refine tkG 4 80 hS0 ?_
            try simp only [Act.put, List.setIfInBounds_toArray, List.set_cons_zero, List.set_cons_succ]
            refine tkS 5 81 hS0 ?_
            try simp only [Act.put, List.setIfInBounds_toArray, List.set_cons_zero, List.set_cons_succ]
            refine tkS 6 82 hS0 ?_
            try simp only [Act.put, List.setIfInBounds_toArray, List.set_cons_zero, List.set_cons_succ]
            refine tkS 7 83 hS0 ?_
            try simp only [Act.put, List.setIfInBounds_toArray, List.set_cons_zero, List.set_cons_succ]
            refine tkS 8 84 hS0 ?_
            try simp only [Act.put, List.setIfInBounds_toArray, List.set_cons_zero, List.set_cons_succ]
            refine tkS 9 85 hS0 ?_
            try simp only [Act.put, List.setIfInBounds_toArray, List.set_cons_zero, List.set_cons_succ]
            refine tkS 10 86 hS0 ?_
            try simp only [Act.put, List.setIfInBounds_toArray, List.set_cons_zero, List.set_cons_succ]
            refine tkS 11 87 hS0 ?_
            try simp only [Act.put, List.setIfInBounds_toArray, List.set_cons_zero, List.set_cons_succ]
            refine tkS 12 88 hS0 ?_
            try simp only [Act.put, List.setIfInBounds_toArray, List.set_cons_zero, List.set_cons_succ]
            refine tkG 13 89 hS0 ?_
            try simp only [Act.put, List.setIfInBounds_toArray, List.set_cons_zero, List.set_cons_succ]
            refine tkG 14 90 hS0 ?_
            try simp only [Act.put, List.setIfInBounds_toArray, List.set_cons_zero, List.set_cons_succ]
            refine tkG 15 91 hS0 ?_
            try simp only [Act.put, List.setIfInBounds_toArray, List.set_cons_zero, List.set_cons_succ]
            refine tkG 16 92 hS0 ?_
            try simp only [Act.put, List.setIfInBounds_toArray, List.set_cons_zero, List.set_cons_succ]
            refine tkG 17 93 hS0 ?_
            try simp only [Act.put, List.setIfInBounds_toArray, List.set_cons_zero, List.set_cons_succ]
            refine tkG 18 94 hS0 ?_
            try simp only [Act.put, List.setIfInBounds_toArray, List.set_cons_zero, List.set_cons_succ]
            refine tkG 19 95 hS0 ?_
            try simp only [Act.put, List.setIfInBounds_toArray, List.set_cons_zero, List.set_cons_succ]
            refine tkG 20 96 hS0 ?_
            try simp only [Act.put, List.setIfInBounds_toArray, List.set_cons_zero, List.set_cons_succ]
            refine tkG 21 97 hS0 ?_
            try simp only [Act.put, List.setIfInBounds_toArray, List.set_cons_zero, List.set_cons_succ]
            refine tkG 22 98 hS0 ?_
            try simp only [Act.put, List.setIfInBounds_toArray, List.set_cons_zero, List.set_cons_succ]
            refine tkG 23 99 hS0 ?_
            try simp only [Act.put, List.setIfInBounds_toArray, List.set_cons_zero, List.set_cons_succ]
            refine tkG 24 100 hS0 ?_
            try simp only [Act.put, List.setIfInBounds_toArray, List.set_cons_zero, List.set_cons_succ]
            refine tkG 25 101 hS0 ?_
            try simp only [Act.put, List.setIfInBounds_toArray, List.set_cons_zero, List.set_cons_succ]
            refine wpAnyH_ready (rs := [26]) (by kernel_rfl) (by simp) ?_
            refine AllReadyH.cons rfl (fun K hK => ?_) AllReadyH.nil
            go_simp
            refine (implPr x1 x2 _ i1 i2 (ht.on c0)).mono ?_
            rintro e Wb ⟨rfl, hb⟩
            have cb := c0.trans (hb.mono c0.size)
            refine hK.out _ _ (four_below hS0 hb) (fun hSb => ?_)
            clear hK K
            try simp only [Act.put, List.setIfInBounds_toArray, List.set_cons_zero, List.set_cons_succ]
            clear hb
            refine tkG 27 103 hSb ?_
            try simp only [Act.put, List.setIfInBounds_toArray, List.set_cons_zero, List.set_cons_succ]
            refine tkG 28 104 hSb ?_
            try simp only [Act.put, List.setIfInBounds_toArray, List.set_cons_zero, List.set_cons_succ]
            refine tkG 29 105 hSb ?_
            try simp only [Act.put, List.setIfInBounds_toArray, List.set_cons_zero, List.set_cons_succ]
            refine tkG 30 12 hSb ?_
            try simp only [Act.put, List.setIfInBounds_toArray, List.set_cons_zero, List.set_cons_succ]
            refine wpAnyH_done (by kernel_rfl) ?_ _
            refine NoPanic.normal ?_
            replace C0 := hSb
            go_wp2_with fail
            refine wp_region_noPanic ?_
            refine wp_region_held_drew (S := fun W => W.cell? ⟨q, 0, none⟩ = some (.int .i64 x1) ∧ W.cell? ⟨q, 1, none⟩ = some (.int .i64 x2) ∧ W.cell? ⟨q, 2, none⟩ = some (.int .i64 x3) ∧ W.cell? ⟨q, 3, none⟩ = some (.int .i64 (-1))) (by kernel_rfl) C0 (fun hT0 => ?_)
            have d0 := cb.drew
            refine tkG 0 106 hT0 ?_
            try simp only [Act.put, List.setIfInBounds_toArray, List.set_cons_zero, List.set_cons_succ]
            refine tkG 1 107 hT0 ?_
            try simp only [Act.put, List.setIfInBounds_toArray, List.set_cons_zero, List.set_cons_succ]
            refine tkS 2 108 hT0 ?_
            try simp only [Act.put, List.setIfInBounds_toArray, List.set_cons_zero, List.set_cons_succ]
            refine tkS 3 109 hT0 ?_
            try simp only [Act.put, List.setIfInBounds_toArray, List.set_cons_zero, List.set_cons_succ]
            refine tkS 4 110 hT0 ?_
            try simp only [Act.put, List.setIfInBounds_toArray, List.set_cons_zero, List.set_cons_succ]
            refine tkS 5 111 hT0 ?_
            try simp only [Act.put, List.setIfInBounds_toArray, List.set_cons_zero, List.set_cons_succ]
            refine tkS 6 112 hT0 ?_
            try simp only [Act.put, List.setIfInBounds_toArray, List.set_cons_zero, List.set_cons_succ]
            refine tkS 7 113 hT0 ?_
            try simp only [Act.put, List.setIfInBounds_toArray, List.set_cons_zero, List.set_cons_succ]
            refine tkS 8 114 hT0 ?_
            try simp only [Act.put, List.setIfInBounds_toArray, List.set_cons_zero, List.set_cons_succ]
            refine tkS 9 115 hT0 ?_
            try simp only [Act.put, List.setIfInBounds_toArray, List.set_cons_zero, List.set_cons_succ]
            refine tkS 10 116 hT0 ?_
            try simp only [Act.put, List.setIfInBounds_toArray, List.set_cons_zero, List.set_cons_succ]
            refine tkS 11 117 hT0 ?_
            try simp only [Act.put, List.setIfInBounds_toArray, List.set_cons_zero, List.set_cons_succ]
            refine tkS 12 118 hT0 ?_
            try simp only [Act.put, List.setIfInBounds_toArray, List.set_cons_zero, List.set_cons_succ]
            refine tkS 13 119 hT0 ?_
            try simp only [Act.put, List.setIfInBounds_toArray, List.set_cons_zero, List.set_cons_succ]
            refine tkS 14 120 hT0 ?_
            try simp only [Act.put, List.setIfInBounds_toArray, List.set_cons_zero, List.set_cons_succ]
            refine tkS 15 121 hT0 ?_
            try simp only [Act.put, List.setIfInBounds_toArray, List.set_cons_zero, List.set_cons_succ]
            refine tkS 16 122 hT0 ?_
            try simp only [Act.put, List.setIfInBounds_toArray, List.set_cons_zero, List.set_cons_succ]
            refine tkG 17 123 hT0 ?_
            try simp only [Act.put, List.setIfInBounds_toArray, List.set_cons_zero, List.set_cons_succ]
            refine tkG 18 2 hT0 ?_
            try simp only [Act.put, List.setIfInBounds_toArray, List.set_cons_zero, List.set_cons_succ]
            refine wpAnyH_done (by kernel_rfl) ?_ _
            refine NoPanic.normal ?_
            go_wp2
            go_ret
            exact ⟨rfl, d0⟩
          · have ez : (pr x1 x2 == 0) = false := beq_false_of_ne hz
            have hpp : (pr x1 x2 == pr x3 (-1)) = true := HPP.out (fun h => absurd h h2) (fun _ => hz)
            clear hz HPP
            go_wp2_with fail
            refine wp_region_noPanic ?_
            refine wp_region_held_drew (S := fun W => W.cell? ⟨q, 0, none⟩ = some (.int .i64 x1) ∧ W.cell? ⟨q, 1, none⟩ = some (.int .i64 x2) ∧ W.cell? ⟨q, 2, none⟩ = some (.int .i64 x3) ∧ W.cell? ⟨q, 3, none⟩ = some (.int .i64 (-1))) (by kernel_rfl) C0 (fun hS0 => ?_)
            have c0 := b0.drew
            refine tkG 0 76 hS0 ?_
            try simp only [Act.put, List.setIfInBounds_toArray, List.set_cons_zero, List.set_cons_succ]
            refine tkG 1 77 hS0 ?_
            try simp only [Act.put, List.setIfInBounds_toArray, List.set_cons_zero, List.set_cons_succ]
            refine tkG 2 78 hS0 ?_
            try simp only [Act.put, List.setIfInBounds_toArray, List.set_cons_zero, List.set_cons_succ]
            refine tkG 3 79 hS0 ?_
            try simp only [Act.put, List.setIfInBounds_toArray, List.set_cons_zero, List.set_cons_succ]
            refine tkG 4 80 hS0 ?_
            try simp only [Act.put, List.setIfInBounds_toArray, List.set_cons_zero, List.set_cons_succ]
            refine tkS 5 81 hS0 ?_
            try simp only [Act.put, List.setIfInBounds_toArray, List.set_cons_zero, List.set_cons_succ]
            refine tkS 6 82 hS0 ?_
            try simp only [Act.put, List.setIfInBounds_toArray, List.set_cons_zero, List.set_cons_succ]
            refine tkS 7 83 hS0 ?_
            try simp only [Act.put, List.setIfInBounds_toArray, List.set_cons_zero, List.set_cons_succ]
            refine tkS 8 84 hS0 ?_
            try simp only [Act.put, List.setIfInBounds_toArray, List.set_cons_zero, List.set_cons_succ]
            refine tkS 9 85 hS0 ?_
            try simp only [Act.put, List.setIfInBounds_toArray, List.set_cons_zero, List.set_cons_succ]
            refine tkS 10 86 hS0 ?_
            try simp only [Act.put, List.setIfInBounds_toArray, List.set_cons_zero, List.set_cons_succ]
            refine tkS 11 87 hS0 ?_
            try simp only [Act.put, List.setIfInBounds_toArray, List.set_cons_zero, List.set_cons_succ]
            refine tkS 12 88 hS0 ?_
            try simp only [Act.put, List.setIfInBounds_toArray, List.set_cons_zero, List.set_cons_succ]
            refine tkG 13 89 hS0 ?_
            try simp only [Act.put, List.setIfInBounds_toArray, List.set_cons_zero, List.set_cons_succ]
            refine tkG 14 90 hS0 ?_
            try simp only [Act.put, List.setIfInBounds_toArray, List.set_cons_zero, List.set_cons_succ]
            refine tkG 15 91 hS0 ?_
            try simp only [Act.put, List.setIfInBounds_toArray, List.set_cons_zero, List.set_cons_succ]
            refine tkG 16 92 hS0 ?_
            try simp only [Act.put, List.setIfInBounds_toArray, List.set_cons_zero, List.set_cons_succ]
            refine tkG 17 93 hS0 ?_
            try simp only [Act.put, List.setIfInBounds_toArray, List.set_cons_zero, List.set_cons_succ]
            refine tkG 18 94 hS0 ?_
            try simp only [Act.put, List.setIfInBounds_toArray, List.set_cons_zero, List.set_cons_succ]
            refine tkG 19 95 hS0 ?_
            try simp only [Act.put, List.setIfInBounds_toArray, List.set_cons_zero, List.set_cons_succ]
            refine tkG 20 96 hS0 ?_
            try simp only [Act.put, List.setIfInBounds_toArray, List.set_cons_zero, List.set_cons_succ]
            refine tkG 21 97 hS0 ?_
            try simp only [Act.put, List.setIfInBounds_toArray, List.set_cons_zero, List.set_cons_succ]
            refine tkG 22 98 hS0 ?_
            try simp only [Act.put, List.setIfInBounds_toArray, List.set_cons_zero, List.set_cons_succ]
            refine tkG 23 99 hS0 ?_
            try simp only [Act.put, List.setIfInBounds_toArray, List.set_cons_zero, List.set_cons_succ]
            refine tkG 24 100 hS0 ?_
            try simp only [Act.put, List.setIfInBounds_toArray, List.set_cons_zero, List.set_cons_succ]
            refine tkG 25 101 hS0 ?_
            try simp only [Act.put, List.setIfInBounds_toArray, List.set_cons_zero, List.set_cons_succ]
            refine wpAnyH_ready (rs := [26]) (by kernel_rfl) (by simp) ?_
            refine AllReadyH.cons rfl (fun K hK => ?_) AllReadyH.nil
            go_simp
            refine (implPr x1 x2 _ i1 i2 (ht.on c0)).mono ?_
            rintro e Wb ⟨rfl, hb⟩
            have cb := c0.trans (hb.mono c0.size)
            refine hK.out _ _ (four_below hS0 hb) (fun hSb => ?_)
            clear hK K
            try simp only [Act.put, List.setIfInBounds_toArray, List.set_cons_zero, List.set_cons_succ]
            clear hb
            refine tkG 27 103 hSb ?_
            try simp only [Act.put, List.setIfInBounds_toArray, List.set_cons_zero, List.set_cons_succ]
            refine tkG 28 104 hSb ?_
            try simp only [Act.put, List.setIfInBounds_toArray, List.set_cons_zero, List.set_cons_succ]
            refine tkG 29 105 hSb ?_
            try simp only [Act.put, List.setIfInBounds_toArray, List.set_cons_zero, List.set_cons_succ]
            refine tkG 30 12 hSb ?_
            try simp only [Act.put, List.setIfInBounds_toArray, List.set_cons_zero, List.set_cons_succ]
            refine wpAnyH_done (by kernel_rfl) ?_ _
            refine NoPanic.normal ?_
            replace C0 := hSb
            go_wp2_with fail
            refine wp_region_noPanic ?_
            refine wp_region_held_drew (S := fun W => W.cell? ⟨q, 0, none⟩ = some (.int .i64 x1) ∧ W.cell? ⟨q, 1, none⟩ = some (.int .i64 x2) ∧ W.cell? ⟨q, 2, none⟩ = some (.int .i64 x3) ∧ W.cell? ⟨q, 3, none⟩ = some (.int .i64 (-1))) (by kernel_rfl) C0 (fun hT0 => ?_)
            have d0 := cb.drew
            refine tkG 0 106 hT0 ?_
            try simp only [Act.put, List.setIfInBounds_toArray, List.set_cons_zero, List.set_cons_succ]
            refine tkG 1 107 hT0 ?_
            try simp only [Act.put, List.setIfInBounds_toArray, List.set_cons_zero, List.set_cons_succ]
            refine tkG 2 108 hT0 ?_
            try simp only [Act.put, List.setIfInBounds_toArray, List.set_cons_zero, List.set_cons_succ]
            refine tkG 3 109 hT0 ?_
            try simp only [Act.put, List.setIfInBounds_toArray, List.set_cons_zero, List.set_cons_succ]
            refine tkG 4 110 hT0 ?_
            try simp only [Act.put, List.setIfInBounds_toArray, List.set_cons_zero, List.set_cons_succ]
            refine tkG 5 111 hT0 ?_
            try simp only [Act.put, List.setIfInBounds_toArray, List.set_cons_zero, List.set_cons_succ]
            refine tkG 6 112 hT0 ?_
            try simp only [Act.put, List.setIfInBounds_toArray, List.set_cons_zero, List.set_cons_succ]
            refine tkG 7 113 hT0 ?_
            try simp only [Act.put, List.setIfInBounds_toArray, List.set_cons_zero, List.set_cons_succ]
            refine tkG 9 115 hT0 ?_
            try simp only [Act.put, List.setIfInBounds_toArray, List.set_cons_zero, List.set_cons_succ]
            refine tkG 10 116 hT0 ?_
            try simp only [Act.put, List.setIfInBounds_toArray, List.set_cons_zero, List.set_cons_succ]
            refine tkG 11 117 hT0 ?_
            try simp only [Act.put, List.setIfInBounds_toArray, List.set_cons_zero, List.set_cons_succ]
            refine tkG 12 118 hT0 ?_
            try simp only [Act.put, List.setIfInBounds_toArray, List.set_cons_zero, List.set_cons_succ]
            refine tkG 13 119 hT0 ?_
            try simp only [Act.put, List.setIfInBounds_toArray, List.set_cons_zero, List.set_cons_succ]
            refine tkG 14 120 hT0 ?_
            try simp only [Act.put, List.setIfInBounds_toArray, List.set_cons_zero, List.set_cons_succ]
            refine wpAnyH_ready (rs := [8]) (by kernel_rfl) (by simp) ?_
            refine AllReadyH.cons rfl (fun K hK => ?_) AllReadyH.nil
            go_simp
            refine (implPr x1 x2 _ i1 i2 (ht.on d0)).mono ?_
            rintro e Wc ⟨rfl, hb⟩
            have da := d0.trans (hb.mono d0.size)
            refine hK.out _ _ (four_below hT0 hb) (fun hTa => ?_)
            clear hK K
            try simp only [Act.put, List.setIfInBounds_toArray, List.set_cons_zero, List.set_cons_succ]
            clear hb
            refine wpAnyH_ready (rs := [15]) (by kernel_rfl) (by simp) ?_
            refine AllReadyH.cons rfl (fun K hK => ?_) AllReadyH.nil
            go_simp
            refine (implPr x3 (-1) _ i3 i4 (ht.on da)).mono ?_
            rintro e Wd ⟨rfl, hb⟩
            have db := da.trans (hb.mono da.size)
            refine hK.out _ _ (four_below hTa hb) (fun hTb => ?_)
            clear hK K
            try simp only [Act.put, List.setIfInBounds_toArray, List.set_cons_zero, List.set_cons_succ]
            clear hb
            refine tkG 16 122 hTb ?_
            try simp only [Act.put, List.setIfInBounds_toArray, List.set_cons_zero, List.set_cons_succ]
            refine tkG 17 123 hTb ?_
            try simp only [Act.put, List.setIfInBounds_toArray, List.set_cons_zero, List.set_cons_succ]
            refine tkG 18 2 hTb ?_
            try simp only [Act.put, List.setIfInBounds_toArray, List.set_cons_zero, List.set_cons_succ]
            refine wpAnyH_done (by kernel_rfl) ?_ _
            refine NoPanic.normal ?_
            go_wp2
            go_ret
            exact ⟨rfl, db⟩
        · have e4 : (x4 == -1) = false := beq_false_of_ne h4
          have hpp : (pr x1 x2 == pr x3 x4) = true := HPP.out (fun h => absurd h h2) (fun h => absurd h h4)
          clear h4 HPP
          go_wp2_with fail
          refine wp_region_noPanic ?_
          refine wp_region_held_drew (S := fun W => W.cell? ⟨q, 0, none⟩ = some (.int .i64 x1) ∧ W.cell? ⟨q, 1, none⟩ = some (.int .i64 x2) ∧ W.cell? ⟨q, 2, none⟩ = some (.int .i64 x3) ∧ W.cell? ⟨q, 3, none⟩ = some (.int .i64 x4)) (by kernel_rfl) C0 (fun hS0 => ?_)
          have c0 := b0.drew
          refine tkG 0 76 hS0 ?_
          try simp only [Act.put, List.setIfInBounds_toArray, List.set_cons_zero, List.set_cons_succ]
          refine tkG 1 77 hS0 ?_
          try simp only [Act.put, List.setIfInBounds_toArray, List.set_cons_zero, List.set_cons_succ]
          refine tkG 2 78 hS0 ?_
          try simp only [Act.put, List.setIfInBounds_toArray, List.set_cons_zero, List.set_cons_succ]
          refine tkG 3 79 hS0 ?_
          try simp only [Act.put, List.setIfInBounds_toArray, List.set_cons_zero, List.set_cons_succ]
          refine tkG 4 80 hS0 ?_
          try simp only [Act.put, List.setIfInBounds_toArray, List.set_cons_zero, List.set_cons_succ]
          refine tkS 5 81 hS0 ?_
          try simp only [Act.put, List.setIfInBounds_toArray, List.set_cons_zero, List.set_cons_succ]
          refine tkS 6 82 hS0 ?_
          try simp only [Act.put, List.setIfInBounds_toArray, List.set_cons_zero, List.set_cons_succ]
          refine tkS 7 83 hS0 ?_
          try simp only [Act.put, List.setIfInBounds_toArray, List.set_cons_zero, List.set_cons_succ]
          refine tkS 8 84 hS0 ?_
          try simp only [Act.put, List.setIfInBounds_toArray, List.set_cons_zero, List.set_cons_succ]
          refine tkS 9 85 hS0 ?_
          try simp only [Act.put, List.setIfInBounds_toArray, List.set_cons_zero, List.set_cons_succ]
          refine tkS 10 86 hS0 ?_
          try simp only [Act.put, List.setIfInBounds_toArray, List.set_cons_zero, List.set_cons_succ]
          refine tkS 11 87 hS0 ?_
          try simp only [Act.put, List.setIfInBounds_toArray, List.set_cons_zero, List.set_cons_succ]
          refine tkS 12 88 hS0 ?_
          try simp only [Act.put, List.setIfInBounds_toArray, List.set_cons_zero, List.set_cons_succ]
          refine tkG 13 89 hS0 ?_
          try simp only [Act.put, List.setIfInBounds_toArray, List.set_cons_zero, List.set_cons_succ]
          refine tkG 14 90 hS0 ?_
          try simp only [Act.put, List.setIfInBounds_toArray, List.set_cons_zero, List.set_cons_succ]
          refine tkG 15 91 hS0 ?_
          try simp only [Act.put, List.setIfInBounds_toArray, List.set_cons_zero, List.set_cons_succ]
          refine tkG 16 92 hS0 ?_
          try simp only [Act.put, List.setIfInBounds_toArray, List.set_cons_zero, List.set_cons_succ]
          refine tkG 17 93 hS0 ?_
          try simp only [Act.put, List.setIfInBounds_toArray, List.set_cons_zero, List.set_cons_succ]
          refine tkG 18 94 hS0 ?_
          try simp only [Act.put, List.setIfInBounds_toArray, List.set_cons_zero, List.set_cons_succ]
          refine tkG 19 95 hS0 ?_
          try simp only [Act.put, List.setIfInBounds_toArray, List.set_cons_zero, List.set_cons_succ]
          refine tkS 20 96 hS0 ?_
          try simp only [Act.put, List.setIfInBounds_toArray, List.set_cons_zero, List.set_cons_succ]
          refine tkS 21 97 hS0 ?_
          try simp only [Act.put, List.setIfInBounds_toArray, List.set_cons_zero, List.set_cons_succ]
          refine tkS 22 98 hS0 ?_
          try simp only [Act.put, List.setIfInBounds_toArray, List.set_cons_zero, List.set_cons_succ]
          refine tkS 23 99 hS0 ?_
          try simp only [Act.put, List.setIfInBounds_toArray, List.set_cons_zero, List.set_cons_succ]
          refine tkS 24 100 hS0 ?_
          try simp only [Act.put, List.setIfInBounds_toArray, List.set_cons_zero, List.set_cons_succ]
          refine tkS 25 101 hS0 ?_
          try simp only [Act.put, List.setIfInBounds_toArray, List.set_cons_zero, List.set_cons_succ]
          refine tkS 26 102 hS0 ?_
          try simp only [Act.put, List.setIfInBounds_toArray, List.set_cons_zero, List.set_cons_succ]
          refine tkS 27 103 hS0 ?_
          try simp only [Act.put, List.setIfInBounds_toArray, List.set_cons_zero, List.set_cons_succ]
          refine tkG 28 104 hS0 ?_
          try simp only [Act.put, List.setIfInBounds_toArray, List.set_cons_zero, List.set_cons_succ]
          refine tkG 29 105 hS0 ?_
          try simp only [Act.put, List.setIfInBounds_toArray, List.set_cons_zero, List.set_cons_succ]
          refine tkG 30 12 hS0 ?_
          try simp only [Act.put, List.setIfInBounds_toArray, List.set_cons_zero, List.set_cons_succ]
          refine wpAnyH_done (by kernel_rfl) ?_ _
          refine NoPanic.normal ?_
          replace C0 := hS0
          go_wp2_with fail
          refine wp_region_noPanic ?_
          refine wp_region_held_drew (S := fun W => W.cell? ⟨q, 0, none⟩ = some (.int .i64 x1) ∧ W.cell? ⟨q, 1, none⟩ = some (.int .i64 x2) ∧ W.cell? ⟨q, 2, none⟩ = some (.int .i64 x3) ∧ W.cell? ⟨q, 3, none⟩ = some (.int .i64 x4)) (by kernel_rfl) C0 (fun hT0 => ?_)
          have d0 := c0.drew
          refine tkG 0 106 hT0 ?_
          try simp only [Act.put, List.setIfInBounds_toArray, List.set_cons_zero, List.set_cons_succ]
          refine tkG 1 107 hT0 ?_
          try simp only [Act.put, List.setIfInBounds_toArray, List.set_cons_zero, List.set_cons_succ]
          refine tkG 2 108 hT0 ?_
          try simp only [Act.put, List.setIfInBounds_toArray, List.set_cons_zero, List.set_cons_succ]
          refine tkG 3 109 hT0 ?_
          try simp only [Act.put, List.setIfInBounds_toArray, List.set_cons_zero, List.set_cons_succ]
          refine tkG 4 110 hT0 ?_
          try simp only [Act.put, List.setIfInBounds_toArray, List.set_cons_zero, List.set_cons_succ]
          refine tkG 5 111 hT0 ?_
          try simp only [Act.put, List.setIfInBounds_toArray, List.set_cons_zero, List.set_cons_succ]
          refine tkG 6 112 hT0 ?_
          try simp only [Act.put, List.setIfInBounds_toArray, List.set_cons_zero, List.set_cons_succ]
          refine tkG 7 113 hT0 ?_
          try simp only [Act.put, List.setIfInBounds_toArray, List.set_cons_zero, List.set_cons_succ]
          refine tkG 9 115 hT0 ?_
          try simp only [Act.put, List.setIfInBounds_toArray, List.set_cons_zero, List.set_cons_succ]
          refine tkG 10 116 hT0 ?_
          try simp only [Act.put, List.setIfInBounds_toArray, List.set_cons_zero, List.set_cons_succ]
          refine tkG 11 117 hT0 ?_
          try simp only [Act.put, List.setIfInBounds_toArray, List.set_cons_zero, List.set_cons_succ]
          refine tkG 12 118 hT0 ?_
          try simp only [Act.put, List.setIfInBounds_toArray, List.set_cons_zero, List.set_cons_succ]
          refine tkG 13 119 hT0 ?_
          try simp only [Act.put, List.setIfInBounds_toArray, List.set_cons_zero, List.set_cons_succ]
          refine tkG 14 120 hT0 ?_
          try simp only [Act.put, List.setIfInBounds_toArray, List.set_cons_zero, List.set_cons_succ]
          refine wpAnyH_ready (rs := [8]) (by kernel_rfl) (by simp) ?_
          refine AllReadyH.cons rfl (fun K hK => ?_) AllReadyH.nil
          go_simp
          refine (implPr x1 x2 _ i1 i2 (ht.on d0)).mono ?_
          rintro e Wc ⟨rfl, hb⟩
          have da := d0.trans (hb.mono d0.size)
          refine hK.out _ _ (four_below hT0 hb) (fun hTa => ?_)
          clear hK K
          try simp only [Act.put, List.setIfInBounds_toArray, List.set_cons_zero, List.set_cons_succ]
          clear hb
          refine wpAnyH_ready (rs := [15]) (by kernel_rfl) (by simp) ?_
          refine AllReadyH.cons rfl (fun K hK => ?_) AllReadyH.nil
          go_simp
          refine (implPr x3 x4 _ i3 i4 (ht.on da)).mono ?_
          rintro e Wd ⟨rfl, hb⟩
          have db := da.trans (hb.mono da.size)
          refine hK.out _ _ (four_below hTa hb) (fun hTb => ?_)
          clear hK K
          try simp only [Act.put, List.setIfInBounds_toArray, List.set_cons_zero, List.set_cons_succ]
          clear hb
          refine tkG 16 122 hTb ?_
          try simp only [Act.put, List.setIfInBounds_toArray, List.set_cons_zero, List.set_cons_succ]
          refine tkG 17 123 hTb ?_
          try simp only [Act.put, List.setIfInBounds_toArray, List.set_cons_zero, List.set_cons_succ]
          refine tkG 18 2 hTb ?_
          try simp only [Act.put, List.setIfInBounds_toArray, List.set_cons_zero, List.set_cons_succ]
          refine wpAnyH_done (by kernel_rfl) ?_ _
          refine NoPanic.normal ?_
          go_wp2
          go_ret
          exact ⟨rfl, db⟩
end Go.Proofs.YtmfopbkhlekhkaaDoor
