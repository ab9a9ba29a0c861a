/- The model's way up from a place: the contracts of what is told of it, and of its Holds. -/
import Derived.Test.YtmfopbkhlekhkaaDoorTriSpec
import Derived.Test.YtmfopbkhlekhkaaDoorLefOk
namespace Go.Proofs.YtmfopbkhlekhkaaDoor
open Go.RowKit
/-- The number on the way up from place A with value v, at step k. -/
def rnL (A : Nat) (v : Int) (ws : List Int) : Nat → Int
  | 0 => numP (A : Int) v
  | k + 1 => if A / 2 ^ k % 2 = 0 then pr (rnL A v ws k) (ws.getD k 0) else pr (ws.getD k 0) (rnL A v ws k)
theorem rnL_lo (A : Nat) (v : Int) (ws : List Int) : ∀ k, 0 ≤ rnL A v ws k
  | 0 => numP_lo _ _
  | k + 1 => by unfold rnL; split <;> exact pr_lo _ _
theorem rnL_hi (A : Nat) (v : Int) (ws : List Int) : ∀ k, rnL A v ws k < 2147483647
  | 0 => numP_hi _ _
  | k + 1 => by unfold rnL; split <;> exact pr_hi _ _
theorem rnL_i64 (A : Nat) (v : Int) (ws : List Int) (k : Nat) : I64 (rnL A v ws k) := i64_small (rnL_lo _ _ _ _) (rnL_hi _ _ _ _)
/-- Is everything as told? -/
def tldB (p v : Int) (n : Nat) : Bool := decide (0 ≤ p ∧ p ≤ 255) && decide (v = -1 ∨ (0 ≤ v ∧ v ≤ 1000000000)) && decide (n = 8)
def hldR (q p v : Int) (ws : List Int) : Bool := tldB p v ws.length && decide (rnL p.toNat v ws 8 = q)
theorem tldB_iff {p v : Int} {n : Nat} : tldB p v n = true ↔ (0 ≤ p ∧ p ≤ 255) ∧ (v = -1 ∨ (0 ≤ v ∧ v ≤ 1000000000)) ∧ n = 8 := by
  unfold tldB
  simp only [Bool.and_eq_true, decide_eq_true_eq, and_assoc]
set_option maxHeartbeats 1000000 in
set_option maxRecDepth 100000 in
theorem l12Told_any (p v : Int) (vw : Value) (ws : List Int) (w : World) (hr : RdI w vw ws) :
    Calls Tryd.prog 51 #[.int .i64 p, .int .i64 v, vw] w fun e w' => e = .returned (.bool (tldB p v ws.length)) ∧ w' = w := by
  obtain ⟨a, c, rfl, -⟩ := hr
  have HP1 := fun W => inL_any p 0 255 W
  have HV1 := fun W => l12Value_any v W
  generalize ws.length = n
  by_cases hp : 0 ≤ p ∧ p ≤ 255
  · rw [show decide (0 ≤ p ∧ p ≤ 255) = true from decide_eq_true hp] at HP1
    by_cases h1 : v = -1
    · have RES : Hid (tldB p v n = decide (n = 8)) := by unfold Hid tldB; rw [decide_eq_true hp, h1]; simp
      have h2 : (v == -1) = true := by simp [h1]
      clear hp
      go_enter Tryd.func51, Tryd.ntmps51
      go_wp2_with (go_at_call 49; refine (HP1 _).mono ?_; rintro e w2 ⟨rfl, rfl⟩)
      go_ret
      exact ⟨ret_bool (by rw [RES.out, Bool.eq_iff_iff]; simp; omega), rfl⟩
    · have h2 : (v == -1) = false := by simp [h1]
      by_cases hv : 0 ≤ v ∧ v ≤ 1000000000
      · rw [show decide (0 ≤ v ∧ v ≤ 1000000000) = true from decide_eq_true hv] at HV1
        have RES : Hid (tldB p v n = decide (n = 8)) := by unfold Hid tldB; rw [decide_eq_true hp, decide_eq_true (show v = -1 ∨ (0 ≤ v ∧ v ≤ 1000000000) from .inr hv)]; simp
        clear hp hv
        go_enter Tryd.func51, Tryd.ntmps51
        go_wp2_with (first | (go_at_call 49; refine (HP1 _).mono ?_; rintro e w2 ⟨rfl, rfl⟩) | (go_at_call 50; refine (HV1 _).mono ?_; rintro e w3 ⟨rfl, rfl⟩))
        go_ret
        exact ⟨ret_bool (by rw [RES.out, Bool.eq_iff_iff]; simp; omega), rfl⟩
      · rw [show decide (0 ≤ v ∧ v ≤ 1000000000) = false from decide_eq_false hv] at HV1
        have RES : Hid (tldB p v n = false) := by unfold Hid tldB; rw [decide_eq_false (show ¬ (v = -1 ∨ (0 ≤ v ∧ v ≤ 1000000000)) from fun h => h.elim h1 hv)]; simp
        clear hp hv
        go_enter Tryd.func51, Tryd.ntmps51
        go_wp2_with (first | (go_at_call 49; refine (HP1 _).mono ?_; rintro e w2 ⟨rfl, rfl⟩) | (go_at_call 50; refine (HV1 _).mono ?_; rintro e w3 ⟨rfl, rfl⟩))
        go_ret
        exact ⟨ret_bool RES.out.symm, rfl⟩
  · rw [show decide (0 ≤ p ∧ p ≤ 255) = false from decide_eq_false hp] at HP1
    have RES : Hid (tldB p v n = false) := by unfold Hid tldB; rw [decide_eq_false hp]; simp
    clear hp
    go_enter Tryd.func51, Tryd.ntmps51
    go_wp2_with (go_at_call 49; refine (HP1 _).mono ?_; rintro e w2 ⟨rfl, rfl⟩)
    go_ret
    exact ⟨ret_bool RES.out.symm, rfl⟩
set_option maxHeartbeats 1000000 in
set_option maxRecDepth 100000 in
theorem l12Two_any (B : Nat) (n b : Int) (w : World) :
    Calls Tryd.prog 53 #[.int .i64 (B : Int), .int .i64 n, .int .i64 b] w fun e w' => e = .returned (.tuple #[.int .i64 (if B % 2 = 0 then n else b), .int .i64 (if B % 2 = 0 then b else n)]) ∧ w' = w := by
  by_cases h : B % 2 = 0
  · have h1 : ((B : Int) % 2) = 0 := by omega
    rw [if_pos h, if_pos h]
    go_enter Tryd.func53, Tryd.ntmps53
    go_wp2
    all_goals go_ret2
    all_goals exact ⟨rfl, rfl⟩
  · have h1 : ((B : Int) % 2) = 1 := by omega
    rw [if_neg h, if_neg h]
    go_enter Tryd.func53, Tryd.ntmps53
    go_wp2
    all_goals go_ret2
    all_goals exact ⟨rfl, rfl⟩
theorem half2_i64 (B : Nat) (h : B ≤ 255) : IntKind.i64.wrap ((B : Int).tdiv 2) = ((B / 2 : Nat) : Int) := by
  rw [Int.tdiv_eq_ediv_of_nonneg (by omega), IntKind.wrap_i64]
  omega
theorem half2_w64 (B : Nat) (h : B ≤ 255) : wrap64 ((B : Int) / 2) = ((B / 2 : Nat) : Int) := by
  unfold wrap64
  omega
theorem rn_two (A : Nat) (v : Int) (ws : List Int) (k B : Nat) (hB : B = A / 2 ^ k) : pr (if B % 2 = 0 then rnL A v ws k else ws.getD k 0) (if B % 2 = 0 then ws.getD k 0 else rnL A v ws k) = rnL A v ws (k + 1) := by
  subst hB
  conv => rhs; unfold rnL
  split <;> rfl
set_option maxHeartbeats 4000000 in
set_option maxRecDepth 100000 in
theorem specHolds_any (q p v : Int) (vw : Value) (ws : List Int) (w : World) (hr : RdI w vw ws) (hi : ∀ j, I64 (ws.getD j 0)) :
    Calls Tryd.prog 16 #[.int .i64 q, .int .i64 p, .int .i64 v, vw] w fun e w' => e = .returned (.bool (hldR q p v ws)) ∧ Below w.heap.size w w' := by
  have HT := fun W (h : RdI W vw ws) => l12Told_any p v vw ws W h
  cases ht : tldB p v ws.length with
  | false =>
    rw [ht] at HT
    have RES : Hid (hldR q p v ws = false) := by unfold Hid hldR; rw [ht]; rfl
    clear ht
    go_enter Tryd.func16, Tryd.ntmps16
    go_wp2_with (go_at_call 51; refine (HT _ hr).mono ?_; rintro e w2 ⟨rfl, rfl⟩)
    go_ret
    exact ⟨ret_bool RES.out.symm, Below.refl _ _⟩
  | true =>
    rw [ht] at HT
    obtain ⟨hp, hv, hn⟩ := tldB_iff.1 ht
    obtain ⟨A, rfl⟩ : ∃ A : Nat, p = (A : Int) := ⟨p.toNat, by omega⟩
    have RES : Hid (hldR q (A : Int) v ws = decide (rnL A v ws 8 = q)) := by unfold Hid hldR; rw [ht, Int.toNat_natCast]; rfl
    have hA : A ≤ 255 := by omega
    have HN := fun W => l12Number_any (A : Int) v W ⟨by omega, by omega⟩ ⟨by omega, by omega⟩
    have h0 : numP (A : Int) v = rnL A v ws 0 := rfl
    rw [h0] at HN
    obtain ⟨a, c, hvw, hc1, hc2, -⟩ := id hr
    rw [hn] at hvw hc1
    unfold maxLen at hc2
    have HW : Hid (ws.length = 8) := hn
    have HR : Hid (RdI w vw ws) := hr
    have HI : Hid (∀ j, I64 (ws.getD j 0)) := hi
    subst hvw
    clear ht hp hv hn hr hi h0
    go_enter Tryd.func16, Tryd.ntmps16
    go_wp2_with (first
      | (go_at_call 51; refine (HT _ HR.out).mono ?_; rintro e w1 ⟨rfl, hw1⟩; obtain rfl : w = w1 := hw1.symm)
      | (go_at_call 52; refine (HN _).mono ?_; rintro e w2 ⟨rfl, b2⟩))
    clear HT HN
    go_loopw [1, 9, 10] (fun s1 s9 s10 wr => ∃ (k B : Nat) (n : Int), k ≤ 8 ∧ s1 = .int .i64 (B : Int) ∧ s9 = .int .i64 n ∧ s10 = .int .i64 k ∧ Hid (B = A / 2 ^ k) ∧ Hid (n = rnL A v ws k) ∧ Below w.heap.size w wr) (fun _ _ s10 _ => 8 - (intOf s10).toNat)
    case atStart => exact ⟨0, A, _, by omega, rfl, rfl, rfl, by unfold Hid; simp, rfl, b2⟩
    case round =>
      obtain ⟨k, B, n, hk, rfl, rfl, rfl, HB, HNN, hb⟩ := hrel
      clear b2
      by_cases hlt : k < 8
      · obtain ⟨b, off, rfl, c0⟩ := (HR.out.below hb).at k (by rw [HW.out]; exact hlt)
        rw [getD_at] at c0
        have hB255 : B ≤ 255 := by rw [HB.out]; exact Nat.le_trans (Nat.div_le_self _ _) hA
        have H2 := fun W => l12Two_any B n (ws.getD k 0) W
        have hix : I64 (if B % 2 = 0 then n else ws.getD k 0) := by split; rw [HNN.out]; exact rnL_i64 _ _ _ _; exact HI.out k
        have hiy : I64 (if B % 2 = 0 then ws.getD k 0 else n) := by split; exact HI.out k; rw [HNN.out]; exact rnL_i64 _ _ _ _
        have HM : Hid (pr (if B % 2 = 0 then n else ws.getD k 0) (if B % 2 = 0 then ws.getD k 0 else n) = rnL A v ws (k + 1)) := by unfold Hid; rw [HNN.out]; exact rn_two A v ws k B HB.out
        generalize (if B % 2 = 0 then n else ws.getD k 0) = x at H2 hix HM
        generalize (if B % 2 = 0 then ws.getD k 0 else n) = y at H2 hiy HM
        generalize ws.getD k 0 = z at c0 H2
        have hk1 : (k : Int) < 8 := by omega
        have hB2 := half2_i64 B hB255
        have HB255 : Hid (B ≤ 255) := hB255
        have HB2 : Hid (B / 2 = A / 2 ^ (k + 1)) := by unfold Hid; rw [HB.out, Nat.div_div_eq_div_mul, ← Nat.pow_succ]
        clear hB255 HB HNN
        go_wp2_with (first
          | (go_at_call 53; refine (H2 _).mono ?_; rintro e w3 ⟨rfl, hw3⟩; obtain rfl : wr = w3 := hw3.symm)
          | (go_at_call 54; refine (specPr x y _ hix hiy).mono ?_; rintro e w4 ⟨rfl, hb4⟩))
        have b4 := hb.trans (hb4.mono hb.size)
        clear hb hb4 H2
        go_roundw
        case rel => exact ⟨k + 1, B / 2, _, by omega, by rw [half2_w64 B HB255.out], rfl, by go_num, HB2, HM.out, b4⟩
        case measure => simp [intOf]; omega
      · obtain rfl : k = 8 := by omega
        have RES2 : Hid (hldR q (A : Int) v ws = decide (n = q)) := by unfold Hid; rw [RES.out, HNN.out]
        clear RES HNN
        go_wp2
        go_ret
        exact ⟨ret_bool (by rw [RES2.out, Bool.eq_iff_iff]; simp), hb⟩
end Go.Proofs.YtmfopbkhlekhkaaDoor
