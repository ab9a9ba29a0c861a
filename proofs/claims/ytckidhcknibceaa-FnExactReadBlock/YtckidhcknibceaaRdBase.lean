/- Plain facts on the number with which some bytes begin. -/
import Derived.Test.YtckidhcknibceaaBase
namespace Go.Proofs.Ytckidhcknibceaa
open Go.RowKit
/-- The number that the bytes go on with behind i of them that make n, the next one weighing p; and how many bytes it takes. -/
def rdF : Nat → Nat → Nat → Nat → List UInt8 → Nat × Nat
  | 0, _, _, _, _ => (0, 0)
  | _ + 1, _, _, _, [] => (0, 0)
  | f + 1, i, n, p, b :: r => if b.toNat < 128 then (if 1099511627776 < n + b.toNat % 128 * p ∨ 0 < i ∧ b.toNat = 0 then (0, 0) else (n + b.toNat % 128 * p, i + 1)) else rdF f (i + 1) (n + b.toNat % 128 * p) (p * 128) r
/-- The number with which the bytes begin, and how many bytes it takes; 0 and 0 where there is none. -/
def rdNum (bs : List UInt8) : Nat × Nat := rdF 6 0 0 1 bs
theorem rdF_end (f i n p : Nat) (bs : List UInt8) (k : Nat) (h : bs.length ≤ k) : rdF f i n p (bs.drop k) = (0, 0) := by
  rw [List.drop_eq_nil_of_le h]; cases f <;> rfl
theorem rdF_more (f i n p k b : Nat) (bs : List UInt8) (h : k < bs.length) (hb : b = bs[k].toNat) (h1 : 128 ≤ b) : rdF (f + 1) i n p (bs.drop k) = rdF f (i + 1) (n + b % 128 * p) (p * 128) (bs.drop (k + 1)) := by
  subst hb
  rw [List.drop_eq_getElem_cons h, rdF, if_neg (by omega)]
theorem rdF_no (f i n p k b : Nat) (bs : List UInt8) (h : k < bs.length) (hb : b = bs[k].toNat) (h1 : b < 128) (h2 : 1099511627776 < n + b % 128 * p ∨ 0 < i ∧ b = 0) : rdF (f + 1) i n p (bs.drop k) = (0, 0) := by
  subst hb
  rw [List.drop_eq_getElem_cons h, rdF, if_pos h1, if_pos h2]
theorem rdF_yes (f i n p k b : Nat) (bs : List UInt8) (h : k < bs.length) (hb : b = bs[k].toNat) (h1 : b < 128) (h2 : ¬ (1099511627776 < n + b % 128 * p ∨ 0 < i ∧ b = 0)) : rdF (f + 1) i n p (bs.drop k) = (n + b % 128 * p, i + 1) := by
  subst hb
  rw [List.drop_eq_getElem_cons h, rdF, if_pos h1, if_neg h2]
theorem rdF_len (f : Nat) : ∀ (i n p : Nat) (bs : List UInt8), (rdF f i n p bs).2 ≤ i + bs.length ∧ (rdF f i n p bs).1 ≤ 1099511627776 ∧ (rdF f i n p bs).2 ≤ i + f := by
  induction f with
  | zero => intro i n p bs; simp [rdF]
  | succ f ih =>
    intro i n p bs
    cases bs with
    | nil => simp [rdF]
    | cons b r =>
      rw [rdF]
      split
      · split
        · simp
        · simp only [List.length_cons]; omega
      · have := ih (i + 1) (n + b.toNat % 128 * p) (p * 128) r
        simp only [List.length_cons]; omega
theorem rdNum_len (bs : List UInt8) : (rdNum bs).2 ≤ bs.length ∧ (rdNum bs).1 ≤ 1099511627776 ∧ (rdNum bs).2 ≤ 6 := by have := rdF_len 6 0 0 1 bs; unfold rdNum; omega
theorem rdF_zero (f : Nat) : ∀ (i n p : Nat) (bs : List UInt8), (rdF f i n p bs).2 = 0 → (rdF f i n p bs).1 = 0 := by
  induction f with
  | zero => intro i n p bs _; simp [rdF]
  | succ f ih =>
    intro i n p bs
    cases bs with
    | nil => simp [rdF]
    | cons b r =>
      rw [rdF]
      split
      · split
        · simp
        · simp
      · exact ih (i + 1) (n + b.toNat % 128 * p) (p * 128) r
theorem rdNum_zero (bs : List UInt8) (h : (rdNum bs).2 = 0) : (rdNum bs).1 = 0 := rdF_zero 6 0 0 1 bs h
/-- The weights and sums that a round meets. -/
theorem mul_le (b p : Nat) : b % 128 * p ≤ 127 * p := Nat.mul_le_mul_right p (by omega)
end Go.Proofs.Ytckidhcknibceaa
