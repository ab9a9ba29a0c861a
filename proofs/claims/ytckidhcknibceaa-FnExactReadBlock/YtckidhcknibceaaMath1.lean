/- Plain facts: what is written as a number or a text is read as that, whatever stands behind it, no part of it is read as any, and what is read is what it is written as. -/
import Derived.Test.YtckidhcknibceaaRdText
import Derived.Test.YtckidhcknibceaaAid
namespace Go.Proofs.Ytckidhcknibceaa
theorem enc_ne (n : Nat) : enc n ≠ [] := by
  by_cases h : n < 128
  · rw [enc_small n h]; simp
  · rw [enc_big n (by omega)]; simp
theorem rdText_len (bs : List UInt8) : (rdText bs).2 ≤ bs.length := by
  have := rdNum_len bs
  unfold rdText
  split
  · simp
  · simp only; omega
theorem byte_low (n : Nat) (h : n < 128) : (UInt8.ofNat n).toNat = n := by rw [UInt8.toNat_ofNat']; omega
theorem byte_high (n : Nat) : (UInt8.ofNat (n % 128 + 128)).toNat = n % 128 + 128 := by rw [UInt8.toNat_ofNat']; omega
theorem mul_split (n p : Nat) : n % 128 * p + n / 128 * (p * 128) = n * p := by
  have h : n % 128 + n / 128 * 128 = n := by omega
  have e : n / 128 * (p * 128) = n / 128 * 128 * p := by rw [Nat.mul_comm p 128, Nat.mul_assoc]
  rw [e, ← Nat.add_mul, h]
theorem rdF_cons (f i m p : Nat) (b : UInt8) (r : List UInt8) : rdF (f + 1) i m p (b :: r) = if b.toNat < 128 then (if 1099511627776 < m + b.toNat % 128 * p ∨ 0 < i ∧ b.toNat = 0 then (0, 0) else (m + b.toNat % 128 * p, i + 1)) else rdF f (i + 1) (m + b.toNat % 128 * p) (p * 128) r := rfl
/-- A number that is written is read, whatever stands behind it. -/
theorem rdF_enc (f : Nat) : ∀ (i m p n : Nat) (r : List UInt8), n < 128 ^ (f + 1) → (0 < i → 0 < n) → m + n * p ≤ 1099511627776 → rdF (f + 1) i m p (enc n ++ r) = (m + n * p, i + (enc n).length) := by
  induction f with
  | zero =>
    intro i m p n r h hi hm
    have hn : n < 128 := by simpa using h
    rw [enc_small n hn, List.singleton_append, rdF_cons, byte_low n hn, if_pos hn, Nat.mod_eq_of_lt hn, if_neg (by omega)]
    rfl
  | succ f ih =>
    intro i m p n r h hi hm
    by_cases hn : n < 128
    · rw [enc_small n hn, List.singleton_append, rdF_cons, byte_low n hn, if_pos hn, Nat.mod_eq_of_lt hn, if_neg (by omega)]
      rfl
    · have hs := mul_split n p
      rw [enc_big n (by omega), List.cons_append, rdF_cons, byte_high, if_neg (by omega), show (n % 128 + 128) % 128 = n % 128 by omega]
      rw [ih (i + 1) (m + n % 128 * p) (p * 128) (n / 128) r (by rw [Nat.pow_succ] at h; omega) (by omega) (by omega), List.length_cons]
      have e1 : m + n % 128 * p + n / 128 * (p * 128) = m + n * p := by omega
      have e2 : i + 1 + (enc (n / 128)).length = i + ((enc (n / 128)).length + 1) := by omega
      rw [e1, e2]
theorem rdNum_enc (n : Nat) (r : List UInt8) (h : n ≤ 1099511627776) : rdNum (enc n ++ r) = (n, (enc n).length) := by
  have := rdF_enc 5 0 0 1 n r (by omega) (by omega) (by omega)
  unfold rdNum
  rw [this]
  simp
/-- No part of a number is one. -/
theorem rdF_part (f : Nat) : ∀ (i m p n j : Nat), j < (enc n).length → rdF f i m p ((enc n).take j) = (0, 0) := by
  induction f with
  | zero => intro i m p n j _; rfl
  | succ f ih =>
    intro i m p n j hj
    by_cases hn : n < 128
    · rw [enc_small n hn] at hj ⊢
      have : j = 0 := by simpa using hj
      subst this
      rfl
    · rw [enc_big n (by omega)] at hj ⊢
      cases j with
      | zero => rfl
      | succ j =>
        rw [List.take_succ_cons, rdF_cons, byte_high, if_neg (by omega)]
        exact ih _ _ _ _ j (by simpa using hj)
theorem rdNum_part (n j : Nat) (h : j < (enc n).length) : rdNum ((enc n).take j) = (0, 0) := rdF_part 6 0 0 1 n j h
theorem enc_pos (n : Nat) : 0 < (enc n).length := List.length_pos_iff.2 (enc_ne n)
/-- A text that is written is read, whatever stands behind it. -/
theorem rdText_enc (s : ByteArray) (r : List UInt8) (h : s.size ≤ 3000) : rdText ((enc s.size ++ s.data.toList) ++ r) = (s.data.toList, (enc s.size ++ s.data.toList).length) := by
  have hp := enc_pos s.size
  unfold rdText
  rw [List.append_assoc, rdNum_enc s.size _ (by omega)]
  simp only
  rw [if_neg (by simp only [List.length_append, size_length]; omega), List.drop_left, List.take_append_of_le_length (by rw [size_length]; omega), List.take_of_length_le (by rw [size_length]; omega), List.length_append, size_length]
theorem rdText_part (s : ByteArray) (j : Nat) (h : s.size ≤ 3000) (hj : j < (enc s.size ++ s.data.toList).length) : (rdText ((enc s.size ++ s.data.toList).take j)).2 = 0 := by
  unfold rdText
  by_cases hk : j < (enc s.size).length
  · rw [List.take_append_of_le_length (by omega), rdNum_part _ _ hk]
    rfl
  · have e : (enc s.size ++ s.data.toList).take j = enc s.size ++ s.data.toList.take (j - (enc s.size).length) := by rw [List.take_append, List.take_of_length_le (by omega)]
    rw [List.length_append, size_length] at hj
    rw [e, rdNum_enc s.size _ (by omega)]
    simp only
    rw [if_pos (.inr (.inr (by rw [List.length_append, List.length_take, size_length]; omega)))]
theorem back (s : ByteArray) : (⟨s.data.toList.toArray⟩ : ByteArray) = s := by cases s; simp
theorem byte_of_toNat (b : UInt8) : UInt8.ofNat b.toNat = b := by simp
/-- What is read as a number is what it is written as. -/
theorem rdF_back (f : Nat) : ∀ (i m p : Nat) (bs : List UInt8), (rdF f i m p bs).2 ≠ 0 → ∃ n j, rdF f i m p bs = (m + n * p, i + j) ∧ bs.take j = enc n ∧ (0 < i → 0 < n) ∧ j = (enc n).length := by
  induction f with
  | zero => intro i m p bs h; exact absurd rfl h
  | succ f ih =>
    intro i m p bs h
    cases bs with
    | nil => exact absurd rfl h
    | cons b r =>
      rw [rdF_cons] at h ⊢
      by_cases hb : b.toNat < 128
      · rw [if_pos hb] at h ⊢
        by_cases hc : 1099511627776 < m + b.toNat % 128 * p ∨ 0 < i ∧ b.toNat = 0
        · rw [if_pos hc] at h; exact absurd rfl h
        · rw [if_neg hc, Nat.mod_eq_of_lt hb]
          refine ⟨b.toNat, 1, rfl, ?_, by omega, ?_⟩
          · rw [enc_small _ hb, byte_of_toNat]; rfl
          · rw [enc_small _ hb]; rfl
      · rw [if_neg hb] at h ⊢
        obtain ⟨n, j, h1, h2, h3, h4⟩ := ih _ _ _ _ h
        have hn := h3 (by omega)
        have hb8 := UInt8.toNat_lt b
        have e1 : (b.toNat % 128 + 128 * n) % 128 = b.toNat % 128 := by omega
        have e2 : (b.toNat % 128 + 128 * n) / 128 = n := by omega
        have e3 : b.toNat % 128 + 128 = b.toNat := by omega
        have hE : enc (b.toNat % 128 + 128 * n) = b :: enc n := by rw [enc_big _ (by omega), e1, e2, e3, byte_of_toNat]
        have hs := mul_split (b.toNat % 128 + 128 * n) p
        rw [e1, e2] at hs
        refine ⟨b.toNat % 128 + 128 * n, j + 1, ?_, ?_, by omega, ?_⟩
        · rw [h1]
          have a1 : m + b.toNat % 128 * p + n * (p * 128) = m + (b.toNat % 128 + 128 * n) * p := by omega
          have a2 : i + 1 + j = i + (j + 1) := by omega
          rw [a1, a2]
        · rw [List.take_succ_cons, h2, hE]
        · rw [hE, List.length_cons, h4]
theorem rdNum_back (bs : List UInt8) (h : (rdNum bs).2 ≠ 0) : bs.take (rdNum bs).2 = enc (rdNum bs).1 ∧ (rdNum bs).2 = (enc (rdNum bs).1).length := by
  obtain ⟨n, j, h1, h2, _, h4⟩ := rdF_back 6 0 0 1 bs h
  have e : rdNum bs = (n, j) := by unfold rdNum; rw [h1]; simp
  rw [e]
  exact ⟨h2, h4⟩
theorem rdText_back (bs : List UInt8) (h : (rdText bs).2 ≠ 0) : (rdText bs).1.length ≤ 3000 ∧ bs.take (rdText bs).2 = enc (rdText bs).1.length ++ (rdText bs).1 ∧ (rdText bs).2 ≤ bs.length := by
  have hl := rdText_len bs
  unfold rdText at h hl ⊢
  by_cases hc : (rdNum bs).2 = 0 ∨ 3000 < (rdNum bs).1 ∨ bs.length < (rdNum bs).2 + (rdNum bs).1
  · rw [if_pos hc] at h; exact absurd rfl h
  · rw [if_neg hc] at hl ⊢
    simp only at hl ⊢
    have hb := rdNum_back bs (by omega)
    have hlen : ((bs.drop (rdNum bs).2).take (rdNum bs).1).length = (rdNum bs).1 := by rw [List.length_take, List.length_drop]; omega
    rw [hlen]
    refine ⟨by omega, ?_, hl⟩
    rw [List.take_add, hb.1]
end Go.Proofs.Ytckidhcknibceaa
