/- Plain facts: what is written as texts is read as those texts, no part of it is read as any, and what is read as texts is what they are written as. -/
import Derived.Test.YtbldoeadmnepkaaManyBase
import Derived.Test.YtbldoeadmnepkaaTexts
namespace Go.Proofs.Ytbldoeadmnepkaa
theorem byte_low (n : Nat) (h : n < 128) : (UInt8.ofNat n).toNat = n := by rw [UInt8.toNat_ofNat']; omega
theorem byte_high (n : Nat) : (UInt8.ofNat (n % 128 + 128)).toNat = n % 128 + 128 := by rw [UInt8.toNat_ofNat']; omega
theorem mul_split (n p : Nat) : n % 128 * p + n / 128 * (p * 128) = n * p := by
  have h : n % 128 + n / 128 * 128 = n := by omega
  have e : n / 128 * (p * 128) = n / 128 * 128 * p := by rw [Nat.mul_comm p 128, Nat.mul_assoc]
  rw [e, ← Nat.add_mul, h]
theorem rdF_cons (f i m p : Nat) (b : UInt8) (r : List UInt8) : rdF (f + 1) i m p (b :: r) = if b.toNat < 128 then (if 1099511627776 < m + b.toNat % 128 * p ∨ 0 < i ∧ b.toNat = 0 then (0, 0) else (m + b.toNat % 128 * p, i + 1)) else rdF f (i + 1) (m + b.toNat % 128 * p) (p * 128) r := rfl
/-- A number that is written is read, whatever stands behind it. -/
theorem rdF_enc (f : Nat) : ∀ (i m p n : Nat) (r : List UInt8), n < 128 ^ (f + 1) → (0 < i → 0 < n) → m + n * p ≤ 1099511627776 → rdF (f + 1) i m p (enc n ++ r) = (m + n * p, i + (enc n).length) := by
  induction f with
  | zero =>
    intro i m p n r h hi hm
    have hn : n < 128 := by simpa using h
    rw [enc_small n hn, List.singleton_append, rdF_cons, byte_low n hn, if_pos hn, Nat.mod_eq_of_lt hn, if_neg (by omega)]
    rfl
  | succ f ih =>
    intro i m p n r h hi hm
    by_cases hn : n < 128
    · rw [enc_small n hn, List.singleton_append, rdF_cons, byte_low n hn, if_pos hn, Nat.mod_eq_of_lt hn, if_neg (by omega)]
      rfl
    · have hs := mul_split n p
      rw [enc_big n (by omega), List.cons_append, rdF_cons, byte_high, if_neg (by omega), show (n % 128 + 128) % 128 = n % 128 by omega]
      rw [ih (i + 1) (m + n % 128 * p) (p * 128) (n / 128) r (by rw [Nat.pow_succ] at h; omega) (by omega) (by omega), List.length_cons]
      have e1 : m + n % 128 * p + n / 128 * (p * 128) = m + n * p := by omega
      have e2 : i + 1 + (enc (n / 128)).length = i + ((enc (n / 128)).length + 1) := by omega
      rw [e1, e2]
theorem rdNum_enc (n : Nat) (r : List UInt8) (h : n ≤ 1099511627776) : rdNum (enc n ++ r) = (n, (enc n).length) := by
  have := rdF_enc 5 0 0 1 n r (by omega) (by omega) (by omega)
  unfold rdNum
  rw [this]
  simp
/-- No part of a number is one. -/
theorem rdF_part (f : Nat) : ∀ (i m p n j : Nat), j < (enc n).length → rdF f i m p ((enc n).take j) = (0, 0) := by
  induction f with
  | zero => intro i m p n j _; rfl
  | succ f ih =>
    intro i m p n j hj
    by_cases hn : n < 128
    · rw [enc_small n hn] at hj ⊢
      have : j = 0 := by simpa using hj
      subst this
      rfl
    · rw [enc_big n (by omega)] at hj ⊢
      cases j with
      | zero => rfl
      | succ j =>
        rw [List.take_succ_cons, rdF_cons, byte_high, if_neg (by omega)]
        exact ih _ _ _ _ j (by simpa using hj)
theorem rdNum_part (n j : Nat) (h : j < (enc n).length) : rdNum ((enc n).take j) = (0, 0) := rdF_part 6 0 0 1 n j h
theorem enc_pos (n : Nat) : 0 < (enc n).length := List.length_pos_iff.2 (enc_ne n)
/-- A text that is written is read, whatever stands behind it. -/
theorem rdText_enc (s : ByteArray) (r : List UInt8) (h : s.size ≤ 3000) : rdText ((enc s.size ++ s.data.toList) ++ r) = (s.data.toList, (enc s.size ++ s.data.toList).length) := by
  have hp := enc_pos s.size
  unfold rdText
  rw [List.append_assoc, rdNum_enc s.size _ (by omega)]
  simp only
  rw [if_neg (by simp only [List.length_append, size_length]; omega), List.drop_left, List.take_append_of_le_length (by rw [size_length]; omega), List.take_of_length_le (by rw [size_length]; omega), List.length_append, size_length]
theorem rdText_part (s : ByteArray) (j : Nat) (h : s.size ≤ 3000) (hj : j < (enc s.size ++ s.data.toList).length) : (rdText ((enc s.size ++ s.data.toList).take j)).2 = 0 := by
  unfold rdText
  by_cases hk : j < (enc s.size).length
  · rw [List.take_append_of_le_length (by omega), rdNum_part _ _ hk]
    rfl
  · have e : (enc s.size ++ s.data.toList).take j = enc s.size ++ s.data.toList.take (j - (enc s.size).length) := by rw [List.take_append, List.take_of_length_le (by omega)]
    rw [List.length_append, size_length] at hj
    rw [e, rdNum_enc s.size _ (by omega)]
    simp only
    rw [if_pos (.inr (.inr (by rw [List.length_append, List.length_take, size_length]; omega)))]
theorem back (s : ByteArray) : (⟨s.data.toList.toArray⟩ : ByteArray) = s := by cases s; simp
/-- Texts that are written are read. -/
theorem rdAcc_tx (bs : List UInt8) : ∀ (ss : List ByteArray) (p : Nat) (acc : List ByteArray), (∀ s ∈ ss, s.size ≤ 3000) → bs.drop p = tx ss → rdAcc bs ss.length p acc = some (acc ++ ss, p + (tx ss).length) := by
  intro ss
  induction ss with
  | nil => intro p acc _ _; simp [rdAcc, tx]
  | cons s r ih =>
    intro p acc hs hd
    have h3 := hs s List.mem_cons_self
    have hp := enc_pos s.size
    have hT : rdText (bs.drop p) = (s.data.toList, (enc s.size ++ s.data.toList).length) := by rw [hd, tx]; exact rdText_enc s _ h3
    rw [List.length_cons, rdAcc_go bs r.length p acc (by rw [hT]; simp only [List.length_append]; omega), hT]
    simp only
    rw [back, ih _ _ (fun t ht => hs t (List.mem_cons_of_mem _ ht)) (by rw [← List.drop_drop, hd, tx]; exact List.drop_left), tx, List.append_assoc]
    simp only [List.singleton_append, Nat.add_assoc, List.length_append]
/-- No part of some texts is read as these. -/
theorem rdAcc_part (bs : List UInt8) : ∀ (ss : List ByteArray) (p j : Nat) (acc : List ByteArray), (∀ s ∈ ss, s.size ≤ 3000) → bs.drop p = (tx ss).take j → j < (tx ss).length → rdAcc bs ss.length p acc = none := by
  intro ss
  induction ss with
  | nil => intro p j acc _ _ hj; simp [tx] at hj
  | cons s r ih =>
    intro p j acc hs hd hj
    have h3 := hs s List.mem_cons_self
    have hp := enc_pos s.size
    rw [tx] at hd hj
    by_cases hk : j < (enc s.size ++ s.data.toList).length
    · rw [List.length_cons, rdAcc_no bs r.length p acc (by rw [hd, List.take_append_of_le_length (by omega)]; exact rdText_part s j h3 hk)]
    · have e : ((enc s.size ++ s.data.toList) ++ tx r).take j = (enc s.size ++ s.data.toList) ++ (tx r).take (j - (enc s.size ++ s.data.toList).length) := by rw [List.take_append, List.take_of_length_le (by omega)]
      rw [e] at hd
      have hT : rdText (bs.drop p) = (s.data.toList, (enc s.size ++ s.data.toList).length) := by rw [hd]; exact rdText_enc s _ h3
      rw [List.length_cons, rdAcc_go bs r.length p acc (by rw [hT]; simp only [List.length_append]; omega), hT]
      simp only
      exact ih _ (j - (enc s.size ++ s.data.toList).length) _ (fun t ht => hs t (List.mem_cons_of_mem _ ht)) (by rw [← List.drop_drop, hd]; exact List.drop_left) (by rw [List.length_append] at hj; omega)
/-- What is written as texts is read as those. -/
theorem fin_texts (ss : List ByteArray) (h : textsOf ss ≠ []) : fin (textsOf ss) (rdAll (textsOf ss)) = (ss, true) := by
  have hh : ss.length ≤ 200 ∧ ∀ s ∈ ss, s.size ≤ 3000 := by
    refine Decidable.byContradiction fun hn => h ?_
    unfold textsOf
    rw [if_neg hn]
  have e := textsOf_in ss hh.1 hh.2
  have hp := enc_pos ss.length
  rw [e]
  unfold rdAll
  rw [rdNum_enc ss.length _ (by omega)]
  simp only
  rw [if_neg (by omega), rdAcc_tx _ ss _ _ hh.2 List.drop_left]
  unfold fin
  simp only [List.length_append, List.nil_append, if_pos]
/-- No part of what is written as texts is read as texts. -/
theorem fin_part (ss : List ByteArray) (j : Nat) (hj : j < (textsOf ss).length) : fin ((textsOf ss).take j) (rdAll ((textsOf ss).take j)) = ([], false) := by
  have hh : ss.length ≤ 200 ∧ ∀ s ∈ ss, s.size ≤ 3000 := by
    refine Decidable.byContradiction fun hn => ?_
    unfold textsOf at hj
    rw [if_neg hn] at hj
    simp at hj
  have e := textsOf_in ss hh.1 hh.2
  have hp := enc_pos ss.length
  rw [e] at hj ⊢
  have hnone : rdAll ((enc ss.length ++ tx ss).take j) = none := by
    unfold rdAll
    by_cases hk : j < (enc ss.length).length
    · rw [List.take_append_of_le_length (by omega), rdNum_part _ _ hk]
      rfl
    · have e2 : (enc ss.length ++ tx ss).take j = enc ss.length ++ (tx ss).take (j - (enc ss.length).length) := by rw [List.take_append, List.take_of_length_le (by omega)]
      rw [e2, rdNum_enc ss.length _ (by omega)]
      simp only
      rw [if_neg (by omega)]
      exact rdAcc_part _ ss _ (j - (enc ss.length).length) _ hh.2 List.drop_left (by rw [List.length_append] at hj; omega)
  rw [hnone]
  rfl
theorem byte_of_toNat (b : UInt8) : UInt8.ofNat b.toNat = b := by simp
/-- What is read as a number is what it is written as. -/
theorem rdF_back (f : Nat) : ∀ (i m p : Nat) (bs : List UInt8), (rdF f i m p bs).2 ≠ 0 → ∃ n j, rdF f i m p bs = (m + n * p, i + j) ∧ bs.take j = enc n ∧ (0 < i → 0 < n) ∧ j = (enc n).length := by
  induction f with
  | zero => intro i m p bs h; exact absurd rfl h
  | succ f ih =>
    intro i m p bs h
    cases bs with
    | nil => exact absurd rfl h
    | cons b r =>
      rw [rdF_cons] at h ⊢
      by_cases hb : b.toNat < 128
      · rw [if_pos hb] at h ⊢
        by_cases hc : 1099511627776 < m + b.toNat % 128 * p ∨ 0 < i ∧ b.toNat = 0
        · rw [if_pos hc] at h; exact absurd rfl h
        · rw [if_neg hc, Nat.mod_eq_of_lt hb]
          refine ⟨b.toNat, 1, rfl, ?_, by omega, ?_⟩
          · rw [enc_small _ hb, byte_of_toNat]; rfl
          · rw [enc_small _ hb]; rfl
      · rw [if_neg hb] at h ⊢
        obtain ⟨n, j, h1, h2, h3, h4⟩ := ih _ _ _ _ h
        have hn := h3 (by omega)
        have hb8 := UInt8.toNat_lt b
        have e1 : (b.toNat % 128 + 128 * n) % 128 = b.toNat % 128 := by omega
        have e2 : (b.toNat % 128 + 128 * n) / 128 = n := by omega
        have e3 : b.toNat % 128 + 128 = b.toNat := by omega
        have hE : enc (b.toNat % 128 + 128 * n) = b :: enc n := by rw [enc_big _ (by omega), e1, e2, e3, byte_of_toNat]
        have hs := mul_split (b.toNat % 128 + 128 * n) p
        rw [e1, e2] at hs
        refine ⟨b.toNat % 128 + 128 * n, j + 1, ?_, ?_, by omega, ?_⟩
        · rw [h1]
          have a1 : m + b.toNat % 128 * p + n * (p * 128) = m + (b.toNat % 128 + 128 * n) * p := by omega
          have a2 : i + 1 + j = i + (j + 1) := by omega
          rw [a1, a2]
        · rw [List.take_succ_cons, h2, hE]
        · rw [hE, List.length_cons, h4]
theorem rdNum_back (bs : List UInt8) (h : (rdNum bs).2 ≠ 0) : bs.take (rdNum bs).2 = enc (rdNum bs).1 ∧ (rdNum bs).2 = (enc (rdNum bs).1).length := by
  obtain ⟨n, j, h1, h2, _, h4⟩ := rdF_back 6 0 0 1 bs h
  have e : rdNum bs = (n, j) := by unfold rdNum; rw [h1]; simp
  rw [e]
  exact ⟨h2, h4⟩
theorem rdText_back (bs : List UInt8) (h : (rdText bs).2 ≠ 0) : (rdText bs).1.length ≤ 3000 ∧ bs.take (rdText bs).2 = enc (rdText bs).1.length ++ (rdText bs).1 ∧ (rdText bs).2 ≤ bs.length := by
  have hl := rdText_len bs
  unfold rdText at h hl ⊢
  by_cases hc : (rdNum bs).2 = 0 ∨ 3000 < (rdNum bs).1 ∨ bs.length < (rdNum bs).2 + (rdNum bs).1
  · rw [if_pos hc] at h; exact absurd rfl h
  · rw [if_neg hc] at hl ⊢
    simp only at hl ⊢
    have hb := rdNum_back bs (by omega)
    have hlen : ((bs.drop (rdNum bs).2).take (rdNum bs).1).length = (rdNum bs).1 := by rw [List.length_take, List.length_drop]; omega
    rw [hlen]
    refine ⟨by omega, ?_, hl⟩
    rw [List.take_add, hb.1]
/-- What is read as texts is what they are written as. -/
theorem rdAcc_back (bs : List UInt8) : ∀ (m p : Nat) (acc : List ByteArray) (r : List ByteArray × Nat), rdAcc bs m p acc = some r → p ≤ bs.length → ∃ ss, r.1 = acc ++ ss ∧ ss.length = m ∧ (∀ s ∈ ss, s.size ≤ 3000) ∧ r.2 = p + (tx ss).length ∧ (bs.drop p).take (tx ss).length = tx ss ∧ r.2 ≤ bs.length := by
  intro m
  induction m with
  | zero =>
    intro p acc r h hp
    rw [rdAcc] at h
    cases h
    exact ⟨[], by simp, rfl, (fun s hs => (by cases hs)), by simp [tx], by simp [tx], hp⟩
  | succ m ih =>
    intro p acc r h hp
    by_cases hT : (rdText (bs.drop p)).2 = 0
    · rw [rdAcc_no bs m p acc hT] at h; cases h
    · rw [rdAcc_go bs m p acc hT] at h
      obtain ⟨b1, b2, b3⟩ := rdText_back (bs.drop p) hT
      rw [List.length_drop] at b3
      obtain ⟨ss, h1, h2, h3, h4, h5, h6⟩ := ih _ _ r h (by omega)
      generalize hs : (⟨(rdText (bs.drop p)).1.toArray⟩ : ByteArray) = s at h1
      have hsl : s.data.toList = (rdText (bs.drop p)).1 := by rw [← hs]
      have hsz : s.size = (rdText (bs.drop p)).1.length := by rw [← hsl, size_length]
      have hE : tx (s :: ss) = (bs.drop p).take (rdText (bs.drop p)).2 ++ tx ss := by rw [tx, hsl, hsz, ← b2]
      have hEl : ((bs.drop p).take (rdText (bs.drop p)).2).length = (rdText (bs.drop p)).2 := by rw [List.length_take, List.length_drop]; omega
      refine ⟨s :: ss, by rw [h1]; simp, by rw [List.length_cons, h2], fun t ht => ?_, ?_, ?_, h6⟩
      · rcases List.mem_cons.1 ht with e | e
        · subst e; omega
        · exact h3 t e
      · rw [hE, List.length_append, hEl, h4]; omega
      · rw [hE, List.length_append, hEl, List.take_add, List.drop_drop, h5]
theorem fin_back (bs : List UInt8) (ss : List ByteArray) (h : fin bs (rdAll bs) = (ss, true)) : textsOf ss = bs := by
  cases hr : rdAll bs with
  | none => rw [hr] at h; cases h
  | some r =>
    rw [hr] at h
    unfold fin at h
    simp only at h
    by_cases hl : r.2 = bs.length
    · rw [if_pos hl] at h
      obtain ⟨h1, _⟩ := Prod.mk.inj h
      subst h1
      unfold rdAll at hr
      by_cases hc : (rdNum bs).2 = 0 ∨ 200 < (rdNum bs).1
      · rw [if_pos hc] at hr; cases hr
      · rw [if_neg hc] at hr
        have hb := rdNum_back bs (by omega)
        have hn := rdNum_len bs
        obtain ⟨ss, h1, h2, h3, h4, h5, _⟩ := rdAcc_back bs _ _ _ r hr hn.1
        rw [List.nil_append] at h1
        rw [h1]
        rw [textsOf_in ss (by omega) h3, h2, ← hb.1]
        have e : bs.drop (rdNum bs).2 = tx ss := by
          rw [← h5, List.take_of_length_le (by rw [List.length_drop]; omega)]
        rw [← e, List.take_append_drop]
    · rw [if_neg hl] at h; cases h
theorem fin_no (bs : List UInt8) (ss : List ByteArray) (h : fin bs (rdAll bs) = (ss, false)) : ss = [] := by
  cases hr : rdAll bs with
  | none => rw [hr] at h; cases h; rfl
  | some r =>
    rw [hr] at h
    unfold fin at h
    simp only at h
    split at h
    · cases h
    · cases h; rfl
end Go.Proofs.Ytbldoeadmnepkaa
