/- Plain facts: what is written as texts is read as those texts, no part of it is read as any, and what is read as texts is what they are written as. -/
import Derived.Test.YtckidhcknibceaaMath1
import Derived.Test.YtckidhcknibceaaManyBase
import Derived.Test.YtckidhcknibceaaTexts
namespace Go.Proofs.Ytckidhcknibceaa
/-- Texts that are written are read. -/
theorem rdAcc_tx (bs : List UInt8) : ∀ (ss : List ByteArray) (p : Nat) (acc : List ByteArray), (∀ s ∈ ss, s.size ≤ 3000) → bs.drop p = tx ss → rdAcc bs ss.length p acc = some (acc ++ ss, p + (tx ss).length) := by
  intro ss
  induction ss with
  | nil => intro p acc _ _; simp [rdAcc, tx]
  | cons s r ih =>
    intro p acc hs hd
    have h3 := hs s List.mem_cons_self
    have hp := enc_pos s.size
    have hT : rdText (bs.drop p) = (s.data.toList, (enc s.size ++ s.data.toList).length) := by rw [hd, tx]; exact rdText_enc s _ h3
    rw [List.length_cons, rdAcc_go bs r.length p acc (by rw [hT]; simp only [List.length_append]; omega), hT]
    simp only
    rw [back, ih _ _ (fun t ht => hs t (List.mem_cons_of_mem _ ht)) (by rw [← List.drop_drop, hd, tx]; exact List.drop_left), tx, List.append_assoc]
    simp only [List.singleton_append, Nat.add_assoc, List.length_append]
/-- No part of some texts is read as these. -/
theorem rdAcc_part (bs : List UInt8) : ∀ (ss : List ByteArray) (p j : Nat) (acc : List ByteArray), (∀ s ∈ ss, s.size ≤ 3000) → bs.drop p = (tx ss).take j → j < (tx ss).length → rdAcc bs ss.length p acc = none := by
  intro ss
  induction ss with
  | nil => intro p j acc _ _ hj; simp [tx] at hj
  | cons s r ih =>
    intro p j acc hs hd hj
    have h3 := hs s List.mem_cons_self
    have hp := enc_pos s.size
    rw [tx] at hd hj
    by_cases hk : j < (enc s.size ++ s.data.toList).length
    · rw [List.length_cons, rdAcc_no bs r.length p acc (by rw [hd, List.take_append_of_le_length (by omega)]; exact rdText_part s j h3 hk)]
    · have e : ((enc s.size ++ s.data.toList) ++ tx r).take j = (enc s.size ++ s.data.toList) ++ (tx r).take (j - (enc s.size ++ s.data.toList).length) := by rw [List.take_append, List.take_of_length_le (by omega)]
      rw [e] at hd
      have hT : rdText (bs.drop p) = (s.data.toList, (enc s.size ++ s.data.toList).length) := by rw [hd]; exact rdText_enc s _ h3
      rw [List.length_cons, rdAcc_go bs r.length p acc (by rw [hT]; simp only [List.length_append]; omega), hT]
      simp only
      exact ih _ (j - (enc s.size ++ s.data.toList).length) _ (fun t ht => hs t (List.mem_cons_of_mem _ ht)) (by rw [← List.drop_drop, hd]; exact List.drop_left) (by rw [List.length_append] at hj; omega)
/-- What is written as texts is read as those. -/
theorem fin_texts (ss : List ByteArray) (h : textsOf ss ≠ []) : fin (textsOf ss) (rdAll (textsOf ss)) = (ss, true) := by
  have hh : ss.length ≤ 200 ∧ ∀ s ∈ ss, s.size ≤ 3000 := by
    refine Decidable.byContradiction fun hn => h ?_
    unfold textsOf
    rw [if_neg hn]
  have e := textsOf_in ss hh.1 hh.2
  have hp := enc_pos ss.length
  rw [e]
  unfold rdAll
  rw [rdNum_enc ss.length _ (by omega)]
  simp only
  rw [if_neg (by omega), rdAcc_tx _ ss _ _ hh.2 List.drop_left]
  unfold fin
  simp only [List.length_append, List.nil_append, if_pos]
/-- No part of what is written as texts is read as texts. -/
theorem fin_part (ss : List ByteArray) (j : Nat) (hj : j < (textsOf ss).length) : fin ((textsOf ss).take j) (rdAll ((textsOf ss).take j)) = ([], false) := by
  have hh : ss.length ≤ 200 ∧ ∀ s ∈ ss, s.size ≤ 3000 := by
    refine Decidable.byContradiction fun hn => ?_
    unfold textsOf at hj
    rw [if_neg hn] at hj
    simp at hj
  have e := textsOf_in ss hh.1 hh.2
  have hp := enc_pos ss.length
  rw [e] at hj ⊢
  have hnone : rdAll ((enc ss.length ++ tx ss).take j) = none := by
    unfold rdAll
    by_cases hk : j < (enc ss.length).length
    · rw [List.take_append_of_le_length (by omega), rdNum_part _ _ hk]
      rfl
    · have e2 : (enc ss.length ++ tx ss).take j = enc ss.length ++ (tx ss).take (j - (enc ss.length).length) := by rw [List.take_append, List.take_of_length_le (by omega)]
      rw [e2, rdNum_enc ss.length _ (by omega)]
      simp only
      rw [if_neg (by omega)]
      exact rdAcc_part _ ss _ (j - (enc ss.length).length) _ hh.2 List.drop_left (by rw [List.length_append] at hj; omega)
  rw [hnone]
  rfl
/-- What is read as texts is what they are written as. -/
theorem rdAcc_back (bs : List UInt8) : ∀ (m p : Nat) (acc : List ByteArray) (r : List ByteArray × Nat), rdAcc bs m p acc = some r → p ≤ bs.length → ∃ ss, r.1 = acc ++ ss ∧ ss.length = m ∧ (∀ s ∈ ss, s.size ≤ 3000) ∧ r.2 = p + (tx ss).length ∧ (bs.drop p).take (tx ss).length = tx ss ∧ r.2 ≤ bs.length := by
  intro m
  induction m with
  | zero =>
    intro p acc r h hp
    rw [rdAcc] at h
    cases h
    exact ⟨[], by simp, rfl, (fun s hs => (by cases hs)), by simp [tx], by simp [tx], hp⟩
  | succ m ih =>
    intro p acc r h hp
    by_cases hT : (rdText (bs.drop p)).2 = 0
    · rw [rdAcc_no bs m p acc hT] at h; cases h
    · rw [rdAcc_go bs m p acc hT] at h
      obtain ⟨b1, b2, b3⟩ := rdText_back (bs.drop p) hT
      rw [List.length_drop] at b3
      obtain ⟨ss, h1, h2, h3, h4, h5, h6⟩ := ih _ _ r h (by omega)
      generalize hs : (⟨(rdText (bs.drop p)).1.toArray⟩ : ByteArray) = s at h1
      have hsl : s.data.toList = (rdText (bs.drop p)).1 := by rw [← hs]
      have hsz : s.size = (rdText (bs.drop p)).1.length := by rw [← hsl, size_length]
      have hE : tx (s :: ss) = (bs.drop p).take (rdText (bs.drop p)).2 ++ tx ss := by rw [tx, hsl, hsz, ← b2]
      have hEl : ((bs.drop p).take (rdText (bs.drop p)).2).length = (rdText (bs.drop p)).2 := by rw [List.length_take, List.length_drop]; omega
      refine ⟨s :: ss, by rw [h1]; simp, by rw [List.length_cons, h2], fun t ht => ?_, ?_, ?_, h6⟩
      · rcases List.mem_cons.1 ht with e | e
        · subst e; omega
        · exact h3 t e
      · rw [hE, List.length_append, hEl, h4]; omega
      · rw [hE, List.length_append, hEl, List.take_add, List.drop_drop, h5]
theorem fin_back (bs : List UInt8) (ss : List ByteArray) (h : fin bs (rdAll bs) = (ss, true)) : textsOf ss = bs := by
  cases hr : rdAll bs with
  | none => rw [hr] at h; cases h
  | some r =>
    rw [hr] at h
    unfold fin at h
    simp only at h
    by_cases hl : r.2 = bs.length
    · rw [if_pos hl] at h
      obtain ⟨h1, _⟩ := Prod.mk.inj h
      subst h1
      unfold rdAll at hr
      by_cases hc : (rdNum bs).2 = 0 ∨ 200 < (rdNum bs).1
      · rw [if_pos hc] at hr; cases hr
      · rw [if_neg hc] at hr
        have hb := rdNum_back bs (by omega)
        have hn := rdNum_len bs
        obtain ⟨ss, h1, h2, h3, h4, h5, _⟩ := rdAcc_back bs _ _ _ r hr hn.1
        rw [List.nil_append] at h1
        rw [h1]
        rw [textsOf_in ss (by omega) h3, h2, ← hb.1]
        have e : bs.drop (rdNum bs).2 = tx ss := by
          rw [← h5, List.take_of_length_le (by rw [List.length_drop]; omega)]
        rw [← e, List.take_append_drop]
    · rw [if_neg hl] at h; cases h
theorem fin_no (bs : List UInt8) (ss : List ByteArray) (h : fin bs (rdAll bs) = (ss, false)) : ss = [] := by
  cases hr : rdAll bs with
  | none => rw [hr] at h; cases h; rfl
  | some r =>
    rw [hr] at h
    unfold fin at h
    simp only at h
    split at h
    · cases h
    · cases h; rfl
end Go.Proofs.Ytckidhcknibceaa
