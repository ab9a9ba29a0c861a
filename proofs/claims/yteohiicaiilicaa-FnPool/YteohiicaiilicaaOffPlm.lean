/- Plain facts on pools: a pool stays one when an Offer comes in and when the first one goes, no Offer is lost or doubled, and the first one is behind none. -/
import Derived.Test.YteohiicaiilicaaOffMath
namespace Go.Proofs.Yteohiicaiilicaa
open Go.RowKit
theorem ahO_iff (a b : Off) : ahO a b = true ↔ b.fee < a.fee ∨ (a.fee = b.fee ∧ kLt a.text b.text = true) := by simp [ahO]
theorem ahO_irrefl (a : Off) : ahO a a = false := by simp [ahO, kLt_irrefl]
theorem ahO_asymm {a b : Off} (h : ahO a b = true) : ahO b a = false := by
  cases hb : ahO b a with
  | false => rfl
  | true =>
    rw [ahO_iff] at h hb
    rcases h with h | ⟨h1, h2⟩
    · rcases hb with hb | ⟨hb1, hb2⟩ <;> omega
    · rcases hb with hb | ⟨hb1, hb2⟩
      · omega
      · rw [kLt_asymm h2] at hb2; cases hb2
theorem ahO_ntrans {a b c : Off} (h : ahO a b = false) (k : ahO b c = false) : ahO a c = false := by
  cases hc : ahO a c with
  | false => rfl
  | true =>
    exfalso
    have h' : ¬ (ahO a b = true) := by rw [h]; simp
    have k' : ¬ (ahO b c = true) := by rw [k]; simp
    rw [ahO_iff] at h' k' hc
    have h1 : ¬ b.fee < a.fee := fun x => h' (.inl x)
    have h2 : ¬ c.fee < b.fee := fun x => k' (.inl x)
    rcases hc with hc | ⟨e, hc⟩
    · omega
    · have e1 : a.fee = b.fee := by omega
      have e2 : b.fee = c.fee := by omega
      have n1 : kLt a.text b.text = false := by
        cases hx : kLt a.text b.text with
        | false => rfl
        | true => exact absurd (.inr ⟨e1, hx⟩) h'
      have n2 : kLt b.text c.text = false := by
        cases hx : kLt b.text c.text with
        | false => rfl
        | true => exact absurd (.inr ⟨e2, hx⟩) k'
      cases hx : kLt b.text a.text with
      | true => rw [kLt_trans hx hc] at n2; cases n2
      | false =>
        have := kLt_tri n1 hx
        rw [this] at hc
        rw [n2] at hc
        cases hc
/-- No one is ahead of the one above it. -/
def HeapP (es : List Off) : Prop := ∀ k, 0 < k → k < es.length → ahO (nthO es k) (nthO es ((k - 1) / 2)) = false
theorem upL_heap (i : Nat) : ∀ (es : List Off), i < es.length →
    (∀ k, 0 < k → k < es.length → k ≠ i → ahO (nthO es k) (nthO es ((k - 1) / 2)) = false) →
    (∀ k, 0 < k → k < es.length → (k - 1) / 2 = i → 0 < i → ahO (nthO es k) (nthO es ((i - 1) / 2)) = false) → HeapP (upL es i) := by
  induction i using Nat.strongRecOn with
  | _ i ih =>
    intro es hi h1 h2
    by_cases hi0 : i = 0
    · subst hi0
      rw [upL_zero]
      exact fun k hk hl => h1 k hk hl (by omega)
    · cases ha : ahO (nthO es i) (nthO es ((i - 1) / 2)) with
      | false =>
        rw [upL_stop ha]
        intro k hk hl
        by_cases hki : k = i
        · subst hki; exact ha
        · exact h1 k hk hl hki
      | true =>
        rw [upL_go (by omega) ha]
        obtain ⟨p, hp⟩ : ∃ p, p = (i - 1) / 2 := ⟨_, rfl⟩
        rw [← hp] at ha ⊢
        have hpi : p < i := by omega
        have hx : ∀ k, k < es.length → nthO (swO es p i) k = if i = k then nthO es p else if p = k then nthO es i else nthO es k := fun k hk => nthO_sw hk
        have hr := ahO_asymm ha
        refine ih p hpi _ (by rw [swO_len]; omega) ?_ ?_
        · intro k hk hl hkp
          rw [swO_len] at hl
          rw [hx k hl, hx ((k - 1) / 2) (by omega)]
          by_cases hki : i = k
          · subst hki
            rw [if_pos rfl, ← hp, if_neg (by omega), if_pos rfl]
            exact hr
          · rw [if_neg hki, if_neg (fun e => hkp e.symm)]
            by_cases hq : i = (k - 1) / 2
            · rw [if_pos hq, hp]
              exact h2 k hk hl hq.symm (by omega)
            · rw [if_neg hq]
              have h3 := h1 k hk hl (fun e => hki e.symm)
              by_cases hq2 : p = (k - 1) / 2
              · rw [if_pos hq2]
                rw [← hq2] at h3
                exact ahO_ntrans h3 hr
              · rw [if_neg hq2]; exact h3
        · intro k hk hl hkp hp0
          rw [swO_len] at hl
          rw [hx k hl, hx ((p - 1) / 2) (by omega), if_neg (show ¬ i = (p - 1) / 2 by omega), if_neg (show ¬ p = (p - 1) / 2 by omega)]
          have h4 := h1 p hp0 (by omega) (by omega)
          by_cases hki : i = k
          · rw [if_pos hki]; exact h4
          · rw [if_neg hki, if_neg (show ¬ p = k by omega)]
            have h3 := h1 k hk hl (fun e => hki e.symm)
            rw [hkp] at h3
            exact ahO_ntrans h3 h4
theorem kid_best {es : List Off} {i k : Nat} (hk : k < es.length) (h0 : 0 < k) (hp : (k - 1) / 2 = i) : ahO (nthO es k) (nthO es (kid es es.length i)) = false := by
  have h12 : k = 2 * i + 1 ∨ k = 2 * i + 2 := by omega
  unfold kid
  split
  · rename_i h
    rcases h12 with e | e
    · rw [e]; exact ahO_asymm h.2
    · rw [e]; exact ahO_irrefl _
  · rename_i h
    rcases h12 with e | e
    · rw [e]; exact ahO_irrefl _
    · subst e
      cases ha : ahO (nthO es (2 * i + 2)) (nthO es (2 * i + 1)) with
      | false => rfl
      | true => exact absurd ⟨hk, ha⟩ h
theorem dnL_heap (d : Nat) : ∀ (i : Nat) (es : List Off), es.length - i = d → i < es.length →
    (∀ k, 0 < k → k < es.length → (k - 1) / 2 ≠ i → ahO (nthO es k) (nthO es ((k - 1) / 2)) = false) →
    (∀ k, 0 < k → k < es.length → (k - 1) / 2 = i → 0 < i → ahO (nthO es k) (nthO es ((i - 1) / 2)) = false) → HeapP (dnL es es.length i) := by
  induction d using Nat.strongRecOn with
  | _ d ih =>
    intro i es hd hi h1 h2
    by_cases hend : es.length ≤ 2 * i + 1
    · rw [dnL_end hend]
      exact fun k hk hl => h1 k hk hl (by omega)
    · obtain ⟨c, hc⟩ : ∃ c, c = kid es es.length i := ⟨_, rfl⟩
      have hci : c = 2 * i + 1 ∨ (c = 2 * i + 2 ∧ 2 * i + 2 < es.length) := by rw [hc]; exact kid_lt_or
      have hcl : c < es.length := by omega
      have hcp : (c - 1) / 2 = i := by omega
      have hbest : ∀ k, 0 < k → k < es.length → (k - 1) / 2 = i → ahO (nthO es k) (nthO es c) = false := fun k h0 hk hp => by rw [hc]; exact kid_best hk h0 hp
      cases ha : ahO (nthO es c) (nthO es i) with
      | false =>
        rw [dnL_stop hc ha]
        intro k hk hl
        by_cases hp : (k - 1) / 2 = i
        · rw [hp]; exact ahO_ntrans (hbest k hk hl hp) ha
        · exact h1 k hk hl hp
      | true =>
        rw [dnL_go hc hcl ha]
        have hx : ∀ k, k < es.length → nthO (swO es i c) k = if c = k then nthO es i else if i = k then nthO es c else nthO es k := fun k hk => nthO_sw hk
        have hr := ahO_asymm ha
        have hlen : es.length = (swO es i c).length := by rw [swO_len]
        have hG : HeapP (dnL (swO es i c) (swO es i c).length c) := by
          refine ih ((swO es i c).length - c) (by rw [swO_len]; omega) c _ rfl (by rw [swO_len]; omega) ?_ ?_
          · intro k hk hl hkc
            rw [swO_len] at hl
            rw [hx k hl, hx ((k - 1) / 2) (by omega)]
            by_cases hck : c = k
            · subst hck
              rw [if_pos rfl, hcp, if_neg (by omega), if_pos rfl]
              exact hr
            · rw [if_neg hck, if_neg (show ¬ c = (k - 1) / 2 from fun e => hkc e.symm)]
              by_cases hik : i = k
              · subst hik
                rw [if_pos rfl, if_neg (show ¬ i = (i - 1) / 2 by omega)]
                exact h2 c (by omega) hcl hcp hk
              · rw [if_neg hik]
                by_cases hq : i = (k - 1) / 2
                · rw [if_pos hq]; exact hbest k hk hl hq.symm
                · rw [if_neg hq]; exact h1 k hk hl (fun e => hq e.symm)
          · intro k hk hl hkc hc0
            rw [swO_len] at hl
            rw [hcp, hx k hl, hx i (by omega), if_neg (show ¬ c = k by omega), if_neg (show ¬ i = k by omega), if_neg (show ¬ c = i by omega), if_pos rfl]
            have h3 := h1 k hk hl (by omega)
            rw [hkc] at h3
            exact h3
        rw [← hlen] at hG
        exact hG
theorem heap_root {es : List Off} (h : HeapP es) (k : Nat) : k < es.length → ahO (nthO es k) (nthO es 0) = false := by
  induction k using Nat.strongRecOn with
  | _ k ih =>
    intro hk
    by_cases h0 : k = 0
    · rw [h0]; exact ahO_irrefl _
    · exact ahO_ntrans (h k (by omega) hk) (ih ((k - 1) / 2) (by omega) (by omega))
theorem swO_count (p : Off → Bool) {es : List Off} {i j : Nat} (hi : i < es.length) (hj : j < es.length) : (swO es i j).countP p = es.countP p := by
  unfold swO
  have hj2 : j < (es.set i (nthO es j)).length := by rw [List.length_set]; exact hj
  rw [List.countP_set hj2, List.countP_set hi]
  have e1 : (es.set i (nthO es j))[j] = nthO es j := by
    rw [← nthO_eq hj2, nthO_set _ hj]
    split <;> rfl
  have e2 : es[i] = nthO es i := (nthO_eq hi).symm
  rw [e1, e2]
  have h1 : (if p (nthO es i) = true then 1 else 0) ≤ es.countP p := by rw [← e2]; exact List.boole_getElem_le_countP hi
  omega
theorem upL_count (p : Off → Bool) (i : Nat) : ∀ es : List Off, i < es.length → (upL es i).countP p = es.countP p := by
  induction i using Nat.strongRecOn with
  | _ i ih =>
    intro es hi
    rw [upL]
    split
    · rename_i h
      rw [ih _ (by omega) _ (by rw [swO_len]; omega), swO_count p (by omega) hi]
    · rfl
theorem dnL_count (p : Off → Bool) (n d : Nat) : ∀ (i : Nat) (es : List Off), n - i = d → n ≤ es.length → i < es.length → (dnL es n i).countP p = es.countP p := by
  induction d using Nat.strongRecOn with
  | _ d ih =>
    intro i es hd hn hi
    rw [dnL]
    split
    · rename_i h
      have hg := kid_gt es n i
      rw [ih (n - kid es n i) (by omega) _ _ rfl (by rw [swO_len]; exact hn) (by rw [swO_len]; omega), swO_count p hi (by omega)]
    · rfl
theorem offL_count (p : Off → Bool) (es : List Off) (o : Off) : (offL es o).countP p = es.countP p + if p o = true then 1 else 0 := by
  unfold offL
  rw [upL_count p _ _ (by simp), List.countP_append, List.countP_singleton]
theorem nxtL_count (p : Off → Bool) {es : List Off} {n : Nat} (hn : es.length = n + 1) : es.countP p = (nxtL es).countP p + if p (nthO es 0) = true then 1 else 0 := by
  have h1 := dnL_count p n (n - 0) 0 (swO es 0 n) rfl (by rw [swO_len]; omega) (by rw [swO_len]; omega)
  rw [pop_eq hn, List.countP_append, List.countP_singleton, swO_count p (by omega) (by omega)] at h1
  exact h1.symm
theorem all_of {p : Off → Bool} {es : List Off} : (∀ e ∈ es, p e = true) ↔ es.countP (fun e => !p e) = 0 := by
  rw [List.countP_eq_zero]
  constructor
  · intro h e he; rw [h e he]; simp
  · intro h e he
    have := h e he
    cases hp : p e with
    | true => rfl
    | false => rw [hp] at this; simp at this
theorem offL_all {p : Off → Bool} {es : List Off} {o : Off} (h : ∀ e ∈ es, p e = true) (ho : p o = true) : ∀ e ∈ offL es o, p e = true := by
  rw [all_of, offL_count, all_of.1 h, ho]; simp
theorem nxtL_all {p : Off → Bool} {es : List Off} {n : Nat} (hn : es.length = n + 1) (h : ∀ e ∈ es, p e = true) : ∀ e ∈ nxtL es, p e = true := by
  have h1 := nxtL_count (fun e => !p e) hn
  rw [all_of.1 h] at h1
  rw [all_of]
  omega
theorem nth_all {p : Off → Bool} {es : List Off} : (∀ e ∈ es, p e = true) ↔ ∀ i, i < es.length → p (nthO es i) = true := by
  constructor
  · intro h i hi
    rw [nthO_eq hi]
    exact h _ (List.getElem_mem hi)
  · intro h e he
    obtain ⟨i, hi, rfl⟩ := List.getElem_of_mem he
    rw [← nthO_eq hi]
    exact h i hi
theorem poolP_iff {es : List Off} : PoolP es ↔ es.length ≤ 50 ∧ (∀ e ∈ es, okO e = true) ∧ HeapP es := by
  unfold PoolP
  constructor
  · rintro ⟨h1, h2⟩
    refine ⟨h1, nth_all.2 (fun i hi => ?_), fun k hk hl => ?_⟩
    · have := h2 i hi
      unfold okAtO at this
      simp only [Bool.and_eq_true] at this
      exact this.1
    · have := h2 k hl
      unfold okAtO at this
      simp only [Bool.and_eq_true, Bool.or_eq_true, decide_eq_true_eq, Bool.not_eq_true'] at this
      rcases this.2 with h | h
      · omega
      · exact h
  · rintro ⟨h1, h2, h3⟩
    refine ⟨h1, fun i hi => ?_⟩
    unfold okAtO
    rw [nth_all.1 h2 i hi]
    by_cases h0 : i = 0
    · simp [h0]
    · rw [h3 i (by omega) hi]; simp
theorem poolP_off {es : List Off} {o : Off} (h : PoolP es) (ho : okO o = true) (hl : es.length < 50) : PoolP (offL es o) := by
  obtain ⟨h1, h2, h3⟩ := poolP_iff.1 h
  refine poolP_iff.2 ⟨by rw [offL_len]; omega, offL_all h2 ho, ?_⟩
  unfold offL
  refine upL_heap es.length (es ++ [o]) (by simp) ?_ ?_
  · intro k hk hkl hne
    rw [List.length_append, List.length_singleton] at hkl
    rw [nthO_append_left (by omega), nthO_append_left (by omega)]
    exact h3 k hk (by omega)
  · intro k hk hkl hp h0
    rw [List.length_append, List.length_singleton] at hkl
    omega
theorem poolP_nxt {es : List Off} {n : Nat} (h : PoolP es) (hn : es.length = n + 1) : PoolP (nxtL es) := by
  obtain ⟨h1, h2, h3⟩ := poolP_iff.1 h
  refine poolP_iff.2 ⟨by rw [nxtL_len]; omega, nxtL_all hn h2, ?_⟩
  by_cases hn0 : n = 0
  · intro k hk hl
    rw [nxtL_len] at hl
    omega
  · have hl : ((es.take n).set 0 (nthO es n)).length = n := by rw [List.length_set, List.length_take]; omega
    have hx : ∀ k, 0 < k → k < n → nthO ((es.take n).set 0 (nthO es n)) k = nthO es k := fun k h0 hk => by
      rw [nthO_set _ (by rw [List.length_take]; omega), if_neg (by omega), nthO_take hk (by omega)]
    have hG := dnL_heap (((es.take n).set 0 (nthO es n)).length - 0) 0 ((es.take n).set 0 (nthO es n)) rfl (by omega) (fun k hk hkl hp => by
      rw [hl] at hkl
      rw [hx k hk hkl, hx _ (by omega) (by omega)]
      exact h3 k hk (by omega)) (fun k hk hkl hp h0 => absurd h0 (by omega))
    rw [hl] at hG
    unfold nxtL
    rw [hn, Nat.add_sub_cancel]
    exact hG
/-- Behind the first one, none is ahead of it. -/
theorem nxtL_behind {es : List Off} {n : Nat} (h : PoolP es) (hn : es.length = n + 1) : ∀ e ∈ nxtL es, ahO e (nthO es 0) = false := by
  have h1 : ∀ e ∈ es, (!ahO e (nthO es 0)) = true := nth_all.2 (fun i hi => by rw [heap_root (poolP_iff.1 h).2.2 i hi]; rfl)
  have h2 := nxtL_all hn h1
  intro e he
  have := h2 e he
  simpa using this
end Go.Proofs.Yteohiicaiilicaa
