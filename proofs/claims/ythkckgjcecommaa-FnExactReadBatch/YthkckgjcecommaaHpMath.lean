/- Plain facts on a heap of what is left of some lists, and on what comes of taking the first of all again and again: no function of the program is walked here. -/
import Derived.Test.YthkckgjcecommaaMrgSeen
namespace Go.Proofs.Ythkckgjcecommaa
/-- What is left of one of the lists, and which of them it is. -/
structure Src where
  v : Value
  es : List Ent
  no : Nat
def Src.hd (s : Src) : Ent := nth s.es 0
/-- Of two entries with their lists' numbers, is the first ahead? -/
def ltT (x : Ent) (i : Nat) (y : Ent) (j : Nat) : Bool := ahd x y || (sameKS x y && decide (i < j))
theorem sameKS_refl (x : Ent) : sameKS x x = true := by rw [sameKS_iff]; exact ⟨rfl, rfl⟩
theorem sameKS_symm {x y : Ent} (h : sameKS x y = true) : sameKS y x = true := by rw [sameKS_iff] at h ⊢; exact ⟨h.1.symm, h.2.symm⟩
theorem sameKS_trans {x y z : Ent} (h : sameKS x y = true) (k : sameKS y z = true) : sameKS x z = true := by rw [sameKS_iff] at h k ⊢; exact ⟨h.1.trans k.1, h.2.trans k.2⟩
theorem ahd_congr2 {x y z : Ent} (h : ahd x y = true) (hz : sameKS y z = true) : ahd x z = true := by
  rw [sameKS_iff] at hz
  rw [ahd_iff] at h ⊢
  rw [← hz.1, ← hz.2]; exact h
theorem ahd_same {x y : Ent} (h : ahd x y = true) (k : sameKS x y = true) : False := by
  have := ahd_congr2 h (sameKS_symm k)
  rw [ahd_irrefl] at this; cases this
theorem ltT_iff (x : Ent) (i : Nat) (y : Ent) (j : Nat) : ltT x i y j = true ↔ ahd x y = true ∨ (sameKS x y = true ∧ i < j) := by simp [ltT]
theorem ltT_irrefl (x : Ent) (i : Nat) : ltT x i x i = false := by
  cases h : ltT x i x i with
  | false => rfl
  | true =>
    rw [ltT_iff] at h
    rcases h with h | h
    · rw [ahd_irrefl] at h; cases h
    · omega
theorem ltT_trans {x y z : Ent} {i j k : Nat} (h : ltT x i y j = true) (h2 : ltT y j z k = true) : ltT x i z k = true := by
  rw [ltT_iff] at *
  rcases h with h | h
  · rcases h2 with h2 | h2
    · exact .inl (ahd_trans h h2)
    · exact .inl (ahd_congr2 h h2.1)
  · rcases h2 with h2 | h2
    · exact .inl (ahd_congr h.1 h2)
    · exact .inr ⟨sameKS_trans h.1 h2.1, by omega⟩
theorem ltT_tri (x : Ent) (i : Nat) (y : Ent) (j : Nat) : ltT x i y j = true ∨ ltT y j x i = true ∨ (sameKS x y = true ∧ i = j) := by
  rw [ltT_iff, ltT_iff]
  cases hs : sameKS x y with
  | true =>
    rcases Nat.lt_trichotomy i j with h | h | h
    · exact .inl (.inr ⟨rfl, h⟩)
    · exact .inr (.inr ⟨rfl, h⟩)
    · exact .inr (.inl (.inr ⟨sameKS_symm hs, h⟩))
  | false =>
    cases ha : ahd x y with
    | true => exact .inl (.inl rfl)
    | false => exact .inr (.inl (.inl (ahd_tri ha hs)))
theorem ltT_asymm {x y : Ent} {i j : Nat} (h : ltT x i y j = true) : ltT y j x i = false := by
  cases h2 : ltT y j x i with
  | false => rfl
  | true => have := ltT_trans h h2; rw [ltT_irrefl] at this; cases this
def lessS (a b : Src) : Bool := ltT a.hd a.no b.hd b.no
theorem lessS_asymm {a b : Src} (h : lessS a b = true) : lessS b a = false := ltT_asymm h
/-- What is not behind what is not behind is not behind. -/
theorem le_trans {a b c : Src} (h : lessS b a = false) (h2 : lessS c b = false) : lessS c a = false := by
  cases h3 : lessS c a with
  | false => rfl
  | true =>
    rcases ltT_tri a.hd a.no b.hd b.no with k | k | k
    · have h4 := ltT_trans h3 k
      unfold lessS at h2; rw [h4] at h2; cases h2
    · unfold lessS at h; rw [k] at h; cases h
    · have h4 : ltT c.hd c.no b.hd b.no = true := by
        unfold lessS at h3
        rw [ltT_iff] at h3 ⊢
        rcases h3 with h3 | h3
        · exact .inl (ahd_congr2 h3 k.1)
        · exact .inr ⟨sameKS_trans h3.1 k.1, by omega⟩
      unfold lessS at h2; rw [h4] at h2; cases h2
def zeroS : Src := ⟨.slice none 0 0, [], 0⟩
def sN (hs : List Src) (i : Nat) : Src := hs.getD i zeroS
theorem sN_eq {hs : List Src} {i : Nat} (h : i < hs.length) : sN hs i = hs[i] := by simp [sN, List.getD, List.getElem?_eq_getElem h]
theorem sN_mem {hs : List Src} {i : Nat} (h : i < hs.length) : sN hs i ∈ hs := by rw [sN_eq h]; exact List.getElem_mem h
def swapS (hs : List Src) (i j : Nat) : List Src := (hs.set i (sN hs j)).set j (sN hs i)
theorem swapS_len (hs : List Src) (i j : Nat) : (swapS hs i j).length = hs.length := by simp [swapS]
theorem sN_swap {hs : List Src} {i j k : Nat} (hi : i < hs.length) (hj : j < hs.length) : sN (swapS hs i j) k = if k = j then sN hs i else if k = i then sN hs j else sN hs k := by
  unfold swapS
  by_cases hk : k < hs.length
  · rw [sN_eq (by simpa using hk)]
    simp only [List.getElem_set]
    by_cases h1 : k = j
    · subst h1; simp
    · have h1' : ¬ j = k := fun e => h1 e.symm
      by_cases h2 : k = i
      · subst h2; simp [h1, h1']
      · have h2' : ¬ i = k := fun e => h2 e.symm
        simp [h1, h1', h2, h2', sN_eq hk]
  · rw [if_neg (by omega), if_neg (by omega)]
    unfold sN List.getD
    rw [List.getElem?_eq_none (by simpa using hk), List.getElem?_eq_none (by omega)]
theorem swapS_perm {hs : List Src} {i j : Nat} (hi : i < hs.length) (hj : j < hs.length) : (swapS hs i j).Perm hs := by
  have h := Array.swap_perm (xs := hs.toArray) (i := i) (j := j) (by simpa using hi) (by simpa using hj)
  rw [Array.perm_iff_toList_perm] at h
  have e : (hs.toArray.swap i j (by simpa using hi) (by simpa using hj)).toList = swapS hs i j := by
    simp [Array.swap, swapS, sN_eq hi, sN_eq hj]
  rw [e] at h
  exact h
/-- Nobody of the first n is ahead of the one above it. -/
def HP (hs : List Src) (n : Nat) : Prop := ∀ k, 0 < k → k < n → lessS (sN hs k) (sN hs ((k - 1) / 2)) = false
def upOk (hs : List Src) (j : Nat) : Prop :=
  (∀ k, 0 < k → k < hs.length → k ≠ j → lessS (sN hs k) (sN hs ((k - 1) / 2)) = false) ∧ (∀ k, 0 < k → k < hs.length → (k - 1) / 2 = j → 0 < j → lessS (sN hs k) (sN hs ((j - 1) / 2)) = false)
theorem up_step {hs : List Src} {j : Nat} (hj : j < hs.length) (hj0 : 0 < j) (h : upOk hs j) (hl : lessS (sN hs j) (sN hs ((j - 1) / 2)) = true) : upOk (swapS hs ((j - 1) / 2) j) ((j - 1) / 2) := by
  obtain ⟨h1, h2⟩ := h
  obtain ⟨i, hi⟩ : ∃ i, i = (j - 1) / 2 := ⟨_, rfl⟩
  rw [← hi] at hl h2 ⊢
  have hil : i < hs.length := by omega
  have S := fun k => sN_swap (hs := hs) (i := i) (j := j) (k := k) hil hj
  refine ⟨fun k hk0 hk hki => ?_, fun k hk0 hk hkp hi0 => ?_⟩
  · rw [swapS_len] at hk
    by_cases hkj : k = j
    · subst hkj
      rw [← hi, S k, if_pos rfl, S i, if_neg (by omega), if_pos rfl]
      exact lessS_asymm hl
    · rw [S k, if_neg hkj, if_neg hki]
      by_cases hp : (k - 1) / 2 = j
      · rw [hp, S j, if_pos rfl]; exact h2 k hk0 hk hp hj0
      · by_cases hp2 : (k - 1) / 2 = i
        · rw [hp2, S i, if_neg (by omega), if_pos rfl]
          have h3 := h1 k hk0 hk hkj
          rw [hp2] at h3
          exact le_trans (lessS_asymm hl) h3
        · rw [S _, if_neg hp, if_neg hp2]; exact h1 k hk0 hk hkj
  · rw [swapS_len] at hk
    have hgp : (i - 1) / 2 ≠ j ∧ (i - 1) / 2 ≠ i := by omega
    rw [S ((i - 1) / 2), if_neg hgp.1, if_neg hgp.2]
    have h3 := h1 i hi0 hil (by omega)
    by_cases hkj : k = j
    · subst hkj
      rw [S k, if_pos rfl]; exact h3
    · rw [S k, if_neg hkj, if_neg (by omega)]
      have h4 := h1 k hk0 hk hkj
      rw [hkp] at h4
      exact le_trans h3 h4
theorem up_zero {hs : List Src} (h : upOk hs 0) : HP hs hs.length := fun k hk0 hk => h.1 k hk0 hk (by omega)
theorem up_stop {hs : List Src} {j : Nat} (h : upOk hs j) (hl : lessS (sN hs j) (sN hs ((j - 1) / 2)) = false) : HP hs hs.length := fun k hk0 hk => by
  by_cases hkj : k = j
  · subst hkj; exact hl
  · exact h.1 k hk0 hk hkj
theorem sN_append {hs : List Src} {s : Src} {k : Nat} (h : k < hs.length) : sN (hs ++ [s]) k = sN hs k := by
  rw [sN_eq h, sN_eq (by simp; omega)]
  exact List.getElem_append_left h
theorem up_push {hs : List Src} (s : Src) (h : HP hs hs.length) : upOk (hs ++ [s]) hs.length := by
  refine ⟨fun k hk0 hk hkn => ?_, fun k hk0 hk hkp h0 => ?_⟩
  · rw [List.length_append] at hk
    simp at hk
    rw [sN_append (by omega), sN_append (by omega)]
    exact h k hk0 (by omega)
  · rw [List.length_append] at hk
    simp at hk
    omega
def dnOk (hs : List Src) (i n : Nat) : Prop :=
  (∀ k, 0 < k → k < n → (k - 1) / 2 ≠ i → lessS (sN hs k) (sN hs ((k - 1) / 2)) = false) ∧ (∀ k, 0 < k → k < n → (k - 1) / 2 = i → 0 < i → lessS (sN hs k) (sN hs ((i - 1) / 2)) = false)
theorem dn_step {hs : List Src} {i j n : Nat} (hn : n ≤ hs.length) (hj : j < n) (hjp : j = 2 * i + 1 ∨ j = 2 * i + 2) (h : dnOk hs i n) (hc : ∀ k, k < n → k = 2 * i + 1 ∨ k = 2 * i + 2 → lessS (sN hs k) (sN hs j) = false)
    (hl : lessS (sN hs j) (sN hs i) = true) : dnOk (swapS hs i j) j n := by
  obtain ⟨h1, h2⟩ := h
  have hil : i < hs.length := by omega
  have hjl : j < hs.length := by omega
  have S := fun k => sN_swap (hs := hs) (i := i) (j := j) (k := k) hil hjl
  refine ⟨fun k hk0 hk hkp => ?_, fun k hk0 hk hkp _ => ?_⟩
  · by_cases hkj : k = j
    · subst hkj
      rw [show (k - 1) / 2 = i by omega, S k, if_pos rfl, S i, if_neg (by omega), if_pos rfl]
      exact lessS_asymm hl
    · by_cases hki : k = i
      · subst hki
        rw [S k, if_neg hkj, if_pos rfl, S _, if_neg hkp, if_neg (by omega)]
        exact h2 j (by omega) hj (by omega) hk0
      · rw [S k, if_neg hkj, if_neg hki]
        by_cases hp : (k - 1) / 2 = i
        · rw [hp, S i, if_neg (by omega), if_pos rfl]
          exact hc k hk (by omega)
        · rw [S _, if_neg hkp, if_neg hp]
          exact h1 k hk0 hk hp
  · rw [show (j - 1) / 2 = i by omega, S k, if_neg (by omega), if_neg (by omega), S i, if_neg (by omega), if_pos rfl]
    have := h1 k hk0 hk (by omega)
    rw [hkp] at this
    exact this
theorem dn_end {hs : List Src} {i n : Nat} (h : dnOk hs i n) (hj : n ≤ 2 * i + 1) : HP hs n := fun k hk0 hk => h.1 k hk0 hk (by omega)
theorem dn_stop {hs : List Src} {i j n : Nat} (h : dnOk hs i n) (hc : ∀ k, k < n → k = 2 * i + 1 ∨ k = 2 * i + 2 → lessS (sN hs k) (sN hs j) = false) (hl : lessS (sN hs j) (sN hs i) = false) : HP hs n := fun k hk0 hk => by
  by_cases hp : (k - 1) / 2 = i
  · rw [hp]
    exact le_trans hl (hc k hk (by omega))
  · exact h.1 k hk0 hk hp
theorem dn_root {hs : List Src} {n : Nat} (hn : hs.length = n + 1) (h : HP hs hs.length) : dnOk (swapS hs 0 n) 0 n := by
  have S := fun k => sN_swap (hs := hs) (i := 0) (j := n) (k := k) (by omega) (by omega)
  refine ⟨fun k hk0 hk hkp => ?_, fun k _ _ _ h0 => by omega⟩
  rw [S k, if_neg (by omega), if_neg (by omega), S _, if_neg (by omega), if_neg hkp]
  exact h k hk0 (by omega)
theorem HP_min {hs : List Src} {n : Nat} (h : HP hs n) : ∀ k, k < n → lessS (sN hs k) (sN hs 0) = false := by
  intro k
  induction k using Nat.strongRecOn with
  | _ k ih =>
    intro hk
    by_cases h0 : k = 0
    · subst h0
      exact ltT_irrefl _ _
    · exact le_trans (ih ((k - 1) / 2) (by omega) (by omega)) (h k (by omega) hk)
theorem HP_take {hs : List Src} {n : Nat} (hn : n ≤ hs.length) (h : HP hs n) : HP (hs.take n) (hs.take n).length := by
  have hl : (hs.take n).length = n := by rw [List.length_take]; omega
  have S : ∀ k, k < n → sN (hs.take n) k = sN hs k := fun k hk => by rw [sN_eq (by omega), sN_eq (by omega)]; exact List.getElem_take
  intro k hk0 hk
  rw [hl] at hk
  rw [S k hk, S _ (by omega)]
  exact h k hk0 hk
/-- Nobody with the same key and number is in a list ahead. -/
def First (ls : List (List Ent)) (z : Ent) : Prop := ∃ (i : Nat) (l : List Ent), ls[i]? = some l ∧ z ∈ l ∧ ∀ (j : Nat) (m : List Ent), j < i → ls[j]? = some m → ∀ u ∈ m, sameKS u z = false
theorem mrg_keep {a b : List Ent} {z : Ent} (h : z ∈ a) : z ∈ mrg a b := (mrg_has _ a b (Nat.le_refl _) z).1 h
/-- What is in two merged lists. -/
theorem mrg_iff : ∀ (n : Nat) (a b : List Ent), a.length + b.length ≤ n → Sr a → Sr b → ∀ z, z ∈ mrg a b ↔ z ∈ a ∨ (z ∈ b ∧ ∀ u ∈ a, sameKS u z = false) := by
  intro n
  induction n with
  | zero =>
    intro a b hn _ _ z
    have ha : a = [] := List.eq_nil_of_length_eq_zero (by omega)
    have hb : b = [] := List.eq_nil_of_length_eq_zero (by omega)
    subst ha; subst hb
    simp [mrg]
  | succ n ih =>
    intro a b hn sa sb z
    match a, b with
    | [], b => rw [mrg]; simp
    | x :: r, [] => rw [mrg]; simp
    | x :: r, y :: s =>
      have sa' := List.pairwise_cons.1 sa
      have sb' := List.pairwise_cons.1 sb
      have bel : ∀ u ∈ y :: s, u = y ∨ ahd y u = true := fun u hu => by
        rcases List.mem_cons.1 hu with h | h
        · exact .inl h
        · exact .inr (sb'.1 u h)
      have ael : ∀ u ∈ x :: r, u = x ∨ ahd x u = true := fun u hu => by
        rcases List.mem_cons.1 hu with h | h
        · exact .inl h
        · exact .inr (sa'.1 u h)
      cases hxy : ahd x y with
      | true =>
        rw [mrg, if_pos hxy, List.mem_cons, ih r (y :: s) (by simp at hn ⊢; omega) sa'.2 sb z, List.mem_cons (a := z) (b := x) (l := r)]
        constructor
        · rintro (h | h | h)
          · exact .inl (.inl h)
          · exact .inl (.inr h)
          · refine .inr ⟨h.1, fun u hu => ?_⟩
            rcases List.mem_cons.1 hu with e | hu
            · subst e
              cases hk : sameKS u z with
              | false => rfl
              | true =>
                rcases bel z h.1 with e | e
                · subst e; exact (ahd_same hxy hk).elim
                · exact (ahd_same (ahd_trans hxy e) hk).elim
            · exact h.2 u hu
        · rintro ((h | h) | h)
          · exact .inl h
          · exact .inr (.inl h)
          · exact .inr (.inr ⟨h.1, fun u hu => h.2 u (List.mem_cons_of_mem _ hu)⟩)
      | false =>
        cases hyx : ahd y x with
        | true =>
          rw [mrg, if_neg (by rw [hxy]; simp), if_pos hyx, List.mem_cons, ih (x :: r) s (by simp at hn ⊢; omega) sa sb'.2 z, List.mem_cons (a := z) (b := y)]
          have hy : ∀ u ∈ x :: r, sameKS u y = false := fun u hu => by
            cases hk : sameKS u y with
            | false => rfl
            | true =>
              rcases ael u hu with e | e
              · subst e; exact (ahd_same hyx (sameKS_symm hk)).elim
              · exact (ahd_same (ahd_trans hyx e) (sameKS_symm hk)).elim
          constructor
          · rintro (h | h | h)
            · subst h; exact .inr ⟨.inl rfl, hy⟩
            · exact .inl h
            · exact .inr ⟨.inr h.1, h.2⟩
          · rintro (h | ⟨h | h, h2⟩)
            · exact .inr (.inl h)
            · exact .inl h
            · exact .inr (.inr ⟨h, h2⟩)
        | false =>
          have hs : sameKS x y = true := ahd_cases x y (by rw [hxy]; simp) (by rw [hyx]; simp)
          rw [mrg, if_neg (by rw [hxy]; simp), if_neg (by rw [hyx]; simp), ih (x :: r) s (by simp at hn ⊢; omega) sa sb'.2 z, List.mem_cons (a := z) (b := y)]
          constructor
          · rintro (h | h)
            · exact .inl h
            · exact .inr ⟨.inr h.1, h.2⟩
          · rintro (h | ⟨h | h, h2⟩)
            · exact .inl h
            · subst h
              have := h2 x List.mem_cons_self
              rw [hs] at this; cases this
            · exact .inr ⟨h, h2⟩
theorem mF_iff (ls : List (List Ent)) (hs : ∀ l ∈ ls, Sr l) : ∀ a : List Ent, Sr a → ∀ z, z ∈ ls.foldl mrg a ↔ z ∈ a ∨ (First ls z ∧ ∀ u ∈ a, sameKS u z = false) := by
  induction ls with
  | nil =>
    intro a _ z
    constructor
    · intro h; exact .inl h
    · rintro (h | ⟨⟨i, l, h, _⟩, _⟩)
      · exact h
      · simp at h
  | cons l r ih =>
    intro a sa z
    have sl := hs l List.mem_cons_self
    rw [List.foldl_cons, ih (fun m hm => hs m (List.mem_cons_of_mem _ hm)) _ (mrg_sr _ a l (Nat.le_refl _) sa sl) z, mrg_iff _ a l (Nat.le_refl _) sa sl z]
    constructor
    · rintro ((h | ⟨h1, h2⟩) | ⟨⟨i, m, hm, hz, hj⟩, h2⟩)
      · exact .inl h
      · exact .inr ⟨⟨0, l, rfl, h1, fun j m hj => by omega⟩, h2⟩
      · have hmrg : ∀ u, u ∈ mrg a l → sameKS u z = false := h2
        refine .inr ⟨⟨i + 1, m, hm, hz, fun j m' hj' hm' u hu => ?_⟩, fun u hu => hmrg u (mrg_keep hu)⟩
        cases j with
        | zero =>
          have : m' = l := by simpa using hm'.symm
          subst this
          cases hk : sameKS u z with
          | false => rfl
          | true =>
            obtain ⟨o, ho, hs2⟩ := (mrg_has _ a m' (Nat.le_refl _) u).2 hu
            have := hmrg o ho
            rw [sameKS_trans hs2 hk] at this; cases this
        | succ j => exact hj j m' (by omega) (by simpa using hm') u hu
    · rintro (h | ⟨⟨i, m, hm, hz, hj⟩, h2⟩)
      · exact .inl (.inl h)
      · cases i with
        | zero =>
          have : m = l := by simpa using hm.symm
          subst this
          exact .inl (.inr ⟨hz, h2⟩)
        | succ i =>
          refine .inr ⟨⟨i, m, by simpa using hm, hz, fun j m' hj' hm' u hu => hj (j + 1) m' (by omega) (by simpa using hm') u hu⟩, fun u hu => ?_⟩
          rcases mrg_mem hu with h | h
          · exact h2 u h
          · exact hj 0 l (by omega) rfl u h
theorem mergedL_iff {ls : List (List Ent)} (hs : ∀ l ∈ ls, Sr l) (z : Ent) : z ∈ mergedL ls ↔ First ls z := by
  unfold mergedL
  rw [mF_iff ls hs [] List.Pairwise.nil z]
  simp
/-- What is told behind some takes: P are those that were taken, with their lists' numbers. -/
structure Told (ls : List (List Ent)) (hs : List Src) (P : List (Ent × Nat)) (out : List Ent) : Prop where
  left : ∀ s ∈ hs, s.es ≠ [] ∧ Sr s.es ∧ ∃ l, ls[s.no]? = some l ∧ ∀ e ∈ s.es, e ∈ l
  apart : (hs.map Src.no).Nodup
  part : ∀ p ∈ P, ∃ l, ls[p.2]? = some l ∧ p.1 ∈ l
  all : ∀ i l e, ls[i]? = some l → e ∈ l → (e, i) ∈ P ∨ ∃ s ∈ hs, s.no = i ∧ e ∈ s.es
  ahead : ∀ p ∈ P, ∀ s ∈ hs, ∀ e ∈ s.es, ltT p.1 p.2 e s.no = true
  sorted : Sr out
  first : ∀ o ∈ out, ∃ j, (o, j) ∈ P ∧ ∀ p ∈ P, sameKS p.1 o = true → j ≤ p.2
  has : ∀ p ∈ P, ∃ o ∈ out, sameKS o p.1 = true
theorem told_end {ls : List (List Ent)} {P : List (Ent × Nat)} {out : List Ent} (hs : ∀ l ∈ ls, Sr l) (h : Told ls [] P out) : out = mergedL ls := by
  refine sr_ext _ _ h.sorted (mF_sr ls hs [] List.Pairwise.nil) fun z => ?_
  show z ∈ out ↔ z ∈ mergedL ls
  rw [mergedL_iff hs]
  constructor
  · intro hz
    obtain ⟨j, hj, hf⟩ := h.first z hz
    obtain ⟨l, hl, hzl⟩ := h.part _ hj
    refine ⟨j, l, hl, hzl, fun i m hi hm u hu => ?_⟩
    cases hk : sameKS u z with
    | false => rfl
    | true =>
      rcases h.all i m u hm hu with hp | ⟨s, hs', _⟩
      · have := hf _ hp hk; simp only at this; omega
      · cases hs'
  · rintro ⟨i, l, hl, hz, hf⟩
    rcases h.all i l z hl hz with hp | ⟨s, hs', _⟩
    · obtain ⟨o, ho, hk⟩ := h.has _ hp
      obtain ⟨j, hj, hm⟩ := h.first o ho
      have hji := hm _ hp (sameKS_symm hk)
      simp only at hji hk
      obtain ⟨l', hl', hol⟩ := h.part _ hj
      by_cases hlt : j < i
      · have := hf j l' hlt hl' o hol
        rw [hk] at this; cases this
      · have : j = i := by omega
        subst this
        simp only at hl'
        rw [hl] at hl'
        obtain rfl := Option.some.inj hl'
        have hks := (sameKS_iff o z).1 hk
        have := ks_eq (hs l (List.mem_of_getElem? hl)) hol hz hks.1 hks.2
        rw [← this]; exact ho
    · cases hs'
end Go.Proofs.Ythkckgjcecommaa
