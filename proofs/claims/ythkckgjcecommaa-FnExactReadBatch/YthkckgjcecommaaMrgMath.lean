/- Plain facts on merged lists, on what some snapshots see, and on what goes at the bottom: no function of the program is walked here. -/
import Derived.Test.YthkckgjcecommaaEntMath
namespace Go.Proofs.Ythkckgjcecommaa
/-- In order. -/
def Sr (es : List Ent) : Prop := es.Pairwise (fun a b => ahd a b = true)
theorem okL_sr {es : List Ent} (h : okL es = true) : Sr es := ((okL_iff es).1 h).2.2
theorem ahd_asymm {a b : Ent} (h : ahd a b = true) : ahd b a = false := by
  cases e : ahd b a with
  | false => rfl
  | true => have := ahd_trans h e; rw [ahd_irrefl] at this; cases this
/-- Two lists in one; of alike keys and numbers the first list's. -/
def mrg : List Ent → List Ent → List Ent
  | [], b => b
  | x :: r, [] => x :: r
  | x :: r, y :: s => if ahd x y = true then x :: mrg r (y :: s) else if ahd y x = true then y :: mrg (x :: r) s else mrg (x :: r) s
termination_by a b => a.length + b.length
theorem mrg_nil (a : List Ent) : mrg a [] = a := by cases a <;> rw [mrg]
theorem mrg_sub : ∀ (n : Nat) (a b : List Ent), a.length + b.length ≤ n → ∀ z, z ∈ mrg a b → z ∈ a ∨ z ∈ b := by
  intro n
  induction n with
  | zero =>
    intro a b h z hz
    have : a = [] := List.length_eq_zero_iff.1 (by omega)
    subst this
    rw [mrg] at hz
    exact .inr hz
  | succ n ih =>
    intro a b h z hz
    cases a with
    | nil => rw [mrg] at hz; exact .inr hz
    | cons x r =>
      cases b with
      | nil => rw [mrg] at hz; exact .inl hz
      | cons y s =>
        simp only [List.length_cons] at h
        rw [mrg] at hz
        split at hz
        · rcases List.mem_cons.1 hz with rfl | hz
          · exact .inl List.mem_cons_self
          · rcases ih r (y :: s) (by simp only [List.length_cons]; omega) z hz with h | h
            · exact .inl (List.mem_cons_of_mem _ h)
            · exact .inr h
        · split at hz
          · rcases List.mem_cons.1 hz with rfl | hz
            · exact .inr List.mem_cons_self
            · rcases ih (x :: r) s (by simp only [List.length_cons]; omega) z hz with h | h
              · exact .inl h
              · exact .inr (List.mem_cons_of_mem _ h)
          · rcases ih (x :: r) s (by simp only [List.length_cons]; omega) z hz with h | h
            · exact .inl h
            · exact .inr (List.mem_cons_of_mem _ h)
theorem mrg_mem {a b : List Ent} {z : Ent} (h : z ∈ mrg a b) : z ∈ a ∨ z ∈ b := mrg_sub _ a b (Nat.le_refl _) z h
theorem mrg_len : ∀ (n : Nat) (a b : List Ent), a.length + b.length ≤ n → (mrg a b).length ≤ a.length + b.length := by
  intro n
  induction n with
  | zero =>
    intro a b h
    have : a = [] := List.length_eq_zero_iff.1 (by omega)
    subst this
    rw [mrg]; omega
  | succ n ih =>
    intro a b h
    cases a with
    | nil => rw [mrg]; simp
    | cons x r =>
      cases b with
      | nil => rw [mrg]; simp
      | cons y s =>
        simp only [List.length_cons] at h
        rw [mrg]
        split
        · have := ih r (y :: s) (by simp only [List.length_cons]; omega)
          simp only [List.length_cons] at this ⊢; omega
        · split
          · have := ih (x :: r) s (by simp only [List.length_cons]; omega)
            simp only [List.length_cons] at this ⊢; omega
          · have := ih (x :: r) s (by simp only [List.length_cons]; omega)
            simp only [List.length_cons] at this ⊢; omega
theorem ahd_cases (x y : Ent) (h1 : ¬ ahd x y = true) (h2 : ¬ ahd y x = true) : sameKS x y = true := by
  cases h : sameKS x y with
  | true => rfl
  | false => exact absurd (ahd_tri (by simpa using h1) h) h2
theorem sameKS_iff (x y : Ent) : sameKS x y = true ↔ x.key = y.key ∧ x.seq = y.seq := by simp [sameKS, kEq]
theorem ahd_congr {x y z : Ent} (h : sameKS x y = true) (hz : ahd y z = true) : ahd x z = true := by
  rw [sameKS_iff] at h
  rw [ahd_iff] at hz ⊢
  rw [h.1, h.2]
  exact hz
theorem mrg_sr : ∀ (n : Nat) (a b : List Ent), a.length + b.length ≤ n → Sr a → Sr b → Sr (mrg a b) := by
  intro n
  induction n with
  | zero =>
    intro a b h _ hb
    have : a = [] := List.length_eq_zero_iff.1 (by omega)
    subst this
    rw [mrg]; exact hb
  | succ n ih =>
    intro a b h ha hb
    cases a with
    | nil => rw [mrg]; exact hb
    | cons x r =>
      cases b with
      | nil => rw [mrg]; exact ha
      | cons y s =>
        simp only [List.length_cons] at h
        have ha' := List.pairwise_cons.1 ha
        have hb' := List.pairwise_cons.1 hb
        rw [mrg]
        split
        · rename_i hxy
          refine List.pairwise_cons.2 ⟨fun z hz => ?_, ih r (y :: s) (by simp only [List.length_cons]; omega) ha'.2 hb⟩
          rcases mrg_mem hz with h | h
          · exact ha'.1 z h
          · rcases List.mem_cons.1 h with rfl | h
            · exact hxy
            · exact ahd_trans hxy (hb'.1 z h)
        · rename_i hxy
          split
          · rename_i hyx
            refine List.pairwise_cons.2 ⟨fun z hz => ?_, ih (x :: r) s (by simp only [List.length_cons]; omega) ha hb'.2⟩
            rcases mrg_mem hz with h | h
            · rcases List.mem_cons.1 h with rfl | h
              · exact hyx
              · exact ahd_trans hyx (ha'.1 z h)
            · exact hb'.1 z h
          · exact ih (x :: r) s (by simp only [List.length_cons]; omega) ha hb'.2
theorem mrg_has : ∀ (n : Nat) (a b : List Ent), a.length + b.length ≤ n → ∀ z, (z ∈ a → z ∈ mrg a b) ∧ (z ∈ b → ∃ u ∈ mrg a b, sameKS u z = true) := by
  have same : ∀ z : Ent, sameKS z z = true := fun z => by rw [sameKS_iff]; exact ⟨rfl, rfl⟩
  intro n
  induction n with
  | zero =>
    intro a b h z
    have : a = [] := List.length_eq_zero_iff.1 (by omega)
    subst this
    rw [mrg]
    exact ⟨(fun h => by cases h), fun h => ⟨z, h, same z⟩⟩
  | succ n ih =>
    intro a b h z
    cases a with
    | nil => rw [mrg]; exact ⟨(fun h => by cases h), fun h => ⟨z, h, same z⟩⟩
    | cons x r =>
      cases b with
      | nil => rw [mrg]; exact ⟨(fun h => h), (fun h => by cases h)⟩
      | cons y s =>
        simp only [List.length_cons] at h
        rw [mrg]
        split
        · obtain ⟨i1, i2⟩ := ih r (y :: s) (by simp only [List.length_cons]; omega) z
          refine ⟨fun hz => ?_, fun hz => ?_⟩
          · rcases List.mem_cons.1 hz with rfl | hz
            · exact List.mem_cons_self
            · exact List.mem_cons_of_mem _ (i1 hz)
          · obtain ⟨u, hu, hs⟩ := i2 hz
            exact ⟨u, List.mem_cons_of_mem _ hu, hs⟩
        · rename_i hxy
          split
          · obtain ⟨i1, i2⟩ := ih (x :: r) s (by simp only [List.length_cons]; omega) z
            refine ⟨fun hz => List.mem_cons_of_mem _ (i1 hz), fun hz => ?_⟩
            rcases List.mem_cons.1 hz with rfl | hz
            · exact ⟨_, List.mem_cons_self, same _⟩
            · obtain ⟨u, hu, hs⟩ := i2 hz
              exact ⟨u, List.mem_cons_of_mem _ hu, hs⟩
          · rename_i hyx
            obtain ⟨i1, i2⟩ := ih (x :: r) s (by simp only [List.length_cons]; omega) z
            refine ⟨i1, fun hz => ?_⟩
            rcases List.mem_cons.1 hz with rfl | hz
            · exact ⟨x, ((ih (x :: r) s (by simp only [List.length_cons]; omega) x).1 List.mem_cons_self), ahd_cases x z hxy hyx⟩
            · exact i2 hz
/-- Many lists in one. -/
def mergedL (ls : List (List Ent)) : List Ent := ls.foldl mrg []
def mergedOk (ls : List (List Ent)) : Bool := decide (ls.length ≤ 20) && ls.all okL && decide ((mergedL ls).length ≤ 300)
def mergedR (ls : List (List Ent)) : List Ent × Bool := if mergedOk ls = true then (mergedL ls, true) else ([], false)
theorem mF_len (ls : List (List Ent)) : ∀ a : List Ent, (ls.foldl mrg a).length ≤ a.length + (ls.map List.length).sum := by
  induction ls with
  | nil => intro a; simp
  | cons l r ih =>
    intro a
    rw [List.foldl_cons, List.map_cons, List.sum_cons]
    have h1 := ih (mrg a l)
    have h2 := mrg_len _ a l (Nat.le_refl _)
    omega
theorem mergedL_len (ls : List (List Ent)) : (mergedL ls).length ≤ (ls.map List.length).sum := by have := mF_len ls []; simpa [mergedL] using this
theorem mF_sr (ls : List (List Ent)) (h : ∀ l ∈ ls, Sr l) : ∀ a : List Ent, Sr a → Sr (ls.foldl mrg a) := by
  induction ls with
  | nil => intro a ha; exact ha
  | cons l r ih =>
    intro a ha
    rw [List.foldl_cons]
    exact ih (fun x hx => h x (List.mem_cons_of_mem _ hx)) _ (mrg_sr _ a l (Nat.le_refl _) ha (h l List.mem_cons_self))
theorem mF_mem (ls : List (List Ent)) : ∀ (a : List Ent) (z : Ent), z ∈ ls.foldl mrg a → z ∈ a ∨ ∃ l ∈ ls, z ∈ l := by
  induction ls with
  | nil => intro a z hz; exact .inl hz
  | cons l r ih =>
    intro a z hz
    rw [List.foldl_cons] at hz
    rcases ih _ z hz with h | ⟨m, hm, h⟩
    · rcases mrg_mem h with h | h
      · exact .inl h
      · exact .inr ⟨l, List.mem_cons_self, h⟩
    · exact .inr ⟨m, List.mem_cons_of_mem _ hm, h⟩
theorem mF_keeps (ls : List (List Ent)) : ∀ (a : List Ent) (z : Ent), z ∈ a → z ∈ ls.foldl mrg a := by
  induction ls with
  | nil => intro a z hz; exact hz
  | cons l r ih =>
    intro a z hz
    rw [List.foldl_cons]
    exact ih _ z ((mrg_has _ a l (Nat.le_refl _) z).1 hz)
theorem mF_has (ls : List (List Ent)) : ∀ (a : List Ent) (l : List Ent) (z : Ent), l ∈ ls → z ∈ l → ∃ u ∈ ls.foldl mrg a, sameKS u z = true := by
  induction ls with
  | nil => intro a l z h; cases h
  | cons m r ih =>
    intro a l z hl hz
    rw [List.foldl_cons]
    rcases List.mem_cons.1 hl with rfl | hl
    · obtain ⟨u, hu, hs⟩ := (mrg_has _ a l (Nat.le_refl _) z).2 hz
      exact ⟨u, mF_keeps r _ u hu, hs⟩
    · exact ih _ l z hl hz
theorem merged_ok {ls : List (List Ent)} (h : mergedOk ls = true) : okL (mergedL ls) = true := by
  simp only [mergedOk, Bool.and_eq_true, decide_eq_true_eq, List.all_eq_true] at h
  rw [okL_iff]
  refine ⟨h.2, fun e he => ?_, mF_sr ls (fun l hl => okL_sr (h.1.2 l hl)) [] List.Pairwise.nil⟩
  rcases mF_mem ls [] e he with hh | ⟨l, hl, hh⟩
  · cases hh
  · exact ((okL_iff l).1 (h.1.2 l hl)).2.1 e hh
/-- Each entry of each list is seen of the merged, by its key and number. -/
theorem merged_seen {ls : List (List Ent)} (h : mergedOk ls = true) {l : List Ent} (hl : l ∈ ls) {z : Ent} (hz : z ∈ l) : ∃ u, seenL (mergedL ls) z.key z.seq = some u ∧ u.key = z.key ∧ u.seq = z.seq := by
  obtain ⟨u, hu, hs⟩ := mF_has ls [] l z hl hz
  rw [sameKS_iff] at hs
  refine ⟨u, ?_, hs⟩
  have := seen_mem (merged_ok h) hu
  rw [hs.1, hs.2] at this
  exact this
end Go.Proofs.Ythkckgjcecommaa
