/- Plain facts on rising Leafs: where a place stands among them, and what is set there. -/
import Derived.Test.YtmfopbkhlekhkaaDoorLefOk
namespace Go.Proofs.YtmfopbkhlekhkaaDoor
open Go.RowKit
theorem lefOk_iff {es : List Lef} : lefOk es = true ↔ LefOk es := by unfold lefOk; exact decide_eq_true_iff
/-- How many Leafs are ahead of a place. -/
def atL : List Lef → Int → Nat
  | [], _ => 0
  | x :: r, p => if x.pl < p then atL r p + 1 else 0
theorem atL_le : ∀ (es : List Lef) (p : Int), atL es p ≤ es.length
  | [], _ => Nat.le_refl _
  | x :: r, p => by
    have := atL_le r p
    unfold atL
    split
    · rw [List.length_cons]; omega
    · omega
theorem atL_lo : ∀ (es : List Lef) (p : Int) {i : Nat}, i < atL es p → (nthL es i).pl < p
  | [], _, _, h => by simp [atL] at h
  | x :: r, p, i, h => by
    unfold atL at h
    split at h
    · cases i with
      | zero => rw [nthL_zero]; assumption
      | succ i => rw [nthL_succ]; exact atL_lo r p (by omega)
    · omega
theorem atL_at : ∀ (es : List Lef) (p : Int), atL es p < es.length → p ≤ (nthL es (atL es p)).pl
  | [], _, h => by simp at h
  | x :: r, p, h => by
    unfold atL at h ⊢
    split
    · rename_i hx
      rw [if_pos hx, List.length_cons] at h
      rw [nthL_succ]; exact atL_at r p (by omega)
    · rw [nthL_zero]; omega
theorem lef_lt {es : List Lef} (ho : LefOk es) : ∀ {i j : Nat}, i < j → j < es.length → (nthL es i).pl < (nthL es j).pl := by
  intro i j
  induction j with
  | zero => intro h; omega
  | succ j ih =>
    intro hij hj
    have h1 := (ho (j + 1) hj).2 (by omega)
    rw [Nat.add_sub_cancel] at h1
    by_cases h : i = j
    · rw [h]; exact h1
    · have := ih (by omega) (by omega); omega
theorem atL_hi {es : List Lef} (ho : LefOk es) (p : Int) {i : Nat} (h1 : atL es p ≤ i) (h2 : i < es.length) : p ≤ (nthL es i).pl := by
  have h := atL_at es p (by omega)
  by_cases e : atL es p = i
  · rw [← e]; exact h
  · have := lef_lt ho (show atL es p < i by omega) h2; omega
theorem lef_ge {es : List Lef} (ho : LefOk es) : ∀ (i : Nat), i < es.length → (i : Int) ≤ (nthL es i).pl
  | 0, h => (ho 0 h).1.1.1
  | i + 1, h => by
    have h1 := lef_ge ho i (by omega)
    have h2 := (ho (i + 1) h).2 (by omega)
    rw [Nat.add_sub_cancel] at h2
    omega
theorem lef_len {es : List Lef} (ho : LefOk es) : es.length ≤ 256 := by
  rcases Nat.lt_or_ge 256 es.length with h | h
  · have h1 := lef_ge ho 256 h
    have h2 := (ho 256 h).1.1.2
    omega
  · exact h
/-- Has the place a Leaf? -/
def hasL (es : List Lef) (p : Int) : Bool := decide (atL es p < es.length) && decide ((nthL es (atL es p)).pl = p)
theorem hasL_lt {es : List Lef} {p : Int} (h : hasL es p = true) : atL es p < es.length ∧ (nthL es (atL es p)).pl = p := by
  unfold hasL at h
  rw [Bool.and_eq_true, decide_eq_true_iff, decide_eq_true_iff] at h
  exact h
/-- One more where the place has a Leaf. -/
def hasN (es : List Lef) (p : Int) : Nat := if hasL es p = true then 1 else 0
theorem atL_more {es : List Lef} (ho : LefOk es) (p : Int) {i : Nat} (h1 : atL es p + hasN es p ≤ i) (h2 : i < es.length) : p < (nthL es i).pl := by
  unfold hasN at h1
  cases hh : hasL es p with
  | true =>
    rw [if_pos hh] at h1
    have h3 := hasL_lt hh
    have := lef_lt ho (show atL es p < i by omega) h2
    omega
  | false =>
    rw [hh, if_neg (by simp)] at h1
    have h3 := atL_hi ho p (show atL es p ≤ i by omega) h2
    have h4 : (nthL es (atL es p)).pl ≠ p := by
      intro e
      unfold hasL at hh
      rw [e, decide_eq_true (show atL es p < es.length by omega)] at hh
      simp at hh
    by_cases e : atL es p = i
    · rw [e] at h4; omega
    · have := lef_lt ho (show atL es p < i by omega) h2
      have := atL_at es p (by omega); omega
/-- What is set: the value's Leaf, or none. -/
def midL (p v : Int) : List Lef := if v = -1 then [] else [⟨p, v⟩]
/-- The Leafs with this value at the place. -/
def putLf (es : List Lef) (p v : Int) : List Lef := es.take (atL es p) ++ midL p v ++ es.drop (atL es p + hasN es p)
/-- Is everything as told? -/
def setOk (es : List Lef) (p v : Int) : Bool := lefOk es && decide (0 ≤ p ∧ p ≤ 255) && decide (v = -1 ∨ (0 ≤ v ∧ v ≤ 1000000000))
def setR (es : List Lef) (p v : Int) : List Lef := if setOk es p v = true then putLf es p v else []
theorem midL_len (p v : Int) : (midL p v).length ≤ 1 := by unfold midL; split <;> simp
theorem hasN_le (es : List Lef) (p : Int) : hasN es p ≤ 1 := by unfold hasN; split <;> omega
theorem hasN_in (es : List Lef) (p : Int) : atL es p + hasN es p ≤ es.length := by
  have h := atL_le es p
  unfold hasN
  split
  · have := (hasL_lt (by assumption)).1; omega
  · omega
theorem putLf_len (es : List Lef) (p v : Int) : (putLf es p v).length ≤ es.length + 1 := by
  have h1 := midL_len p v
  have h2 := hasN_in es p
  unfold putLf
  simp only [List.length_append, List.length_take, List.length_drop]
  omega
theorem setR_len (es : List Lef) (p v : Int) : (setR es p v).length ≤ 257 := by
  unfold setR
  split
  · rename_i h
    have h1 : lefOk es = true := by unfold setOk at h; simp only [Bool.and_eq_true] at h; exact h.1.1
    have := lef_len (lefOk_iff.1 h1)
    have := putLf_len es p v
    omega
  · simp
/-- What the model has put together ahead of Leaf number k. -/
def outS (es : List Lef) (p v : Int) (k : Nat) : List Lef := if k ≤ atL es p then es.take k else es.take (atL es p) ++ midL p v ++ (es.take k).drop (atL es p + hasN es p)
theorem outS_lo {es : List Lef} {p v : Int} {k : Nat} (h : k < atL es p) : outS es p v (k + 1) = outS es p v k ++ [nthL es k] := by
  have := atL_le es p
  unfold outS
  rw [if_pos (by omega), if_pos (by omega), List.take_succ_eq_append_getElem (by omega), nthL_eq (by omega)]
theorem outS_at0 {es : List Lef} {p v : Int} {k : Nat} (h : k = atL es p) (hk : k < es.length) (hh : hasL es p = false) : outS es p v (k + 1) = outS es p v k ++ midL p v ++ [nthL es k] := by
  have e : hasN es p = 0 := by unfold hasN; rw [hh]; simp
  have e2 : (es.drop k).take 1 = [es[k]] := by rw [List.drop_eq_getElem_cons hk]; rfl
  unfold outS
  rw [if_neg (by omega), if_pos (by omega), e, ← h, Nat.add_zero, List.drop_take, Nat.add_sub_cancel_left, nthL_eq hk, e2]
theorem outS_at1 {es : List Lef} {p v : Int} {k : Nat} (h : k = atL es p) (hh : hasL es p = true) : outS es p v (k + 1) = outS es p v k ++ midL p v := by
  have e : hasN es p = 1 := by unfold hasN; rw [hh]; simp
  unfold outS
  rw [if_neg (by omega), if_pos (by omega), e, ← h, List.drop_take, Nat.sub_self]
  simp
theorem outS_hi {es : List Lef} {p v : Int} {k : Nat} (h : atL es p < k) (hk : k < es.length) : outS es p v (k + 1) = outS es p v k ++ [nthL es k] := by
  have := hasN_le es p
  unfold outS
  rw [if_neg (by omega), if_neg (by omega), List.take_succ_eq_append_getElem hk, nthL_eq hk, List.drop_append_of_le_length (by rw [List.length_take]; omega)]
  simp
theorem outS_end {es : List Lef} {p v : Int} : (if es.length ≤ atL es p then outS es p v es.length ++ midL p v else outS es p v es.length) = putLf es p v := by
  have h1 := atL_le es p
  have h2 := hasN_in es p
  unfold outS putLf
  by_cases h : es.length ≤ atL es p
  · have e : atL es p = es.length := by omega
    rw [if_pos h, if_pos h, e, List.take_length, List.drop_eq_nil_of_le (by omega)]
    simp
  · rw [if_neg h, if_neg h, List.take_length]
end Go.Proofs.YtmfopbkhlekhkaaDoor
