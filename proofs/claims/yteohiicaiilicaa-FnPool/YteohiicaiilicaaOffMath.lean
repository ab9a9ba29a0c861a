/- Plain facts on Offers: which of two is ahead, what a pool is, how one comes in and how the first one goes: no function of the program is walked here. -/
import Derived.Test.YteohiicaiilicaaOffBase
import Derived.Test.YteohiicaiilicaaEntMath
namespace Go.Proofs.Yteohiicaiilicaa
open Go.RowKit
/-- Is the one ahead of the other? -/
def ahO (a b : Off) : Bool := decide (b.fee < a.fee) || (decide (a.fee = b.fee) && kLt a.text b.text)
def okO (a : Off) : Bool := decide (0 ≤ a.fee ∧ a.fee ≤ 1000000000) && decide (a.text.size ≤ 60)
def okAtO (es : List Off) (i : Nat) : Bool := okO (nthO es i) && (decide (i = 0) || !ahO (nthO es i) (nthO es ((i - 1) / 2)))
def PoolP (es : List Off) : Prop := es.length ≤ 50 ∧ ∀ i, i < es.length → okAtO es i = true
instance (es : List Off) : Decidable (PoolP es) := by unfold PoolP; infer_instance
def poolOk (es : List Off) : Bool := decide (PoolP es)
theorem poolOk_no {es : List Off} {k : Nat} (hk : k < es.length) (h : okAtO es k = false) : poolOk es = false := by
  unfold poolOk; rw [decide_eq_false_iff_not]; exact fun H => by have := H.2 k hk; rw [h] at this; cases this
theorem poolOk_big {es : List Off} (h : 50 < es.length) : poolOk es = false := by
  unfold poolOk; rw [decide_eq_false_iff_not]; exact fun H => by have := H.1; omega
theorem poolOk_yes {es : List Off} (h0 : es.length ≤ 50) (h : ∀ i, i < es.length → okAtO es i = true) : poolOk es = true := by
  unfold poolOk; rw [decide_eq_true_iff]; exact ⟨h0, h⟩
theorem poolOk_iff {es : List Off} : poolOk es = true ↔ PoolP es := by unfold poolOk; exact decide_eq_true_iff
theorem ahO_w1 {a b : Off} (h : b.fee < a.fee) : true = ahO a b := by simp [ahO, h]
theorem ahO_w2 {a b : Off} (_ : ¬ b.fee < a.fee) (h2 : a.fee = b.fee) : Op.bytesLess a.text.toList b.text.toList = ahO a b := by simp [ahO, h2, kLt]
theorem ahO_w3 {a b : Off} (h : ¬ b.fee < a.fee) (h2 : ¬ a.fee = b.fee) : false = ahO a b := by simp [ahO, h, h2]
/-- Two places changed. -/
def swO (es : List Off) (i j : Nat) : List Off := (es.set i (nthO es j)).set j (nthO es i)
theorem swO_len (es : List Off) (i j : Nat) : (swO es i j).length = es.length := by simp [swO]
/-- One goes up as long as it is ahead of the one above. -/
def upL (es : List Off) (i : Nat) : List Off :=
  if h : 0 < i ∧ ahO (nthO es i) (nthO es ((i - 1) / 2)) = true then upL (swO es ((i - 1) / 2) i) ((i - 1) / 2) else es
termination_by i
decreasing_by omega
theorem upL_go {es : List Off} {i : Nat} (h0 : 0 < i) (h : ahO (nthO es i) (nthO es ((i - 1) / 2)) = true) : upL es i = upL (swO es ((i - 1) / 2) i) ((i - 1) / 2) := by
  rw [upL, dif_pos ⟨h0, h⟩]
theorem upL_stop {es : List Off} {i : Nat} (h : ahO (nthO es i) (nthO es ((i - 1) / 2)) = false) : upL es i = es := by
  rw [upL, dif_neg (by rw [h]; simp)]
theorem upL_zero (es : List Off) : upL es 0 = es := by rw [upL, dif_neg (by simp)]
theorem upL_len (es : List Off) (i : Nat) : (upL es i).length = es.length := by
  induction i using Nat.strongRecOn generalizing es with
  | _ i ih =>
    rw [upL]
    split
    · rename_i h
      rw [ih _ (by omega), swO_len]
    · rfl
/-- The one of the two below that is ahead of the other, or the first. -/
def kid (es : List Off) (n i : Nat) : Nat := if 2 * i + 2 < n ∧ ahO (nthO es (2 * i + 2)) (nthO es (2 * i + 1)) = true then 2 * i + 2 else 2 * i + 1
theorem kid_gt (es : List Off) (n i : Nat) : i < kid es n i := by unfold kid; split <;> omega
/-- One goes down as long as one below is ahead of it. -/
def dnL (es : List Off) (n i : Nat) : List Off :=
  if _h : kid es n i < n ∧ ahO (nthO es (kid es n i)) (nthO es i) = true then dnL (swO es i (kid es n i)) n (kid es n i) else es
termination_by n - i
decreasing_by have := kid_gt es n i; omega
theorem dnL_go {es : List Off} {n i k : Nat} (hk : k = kid es n i) (h0 : k < n) (h : ahO (nthO es k) (nthO es i) = true) : dnL es n i = dnL (swO es i k) n k := by
  subst hk
  rw [dnL, dif_pos ⟨h0, h⟩]
theorem dnL_stop {es : List Off} {n i k : Nat} (hk : k = kid es n i) (h : ahO (nthO es k) (nthO es i) = false) : dnL es n i = es := by
  subst hk
  rw [dnL, dif_neg (by rw [h]; simp)]
theorem dnL_end {es : List Off} {n i : Nat} (h : n ≤ 2 * i + 1) : dnL es n i = es := by
  rw [dnL, dif_neg (fun k => by have := k.1; unfold kid at this; split at this <;> omega)]
theorem dnL_len (es : List Off) (n i : Nat) : (dnL es n i).length = es.length := by
  induction hm : n - i using Nat.strongRecOn generalizing es i with
  | _ m ih =>
    rw [dnL]
    split
    · rename_i h
      have := kid_gt es n i
      rw [ih (n - kid es n i) (by omega) _ _ rfl, swO_len]
    · rfl
/-- Behind one that comes in; what is left behind the first one. -/
def offL (es : List Off) (o : Off) : List Off := upL (es ++ [o]) es.length
theorem offL_len (es : List Off) (o : Off) : (offL es o).length = es.length + 1 := by unfold offL; rw [upL_len]; simp
def nxtL (es : List Off) : List Off := dnL ((es.take (es.length - 1)).set 0 (nthO es (es.length - 1))) (es.length - 1) 0
theorem nxtL_len (es : List Off) : (nxtL es).length = es.length - 1 := by unfold nxtL; rw [dnL_len, List.length_set, List.length_take]; omega
/-- The texts of the first k that are told. -/
def chL : Nat → List Off → List ByteArray
  | 0, _ => []
  | k + 1, es => (nthO es 0).text :: chL k (nxtL es)
theorem chL_len : ∀ (k : Nat) (es : List Off), (chL k es).length = k
  | 0, _ => rfl
  | k + 1, es => by rw [chL, List.length_cons, chL_len k]
def offO (es : List Off) (o : Off) : Bool := poolOk es && okO o && !decide (es.length = 50)
def offR (es : List Off) (o : Off) : List Off := if offO es o = true then offL es o else []
def nxtO (es : List Off) : Bool := poolOk es && !decide (es.length = 0)
def nxtF (es : List Off) : Off := if nxtO es = true then nthO es 0 else zeroO
def nxtR (es : List Off) : List Off := if nxtO es = true then nxtL es else []
def choR (es : List Off) (n : Int) : List ByteArray := if poolOk es = true then chL (min n.toNat es.length) es else []
theorem nthO_append_left {es fs : List Off} {k : Nat} (h : k < es.length) : nthO (es ++ fs) k = nthO es k := by
  rw [nthO_eq h, nthO_eq (by rw [List.length_append]; omega)]; exact List.getElem_append_left h
theorem nthO_append_last (es : List Off) (o : Off) : nthO (es ++ [o]) es.length = o := by
  rw [nthO_eq (by simp)]; simp
theorem nthO_take {es : List Off} {n k : Nat} (h : k < n) (hl : n ≤ es.length) : nthO (es.take n) k = nthO es k := by
  rw [nthO_eq (by rw [List.length_take]; omega), nthO_eq (by omega)]; exact List.getElem_take
theorem nthO_set {es : List Off} {i k : Nat} (o : Off) (h : k < es.length) : nthO (es.set i o) k = if i = k then o else nthO es k := by
  rw [nthO_eq (by rw [List.length_set]; exact h), List.getElem_set, nthO_eq h]
theorem nthO_sw {es : List Off} {i j k : Nat} (hk : k < es.length) : nthO (swO es i j) k = if j = k then nthO es i else if i = k then nthO es j else nthO es k := by
  unfold swO
  rw [nthO_set _ (by rw [List.length_set]; exact hk), nthO_set _ hk]
theorem swO_append {es fs : List Off} {i j : Nat} (hi : i < es.length) (hj : j < es.length) : swO (es ++ fs) i j = swO es i j ++ fs := by
  unfold swO
  rw [nthO_append_left hi, nthO_append_left hj, List.set_append_left _ _ hi, List.set_append_left _ _ (by rw [List.length_set]; exact hj)]
theorem kid_lt_or {es : List Off} {n i : Nat} : kid es n i = 2 * i + 1 ∨ (kid es n i = 2 * i + 2 ∧ 2 * i + 2 < n) := by unfold kid; split <;> omega
theorem kid_append {es fs : List Off} {n i : Nat} (hn : n ≤ es.length) : kid (es ++ fs) n i = kid es n i := by
  unfold kid
  by_cases h : 2 * i + 2 < n
  · rw [nthO_append_left (by omega), nthO_append_left (by omega)]
  · rw [if_neg (fun k => h k.1), if_neg (fun k => h k.1)]
theorem dnL_append {es fs : List Off} {n i : Nat} (hn : n ≤ es.length) : dnL (es ++ fs) n i = dnL es n i ++ fs := by
  induction hm : n - i using Nat.strongRecOn generalizing es i with
  | _ m ih =>
    have hg := kid_gt es n i
    have hka : kid es n i = kid (es ++ fs) n i := (kid_append hn).symm
    by_cases hk : kid es n i < n
    · have e1 : nthO (es ++ fs) (kid es n i) = nthO es (kid es n i) := nthO_append_left (by omega)
      have e2 : nthO (es ++ fs) i = nthO es i := nthO_append_left (by omega)
      cases h : ahO (nthO es (kid es n i)) (nthO es i) with
      | true =>
        rw [dnL_go hka hk (by rw [e1, e2]; exact h), dnL_go rfl hk h, swO_append (by omega) (by omega)]
        exact ih (n - kid es n i) (by omega) (by rw [swO_len]; exact hn) rfl
      | false => rw [dnL_stop hka (by rw [e1, e2]; exact h), dnL_stop rfl h]
    · have h2 : n ≤ 2 * i + 1 := by rcases kid_lt_or (es := es) (n := n) (i := i) with h | h <;> omega
      rw [dnL_end h2, dnL_end h2]
theorem swO_root {es : List Off} {n : Nat} (hn : es.length = n + 1) : swO es 0 n = (es.take n).set 0 (nthO es n) ++ [nthO es 0] := by
  apply List.ext_getElem
  · rw [swO_len, List.length_append, List.length_set, List.length_take]; simp; omega
  · intro k h1 h2
    have hk : k < es.length := by rw [swO_len] at h1; exact h1
    rw [← nthO_eq h1, ← nthO_eq h2, nthO_sw hk]
    have hl : ((es.take n).set 0 (nthO es n)).length = n := by rw [List.length_set, List.length_take]; omega
    by_cases hkn : k = n
    · subst hkn
      rw [if_pos rfl]
      have := nthO_append_last ((es.take k).set 0 (nthO es k)) (nthO es 0)
      rw [hl] at this
      exact this.symm
    · rw [if_neg (fun e => hkn e.symm), nthO_append_left (by omega), nthO_set _ (by rw [List.length_take]; omega), nthO_take (by omega) (by omega)]
/-- What the program's way leaves: the rest, and the first one behind it. -/
theorem pop_eq {es : List Off} {n : Nat} (hn : es.length = n + 1) : dnL (swO es 0 n) n 0 = nxtL es ++ [nthO es 0] := by
  rw [swO_root hn, dnL_append (by rw [List.length_set, List.length_take]; omega)]
  unfold nxtL
  rw [show es.length - 1 = n by omega]
end Go.Proofs.Yteohiicaiilicaa
