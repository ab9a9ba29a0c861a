/- What a block is as bytes: plain facts. -/
import Derived.Test.YtckidhcknibceaaBlxBase
import Derived.Test.YtckidhcknibceaaTexts
namespace Go.Proofs.Ytckidhcknibceaa
open Go.RowKit
/-- Two lists of numbers in turn. -/
def altI : List Int → List Int → List Int
  | x :: xs, y :: ys => x :: y :: altI xs ys
  | _, _ => []
theorem altI_len : ∀ (xs ys : List Int), xs.length = ys.length → (altI xs ys).length = 2 * xs.length
  | [], [], _ => rfl
  | x :: xs, y :: ys, h => by
    have := altI_len xs ys (by simpa using h)
    simp only [altI, List.length_cons, this]; omega
theorem altI_snoc : ∀ (xs ys : List Int) (k : Nat) (h : k < xs.length) (h' : k < ys.length), altI (xs.take (k + 1)) (ys.take (k + 1)) = altI (xs.take k) (ys.take k) ++ [xs[k], ys[k]]
  | x :: xs, y :: ys, 0, _, _ => by simp [altI]
  | x :: xs, y :: ys, k + 1, h, h' => by
    have := altI_snoc xs ys k (by simpa using h) (by simpa using h')
    rw [List.take_succ_cons, List.take_succ_cons, altI, this]
    simp [altI]
/-- The numbers of a proof, of a block up to its moves. -/
def prN (p : Prf) : List Int := p.vw :: p.nm :: (p.sv.length : Int) :: altI p.sv p.tg
def blN (b : Blk) : List Int := b.vw :: b.pa :: prN b.p
def inO (n : Int) : Bool := decide (0 ≤ n ∧ n ≤ 1099511627776)
theorem inO_yes {n : Int} (h : inO n = true) : 0 ≤ n ∧ n ≤ 1099511627776 := of_decide_eq_true h
theorem num_yes {n : Int} (h : inO n = true) : num n = enc n.toNat := num_in n (inO_yes h).1 (inO_yes h).2
theorem num_no {n : Int} (h : inO n = false) : num n = [] := num_out n (by have := of_decide_eq_false h; omega)
theorem num_emp (n : Int) : (num n).isEmpty = !inO n := by
  cases h : inO n with
  | false => rw [num_no h]; rfl
  | true =>
    rw [num_yes h]
    have := enc_ne n.toNat
    cases he : enc n.toNat with
    | nil => exact absurd he this
    | cons a l => rfl
def numL (ns : List Int) : List UInt8 := ns.flatMap num
theorem numL_append (a b : List Int) : numL (a ++ b) = numL a ++ numL b := by simp [numL]
theorem numL_snoc (ns : List Int) (k : Nat) (h : k < ns.length) : numL (ns.take (k + 1)) = numL (ns.take k) ++ num ns[k] := by
  rw [List.take_succ_eq_append_getElem h, numL_append]
  simp [numL]
theorem num_len (n : Int) : (num n).length ≤ 9 := by
  unfold num
  split
  · exact enc_len9 _ (by omega)
  · simp
theorem numL_len : ∀ ns : List Int, (numL ns).length ≤ 9 * ns.length
  | [] => by simp [numL]
  | n :: ns => by
    have h1 := numL_len ns
    have h2 := num_len n
    simp only [numL, List.flatMap_cons, List.length_append, List.length_cons] at h1 ⊢
    omega
/-- Has a proof as many tags as servers, no more than seven? -/
def prB7 (p : Prf) : Bool := decide (p.sv.length = p.tg.length ∧ p.sv.length ≤ 7)
def shwO (b : Blk) : Bool := prB7 b.p && (blN b).all inO && !(textsOf b.mo).isEmpty && inO b.sv
/-- The bytes of a block; none where it cannot be shown. -/
def shwB (b : Blk) : List UInt8 := if shwO b = true then numL (blN b) ++ textsOf b.mo ++ num b.sv else []
theorem shwB_many {b : Blk} (h : prB7 b.p = false) : shwB b = [] := by unfold shwB shwO; rw [h]; rfl
theorem all_not {ns : List Int} {k : Nat} (hk : k < ns.length) (h : inO ns[k] = false) : ns.all inO = false := by
  rw [List.all_eq_false]; exact ⟨ns[k], List.getElem_mem hk, by simp [h]⟩
theorem all_yes {ns : List Int} (h : ∀ k (hk : k < ns.length), inO ns[k] = true) : ns.all inO = true := by
  rw [List.all_eq_true]
  intro n hn
  obtain ⟨k, hk, rfl⟩ := List.getElem_of_mem hn
  exact h k hk
theorem shwB_num {b : Blk} {k : Nat} (hk : k < (blN b).length) (h : inO (blN b)[k] = false) : shwB b = [] := by unfold shwB shwO; rw [all_not hk h]; simp
theorem shwB_txt {b : Blk} (h : textsOf b.mo = []) : shwB b = [] := by unfold shwB shwO; rw [h]; simp
theorem shwB_by {b : Blk} (h : inO b.sv = false) : shwB b = [] := by unfold shwB shwO; rw [h]; simp
theorem shwB_yes {b : Blk} (h1 : prB7 b.p = true) (h2 : (blN b).all inO = true) (h3 : textsOf b.mo ≠ []) (h4 : inO b.sv = true) : shwB b = numL (blN b) ++ textsOf b.mo ++ num b.sv := by
  unfold shwB shwO
  have h5 : (textsOf b.mo).isEmpty = false := by cases h : textsOf b.mo with | nil => exact absurd h h3 | cons a l => rfl
  rw [h1, h2, h4, h5]; rfl
theorem blN_len {b : Blk} (h : prB7 b.p = true) : (blN b).length = 5 + 2 * b.p.sv.length ∧ b.p.sv.length ≤ 7 ∧ b.p.tg.length = b.p.sv.length := by
  have h1 := of_decide_eq_true h
  have h2 := altI_len b.p.sv b.p.tg h1.1
  refine ⟨?_, h1.2, h1.1.symm⟩
  simp only [blN, prN, List.length_cons, h2]; omega
theorem shwB_len (b : Blk) : (shwB b).length ≤ 800000 := by
  unfold shwB
  split
  · rename_i h
    have hb : prB7 b.p = true := by unfold shwO at h; simp only [Bool.and_eq_true] at h; exact h.1.1.1
    have h1 := numL_len (blN b)
    have h2 := blN_len hb
    have h3 := textsOf_len b.mo
    have h4 := num_len b.sv
    simp only [List.length_append]; omega
  · simp
/-- Rows of bytes one behind the other; nothing where one is empty. -/
def inR (bss : List (List UInt8)) : List UInt8 := if bss.any List.isEmpty = true then [] else bss.flatten
theorem inR_empty {bss : List (List UInt8)} {k : Nat} (hk : k < bss.length) (h : bss[k] = []) : inR bss = [] := by
  unfold inR
  rw [if_pos]
  rw [List.any_eq_true]
  exact ⟨bss[k], List.getElem_mem hk, by rw [h]; rfl⟩
theorem inR_full {bss : List (List UInt8)} (h : ∀ k (hk : k < bss.length), bss[k] ≠ []) : inR bss = bss.flatten := by
  unfold inR
  rw [if_neg]
  intro hh
  rw [List.any_eq_true] at hh
  obtain ⟨x, hx, he⟩ := hh
  obtain ⟨k, hk, rfl⟩ := List.getElem_of_mem hx
  exact h k hk (List.isEmpty_iff.1 he)
theorem flat_snoc (bss : List (List UInt8)) (k : Nat) (h : k < bss.length) : (bss.take (k + 1)).flatten = (bss.take k).flatten ++ bss[k] := by
  rw [List.take_succ_eq_append_getElem h, List.flatten_append]
  simp
theorem any_nums (ns : List Int) : (ns.map num).any List.isEmpty = !ns.all inO := by
  induction ns with
  | nil => rfl
  | cons n ns ih => simp only [List.map_cons, List.any_cons, List.all_cons, ih, num_emp]; cases inO n <;> simp
theorem flat_nums (ns : List Int) : (ns.map num).flatten = numL ns := by simp [numL, List.flatMap]
/-- A proof in a row. -/
def prW (p : Prf) : List UInt8 := if prB7 p = true then inR ((prN p).map num) else []
theorem prW_len (p : Prf) : (prW p).length ≤ 200 := by
  unfold prW
  split
  · rename_i h
    have h1 := of_decide_eq_true h
    have h2 := altI_len p.sv p.tg h1.1
    have h3 := numL_len (prN p)
    unfold inR
    split
    · simp
    · rw [flat_nums]
      simp only [prN, List.length_cons, h2] at h3 ⊢
      omega
  · simp
theorem shw_rows (b : Blk) : inR [num b.vw, num b.pa, prW b.p, textsOf b.mo, num b.sv] = shwB b := by
  have hp : prW b.p = if (prB7 b.p && (prN b.p).all inO) = true then numL (prN b.p) else [] := by
    unfold prW inR
    rw [any_nums, flat_nums]
    cases prB7 b.p <;> cases (prN b.p).all inO <;> rfl
  have he : (prW b.p).isEmpty = !(prB7 b.p && (prN b.p).all inO) := by
    rw [hp]
    cases h : (prB7 b.p && (prN b.p).all inO) with
    | false => rfl
    | true =>
      have h1 : inO b.p.vw = true := by
        simp only [Bool.and_eq_true, prN, List.all_cons] at h
        exact h.2.1
      rw [if_pos rfl]
      have h2 := num_emp b.p.vw
      rw [h1] at h2
      simp only [prN, numL, List.flatMap_cons]
      cases hn : num b.p.vw with
      | nil => rw [hn] at h2; cases h2
      | cons a l => rfl
  have hc : ([num b.vw, num b.pa, prW b.p, textsOf b.mo, num b.sv].any List.isEmpty) = !shwO b := by
    unfold shwO
    simp only [List.any_cons, List.any_nil, num_emp, he, blN, List.all_cons]
    cases inO b.vw <;> cases inO b.pa <;> cases prB7 b.p <;> cases (prN b.p).all inO <;> cases (textsOf b.mo).isEmpty <;> cases inO b.sv <;> rfl
  unfold inR shwB
  rw [hc]
  cases hs : shwO b with
  | false => rfl
  | true =>
    have hq : (prB7 b.p && (prN b.p).all inO) = true := by
      unfold shwO at hs
      simp only [blN, List.all_cons, Bool.and_eq_true] at hs ⊢
      exact ⟨hs.1.1.1, hs.1.1.2.2.2⟩
    rw [hp, if_pos hq]
    simp [numL, blN]
end Go.Proofs.Ytckidhcknibceaa
