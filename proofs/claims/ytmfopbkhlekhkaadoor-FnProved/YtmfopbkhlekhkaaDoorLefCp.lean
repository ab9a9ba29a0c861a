/- The contracts of the law's measure, copy and comparison of Leafs. -/
-- UNF Gen
import Derived.Test.YtmfopbkhlekhkaaDoorLefBase
import Derived.Deep.RegionHeld3
namespace Go.Proofs.YtmfopbkhlekhkaaDoor
open Go.RowKit
theorem made_LV (n : Nat) : (madeCells #[.int .i64 0, .int .i64 0] (n * 2)).toList = LV (List.replicate n zeroL) := by
  apply List.ext_getElem?
  intro j
  by_cases hj : j < n * 2
  · have h1 : j / 2 < n := by omega
    have h2 := LV_get (List.replicate n zeroL) (j / 2) (by rw [List.length_replicate]; exact h1) (j % 2) (by omega)
    rw [show j / 2 * 2 + j % 2 = j by omega] at h2
    rw [h2, nthL_eq (by rw [List.length_replicate]; exact h1), List.getElem_replicate]
    have h3 : j % 2 = 0 ∨ j % 2 = 1 := by omega
    rcases h3 with h | h <;> simp [madeCells, hj, h, LC, zeroL]
  · rw [List.getElem?_eq_none (by rw [Array.length_toList, size_madeCells]; omega), List.getElem?_eq_none (by rw [LV_length, List.length_replicate]; omega)]
theorem LV_setAt : ∀ (es : List Lef) (k : Nat), k < es.length → ∀ (j : Nat), j < 2 → ∀ (u : Value) (e' : Lef), (LC (nthL es k)).set j u = LC e' → (LV es).set (k * 2 + j) u = LV (es.set k e')
  | [], k, h, _, _, _, _, _ => by simp at h
  | a :: r, 0, _, j, hj, u, e', h => by
    rw [nthL_zero] at h
    rw [LV_cons, Nat.zero_mul, Nat.zero_add, List.set_append_left _ _ (by simp [LC]; exact hj), h, List.set_cons_zero, LV_cons]
  | a :: r, k + 1, hk, j, hj, u, e', h => by
    rw [nthL_succ] at h
    rw [LV_cons, List.set_append_right _ _ (by simp [LC]; omega), List.set_cons_succ, LV_cons, ← LV_setAt r k (by simpa using hk) j hj u e' h]
    congr 2
    simp [LC]; omega
theorem ownL_store {w : World} {base g cap n : Nat} {es : List Lef} (ho : w.ownsRow base 42 2 (.slice (some ⟨g, 0, none⟩) n cap) n (LV es)) {k j : Nat} (hk : k < es.length) (hj : j < 2) {u : Value} {e' : Lef} (h : (LC (nthL es k)).set j u = LC e') :
    (w.setCell ⟨g, k * 2 + j, none⟩ u).ownsRow base 42 2 (.slice (some ⟨g, 0, none⟩) n cap) n (LV (es.set k e')) := by
  have := (ho.stored (k * 2 + j) u).1
  rwa [LV_setAt es k hk j hj u e' h] at this
theorem nthL_set_same {es : List Lef} {k : Nat} (hk : k < es.length) (e : Lef) : nthL (es.set k e) k = e := by
  rw [nthL_eq (by rw [List.length_set]; exact hk), List.getElem_set_self]
/-- A whole entry stored. -/
theorem ownL_store2 {w : World} {base g cap n : Nat} {es : List Lef} (ho : w.ownsRow base 42 2 (.slice (some ⟨g, 0, none⟩) n cap) n (LV es)) {k : Nat} (hk : k < es.length) (x : Lef) :
    ((w.setCell ⟨g, k * 2, none⟩ (.int .i64 x.pl)).setCell ⟨g, k * 2 + 1, none⟩ (.int .i64 x.va)).ownsRow base 42 2 (.slice (some ⟨g, 0, none⟩) n cap) n (LV (es.set k x)) := by
  have h0 := ownL_store ho hk (j := 0) (by omega) (u := .int .i64 x.pl) (e' := { nthL es k with pl := x.pl }) rfl
  have h1 := ownL_store h0 (k := k) (j := 1) (by rw [List.length_set]; exact hk) (by omega) (u := .int .i64 x.va) (e' := x) (by rw [nthL_set_same hk]; rfl)
  rw [List.set_set] at h1
  exact h1
theorem cpL_step (bs : List Lef) (z : Lef) (k : Nat) (h : k < bs.length) : (bs.take k ++ List.replicate (bs.length - k) z).set k (nthL bs k) = bs.take (k + 1) ++ List.replicate (bs.length - (k + 1)) z := by
  have hl : (bs.take k).length = k := by rw [List.length_take]; omega
  rw [List.set_append_right _ _ (by omega), hl, Nat.sub_self]
  obtain ⟨m, hm⟩ : ∃ m, bs.length - k = m + 1 := ⟨bs.length - k - 1, by omega⟩
  have hm2 : bs.length - (k + 1) = m := by omega
  rw [hm, hm2, List.replicate_succ, List.set_cons_zero, List.take_succ_eq_append_getElem h, List.append_assoc, List.singleton_append, nthL_eq h]
theorem cpL_len (bs : List Lef) (z : Lef) (k : Nat) (h : k ≤ bs.length) : (bs.take k ++ List.replicate (bs.length - k) z).length = bs.length := by
  rw [List.length_append, List.length_take, List.length_replicate]; omega
/-- What the measure of Leafs leaves: a number below 0, or there are few. -/
def SzLs (w : World) (es : List Lef) (e : Ending) (w' : World) : Prop :=
  w' = w ∧ ∃ z : Int, e = .returned (.int .i64 z) ∧ (z = -1 ∨ 0 ≤ z ∧ es.length ≤ 1048576)
end Go.Proofs.YtmfopbkhlekhkaaDoor
