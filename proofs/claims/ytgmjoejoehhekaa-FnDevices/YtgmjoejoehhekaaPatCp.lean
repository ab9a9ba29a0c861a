/- The contracts of the law's copy of patches. -/
import Derived.Test.YtgmjoejoehhekaaPatBase
import Derived.Deep.RegionHeld3
namespace Go.Proofs.Ytgmjoejoehhekaa
open Go.RowKit
theorem made_PtV (n : Nat) : (madeCells #[.int .i64 0, .string ⟨#[]⟩] (n * 2)).toList = PtV (List.replicate n zeroP) := by
  apply List.ext_getElem?
  intro j
  by_cases hj : j < n * 2
  · have h1 : j / 2 < n := by omega
    have h2 := PtV_get (List.replicate n zeroP) (j / 2) (by rw [List.length_replicate]; exact h1) (j % 2) (by omega)
    rw [show j / 2 * 2 + j % 2 = j by omega] at h2
    rw [h2, nthP_eq (by rw [List.length_replicate]; exact h1), List.getElem_replicate]
    have h3 : j % 2 = 0 ∨ j % 2 = 1 := by omega
    rcases h3 with h | h <;> simp [madeCells, hj, h, PtC, zeroP]
  · rw [List.getElem?_eq_none (by rw [Array.length_toList, size_madeCells]; omega), List.getElem?_eq_none (by rw [PtV_length, List.length_replicate]; omega)]
theorem PtV_setAt : ∀ (es : List Pat) (k : Nat), k < es.length → ∀ (j : Nat), j < 2 → ∀ (u : Value) (e' : Pat), (PtC (nthP es k)).set j u = PtC e' → (PtV es).set (k * 2 + j) u = PtV (es.set k e')
  | [], k, h, _, _, _, _, _ => by simp at h
  | a :: r, 0, _, j, hj, u, e', h => by
    rw [nthP_zero] at h
    rw [PtV_cons, Nat.zero_mul, Nat.zero_add, List.set_append_left _ _ (by simp [PtC]; exact hj), h, List.set_cons_zero, PtV_cons]
  | a :: r, k + 1, hk, j, hj, u, e', h => by
    rw [nthP_succ] at h
    rw [PtV_cons, List.set_append_right _ _ (by simp [PtC]; omega), List.set_cons_succ, PtV_cons, ← PtV_setAt r k (by simpa using hk) j hj u e' h]
    congr 2
    simp [PtC]; omega
theorem ownPt_store {w : World} {base g cap n : Nat} {es : List Pat} (ho : w.ownsRow base 43 2 (.slice (some ⟨g, 0, none⟩) n cap) n (PtV es)) {k j : Nat} (hk : k < es.length) (hj : j < 2) {u : Value} {e' : Pat} (h : (PtC (nthP es k)).set j u = PtC e') :
    (w.setCell ⟨g, k * 2 + j, none⟩ u).ownsRow base 43 2 (.slice (some ⟨g, 0, none⟩) n cap) n (PtV (es.set k e')) := by
  have := (ho.stored (k * 2 + j) u).1
  rwa [PtV_setAt es k hk j hj u e' h] at this
theorem nthP_set_same {es : List Pat} {k : Nat} (hk : k < es.length) (e : Pat) : nthP (es.set k e) k = e := by
  rw [nthP_eq (by rw [List.length_set]; exact hk), List.getElem_set_self]
/-- A whole entry stored. -/
theorem ownPt_store2 {w : World} {base g cap n : Nat} {es : List Pat} (ho : w.ownsRow base 43 2 (.slice (some ⟨g, 0, none⟩) n cap) n (PtV es)) {k : Nat} (hk : k < es.length) (x : Pat) :
    ((w.setCell ⟨g, k * 2, none⟩ (.int .i64 x.pos)).setCell ⟨g, k * 2 + 1, none⟩ (.string x.text)).ownsRow base 43 2 (.slice (some ⟨g, 0, none⟩) n cap) n (PtV (es.set k x)) := by
  have h0 := ownPt_store ho hk (j := 0) (by omega) (u := .int .i64 x.pos) (e' := { nthP es k with pos := x.pos }) rfl
  have h1 := ownPt_store h0 (k := k) (j := 1) (by rw [List.length_set]; exact hk) (by omega) (u := .string x.text) (e' := x) (by rw [nthP_set_same hk]; rfl)
  rw [List.set_set] at h1
  exact h1
theorem cpPt_step (bs : List Pat) (z : Pat) (k : Nat) (h : k < bs.length) : (bs.take k ++ List.replicate (bs.length - k) z).set k (nthP bs k) = bs.take (k + 1) ++ List.replicate (bs.length - (k + 1)) z := by
  have hl : (bs.take k).length = k := by rw [List.length_take]; omega
  rw [List.set_append_right _ _ (by omega), hl, Nat.sub_self]
  obtain ⟨m, hm⟩ : ∃ m, bs.length - k = m + 1 := ⟨bs.length - k - 1, by omega⟩
  have hm2 : bs.length - (k + 1) = m := by omega
  rw [hm, hm2, List.replicate_succ, List.set_cons_zero, List.take_succ_eq_append_getElem h, List.append_assoc, List.singleton_append, nthP_eq h]
theorem cpPt_len (bs : List Pat) (z : Pat) (k : Nat) (h : k ≤ bs.length) : (bs.take k ++ List.replicate (bs.length - k) z).length = bs.length := by
  rw [List.length_append, List.length_take, List.length_replicate]; omega
end Go.Proofs.Ytgmjoejoehhekaa
