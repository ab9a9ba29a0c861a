/- The contracts of the law's measure, copy and comparison of entries. -/
import Derived.Test.YthkckgjcecommaaEntSpecOk
import Derived.Deep.RegionHeld3
namespace Go.Proofs.Ythkckgjcecommaa
open Go.RowKit
theorem made_EV (n : Nat) : (madeCells #[.string ⟨#[]⟩, .string ⟨#[]⟩, .int .i64 0, .bool false] (n * 4)).toList = EV (List.replicate n zeroE) := by
  apply List.ext_getElem?
  intro j
  by_cases hj : j < n * 4
  · have h1 : j / 4 < n := by omega
    have h2 := EV_get (List.replicate n zeroE) (j / 4) (by rw [List.length_replicate]; exact h1) (j % 4) (by omega)
    rw [show j / 4 * 4 + j % 4 = j by omega] at h2
    rw [h2, nth_eq (by rw [List.length_replicate]; exact h1), List.getElem_replicate]
    have h3 : j % 4 = 0 ∨ j % 4 = 1 ∨ j % 4 = 2 ∨ j % 4 = 3 := by omega
    rcases h3 with h | h | h | h <;> simp [madeCells, hj, h, EC, zeroE]
  · rw [List.getElem?_eq_none (by rw [Array.length_toList, size_madeCells]; omega), List.getElem?_eq_none (by rw [EV_length, List.length_replicate]; omega)]
theorem EV_setAt : ∀ (es : List Ent) (k : Nat), k < es.length → ∀ (j : Nat), j < 4 → ∀ (u : Value) (e' : Ent), (EC (nth es k)).set j u = EC e' → (EV es).set (k * 4 + j) u = EV (es.set k e')
  | [], k, h, _, _, _, _, _ => by simp at h
  | a :: r, 0, _, j, hj, u, e', h => by
    rw [nth_zero] at h
    rw [EV_cons, Nat.zero_mul, Nat.zero_add, List.set_append_left _ _ (by simp [EC]; exact hj), h, List.set_cons_zero, EV_cons]
  | a :: r, k + 1, hk, j, hj, u, e', h => by
    rw [nth_succ] at h
    rw [EV_cons, List.set_append_right _ _ (by simp [EC]; omega), List.set_cons_succ, EV_cons, ← EV_setAt r k (by simpa using hk) j hj u e' h]
    congr 2
    simp [EC]; omega
theorem ownE_store {w : World} {base g cap n : Nat} {es : List Ent} (ho : w.ownsRow base 49 4 (.slice (some ⟨g, 0, none⟩) n cap) n (EV es)) {k j : Nat} (hk : k < es.length) (hj : j < 4) {u : Value} {e' : Ent} (h : (EC (nth es k)).set j u = EC e') :
    (w.setCell ⟨g, k * 4 + j, none⟩ u).ownsRow base 49 4 (.slice (some ⟨g, 0, none⟩) n cap) n (EV (es.set k e')) := by
  have := (ho.stored (k * 4 + j) u).1
  rwa [EV_setAt es k hk j hj u e' h] at this
theorem nth_set_same {es : List Ent} {k : Nat} (hk : k < es.length) (e : Ent) : nth (es.set k e) k = e := by
  rw [nth_eq (by rw [List.length_set]; exact hk), List.getElem_set_self]
/-- A whole entry stored. -/
theorem ownE_store4 {w : World} {base g cap n : Nat} {es : List Ent} (ho : w.ownsRow base 49 4 (.slice (some ⟨g, 0, none⟩) n cap) n (EV es)) {k : Nat} (hk : k < es.length) (x : Ent) :
    ((((w.setCell ⟨g, k * 4, none⟩ (.string x.key)).setCell ⟨g, k * 4 + 1, none⟩ (.string x.val)).setCell ⟨g, k * 4 + 2, none⟩ (.int .i64 x.seq)).setCell ⟨g, k * 4 + 3, none⟩ (.bool x.gone)).ownsRow base 49 4 (.slice (some ⟨g, 0, none⟩) n cap) n (EV (es.set k x)) := by
  have h0 := ownE_store ho hk (j := 0) (by omega) (u := .string x.key) (e' := { nth es k with key := x.key }) rfl
  have h1 := ownE_store h0 (k := k) (j := 1) (by rw [List.length_set]; exact hk) (by omega) (u := .string x.val) (e' := { nth es k with key := x.key, val := x.val }) (by rw [nth_set_same hk]; rfl)
  rw [List.set_set] at h1
  have h2 := ownE_store h1 (k := k) (j := 2) (by rw [List.length_set]; exact hk) (by omega) (u := .int .i64 x.seq) (e' := { nth es k with key := x.key, val := x.val, seq := x.seq }) (by rw [nth_set_same hk]; rfl)
  rw [List.set_set] at h2
  have h3 := ownE_store h2 (k := k) (j := 3) (by rw [List.length_set]; exact hk) (by omega) (u := .bool x.gone) (e' := x) (by rw [nth_set_same hk]; rfl)
  rw [List.set_set] at h3
  exact h3
theorem cpE_step (bs : List Ent) (z : Ent) (k : Nat) (h : k < bs.length) : (bs.take k ++ List.replicate (bs.length - k) z).set k (nth bs k) = bs.take (k + 1) ++ List.replicate (bs.length - (k + 1)) z := by
  have hl : (bs.take k).length = k := by rw [List.length_take]; omega
  rw [List.set_append_right _ _ (by omega), hl, Nat.sub_self]
  obtain ⟨m, hm⟩ : ∃ m, bs.length - k = m + 1 := ⟨bs.length - k - 1, by omega⟩
  have hm2 : bs.length - (k + 1) = m := by omega
  rw [hm, hm2, List.replicate_succ, List.set_cons_zero, List.take_succ_eq_append_getElem h, List.append_assoc, List.singleton_append, nth_eq h]
theorem cpE_len (bs : List Ent) (z : Ent) (k : Nat) (h : k ≤ bs.length) : (bs.take k ++ List.replicate (bs.length - k) z).length = bs.length := by
  rw [List.length_append, List.length_take, List.length_replicate]; omega
theorem small_fits {x : Ent} (h : x.key.size ≤ 4503599627370496 ∧ x.val.size ≤ 4503599627370496) (h2 : -9223372036854775808 ≤ x.seq ∧ x.seq ≤ 9223372036854775807) : Fits x := ⟨h.1, h.2, h2.1, h2.2⟩
/-- What the measure of an entry leaves: a number below 0, or its texts are small. -/
def SzE (w : World) (x : Ent) (e : Ending) (w' : World) : Prop :=
  Below w.heap.size w w' ∧ ∃ z : Int, e = .returned (.int .i64 z) ∧ (z = -1 ∨ 0 ≤ z ∧ z ≤ 1048576 ∧ x.key.size ≤ 1048576 ∧ x.val.size ≤ 1048576)
/-- What the measure of a slice of entries leaves. -/
def SzEs (w : World) (es : List Ent) (e : Ending) (w' : World) : Prop :=
  Below w.heap.size w w' ∧ ∃ z : Int, e = .returned (.int .i64 z) ∧ (z = -1 ∨ 0 ≤ z ∧ z ≤ 1048576 ∧ es.length ≤ 1048576 ∧ ∀ x ∈ es, x.key.size ≤ 1048576 ∧ x.val.size ≤ 1048576)
end Go.Proofs.Ythkckgjcecommaa
