/- The contract of slices.Delete of one Leaf, and of the program's copy of Leafs. -/
-- UNF Gen
import Derived.Test.YthmeikbfichkaabDoorLefMath
import Derived.Lib.SliceRun
namespace Go.Proofs.YthmeikbfichkaabDoor
open Go.RowKit
/-- Cells of a row are written one behind the other. -/
def setC (xs : List Value) : Nat → List Value → List Value
  | _, [] => xs
  | o, v :: r => setC (xs.set o v) (o + 1) r
theorem setC_eq : ∀ (vs : List Value) (o : Nat) (xs : List Value), o + vs.length ≤ xs.length → setC xs o vs = xs.take o ++ vs ++ xs.drop (o + vs.length)
  | [], o, xs, _ => by simp [setC]
  | v :: r, o, xs, h => by
    have h' : o + (r.length + 1) ≤ xs.length := by simpa using h
    have ho : o < xs.length := by omega
    unfold setC
    rw [setC_eq r (o + 1) (xs.set o v) (by rw [List.length_set]; omega)]
    have e1 : (xs.set o v).take (o + 1) = xs.take o ++ [v] := by
      rw [List.take_succ_eq_append_getElem (by rw [List.length_set]; exact ho), List.take_set_of_le (Nat.le_refl _)]
      simp
    have e2 : (xs.set o v).drop (o + 1 + r.length) = xs.drop (o + (r.length + 1)) := by
      rw [List.drop_set_of_lt (by omega), show o + 1 + r.length = o + (r.length + 1) by omega]
    rw [e1, e2]
    simp
theorem rowC_set {B e s g n cap : Nat} : ∀ (vs : List Value) (o : Nat) (w : World) (xs : List Value), w.ownsRow B e s (.slice (some ⟨g, 0, none⟩) n cap) n xs → (w.setCells g o vs).ownsRow B e s (.slice (some ⟨g, 0, none⟩) n cap) n (setC xs o vs) ∧ w.grownBy (w.setCells g o vs) (some g)
  | [], _, w, _, h => ⟨h, ⟨rfl, rfl, rfl, Nat.le_refl _, fun _ _ _ => rfl⟩⟩
  | v :: r, o, w, xs, h => by
    have h1 := h.stored o v
    have h2 := rowC_set r (o + 1) _ _ h1.1
    refine ⟨h2.1, ?_⟩
    obtain ⟨a1, a2, a3, a4, a5⟩ := h1.2
    obtain ⟨b1, b2, b3, b4, b5⟩ := h2.2
    exact ⟨b1.trans a1, b2.trans a2, b3.trans a3, Nat.le_trans a4 b4, fun k hk hn => (b5 k (Nat.lt_of_lt_of_le hk a4) hn).trans (a5 k hk hn)⟩
theorem rowC_wide {w : World} {B e s g n cap : Nat} {xs : List Value} (h : w.ownsRow B e s (.slice (some ⟨g, 0, none⟩) n cap) n xs) : ∃ ys, w.ownsRow B e s (.slice (some ⟨g, 0, none⟩) cap cap) cap ys ∧ ys.take (n * s) = xs ∧ ys.length = cap * s := by
  rcases h.2 with ⟨h', _⟩ | ⟨g', cap', cur, h', hb, hg, hnc, hcm, hcs, htake⟩
  · simp at h'
  · simp only [Value.slice.injEq, Option.some.injEq, Addr.mk.injEq, and_true, true_and] at h'
    obtain ⟨rfl, rfl⟩ := h'
    have hl : cur.toList.length = cap * s := by rw [Array.length_toList, hcs]
    refine ⟨cur.toList, ⟨hl, .inr ⟨g, cap, cur, rfl, hb, hg, Nat.le_refl _, hcm, hcs, ?_⟩⟩, htake, hl⟩
    rw [List.take_of_length_le (by rw [hl]; exact Nat.le_refl _)]
theorem rowC_cut {w : World} {B e s g N m cap : Nat} {xs : List Value} (h : w.ownsRow B e s (.slice (some ⟨g, 0, none⟩) N cap) N xs) (hm : m ≤ N) : w.ownsRow B e s (.slice (some ⟨g, 0, none⟩) m cap) m (xs.take (m * s)) := by
  rcases h.2 with ⟨h', _⟩ | ⟨g', cap', cur, h', hb, hg, hnc, hcm, hcs, htake⟩
  · simp at h'
  · simp only [Value.slice.injEq, Option.some.injEq, Addr.mk.injEq, and_true, true_and] at h'
    obtain ⟨rfl, rfl⟩ := h'
    have hl := h.1
    have hms : m * s ≤ N * s := Nat.mul_le_mul_right _ hm
    refine ⟨by rw [List.length_take, hl]; omega, .inr ⟨g, cap, cur, rfl, hb, hg, by omega, hcm, hcs, ?_⟩⟩
    rw [← htake, List.take_take]
    congr 1
    omega
theorem LV_take (bs : List Lef) (i : Nat) : (LV bs).take (i * 2) = LV (bs.take i) := by
  induction bs generalizing i with
  | nil => simp [LV]
  | cons a r ih =>
    cases i with
    | zero => simp [LV]
    | succ i =>
      rw [LV_cons, List.take_succ_cons, LV_cons, show (i + 1) * 2 = (LC a).length + i * 2 by simp [LC]; omega, List.take_length_add_append, ih]
theorem delL_list {bs : List Lef} {i : Nat} (hi : i < bs.length) {ys : List Value} {cap : Nat} (hl : ys.length = cap * 2) (hn : bs.length ≤ cap) (ht : ys.take (bs.length * 2) = LV bs) (zs : List Value) (hz : zs.length = 2) :
    ((setC (setC ys (i * 2) (LV (bs.drop (i + 1)))) ((bs.length - 1) * 2) zs)).take ((bs.length - 1) * 2) = LV (bs.eraseIdx i) := by
  have hd : (LV (bs.drop (i + 1))).length = (bs.length - (i + 1)) * 2 := by rw [LV_length, List.length_drop]
  have e1 : setC ys (i * 2) (LV (bs.drop (i + 1))) = ys.take (i * 2) ++ LV (bs.drop (i + 1)) ++ ys.drop (i * 2 + (LV (bs.drop (i + 1))).length) := setC_eq _ _ _ (by rw [hd, hl]; omega)
  have e2 : ys.take (i * 2) = LV (bs.take i) := by
    have : (ys.take (bs.length * 2)).take (i * 2) = ys.take (i * 2) := by rw [List.take_take]; congr 1; omega
    rw [← this, ht, LV_take]
  have hti : (ys.take (i * 2)).length = i * 2 := by rw [List.length_take, hl]; omega
  have hl2 : (setC ys (i * 2) (LV (bs.drop (i + 1)))).length = cap * 2 := by
    rw [e1, List.length_append, List.length_append, hti, hd, List.length_drop, hl]; omega
  rw [setC_eq _ _ _ (by rw [hl2, hz]; omega), List.take_append_of_le_length (by rw [List.length_append, List.length_take, hl2]; omega), List.take_append_of_le_length (by rw [List.length_take, hl2]; omega), List.take_take, Nat.min_self, e1,
    List.take_append_of_le_length (by rw [List.length_append, hti, hd]; omega), List.take_of_length_le (by rw [List.length_append, hti, hd]; omega), e2, ← LV_append, List.eraseIdx_eq_take_drop_succ]
/-- What slices.Delete leaves: one Leaf less in the same row. -/
def DelLPost (w : World) (B : Nat) (v : Value) (bs : List Lef) (i : Nat) (e : Ending) (w' : World) : Prop :=
  ∃ u, e = .returned u ∧ OwnL w' B u (bs.eraseIdx i) ∧ u.ownBlock = v.ownBlock ∧ w.grownBy w' v.ownBlock
theorem run_clear_lef (w : World) (ty : TypeId) (b o c : Nat) (hc : ∀ j, j < 2 → (w.cell? ⟨b, o + j, none⟩).isSome = true) (hf : ∀ j, j < 2 → w.frozen? ⟨b, o + j, none⟩ = false) :
    (Builtin.clear_ #[26] ty #[.slice (some ⟨b, o, none⟩) 1 c]).run Tryd.prog w = .ok (.tuple #[]) (w.setCells b o [.int .i64 0, .int .i64 0]) := by
  have hzc : (Builtin.zeroCells (Value.agg #[.int .i64 0, .int .i64 0]).cells 1).toList = [.int .i64 0, .int .i64 0] := by kernel_rfl
  have hst := run_storeCells_cells (P := Tryd.prog) b o [.int .i64 0, .int .i64 0] 0 w (by simpa using hc) (by simpa using hf) (by intro v hv'; simp at hv'; subst hv'; rfl)
  simp only [Nat.add_zero] at hst
  simp [Builtin.clear_, run_underlying Tryd.underlying26, hzc, hst]
end Go.Proofs.YthmeikbfichkaabDoor
