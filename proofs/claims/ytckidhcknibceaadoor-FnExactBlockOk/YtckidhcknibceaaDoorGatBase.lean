/- What Gathered leaves; plain facts on votes. -/
-- UNF Gen
import Derived.Test.YtckidhcknibceaaDoorPrfVot
import Derived.Test.YtckidhcknibceaaDoorPrfImp
namespace Go.Proofs.YtckidhcknibceaaDoor
open Go.RowKit
/-- What Gathered leaves: a proof in memory of its own, and whether there is one. -/
def GatP (w : World) (R : Option Prf) (e : Ending) (w' : World) : Prop :=
  ∃ X : PrX, e = .returned (.tuple #[.agg #[.int .i64 X.p.vw, .int .i64 X.p.nm, X.vs, X.vt], .bool R.isSome]) ∧ X.p = R.getD prfZ ∧ OwnPr w' w.heap.size X ∧ Below w.heap.size w w'
theorem tagD_lt (s : Int) (t : ByteArray) : tagD s t < 2147483647 := by
  rw [tagD_eq]
  exact dig_lt _ _ (dig_lt _ _ (dig_lt _ _ (dig_lt _ _ (by omega))))
theorem fit_votR (s v n : Int) : FitVo (votR s v n) := by
  unfold votR
  split
  · rename_i h
    simp only [Bool.and_eq_true, decide_eq_true_eq] at h
    obtain ⟨⟨h1, h2⟩, h3⟩ := h
    unfold inV at h2
    unfold inN at h3
    simp only [decide_eq_true_eq] at h2 h3
    have ht := tagD_lt s (balS v n)
    refine ⟨?_, ?_, ?_, ?_⟩ <;> (unfold vtd; simp only; omega)
  · exact ⟨by decide, by decide, by decide, by decide⟩
theorem vok_votR {s v n : Int} {m : Int} (h : vokR (votR s v n) m = true) : votR s v n = vtd s v n ∧ inV v = true ∧ inN n = true := by
  unfold votR at h ⊢
  by_cases hc : (decide (0 ≤ s ∧ s ≤ 6) && inV v && inN n) = true
  · rw [if_pos hc]
    simp only [Bool.and_eq_true] at hc
    exact ⟨rfl, hc.1.2, hc.2⟩
  · rw [if_neg hc] at h
    exfalso
    unfold vokR votZ at h
    simp only [Bool.and_eq_true] at h
    have := h.1.1.2
    revert this
    decide
/-- A server has voted so just where its vote is right and among those. -/
theorem sel_votR (l : List Vot) (vw nm : Int) {n : Int} {k : Nat} (hs : srvB n = true) (hk : (k : Int) < n) : (vokR (votR k vw nm) n && decide (votR k vw nm ∈ l)) = selB l vw nm k := by
  have hq := quoR_yes hs
  unfold selB
  cases hv : inV vw with
  | false =>
    cases h : vokR (votR k vw nm) n with
    | false => rfl
    | true => have := (vok_votR h).2.1; rw [hv] at this; cases this
  | true =>
    cases hm : inN nm with
    | false =>
      cases h : vokR (votR k vw nm) n with
      | false => rfl
      | true => have := (vok_votR h).2.2; rw [hm] at this; cases this
    | true =>
      have e : votR k vw nm = vtd k vw nm := by
        unfold votR
        rw [hv, hm, decide_eq_true (show (0 : Int) ≤ (k : Int) ∧ (k : Int) ≤ 6 by omega)]
        rfl
      rw [e, vtd_vok hs (by omega) (by omega) hv hm]
      rfl
theorem ownI_lenX {w : World} {B : Nat} {a : Option Addr} {n c : Nat} {ns : List Int} (h : OwnI w B (.slice a n c) ns) : n = ns.length := by
  obtain ⟨_, _, hx, _⟩ := h.rd
  simp only [Value.slice.injEq] at hx
  exact hx.2.1
theorem GatP.no {w w' : World} {R : Option Prf} (h : R = none) (hb : Below w.heap.size w w') : GatP w R (.returned (.tuple #[.agg #[.int .i64 0, .int .i64 0, .slice none 0 0, .slice none 0 0], .bool false])) w' := by
  subst h
  exact ⟨prxZ, rfl, rfl, ownPr_zero _ _ 0 0, hb⟩
end Go.Proofs.YtckidhcknibceaaDoor
