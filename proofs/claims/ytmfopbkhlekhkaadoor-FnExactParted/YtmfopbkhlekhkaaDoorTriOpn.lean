/- A row of numbers that came in as an argument, with its bounds. -/
import Derived.Test.YtmfopbkhlekhkaaDoorTriSpec
import Derived.Test.YtmfopbkhlekhkaaDoorNumZ
import Derived.ProofKit
import Derived.OpenShut
import Derived.ShutString
import Derived.ChangeOld
namespace Go.Proofs.YtmfopbkhlekhkaaDoor
open Go.ChangeShapes Go.WideShapes Go.ChangeAt Go.RowKit
theorem open_intsB {H : Type} {enc : TypeId × Value → H} {w : World} {v : Value} {d : DataW H} {p : List MemPlace} (h : DataW.Trod enc Tryd.prog w 0 (fun _ => true) true 28 v d p) (hs : ∃ a n c, v = .slice a n c) : ∃ ns, RdI w v ns ∧ ∀ j, I64 (ns.getD j 0) := by
  obtain ⟨a0, len0, cap0, rfl⟩ := hs
  obtain ⟨fuel, hf⟩ := h
  rcases open_ints Tryd.underlying28 Tryd.underlying2 (by kernel_rfl) hf with ⟨hcs, _⟩ | ⟨x, l, c, zs, hcs, _, hl, hm, hz, _, hcell, hwz⟩
  · simp [Value.cells] at hcs
    obtain ⟨rfl, rfl, rfl⟩ := hcs
    exact ⟨[], rdI_nil w, fun j => by simp; exact ⟨by omega, by omega⟩⟩
  · simp [Value.cells] at hcs
    obtain ⟨rfl, rfl, rfl⟩ := hcs
    have hzl : zs.length = cap0 := by simpa using hz
    have htl : (zs.take len0).length = len0 := by rw [List.length_take]; omega
    refine ⟨zs.take len0, ⟨some x, cap0, by rw [htl], by rw [htl]; exact hl, hm, (fun e => by cases e), ?_⟩, fun j => ?_⟩
    · by_cases h0 : len0 = 0
      · left; subst h0; simp
      · right
        obtain ⟨b, off, spot⟩ := x
        have hc := hcell 0 (by omega)
        have hspot : spot = none := by simpa [Addr.add] using World.cell?_spot hc
        subst hspot
        refine ⟨b, off, rfl, fun i hi => ?_⟩
        have hi' : i < len0 := by rw [htl] at hi; exact hi
        have h := hcell i (by omega)
        have hg : zs.getD i 0 = zs[i]'(by omega) := by simp [List.getD, List.getElem?_eq_getElem (show i < zs.length by omega)]
        rw [Addr.add_lit] at h
        rw [h, hg, List.getElem_take]
    · by_cases hj : j < (zs.take len0).length
      · have hb := bounds_i64 (hwz _ (List.mem_of_mem_take (List.getElem_mem hj)))
        rw [← getD_at hj]
        exact hb
      · have e : (zs.take len0).getD j 0 = 0 := by simp [List.getD, List.getElem?_eq_none (show (zs.take len0).length ≤ j by omega)]
        rw [e]; exact ⟨by omega, by omega⟩
end Go.Proofs.YtmfopbkhlekhkaaDoor
