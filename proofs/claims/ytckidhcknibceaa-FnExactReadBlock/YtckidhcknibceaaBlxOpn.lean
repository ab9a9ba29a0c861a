/- A block that came in as an argument. -/
import Derived.Test.YtckidhcknibceaaBlxBase
import Derived.Test.YtckidhcknibceaaPrfCp
import Derived.OpenShut
import Derived.SliceStrings
import Derived.Deep.Slices
import Derived.ChangeArms
namespace Go.Proofs.Ytckidhcknibceaa
open Go.RowKit Go.ChangeShapes Go.WideShapes
theorem cellsB25 : Try.prog.cellsOf 25 = 1 := by kernel_rfl
theorem cellsBP : Try.prog.cellsOf 27 = 8 := by kernel_rfl
theorem open_rowS {H : Type} {enc : TypeId × Value → H} {w : World} {fuel : Nat} {v : Value} {x : DataW H × List MemPlace} (h : DataW.trod enc Try.prog w 0 (fun _ => true) true fuel 25 [v] = some x) : ∃ ss, RdS w v ss ∧ ∀ s ∈ ss, s.size ≤ maxLen := by
  rcases open_strings Try.underlying25 Try.underlying9 (by kernel_rfl) h with ⟨hcs, _⟩ | ⟨x, l, c, zs, hcs, _, hl, hm, hz, _, hcell, hwz⟩
  · simp at hcs
    subst hcs
    exact ⟨[], rdS_nil w, fun s hs => by cases hs⟩
  · simp at hcs
    subst hcs
    have hzl : zs.length = c := by simpa using hz
    have htl : (zs.take l).length = l := by rw [List.length_take]; omega
    refine ⟨zs.take l, ⟨some x, c, by rw [htl], by rw [htl]; exact hl, hm, ?_⟩, fun s hs => hwz s (List.mem_of_mem_take hs)⟩
    by_cases h0 : l = 0
    · left; subst h0; simp
    · right
      obtain ⟨b, off, spot⟩ := x
      have hc := hcell 0 (by omega)
      have hspot : spot = none := by simpa [Addr.add] using World.cell?_spot hc
      subst hspot
      refine ⟨b, off, rfl, fun i hi => ?_⟩
      have hi' : i < l := by rw [htl] at hi; exact hi
      have h := hcell i (by omega)
      have hg : zs.getD i ByteArray.empty = zs[i]'(by omega) := by simp [List.getD, List.getElem?_eq_getElem (show i < zs.length by omega)]
      rw [Addr.add_lit] at h
      rw [h, hg, List.getElem_take]
set_option maxRecDepth 100000 in
theorem open_block {H : Type} {enc : TypeId × Value → H} {w : World} {fuel : Nat} {cs : List Value} {x : DataW H × List MemPlace} (h : DataW.trod enc Try.prog w 0 (fun _ => true) true fuel 27 cs = some x) :
    ∃ X : BlX, cs = X.cs ∧ RdBl w X ∧ FitBl X.b := by
  obtain ⟨xs, n, _, _, hl, hxl, hf⟩ := DataW.trod_struct Try.underlying27 h
  rw [cellsBP] at hl
  match xs, hxl, cs, hl with
  | [y0, y1, y2, y3, y4], _, [v0, v1, v2, v3, v4, v5, v6, v7], _ =>
    have g0 := hf 0 _ rfl
    have g1 := hf 1 _ rfl
    have g2 := hf 2 _ rfl
    have g3 := hf 3 _ rfl
    have g4 := hf 4 _ rfl
    simp [cellsP2, cellsPP, cellsB25] at g0 g1 g2 g3 g4
    obtain ⟨n0, h0, _, z0⟩ := DataW.trod_int Try.underlying2 g0
    obtain ⟨n1, h1, _, z1⟩ := DataW.trod_int Try.underlying2 g1
    obtain ⟨P, hP, rP, fP⟩ := open_proof g2
    obtain ⟨ss, hs, ks⟩ := open_rowS g3
    obtain ⟨n4, h4, _, z4⟩ := DataW.trod_int Try.underlying2 g4
    simp only [PrX.cs, List.cons.injEq, and_true] at h0 h1 hP h4
    obtain ⟨hp0, hp1, hp2, hp3⟩ := hP
    subst h0 h1 h4 hp0 hp1 hp2 hp3
    exact ⟨⟨⟨n0, n1, P.p, ss, n4⟩, P.vs, P.vt, v6⟩, rfl, ⟨rP, hs⟩, ⟨bounds_i64 z0, bounds_i64 z1, fP, ks, bounds_i64 z4⟩⟩
end Go.Proofs.Ytckidhcknibceaa
