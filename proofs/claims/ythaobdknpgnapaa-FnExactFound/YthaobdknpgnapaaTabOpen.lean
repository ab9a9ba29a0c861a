/- A table that came in as an argument of a law: what is read of it. -/
import Derived.Test.YthaobdknpgnapaaTabSpec2
import Derived.OpenShut
import Derived.SliceStrings
import Derived.ChangeArms
namespace Go.Proofs.Ythaobdknpgnapaa
open Go.RowKit Go.ChangeShapes Go.WideShapes
theorem cellsT9 : Try.prog.cellsOf 9 = 1 := by kernel_rfl
theorem cellsT38 : Try.prog.cellsOf 38 = 1 := by kernel_rfl
theorem cellsT39 : Try.prog.cellsOf 39 = 1 := by kernel_rfl
theorem cellsT60 : Try.prog.cellsOf 60 = 4 := by kernel_rfl
theorem rdI_of {w : World} {x : Addr} {len cap : Nat} {zs : List Int} (hl : len ≤ cap) (hm : cap ≤ maxLen) (hz : zs.length = cap) (hcell : ∀ i, i < zs.length → w.cell? (x.add i) = some (.int .i64 (zs.getD i 0))) :
    ∃ ns, RdI w (.slice (some x) len cap) ns := by
  refine ⟨zs.take len, some x, cap, ?_, ?_, hm, (fun h => by cases h), ?_⟩
  · congr 1; rw [List.length_take]; omega
  · rw [List.length_take]; omega
  · by_cases h0 : len = 0
    · left; subst h0; simp
    · right
      obtain ⟨b, off, spot⟩ := x
      have hc := hcell 0 (by omega)
      have hspot : spot = none := by simpa [Addr.add] using World.cell?_spot hc
      subst hspot
      refine ⟨b, off, rfl, fun i hi => ?_⟩
      have hi' : i < len := by rw [List.length_take] at hi; omega
      have h := hcell i (by omega)
      have hg : zs.getD i 0 = zs[i]'(by omega) := by simp [List.getD, List.getElem?_eq_getElem (show i < zs.length by omega)]
      rw [Addr.add_lit] at h
      rw [h, hg]
      simp only [List.getElem_take]
set_option maxRecDepth 100000 in
theorem open_table {H : Type} {enc : TypeId × Value → H} {w : World} {fuel : Nat} {cs : List Value} {x : DataW H × List MemPlace} (h : DataW.trod enc Try.prog w 0 (fun _ => true) true fuel 60 cs = some x) :
    ∃ (T : Tbl) (vb vk : Value), cs = [.string T.first, .string T.last, vb, vk] ∧ RdI w vb T.bits ∧ RdS w vk T.blocks ∧ T.first.size ≤ maxLen ∧ T.last.size ≤ maxLen ∧ ∀ s ∈ T.blocks, s.size ≤ maxLen := by
  obtain ⟨xs, n, _, _, hl, hxl, hf⟩ := DataW.trod_struct Try.underlying60 h
  rw [cellsT60] at hl
  match xs, hxl, cs, hl with
  | [y0, y1, y2, y3], _, [v0, v1, v2, v3], _ =>
    have g0 := hf 0 _ rfl
    have g1 := hf 1 _ rfl
    have g2 := hf 2 _ rfl
    have g3 := hf 3 _ rfl
    simp [cellsT9, cellsT38, cellsT39] at g0 g1 g2 g3
    obtain ⟨s0, h0, _, z0⟩ := DataW.trod_string Try.underlying9 g0
    obtain ⟨s1, h1, _, z1⟩ := DataW.trod_string Try.underlying9 g1
    simp only [List.cons.injEq, and_true] at h0 h1
    subst h0 h1
    obtain ⟨ns, hi⟩ : ∃ ns, RdI w v2 ns := by
      rcases open_ints Try.underlying38 Try.underlying2 (by kernel_rfl) g2 with ⟨hcs, _⟩ | ⟨x, l, c, zs, hcs, _, hl, hm, hz, _, hcell, _⟩
      · simp at hcs
        subst hcs
        exact ⟨[], rdI_nil w⟩
      · simp at hcs
        subst hcs
        exact rdI_of hl hm (by simpa using hz) hcell
    obtain ⟨ss, hk, hz⟩ : ∃ ss, RdS w v3 ss ∧ ∀ s ∈ ss, s.size ≤ maxLen := by
      rcases open_strings Try.underlying39 Try.underlying9 (by kernel_rfl) g3 with ⟨hcs, _⟩ | ⟨x, l, c, zs, hcs, _, hl, hm, hz, _, hcell, hwz⟩
      · simp at hcs
        subst hcs
        exact ⟨[], rdS_nil w, fun s hs => by cases hs⟩
      · simp at hcs
        subst hcs
        exact rdS_of hl hm (by simpa using hz) hcell hwz
    exact ⟨⟨s0, s1, ns, ss⟩, v2, v3, rfl, hi, hk, z0, z1, hz⟩
end Go.Proofs.Ythaobdknpgnapaa
