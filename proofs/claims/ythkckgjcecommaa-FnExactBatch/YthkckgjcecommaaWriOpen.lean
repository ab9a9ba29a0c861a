/- Writes that came in as an argument of a law: what is read of them. -/
import Derived.Test.YthkckgjcecommaaWriBase
import Derived.OpenShut
import Derived.Deep.Slices
import Derived.ChangeArms
namespace Go.Proofs.Ythkckgjcecommaa
open Go.RowKit Go.ChangeShapes Go.WideShapes
theorem cellsW9 : Try.prog.cellsOf 9 = 1 := by kernel_rfl
theorem cellsW4 : Try.prog.cellsOf 4 = 1 := by kernel_rfl
theorem cellsW35 : Try.prog.cellsOf 35 = 3 := by kernel_rfl
instance : Inhabited Wri := ⟨zeroW⟩
set_option maxRecDepth 100000 in
theorem open_wri {H : Type} {enc : TypeId × Value → H} {w : World} {base : Nat} {spare : Nat → Bool} {held : Bool} {fuel : Nat} {cs : List Value} {x : DataW H × List MemPlace} (h : DataW.trod enc Try.prog w base spare held fuel 35 cs = some x) :
    ∃ e : Wri, cs = WC e ∧ e.key.size ≤ maxLen ∧ e.val.size ≤ maxLen := by
  obtain ⟨xs, n, _, _, hl, hxl, hf⟩ := DataW.trod_struct Try.underlying35 h
  rw [cellsW35] at hl
  match xs, hxl, cs, hl with
  | [y0, y1, y2], _, [v0, v1, v2], _ =>
    have g0 := hf 0 _ rfl
    have g1 := hf 1 _ rfl
    have g2 := hf 2 _ rfl
    simp [cellsW9, cellsW4] at g0 g1 g2
    obtain ⟨s0, h0, _, z0⟩ := DataW.trod_string Try.underlying9 g0
    obtain ⟨s1, h1, _, z1⟩ := DataW.trod_string Try.underlying9 g1
    obtain ⟨b2, h2, _⟩ := DataW.trod_bool Try.underlying4 g2
    simp only [List.cons.injEq, and_true] at h0 h1 h2
    subst h0 h1 h2
    exact ⟨⟨s0, s1, b2⟩, rfl, z0, z1⟩
set_option maxRecDepth 100000 in
theorem open_wris {H : Type} {enc : TypeId × Value → H} {w : World} {held : Bool} {v : Value} {d : DataW H} {ps : List MemPlace} (h : DataW.Trod enc Try.prog w 0 (fun _ => true) held 22 v d ps) (hv : ∃ a len cap, v = .slice a len cap) :
    ∃ es, RdW w v es ∧ ∀ e ∈ es, e.key.size ≤ maxLen ∧ e.val.size ≤ maxLen := by
  obtain ⟨fuel, hf⟩ := h
  obtain ⟨a0, len0, cap0, rfl⟩ := hv
  rcases Deep.open_slice Try.underlying22 hf with ⟨hcs, _⟩ | ⟨a, len, cap, m, n, D, Pl, hcs, _, hl, hm, hmm, _, hx⟩
  · simp [Value.cells] at hcs
    obtain ⟨rfl, rfl, rfl⟩ := hcs
    exact ⟨[], rdW_nil w, fun e he => by cases he⟩
  · simp [Value.cells] at hcs
    obtain ⟨rfl, rfl, rfl⟩ := hcs
    simp only [if_true] at hmm
    subst hmm
    have each : ∀ i, i < m → ∃ e : Wri, w.cells? 0 (a.add (i * 3)) 3 = some (WC e) ∧ e.key.size ≤ maxLen ∧ e.val.size ≤ maxLen := by
      intro i hi
      obtain ⟨cs', h1, h2⟩ := hx i hi
      rw [cellsW35] at h1
      obtain ⟨e, rfl, he⟩ := open_wri h2
      exact ⟨e, h1, he⟩
    obtain ⟨q, hq⟩ := Deep.choose_lt each
    obtain ⟨b, off, spot⟩ := a
    refine ⟨(List.range len0).map q, ⟨some ⟨b, off, spot⟩, m, by simp, by simpa using hl, hm, (fun h => by cases h), ?_⟩, fun e he => ?_⟩
    · by_cases h0 : len0 = 0
      · left; simp [h0]
      · right
        obtain ⟨_, _, hc0⟩ := World.cells?_some (hq 0 (by omega)).1
        have hc00 := hc0 0 (by omega)
        rw [Deep.add_add] at hc00
        have hc01 : w.cell? ((⟨b, off, spot⟩ : Addr).add 0) = some (.string (q 0).key) := hc00
        have hspot : spot = none := by
          have := World.cell?_spot hc01
          cases spot with
          | none => rfl
          | some sp => simp [Addr.add] at this
        subst hspot
        refine ⟨b, off, rfl, fun i hi => ?_⟩
        have hi' : i < len0 := by simpa using hi
        have hn : nthW ((List.range len0).map q) i = q i := by rw [nthW_eq hi]; simp
        rw [hn]
        obtain ⟨_, _, hc⟩ := World.cells?_some (hq i (by omega)).1
        have c0 := hc 0 (by omega)
        have c1 := hc 1 (by omega)
        have c2 := hc 2 (by omega)
        rw [Deep.add_add, Addr.add_lit] at c0 c1 c2
        exact ⟨by simpa [WC] using c0, by simpa [WC, Nat.add_assoc] using c1, by simpa [WC, Nat.add_assoc] using c2⟩
    · simp only [List.mem_map, List.mem_range] at he
      obtain ⟨i, hi, rfl⟩ := he
      exact (hq i (by omega)).2
end Go.Proofs.Ythkckgjcecommaa
