/- A device that came in as an argument of a law: what is read of it. -/
import Derived.Test.YthchhkiijehjbaaGreatDoorDevCp
import Derived.OpenShut
import Derived.SliceStrings
import Derived.Deep.Slices
import Derived.ChangeArms
namespace Go.Proofs.YthchhkiijehjbaaGreatDoor
open Go.RowKit Go.ChangeShapes Go.WideShapes
theorem cellsD9 : Tryz.prog.cellsOf 9 = 1 := by kernel_rfl
theorem cellsD2 : Tryz.prog.cellsOf 2 = 1 := by kernel_rfl
theorem cellsD22 : Tryz.prog.cellsOf 22 = 1 := by kernel_rfl
theorem cellsD23 : Tryz.prog.cellsOf 23 = 1 := by kernel_rfl
theorem cellsD64 : Tryz.prog.cellsOf 64 = 2 := by kernel_rfl
theorem cellsD25 : Tryz.prog.cellsOf 25 = 2 := by kernel_rfl
set_option maxRecDepth 100000 in
theorem open_pat {H : Type} {enc : TypeId × Value → H} {w : World} {base : Nat} {spare : Nat → Bool} {held : Bool} {fuel : Nat} {cs : List Value} {x : DataW H × List MemPlace} (h : DataW.trod enc Tryz.prog w base spare held fuel 64 cs = some x) :
    ∃ e : Pat, cs = PtC e ∧ e.text.size ≤ maxLen := by
  obtain ⟨xs, n, _, _, hl, hxl, hf⟩ := DataW.trod_struct Tryz.underlying64 h
  rw [cellsD64] at hl
  match xs, hxl, cs, hl with
  | [y0, y1], _, [v0, v1], _ =>
    have g0 := hf 0 _ rfl
    have g1 := hf 1 _ rfl
    simp [cellsD9, cellsD2] at g0 g1
    obtain ⟨n0, h0, _, _⟩ := DataW.trod_int Tryz.underlying2 g0
    obtain ⟨s1, h1, _, z1⟩ := DataW.trod_string Tryz.underlying9 g1
    simp only [List.cons.injEq, and_true] at h0 h1
    subst h0 h1
    exact ⟨⟨n0, s1⟩, rfl, z1⟩
set_option maxRecDepth 100000 in
theorem open_pats {H : Type} {enc : TypeId × Value → H} {w : World} {held : Bool} {v : Value} {d : DataW H} {ps : List MemPlace} (h : DataW.Trod enc Tryz.prog w 0 (fun _ => true) held 23 v d ps) (hv : ∃ a len cap, v = .slice a len cap) :
    ∃ es, RdPt w v es ∧ ∀ e ∈ es, e.text.size ≤ maxLen := by
  obtain ⟨fuel, hf⟩ := h
  obtain ⟨a0, len0, cap0, rfl⟩ := hv
  rcases Deep.open_slice Tryz.underlying23 hf with ⟨hcs, _⟩ | ⟨a, len, cap, m, n, D, Pl, hcs, _, hl, hm, hmm, _, hx⟩
  · simp [Value.cells] at hcs
    obtain ⟨rfl, rfl, rfl⟩ := hcs
    exact ⟨[], rdPt_nil w, fun e he => by cases he⟩
  · simp [Value.cells] at hcs
    obtain ⟨rfl, rfl, rfl⟩ := hcs
    simp only [if_true] at hmm
    subst hmm
    have each : ∀ i, i < m → ∃ e : Pat, w.cells? 0 (a.add (i * 2)) 2 = some (PtC e) ∧ e.text.size ≤ maxLen := by
      intro i hi
      obtain ⟨cs', h1, h2⟩ := hx i hi
      rw [cellsD64] at h1
      obtain ⟨e, rfl, he⟩ := open_pat h2
      exact ⟨e, h1, he⟩
    obtain ⟨q, hq⟩ := Deep.choose_lt each
    obtain ⟨b, off, spot⟩ := a
    refine ⟨(List.range len0).map q, ⟨some ⟨b, off, spot⟩, m, by simp, by simpa using hl, hm, (fun h => by cases h), ?_⟩, fun e he => ?_⟩
    · by_cases h0 : len0 = 0
      · left; simp [h0]
      · right
        obtain ⟨_, _, hc0⟩ := World.cells?_some (hq 0 (by omega)).1
        have hc00 := hc0 0 (by omega)
        rw [Deep.add_add] at hc00
        have hc01 : w.cell? ((⟨b, off, spot⟩ : Addr).add 0) = some (.int .i64 (q 0).pos) := hc00
        have hspot : spot = none := by
          have := World.cell?_spot hc01
          cases spot with
          | none => rfl
          | some sp => simp [Addr.add] at this
        subst hspot
        refine ⟨b, off, rfl, fun i hi => ?_⟩
        have hi' : i < len0 := by simpa using hi
        have hn : nthP ((List.range len0).map q) i = q i := by rw [nthP_eq hi]; simp
        rw [hn]
        obtain ⟨_, _, hc⟩ := World.cells?_some (hq i (by omega)).1
        have c0 := hc 0 (by omega)
        have c1 := hc 1 (by omega)
        rw [Deep.add_add, Addr.add_lit] at c0 c1
        exact ⟨by simpa [PtC] using c0, by simpa [PtC, Nat.add_assoc] using c1⟩
    · simp only [List.mem_map, List.mem_range] at he
      obtain ⟨i, hi, rfl⟩ := he
      exact (hq i (by omega)).2
set_option maxRecDepth 100000 in
theorem open_device {H : Type} {enc : TypeId × Value → H} {w : World} {fuel : Nat} {cs : List Value} {x : DataW H × List MemPlace} (h : DataW.trod enc Tryz.prog w 0 (fun _ => true) true fuel 25 cs = some x) :
    ∃ X : DvX, cs = [X.vs, X.vl] ∧ RdDv w X ∧ HeldDv X := by
  obtain ⟨xs, n, _, _, hl, hxl, hf⟩ := DataW.trod_struct Tryz.underlying25 h
  rw [cellsD25] at hl
  match xs, hxl, cs, hl with
  | [y0, y1], _, [v0, v1], _ =>
    have g0 := hf 0 _ rfl
    have g1 := hf 1 _ rfl
    simp [cellsD22, cellsD23] at g0 g1
    obtain ⟨ss, hk, hn, hz⟩ : ∃ ss, RdS w v0 ss ∧ NilOk v0 ∧ ∀ s ∈ ss, s.size ≤ maxLen := by
      rcases open_strings Tryz.underlying22 Tryz.underlying9 (by kernel_rfl) g0 with ⟨hcs, _⟩ | ⟨x, l, c, zs, hcs, _, hl, hm, hz, _, hcell, hwz⟩
      · simp at hcs
        subst hcs
        exact ⟨[], rdS_nil w, (fun n c e => by cases e; rfl), fun s hs => by cases hs⟩
      · simp at hcs
        subst hcs
        obtain ⟨ss, h1, h2⟩ := rdS_of hl hm (by simpa using hz) hcell hwz
        exact ⟨ss, h1, (fun n c e => by cases e), h2⟩
    have sl1 : ∃ a len cap, v1 = .slice a len cap := by
      rcases DataW.trod_slice Tryz.underlying23 g1 with ⟨e, _⟩ | ⟨a', len', cap', _, _, _, _, e, _⟩
      · simp at e; exact ⟨none, 0, 0, e⟩
      · simp at e; exact ⟨some a', len', cap', e⟩
    obtain ⟨ps, hp, hq⟩ : ∃ ps, RdPt w v1 ps ∧ ∀ e ∈ ps, e.text.size ≤ maxLen := by
      obtain ⟨a, len, cap, rfl⟩ := sl1
      exact open_pats (H := H) (enc := enc) (held := true) (v := .slice a len cap) ⟨n, g1⟩ ⟨a, len, cap, rfl⟩
    exact ⟨⟨v0, v1, ss, ps⟩, rfl, ⟨hk, hn, hp⟩, hz, hq⟩
end Go.Proofs.YthchhkiijehjbaaGreatDoor
