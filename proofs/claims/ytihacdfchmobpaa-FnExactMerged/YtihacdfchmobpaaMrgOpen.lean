/- Slices of slices of entries that came in as an argument of a law: what is read of them. -/
import Derived.Test.YtihacdfchmobpaaMrgLL2
import Derived.Test.YtihacdfchmobpaaEntOpen
namespace Go.Proofs.Ytihacdfchmobpaa
open Go.RowKit Go.ChangeShapes Go.WideShapes
theorem cellsL47 : Try.prog.cellsOf 47 = 1 := by kernel_rfl
set_option maxRecDepth 100000 in
theorem open_lists {H : Type} {enc : TypeId × Value → H} {w : World} {held : Bool} {v : Value} {d : DataW H} {pl : List MemPlace} (h : DataW.Trod enc Try.prog w 0 (fun _ => true) held 40 v d pl) (hv : ∃ a len cap, v = .slice a len cap) :
    ∃ ps, Lists w v ps ∧ ∀ p ∈ ps, ∀ e ∈ p.2, Held e := by
  obtain ⟨fuel, hf⟩ := h
  obtain ⟨a0, len0, cap0, rfl⟩ := hv
  rcases Deep.open_slice Try.underlying40 hf with ⟨hcs, _⟩ | ⟨a, len, cap, m, n, D, Pl, hcs, _, hl, hm, hmm, _, hx⟩
  · simp [Value.cells] at hcs
    obtain ⟨rfl, rfl, rfl⟩ := hcs
    exact ⟨[], ⟨none, 0, rfl, Nat.le_refl _, Nat.zero_le _, .inl rfl⟩, fun p hp => by cases hp⟩
  · simp [Value.cells] at hcs
    obtain ⟨rfl, rfl, rfl⟩ := hcs
    simp only [if_true] at hmm
    subst hmm
    have each : ∀ i, i < m → ∃ p : Value × List Ent, w.cells? 0 (a.add (i * 1)) 1 = some [p.1] ∧ RdE w p.1 p.2 ∧ ∀ e ∈ p.2, Held e := by
      intro i hi
      obtain ⟨cs', h1, h2⟩ := hx i hi
      rw [cellsL47] at h1
      obtain ⟨v', hv', hs'⟩ : ∃ v', cs' = [v'] ∧ ∃ a len cap, v' = .slice a len cap := by
        rcases DataW.trod_slice Try.underlying47 h2 with ⟨e, _⟩ | ⟨a', len', cap', _, _, _, _, e, _⟩
        · exact ⟨_, e, none, 0, 0, rfl⟩
        · exact ⟨_, e, some a', len', cap', rfl⟩
      subst hv'
      obtain ⟨a', len', cap', rfl⟩ := hs'
      obtain ⟨es, hr, hh⟩ := open_ents (H := H) (enc := enc) (held := held) (v := .slice a' len' cap') ⟨n, h2⟩ ⟨a', len', cap', rfl⟩
      exact ⟨(_, es), h1, hr, hh⟩
    obtain ⟨q, hq⟩ := Deep.choose_lt each
    obtain ⟨b, off, spot⟩ := a
    refine ⟨(List.range len0).map q, ⟨some ⟨b, off, spot⟩, m, by simp, by simpa using hl, hm, ?_⟩, fun p hp => ?_⟩
    · by_cases h0 : len0 = 0
      · left; simp [h0]
      · right
        obtain ⟨_, _, hc0⟩ := World.cells?_some (hq 0 (by omega)).1
        have hc00 := hc0 0 (by omega)
        rw [Deep.add_add] at hc00
        have hc01 : w.cell? ((⟨b, off, spot⟩ : Addr).add 0) = some (q 0).1 := hc00
        have hspot : spot = none := by
          have := World.cell?_spot hc01
          cases spot with
          | none => rfl
          | some sp => simp [Addr.add] at this
        subst hspot
        refine ⟨b, off, rfl, fun i hi => ?_⟩
        have hi' : i < len0 := by simpa using hi
        obtain ⟨_, _, hc⟩ := World.cells?_some (hq i (by omega)).1
        have c0 := hc 0 (by omega)
        rw [Deep.add_add, Addr.add_lit] at c0
        simp only [List.getElem_map, List.getElem_range]
        exact ⟨by simpa using c0, (hq i (by omega)).2.1⟩
    · simp only [List.mem_map, List.mem_range] at hp
      obtain ⟨i, hi, rfl⟩ := hp
      exact (hq i (by omega)).2.2
end Go.Proofs.Ytihacdfchmobpaa
