/- A Replica that came in as an argument. -/
import Derived.Test.YtahihlnhimmgdaaGreatDoorRepCp
import Derived.Test.YtahihlnhimmgdaaGreatDoorG15
namespace Go.Proofs.YtahihlnhimmgdaaGreatDoor
open Go.RowKit Go.ChangeShapes Go.WideShapes
theorem cellsRp64 : Tryz.prog.cellsOf 64 = 1 := by kernel_rfl
theorem cellsRp65 : Tryz.prog.cellsOf 65 = 1 := by kernel_rfl
theorem cellsRp66 : Tryz.prog.cellsOf 66 = 1 := by kernel_rfl
theorem cellsRP : Tryz.prog.cellsOf 68 = 14 := by kernel_rfl
theorem open_blocks {H : Type} {enc : TypeId × Value → H} {w : World} {v : Value} {d : DataW H} {pl : List MemPlace} (h : DataW.Trod enc Tryz.prog w 0 (fun _ => true) true 64 v d pl) (hv : ∃ a len cap, v = .slice a len cap) :
    ∃ ts, RdBs w v ts ∧ InBs w ts ∧ ∀ t ∈ ts, FitBl t.b := by
  obtain ⟨fuel, hf⟩ := h
  obtain ⟨a0, len0, cap0, rfl⟩ := hv
  rcases Deep.open_slice Tryz.underlying64 hf with ⟨hcs, _⟩ | ⟨a, len, cap, m, n, D, Pl, hcs, _, hl, hm, hmm, _, hx⟩
  · simp [Value.cells] at hcs
    obtain ⟨rfl, rfl, rfl⟩ := hcs
    exact ⟨[], rdBs_nil w, (fun t ht => by cases ht), fun t ht => by cases ht⟩
  · simp [Value.cells] at hcs
    obtain ⟨rfl, rfl, rfl⟩ := hcs
    simp only [if_true] at hmm
    subst hmm
    have each : ∀ i, i < m → ∃ t : BlX, w.cells? 0 (a.add (i * 8)) 8 = some (BsC t) ∧ RdBl w t ∧ FitBl t.b := by
      intro i hi
      obtain ⟨cs', h1, h2⟩ := hx i hi
      rw [cellsBP] at h1
      obtain ⟨T, hcs, hr, hf⟩ := open_block h2
      subst hcs
      exact ⟨T, h1, hr, hf⟩
    obtain ⟨q, hq⟩ := Deep.choose_lt each
    obtain ⟨b, off, spot⟩ := a
    refine ⟨(List.range len0).map q, ⟨some ⟨b, off, spot⟩, m, by simp, by simpa using hl, hm, (fun h => by cases h), ?_⟩, fun t ht => ?_, fun t ht => ?_⟩
    · by_cases h0 : len0 = 0
      · left; simp [h0]
      · right
        obtain ⟨_, _, hc0⟩ := World.cells?_some (hq 0 (by omega)).1
        have hc00 := hc0 0 (by omega)
        rw [Deep.add_add] at hc00
        have hspot : spot = none := by
          have := World.cell?_spot hc00
          cases spot with
          | none => rfl
          | some sp => simp [Addr.add] at this
        subst hspot
        refine ⟨b, off, rfl, fun i hi => ?_⟩
        have hi' : i < len0 := by simpa using hi
        obtain ⟨_, _, hc⟩ := World.cells?_some (hq i (by omega)).1
        have k0 := hc 0 (by omega)
        have k1 := hc 1 (by omega)
        have k2 := hc 2 (by omega)
        have k3 := hc 3 (by omega)
        have k4 := hc 4 (by omega)
        have k5 := hc 5 (by omega)
        have k6 := hc 6 (by omega)
        have k7 := hc 7 (by omega)
        rw [Deep.add_add, Addr.add_lit] at k0 k1 k2 k3 k4 k5 k6 k7
        rw [nthBs_eq (by simpa using hi')]
        simp only [List.getElem_map, List.getElem_range]
        exact ⟨by simpa [BsC] using k0, by simpa [BsC, Nat.add_assoc] using k1, by simpa [BsC, Nat.add_assoc] using k2, by simpa [BsC, Nat.add_assoc] using k3, by simpa [BsC, Nat.add_assoc] using k4, by simpa [BsC, Nat.add_assoc] using k5, by simpa [BsC, Nat.add_assoc] using k6, by simpa [BsC, Nat.add_assoc] using k7⟩
    · simp only [List.mem_map, List.mem_range] at ht
      obtain ⟨i, hi, rfl⟩ := ht
      exact (hq i (by omega)).2.1
    · simp only [List.mem_map, List.mem_range] at ht
      obtain ⟨i, hi, rfl⟩ := ht
      exact (hq i (by omega)).2.2
set_option maxRecDepth 100000 in
theorem open_replica {H : Type} {enc : TypeId × Value → H} {w : World} {fuel : Nat} {cs : List Value} {x : DataW H × List MemPlace} (h : DataW.trod enc Tryz.prog w 0 (fun _ => true) true fuel 68 cs = some x) :
    ∃ X : RepX, cs = X.cs ∧ RdRep w X ∧ FitRep X.rep := by
  obtain ⟨xs, n, _, _, hl, hxl, hf⟩ := DataW.trod_struct Tryz.underlying68 h
  rw [cellsRP] at hl
  match xs, hxl, cs, hl with
  | [y0, y1, y2, y3, y4, y5, y6, y7, y8, y9, y10], _, [v0, v1, v2, v3, v4, v5, v6, v7, v8, v9, v10, v11, v12, v13], _ =>
    have g0 := hf 0 _ rfl
    have g1 := hf 1 _ rfl
    have g2 := hf 2 _ rfl
    have g3 := hf 3 _ rfl
    have g4 := hf 4 _ rfl
    have g5 := hf 5 _ rfl
    have g6 := hf 6 _ rfl
    have g7 := hf 7 _ rfl
    have g8 := hf 8 _ rfl
    have g9 := hf 9 _ rfl
    have g10 := hf 10 _ rfl
    simp [cellsP2, cellsP24, cellsPP, cellsRp64, cellsRp65, cellsRp66] at g0 g1 g2 g3 g4 g5 g6 g7 g8 g9 g10
    obtain ⟨n0, h0, _, z0⟩ := DataW.trod_int Tryz.underlying2 g0
    obtain ⟨n1, h1, _, z1⟩ := DataW.trod_int Tryz.underlying2 g1
    obtain ⟨n2, h2, _, z2⟩ := DataW.trod_int Tryz.underlying2 g2
    obtain ⟨n3, h3, _, z3⟩ := DataW.trod_int Tryz.underlying2 g3
    obtain ⟨n4, h4, _, z4⟩ := DataW.trod_int Tryz.underlying2 g4
    obtain ⟨n5, h5, _, z5⟩ := DataW.trod_int Tryz.underlying2 g5
    obtain ⟨P, hP, rP, fP⟩ := open_proof g6
    have sl7 : ∃ a len cap, v10 = .slice a len cap := by
      rcases DataW.trod_slice Tryz.underlying64 g7 with ⟨e, _⟩ | ⟨a', len', cap', _, _, _, _, e, _⟩
      · simp at e; exact ⟨none, 0, 0, e⟩
      · simp at e; exact ⟨some a', len', cap', e⟩
    have sl8 : ∃ a len cap, v11 = .slice a len cap := by
      rcases DataW.trod_slice Tryz.underlying65 g8 with ⟨e, _⟩ | ⟨a', len', cap', _, _, _, _, e, _⟩
      · simp at e; exact ⟨none, 0, 0, e⟩
      · simp at e; exact ⟨some a', len', cap', e⟩
    have sl9 : ∃ a len cap, v12 = .slice a len cap := by
      rcases DataW.trod_slice Tryz.underlying66 g9 with ⟨e, _⟩ | ⟨a', len', cap', _, _, _, _, e, _⟩
      · simp at e; exact ⟨none, 0, 0, e⟩
      · simp at e; exact ⟨some a', len', cap', e⟩
    obtain ⟨ts, hb0, hb1, hb2⟩ : ∃ ts, RdBs w v10 ts ∧ InBs w ts ∧ ∀ t ∈ ts, FitBl t.b := by
      obtain ⟨a, len, cap, rfl⟩ := sl7
      exact open_blocks (H := H) (enc := enc) (v := .slice a len cap) ⟨n, g7⟩ ⟨a, len, cap, rfl⟩
    obtain ⟨vs, hv0, hv1⟩ : ∃ es, RdVo w v11 es ∧ ∀ e ∈ es, FitVo e := by
      obtain ⟨a, len, cap, rfl⟩ := sl8
      exact open_votes (H := H) (enc := enc) (held := true) (v := .slice a len cap) ⟨n, g8⟩ ⟨a, len, cap, rfl⟩
    obtain ⟨ns, hn0, hn1⟩ : ∃ es, RdNw w v12 es ∧ ∀ e ∈ es, FitNw e := by
      obtain ⟨a, len, cap, rfl⟩ := sl9
      exact open_news (H := H) (enc := enc) (held := true) (v := .slice a len cap) ⟨n, g9⟩ ⟨a, len, cap, rfl⟩
    obtain ⟨ds, hd, kd⟩ := open_rowP g10
    simp only [PrX.cs, List.cons.injEq, and_true] at h0 h1 h2 h3 h4 h5 hP
    obtain ⟨hp0, hp1, hp2, hp3⟩ := hP
    subst h0 h1 h2 h3 h4 h5 hp0 hp1 hp2 hp3
    refine ⟨⟨n0, n1, n2, n3, n4, n5, P, v10, ts, v11, vs, v12, ns, v13, ds⟩, rfl, ⟨rP, hb0, hb1, hv0, hn0, hd⟩, ⟨bounds_i64 z0, bounds_i64 z1, bounds_i64 z2, bounds_i64 z3, bounds_i64 z4, bounds_i64 z5, fP, ?_, hv1, hn1, kd⟩⟩
    intro b hb
    simp only [RepX.rep, List.mem_map] at hb
    obtain ⟨t, ht, rfl⟩ := hb
    exact hb2 t ht
end Go.Proofs.YtahihlnhimmgdaaGreatDoor
