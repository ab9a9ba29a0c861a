/- Entries that came in as an argument of a law: what is read of them. -/
import Derived.Test.YthaobdknpgnapaaEntBase
import Derived.OpenShut
import Derived.Deep.Slices
import Derived.ChangeArms
namespace Go.Proofs.Ythaobdknpgnapaa
open Go.RowKit Go.ChangeShapes Go.WideShapes
/-- An entry such as a program can hold. -/
def Held (e : Ent) : Prop := e.key.size ≤ maxLen ∧ e.val.size ≤ maxLen ∧ -9223372036854775808 ≤ e.seq ∧ e.seq ≤ 9223372036854775807
theorem cells9 : Try.prog.cellsOf 9 = 1 := by kernel_rfl
theorem cells2 : Try.prog.cellsOf 2 = 1 := by kernel_rfl
theorem cells4 : Try.prog.cellsOf 4 = 1 := by kernel_rfl
theorem cells97 : Try.prog.cellsOf 97 = 4 := by kernel_rfl
set_option maxRecDepth 100000 in
theorem open_ent {H : Type} {enc : TypeId × Value → H} {w : World} {base : Nat} {spare : Nat → Bool} {held : Bool} {fuel : Nat} {cs : List Value} {x : DataW H × List MemPlace} (h : DataW.trod enc Try.prog w base spare held fuel 97 cs = some x) :
    ∃ e : Ent, cs = EC e ∧ Held e := by
  obtain ⟨xs, n, _, _, hl, hxl, hf⟩ := DataW.trod_struct Try.underlying97 h
  rw [cells97] at hl
  match xs, hxl, cs, hl with
  | [y0, y1, y2, y3], _, [v0, v1, v2, v3], _ =>
    have g0 := hf 0 _ rfl
    have g1 := hf 1 _ rfl
    have g2 := hf 2 _ rfl
    have g3 := hf 3 _ rfl
    simp [cells9, cells2, cells4] at g0 g1 g2 g3
    obtain ⟨s0, h0, _, z0⟩ := DataW.trod_string Try.underlying9 g0
    obtain ⟨s1, h1, _, z1⟩ := DataW.trod_string Try.underlying9 g1
    obtain ⟨n2, h2, _, z2⟩ := DataW.trod_int Try.underlying2 g2
    obtain ⟨b3, h3, _⟩ := DataW.trod_bool Try.underlying4 g3
    simp only [List.cons.injEq, and_true] at h0 h1 h2 h3
    subst h0 h1 h2 h3
    exact ⟨⟨s0, s1, n2, b3⟩, rfl, z0, z1, bounds_i64 z2⟩
/-- A slice of entries that came in. -/
theorem open_ents {H : Type} {enc : TypeId × Value → H} {w : World} {held : Bool} {v : Value} {d : DataW H} {ps : List MemPlace} (h : DataW.Trod enc Try.prog w 0 (fun _ => true) held 55 v d ps) (hv : ∃ a len cap, v = .slice a len cap) :
    ∃ es, RdE w v es ∧ ∀ e ∈ es, Held e := by
  obtain ⟨fuel, hf⟩ := h
  obtain ⟨a0, len0, cap0, rfl⟩ := hv
  rcases Deep.open_slice Try.underlying55 hf with ⟨hcs, _⟩ | ⟨a, len, cap, m, n, D, Pl, hcs, _, hl, hm, hmm, _, hx⟩
  · simp [Value.cells] at hcs
    obtain ⟨rfl, rfl, rfl⟩ := hcs
    exact ⟨[], rdE_nil w, fun e he => by cases he⟩
  · simp [Value.cells] at hcs
    obtain ⟨rfl, rfl, rfl⟩ := hcs
    simp only [if_true] at hmm
    subst hmm
    have each : ∀ i, i < m → ∃ e : Ent, w.cells? 0 (a.add (i * 4)) 4 = some (EC e) ∧ Held e := by
      intro i hi
      obtain ⟨cs', h1, h2⟩ := hx i hi
      rw [cells97] at h1
      obtain ⟨e, rfl, he⟩ := open_ent h2
      exact ⟨e, h1, he⟩
    obtain ⟨q, hq⟩ := Deep.choose_lt each
    obtain ⟨b, off, spot⟩ := a
    refine ⟨(List.range len0).map q, ⟨some ⟨b, off, spot⟩, m, by simp, by simpa using hl, hm, (fun h => by cases h), ?_⟩, fun e he => ?_⟩
    · by_cases h0 : len0 = 0
      · left; simp [h0]
      · right
        obtain ⟨_, _, hc0⟩ := World.cells?_some (hq 0 (by omega)).1
        have hc00 := hc0 0 (by omega)
        rw [Deep.add_add] at hc00
        have hc01 : w.cell? ((⟨b, off, spot⟩ : Addr).add 0) = some (.string (q 0).key) := hc00
        have hspot : spot = none := by
          have := World.cell?_spot hc01
          cases spot with
          | none => rfl
          | some sp => simp [Addr.add] at this
        subst hspot
        refine ⟨b, off, rfl, fun i hi => ?_⟩
        have hi' : i < len0 := by simpa using hi
        have hn : nth ((List.range len0).map q) i = q i := by rw [nth_eq hi]; simp
        rw [hn]
        obtain ⟨_, _, hc⟩ := World.cells?_some (hq i (by omega)).1
        have c0 := hc 0 (by omega)
        have c1 := hc 1 (by omega)
        have c2 := hc 2 (by omega)
        have c3 := hc 3 (by omega)
        rw [Deep.add_add, Addr.add_lit] at c0 c1 c2 c3
        exact ⟨by simpa [EC] using c0, by simpa [EC, Nat.add_assoc] using c1, by simpa [EC, Nat.add_assoc] using c2, by simpa [EC, Nat.add_assoc] using c3⟩
    · simp only [List.mem_map, List.mem_range] at he
      obtain ⟨i, hi, rfl⟩ := he
      exact (hq i (by omega)).2
end Go.Proofs.Ythaobdknpgnapaa
