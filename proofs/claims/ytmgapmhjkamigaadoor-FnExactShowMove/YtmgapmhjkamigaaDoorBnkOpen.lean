/- A bank and a move that came in as arguments of a law: what is read of them. -/
import Derived.Test.YtmgapmhjkamigaaDoorBnkBase
import Derived.OpenShut
import Derived.SliceStrings
import Derived.Deep.Slices
import Derived.ChangeArms
namespace Go.Proofs.YtmgapmhjkamigaaDoor
open Go.RowKit Go.ChangeShapes Go.WideShapes
theorem cellsK2 : Tryd.prog.cellsOf 2 = 1 := by kernel_rfl
theorem cellsK24 : Tryd.prog.cellsOf 24 = 1 := by kernel_rfl
theorem cellsKM : Tryd.prog.cellsOf 50 = 4 := by kernel_rfl
theorem open_rowK {H : Type} {enc : TypeId × Value → H} {w : World} {fuel : Nat} {v : Value} {x : DataW H × List MemPlace} (h : DataW.trod enc Tryd.prog w 0 (fun _ => true) true fuel 24 [v] = some x) : ∃ ns, RdI w v ns := by
  rcases open_ints Tryd.underlying24 Tryd.underlying2 (by kernel_rfl) h with ⟨hcs, _⟩ | ⟨x, l, c, zs, hcs, _, hl, hm, hz, _, hcell, _⟩
  · simp at hcs
    subst hcs
    exact ⟨[], rdI_nil w⟩
  · simp at hcs
    subst hcs
    have hzl : zs.length = c := by simpa using hz
    have htl : (zs.take l).length = l := by rw [List.length_take]; omega
    refine ⟨zs.take l, some x, c, by rw [htl], by rw [htl]; exact hl, hm, (fun e => by cases e), ?_⟩
    by_cases h0 : l = 0
    · left; subst h0; simp
    · right
      obtain ⟨b, off, spot⟩ := x
      have hc := hcell 0 (by omega)
      have hspot : spot = none := by simpa [Addr.add] using World.cell?_spot hc
      subst hspot
      refine ⟨b, off, rfl, fun i hi => ?_⟩
      have hi' : i < l := by rw [htl] at hi; exact hi
      have h := hcell i (by omega)
      have hg : zs.getD i 0 = zs[i]'(by omega) := by simp [List.getD, List.getElem?_eq_getElem (show i < zs.length by omega)]
      rw [Addr.add_lit] at h
      rw [h, hg, List.getElem_take]
set_option maxRecDepth 100000 in
theorem open_move {H : Type} {enc : TypeId × Value → H} {w : World} {base : Nat} {spare : Nat → Bool} {held : Bool} {fuel : Nat} {cs : List Value} {x : DataW H × List MemPlace} (h : DataW.trod enc Tryd.prog w base spare held fuel 50 cs = some x) :
    ∃ m : Mov, cs = [.int .i64 m.fr, .int .i64 m.to', .int .i64 m.sum, .int .i64 m.cou] := by
  obtain ⟨xs, n, _, _, hl, hxl, hf⟩ := DataW.trod_struct Tryd.underlying50 h
  rw [cellsKM] at hl
  match xs, hxl, cs, hl with
  | [y0, y1, y2, y3], _, [v0, v1, v2, v3], _ =>
    have g0 := hf 0 _ rfl
    have g1 := hf 1 _ rfl
    have g2 := hf 2 _ rfl
    have g3 := hf 3 _ rfl
    simp [cellsK2] at g0 g1 g2 g3
    obtain ⟨n0, h0, _, _⟩ := DataW.trod_int Tryd.underlying2 g0
    obtain ⟨n1, h1, _, _⟩ := DataW.trod_int Tryd.underlying2 g1
    obtain ⟨n2, h2, _, _⟩ := DataW.trod_int Tryd.underlying2 g2
    obtain ⟨n3, h3, _, _⟩ := DataW.trod_int Tryd.underlying2 g3
    simp only [List.cons.injEq, and_true] at h0 h1 h2 h3
    subst h0 h1 h2 h3
    exact ⟨⟨n0, n1, n2, n3⟩, rfl⟩
end Go.Proofs.YtmgapmhjkamigaaDoor
