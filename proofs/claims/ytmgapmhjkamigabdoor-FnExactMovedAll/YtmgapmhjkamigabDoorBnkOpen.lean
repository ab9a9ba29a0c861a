/- A bank and a move that came in as arguments of a law: what is read of them. -/
import Derived.Test.YtmgapmhjkamigabDoorBnkBase
import Derived.OpenShut
import Derived.SliceStrings
import Derived.Deep.Slices
import Derived.ChangeArms
namespace Go.Proofs.YtmgapmhjkamigabDoor
open Go.RowKit Go.ChangeShapes Go.WideShapes
theorem cellsK2 : Tryd.prog.cellsOf 2 = 1 := by kernel_rfl
theorem cellsK28 : Tryd.prog.cellsOf 28 = 1 := by kernel_rfl
theorem cellsKB : Tryd.prog.cellsOf 30 = 2 := by kernel_rfl
theorem open_rowK {H : Type} {enc : TypeId × Value → H} {w : World} {fuel : Nat} {v : Value} {x : DataW H × List MemPlace} (h : DataW.trod enc Tryd.prog w 0 (fun _ => true) true fuel 28 [v] = some x) : ∃ ns, RdI w v ns := by
  rcases open_ints Tryd.underlying28 Tryd.underlying2 (by kernel_rfl) h with ⟨hcs, _⟩ | ⟨x, l, c, zs, hcs, _, hl, hm, hz, _, hcell, _⟩
  · simp at hcs
    subst hcs
    exact ⟨[], rdI_nil w⟩
  · simp at hcs
    subst hcs
    have hzl : zs.length = c := by simpa using hz
    have htl : (zs.take l).length = l := by rw [List.length_take]; omega
    refine ⟨zs.take l, some x, c, by rw [htl], by rw [htl]; exact hl, hm, (fun e => by cases e), ?_⟩
    by_cases h0 : l = 0
    · left; subst h0; simp
    · right
      obtain ⟨b, off, spot⟩ := x
      have hc := hcell 0 (by omega)
      have hspot : spot = none := by simpa [Addr.add] using World.cell?_spot hc
      subst hspot
      refine ⟨b, off, rfl, fun i hi => ?_⟩
      have hi' : i < l := by rw [htl] at hi; exact hi
      have h := hcell i (by omega)
      have hg : zs.getD i 0 = zs[i]'(by omega) := by simp [List.getD, List.getElem?_eq_getElem (show i < zs.length by omega)]
      rw [Addr.add_lit] at h
      rw [h, hg, List.getElem_take]
set_option maxRecDepth 100000 in
theorem open_bank {H : Type} {enc : TypeId × Value → H} {w : World} {fuel : Nat} {cs : List Value} {x : DataW H × List MemPlace} (h : DataW.trod enc Tryd.prog w 0 (fun _ => true) true fuel 30 cs = some x) :
    ∃ X : BkX, cs = [X.vm, X.vc] ∧ RdBk w X := by
  obtain ⟨xs, n, _, _, hl, hxl, hf⟩ := DataW.trod_struct Tryd.underlying30 h
  rw [cellsKB] at hl
  match xs, hxl, cs, hl with
  | [y0, y1], _, [v0, v1], _ =>
    have g0 := hf 0 _ rfl
    have g1 := hf 1 _ rfl
    simp [cellsK28] at g0 g1
    obtain ⟨ms, hm⟩ := open_rowK g0
    obtain ⟨ks, hk⟩ := open_rowK g1
    exact ⟨⟨v0, v1, ms, ks⟩, rfl, hm, hk⟩
end Go.Proofs.YtmgapmhjkamigabDoor
