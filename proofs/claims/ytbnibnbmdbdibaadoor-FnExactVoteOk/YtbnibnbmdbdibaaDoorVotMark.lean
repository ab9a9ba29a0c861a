/- The contracts of the law's marking of Votes, and of finding the marks again; Votes that came in as an argument. -/
-- UNF Gen
import Derived.Test.YtbnibnbmdbdibaaDoorVotCp
import Derived.OpenShut
import Derived.Deep.Slices
import Derived.ChangeArms
namespace Go.Proofs.YtbnibnbmdbdibaaDoor
open Go.RowKit Go.ChangeShapes Go.WideShapes
/-- The law's mark number k, as a Vote. -/
def vomk (k : Nat) : Vot := ⟨(k : Int), (k : Int) + 1, (k : Int) + 2, (k : Int) + 3⟩
def vomarks (k n : Nat) : List Vot := (List.range n).map fun i => vomk (k + 4 * i)
theorem vomarks_length (k n : Nat) : (vomarks k n).length = n := by simp [vomarks]
theorem vomarks_succ (k n : Nat) : vomarks k (n + 1) = vomarks k n ++ [vomk (k + 4 * n)] := by simp [vomarks, List.range_succ]
theorem vomarks_nth (k n i : Nat) (h : i < n) : nthVo (vomarks k n) i = vomk (k + 4 * i) := by
  rw [nthVo_eq (by rw [vomarks_length]; exact h)]; simp [vomarks]
theorem vomark_step (k i : Nat) (bs : List Vot) (h : i < bs.length) : (vomarks k i ++ bs.drop i).set i (vomk (k + 4 * i)) = vomarks k (i + 1) ++ bs.drop (i + 1) := by
  rw [vomarks_succ, List.set_append_right _ _ (by rw [vomarks_length]; omega), vomarks_length, Nat.sub_self, List.drop_eq_getElem_cons h, List.set_cons_zero]
  simp
theorem vogrown_set {w w1 : World} {g : Nat} {u : Value} {j : Nat} (hg : w.grownBy w1 (some g)) : w.grownBy (w1.setCell ⟨g, j, none⟩ u) (some g) :=
  ⟨hg.os, hg.tape, hg.output, by simpa using hg.size, fun k hk hn => (heap_setCell_other w1 ⟨g, j, none⟩ k u (fun e => hn (by simp [e]))).trans (hg.block k hk hn)⟩
theorem vogrown_one (a : World) (row : Option Nat) : a.grownBy a row := ⟨rfl, rfl, rfl, Nat.le_refl _, fun _ _ _ => rfl⟩
theorem volit {n : Int} (h : (Lit.int .i64 n).wf = true) : -9223372036854775808 ≤ n ∧ n ≤ 9223372036854775807 := bounds_i64 h
theorem cellsVo2 : Tryd.prog.cellsOf 2 = 1 := by kernel_rfl
theorem cells60 : Tryd.prog.cellsOf 60 = 4 := by kernel_rfl
set_option maxRecDepth 100000 in
theorem open_vote {H : Type} {enc : TypeId × Value → H} {w : World} {base : Nat} {spare : Nat → Bool} {held : Bool} {fuel : Nat} {cs : List Value} {x : DataW H × List MemPlace} (h : DataW.trod enc Tryd.prog w base spare held fuel 60 cs = some x) :
    ∃ e : Vot, cs = VoC e ∧ FitVo e := by
  obtain ⟨xs, n, _, _, hl, hxl, hf⟩ := DataW.trod_struct Tryd.underlying60 h
  rw [cells60] at hl
  match xs, hxl, cs, hl with
  | [y0, y1, y2, y3], _, [v0, v1, v2, v3], _ =>
    have g0 := hf 0 _ rfl
    have g1 := hf 1 _ rfl
    have g2 := hf 2 _ rfl
    have g3 := hf 3 _ rfl
    simp [cellsVo2] at g0 g1 g2 g3
    obtain ⟨n0, h0, _, z0⟩ := DataW.trod_int Tryd.underlying2 g0
    obtain ⟨n1, h1, _, z1⟩ := DataW.trod_int Tryd.underlying2 g1
    obtain ⟨n2, h2, _, z2⟩ := DataW.trod_int Tryd.underlying2 g2
    obtain ⟨n3, h3, _, z3⟩ := DataW.trod_int Tryd.underlying2 g3
    simp only [List.cons.injEq, and_true] at h0 h1 h2 h3
    subst h0 h1 h2 h3
    exact ⟨⟨n0, n1, n2, n3⟩, rfl, volit z0, volit z1, volit z2, volit z3⟩
end Go.Proofs.YtbnibnbmdbdibaaDoor
