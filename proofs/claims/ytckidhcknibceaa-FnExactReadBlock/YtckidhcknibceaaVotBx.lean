/- Boxes of votes. -/
-- UNF Gen
import Derived.Test.YtckidhcknibceaaGen
import Derived.Test.YtckidhcknibceaaVotBase
namespace Go.Proofs.Ytckidhcknibceaa
open Go.RowKit
def votZ : Vot := ⟨0, 0, 0, 0⟩
def VC (x : Vot) : Array Value := #[.int .i64 x.vw, .int .i64 x.nm, .int .i64 x.sv, .int .i64 x.tg]
/-- The box of a vote. -/
def BoxV (W : World) (b : Nat) (x : Vot) : Prop := W.heap[b]? = some (.cells (VC x) 72 (0, 0))
theorem boxV_new (w : World) (x : Vot) : BoxV (w.alloc (.cells (VC x) 72)) w.heap.size x := by
  unfold BoxV
  rw [show (w.alloc (.cells (VC x) 72)).heap = w.heap.push (.cells (VC x) 72) from rfl]
  simp
theorem BoxV.lt {W : World} {b : Nat} {x : Vot} (h : BoxV W b x) : b < W.heap.size := (Array.getElem?_eq_some_iff.1 h).1
theorem BoxV.below {W W' : World} {b : Nat} {x : Vot} (h : BoxV W b x) (hb : Below W.heap.size W W') : BoxV W' b x := (hb.block b h.lt).trans h
theorem BoxV.facts {W : World} {b : Nat} {x : Vot} (h : BoxV W b x) : W.cell? ⟨b, 0, none⟩ = some (.int .i64 x.vw) ∧ W.cell? ⟨b, 1, none⟩ = some (.int .i64 x.nm) ∧ W.cell? ⟨b, 2, none⟩ = some (.int .i64 x.sv) ∧ W.cell? ⟨b, 3, none⟩ = some (.int .i64 x.tg) := by
  unfold BoxV VC at h
  refine ⟨?_, ?_, ?_, ?_⟩ <;> simp [World.cell?, h]
theorem BoxV.fz {W : World} {b : Nat} {x : Vot} (h : BoxV W b x) : W.frozen? ⟨b, 0, none⟩ = false ∧ W.frozen? ⟨b, 1, none⟩ = false ∧ W.frozen? ⟨b, 2, none⟩ = false ∧ W.frozen? ⟨b, 3, none⟩ = false := by
  unfold BoxV VC at h
  refine ⟨?_, ?_, ?_, ?_⟩ <;> simp [World.frozen?, h]
/-- A vote is stored into a box. -/
def putV (W : World) (b : Nat) (x : Vot) : World := (((W.setCell ⟨b, 0, none⟩ (.int .i64 x.vw)).setCell ⟨b, 1, none⟩ (.int .i64 x.nm)).setCell ⟨b, 2, none⟩ (.int .i64 x.sv)).setCell ⟨b, 3, none⟩ (.int .i64 x.tg)
theorem BoxV.put {W : World} {b : Nat} {x : Vot} (h : BoxV W b x) (y : Vot) : BoxV (putV W b y) b y := by
  unfold BoxV VC at h
  have h1 := heap_setCell_same W b 0 _ _ (.int .i64 y.vw) h
  have h2 := heap_setCell_same _ b 1 _ _ (.int .i64 y.nm) h1
  have h3 := heap_setCell_same _ b 2 _ _ (.int .i64 y.sv) h2
  have h4 := heap_setCell_same _ b 3 _ _ (.int .i64 y.tg) h3
  unfold BoxV VC putV
  simpa using h4
theorem putV_below {B : Nat} {a W : World} {b : Nat} {y : Vot} (h : Below B a W) (hb : B ≤ b) : Below B a (putV W b y) := (((h.setCell hb _).setCell hb _).setCell hb _).setCell hb _
end Go.Proofs.Ytckidhcknibceaa
