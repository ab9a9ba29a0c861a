/- The contracts of the laws' own helpers over banks: measured, copied, alike, marked, held. -/
-- UNF Gen
import Derived.Test.YtdleolgkbkoekaaDoorBnkBase
import Derived.Test.YtdleolgkbkoekaaDoorNumZ
namespace Go.Proofs.YtdleolgkbkoekaaDoor
open Go.RowKit
def SmallBk (X : BkX) (z : Int) : Prop := z + X.mon.length + X.cnt.length ≤ 1048576
def SzBk (w : World) (X : BkX) (e : Ending) (w' : World) : Prop := Below w.heap.size w w' ∧ ∃ z : Int, e = .returned (.int .i64 z) ∧ (z = -1 ∨ 0 ≤ z ∧ SmallBk X z)
/-- A bank whose rows are marked from k on. -/
def mkBk (k : Nat) (X : BkX) : BkX := ⟨X.vm, X.vc, imarks k X.mon.length, imarks (k + X.mon.length) X.cnt.length⟩
def cntBk (X : BkX) : Nat := X.mon.length + X.cnt.length
theorem bkB_mk (k : Nat) (X : BkX) : bkB (mkBk k X) = bkB X := rfl
def MarkBk (w : World) (B k : Nat) (X : BkX) (e : Ending) (w' : World) : Prop := e = .returned (.int .i64 ((k + cntBk X : Nat) : Int)) ∧ OwnBk w' B (mkBk k X) ∧ Touch (bkB X) w w'
end Go.Proofs.YtdleolgkbkoekaaDoor
