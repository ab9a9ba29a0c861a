/- Blocks (a view, the name ahead, who voted, moves as texts, by whom): plain notions, and blocks in memory. -/
import Derived.Test.YtckidhcknibceaaPrfBase
import Derived.Test.YtckidhcknibceaaStrBase
namespace Go.Proofs.Ytckidhcknibceaa
open Go.RowKit
/-- A block: its view, the name of the one ahead, the proof, its moves, the server. -/
structure Blk where
  vw : Int
  pa : Int
  p : Prf
  mo : List ByteArray
  sv : Int
deriving DecidableEq
/-- A block with the values of its three rows. -/
structure BlX where
  b : Blk
  vs : Value
  vt : Value
  vm : Value
def BlX.cs (X : BlX) : List Value := [.int .i64 X.b.vw, .int .i64 X.b.pa, .int .i64 X.b.p.vw, .int .i64 X.b.p.nm, X.vs, X.vt, X.vm, .int .i64 X.b.sv]
def BlX.pr (X : BlX) : PrX := ⟨X.b.p, X.vs, X.vt⟩
/-- A block that can be read. -/
structure RdBl (w : World) (X : BlX) : Prop where
  pr : RdPr w X.pr
  mo : RdS w X.vm X.b.mo
theorem RdBl.below {w w' : World} {X : BlX} (h : RdBl w X) (hb : Below w.heap.size w w') : RdBl w' X := ⟨h.pr.below hb, h.mo.below hb⟩
/-- Its numbers are numbers of a program, its texts no longer than a text can be. -/
structure FitBl (b : Blk) : Prop where
  vw : -9223372036854775808 ≤ b.vw ∧ b.vw ≤ 9223372036854775807
  pa : -9223372036854775808 ≤ b.pa ∧ b.pa ≤ 9223372036854775807
  pr : FitPr b.p
  mo : ∀ s ∈ b.mo, s.size ≤ maxLen
  sv : -9223372036854775808 ≤ b.sv ∧ b.sv ≤ 9223372036854775807
/-- A block in rows of the call's own, which are three. -/
structure OwnBl (w : World) (B : Nat) (X : BlX) : Prop where
  pr : OwnPr w B X.pr
  mo : OwnS w B X.vm X.b.mo
  apS : ∀ q, X.vs.ownBlock = some q → X.vm.ownBlock = some q → False
  apT : ∀ q, X.vt.ownBlock = some q → X.vm.ownBlock = some q → False
theorem OwnBl.below {w w' : World} {B : Nat} {X : BlX} (h : OwnBl w B X) (hb : Below w.heap.size w w') : OwnBl w' B X := ⟨h.pr.below hb, h.mo.below hb, h.apS, h.apT⟩
theorem OwnBl.rd {w : World} {B : Nat} {X : BlX} (h : OwnBl w B X) : RdBl w X := ⟨h.pr.rd, h.mo.rd⟩
theorem OwnBl.mono {w : World} {B B' : Nat} {X : BlX} (h : OwnBl w B X) (hb : B' ≤ B) : OwnBl w B' X := ⟨h.pr.mono hb, h.mo.mono hb, h.apS, h.apT⟩
/-- The memory blocks of a block's rows. -/
def blB (X : BlX) : List Nat := prB X.pr ++ oneB X.vm
theorem OwnBl.bound {w : World} {B : Nat} {X : BlX} (h : OwnBl w B X) {k : Nat} (hk : k ∈ blB X) : B ≤ k ∧ k < w.heap.size := by
  rcases List.mem_append.1 hk with hk | hk
  · exact h.pr.bound hk
  · exact World.ownsRow.lt h.mo k (mem_oneB.1 hk)
theorem OwnBl.touch {bs : List Nat} {w w' : World} {B : Nat} {X : BlX} (h : OwnBl w B X) (ht : Touch bs w w') (hn : ∀ k ∈ blB X, k ∉ bs) : OwnBl w' B X :=
  ⟨h.pr.touch ht (fun k hk => hn k (List.mem_append_left _ hk)), ht.row h.mo (fun k hk => hn k (List.mem_append_right _ (mem_oneB.2 hk))), h.apS, h.apT⟩
end Go.Proofs.Ytckidhcknibceaa
