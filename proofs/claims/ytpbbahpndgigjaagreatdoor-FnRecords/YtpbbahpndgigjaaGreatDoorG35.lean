/- The contracts of the program's unpackedBlocks and packedBlocks. Plain facts on the marks as bits of four words: no function of the program is walked here. The contracts of the program's marks: one number more, whether a number is there, a key's two marks more. The contracts of the program's marks of keys, marks of numbers, and numbers of marks. The contract of the program's unpackedTable. The contract of the program's unpackedTree. The contract of the program's TreeOk of a tree. -/
import Derived.Test.YtpbbahpndgigjaaGreatDoorG34
import Derived.Lib.SliceRun
import Derived.ChangeKeysEq
import Derived.Deep.RegionHeld3
import Derived.Maps.AppendAt
namespace Go.Proofs.YtpbbahpndgigjaaGreatDoor
set_option maxHeartbeats 16000000
set_option maxRecDepth 100000
open Go.RowKit
def mw (M j : Nat) : Nat := M / 2 ^ (64 * j) % 2 ^ 64
open Go.RowKit
def MAt (w : World) (b : Nat) (M : Nat) : Prop :=
  w.cell? ⟨b, 0, none⟩ = some (.int .u64 (mw M 0 : Int)) ∧ w.cell? ⟨b, 1, none⟩ = some (.int .u64 (mw M 1 : Int)) ∧ w.cell? ⟨b, 2, none⟩ = some (.int .u64 (mw M 2 : Int)) ∧ w.cell? ⟨b, 3, none⟩ = some (.int .u64 (mw M 3 : Int))
theorem MAt.lt {w : World} {b M : Nat} (h : MAt w b M) : b < w.heap.size := World.block_lt_of_cell? w _ h.1
theorem MAt.below {w w' : World} {b M : Nat} (h : MAt w b M) (hb : Below w.heap.size w w') : MAt w' b M := by
  have hl := h.lt
  obtain ⟨h0, h1, h2, h3⟩ := h
  exact ⟨by rw [hb.cell hl]; exact h0, by rw [hb.cell hl]; exact h1, by rw [hb.cell hl]; exact h2, by rw [hb.cell hl]; exact h3⟩
def MBox (w : World) (b : Nat) (M : Nat) : Prop := MAt w b M ∧ ∀ o, w.frozen? ⟨b, o, none⟩ = false
theorem MBox.below {w w' : World} {b M : Nat} (h : MBox w b M) (hb : Below w.heap.size w w') : MBox w' b M :=
  ⟨h.1.below hb, fun o => ((bcell hb).2 b o h.1.lt).trans (h.2 o)⟩
theorem MBox.facts {w : World} {b M : Nat} (h : MBox w b M) : w.cell? ⟨b, 0, none⟩ = some (.int .u64 (mw M 0 : Int)) ∧ w.cell? ⟨b, 1, none⟩ = some (.int .u64 (mw M 1 : Int)) ∧ w.cell? ⟨b, 2, none⟩ = some (.int .u64 (mw M 2 : Int)) ∧ w.cell? ⟨b, 3, none⟩ = some (.int .u64 (mw M 3 : Int)) ∧
    w.frozen? ⟨b, 0, none⟩ = false ∧ w.frozen? ⟨b, 1, none⟩ = false ∧ w.frozen? ⟨b, 2, none⟩ = false ∧ w.frozen? ⟨b, 3, none⟩ = false := by
  obtain ⟨⟨h0, h1, h2, h3⟩, hf⟩ := h
  exact ⟨h0, h1, h2, h3, hf 0, hf 1, hf 2, hf 3⟩
open Go.RowKit
theorem MBox.put {w : World} {b M : Nat} (h : MBox w b M) (N : Nat) : MBox ((((w.setCell ⟨b, 0, none⟩ (.int .u64 (mw N 0 : Int))).setCell ⟨b, 1, none⟩ (.int .u64 (mw N 1 : Int))).setCell ⟨b, 2, none⟩ (.int .u64 (mw N 2 : Int))).setCell ⟨b, 3, none⟩ (.int .u64 (mw N 3 : Int))) b N := by
  obtain ⟨z0, z1, z2, z3, f0, f1, f2, f3⟩ := h.facts
  refine ⟨⟨?_, ?_, ?_, ?_⟩, fun o => ?_⟩
  · rw [World.cell?_setCell_other _ _ _ _ (by simp), World.cell?_setCell_other _ _ _ _ (by simp), World.cell?_setCell_other _ _ _ _ (by simp), World.cell?_setCell_same _ _ _ z0]
  · rw [World.cell?_setCell_other _ _ _ _ (by simp), World.cell?_setCell_other _ _ _ _ (by simp)]
    exact World.cell?_setCell_same _ _ _ (by rw [World.cell?_setCell_other _ _ _ _ (by simp)]; exact z1)
  · rw [World.cell?_setCell_other _ _ _ _ (by simp)]
    exact World.cell?_setCell_same _ _ _ (by rw [World.cell?_setCell_other _ _ _ _ (by simp), World.cell?_setCell_other _ _ _ _ (by simp)]; exact z2)
  · exact World.cell?_setCell_same _ _ _ (by rw [World.cell?_setCell_other _ _ _ _ (by simp), World.cell?_setCell_other _ _ _ _ (by simp), World.cell?_setCell_other _ _ _ _ (by simp)]; exact z3)
  · rw [World.frozen?_setCell, World.frozen?_setCell, World.frozen?_setCell, World.frozen?_setCell]
    exact h.2 o
theorem MBox.keep {w : World} {b M c : Nat} (h : MBox w b M) (hc : c ≠ b) (x0 x1 x2 x3 : Value) : MBox ((((w.setCell ⟨c, 0, none⟩ x0).setCell ⟨c, 1, none⟩ x1).setCell ⟨c, 2, none⟩ x2).setCell ⟨c, 3, none⟩ x3) b M := by
  have hcell : ∀ o, ((((w.setCell ⟨c, 0, none⟩ x0).setCell ⟨c, 1, none⟩ x1).setCell ⟨c, 2, none⟩ x2).setCell ⟨c, 3, none⟩ x3).cell? ⟨b, o, none⟩ = w.cell? ⟨b, o, none⟩ := fun o => by
    rw [World.cell?_setCell_other _ _ _ _ (by intro e; cases e; exact hc rfl), World.cell?_setCell_other _ _ _ _ (by intro e; cases e; exact hc rfl), World.cell?_setCell_other _ _ _ _ (by intro e; cases e; exact hc rfl), World.cell?_setCell_other _ _ _ _ (by intro e; cases e; exact hc rfl)]
  refine ⟨⟨by rw [hcell]; exact h.1.1, by rw [hcell]; exact h.1.2.1, by rw [hcell]; exact h.1.2.2.1, by rw [hcell]; exact h.1.2.2.2⟩, fun o => ?_⟩
  rw [World.frozen?_setCell, World.frozen?_setCell, World.frozen?_setCell, World.frozen?_setCell]
  exact h.2 o
theorem MBox.grown {w w' : World} {b M : Nat} {g : Option Nat} (h : MBox w b M) (hg : w.grownBy w' g) (hn : ∀ j, g = some j → j ≠ b) : MBox w' b M := by
  have hl := h.1.lt
  obtain ⟨_, _, _, _, hk⟩ := hg
  have hb : w'.heap[b]? = w.heap[b]? := hk b hl (fun e => hn b e.symm rfl)
  have hc : ∀ o, w'.cell? ⟨b, o, none⟩ = w.cell? ⟨b, o, none⟩ := fun o => by unfold World.cell?; simp only [hb]
  refine ⟨⟨by rw [hc]; exact h.1.1, by rw [hc]; exact h.1.2.1, by rw [hc]; exact h.1.2.2.1, by rw [hc]; exact h.1.2.2.2⟩, fun o => ?_⟩
  have := h.2 o
  unfold World.frozen? at this ⊢
  simp only [hb]
  exact this
open Go.RowKit
open Go.RowKit Go.Shelf
attribute [local go_sem] Oper.semAt_some
theorem RdTs.all {w : World} {v : Value} {ts : List TV} (h : RdTs w v ts) : ∀ t ∈ ts, RdI w t.vb t.T.bits ∧ RdS w t.vk t.T.blocks := by obtain ⟨_, _, _, _, _, _, h4⟩ := h; exact h4
theorem InQ.box {w0 w : World} {L : Nat} {t : TypeId} {u v : Value} {ps : List (Value × List Ent)} (h : InQ w0 w ps) (hb : Boxed w L t u) (ht : t ≠ 71) : InQ w0 (w.setCell ⟨L, 0, none⟩ v) ps := fun p hp => ⟨by
  rcases (h p hp).1 with a | a
  · exact .inl a
  · exact .inr (row_set a (fun k hk e => hb.not_row ht a (by rw [hk, ← e]))), (h p hp).2⟩
theorem OwnQ.box {w : World} {B L : Nat} {t : TypeId} {u v o : Value} {ps : List (Value × List Ent)} (h : OwnQ w B o ps) (hb : Boxed w L t u) (ht : t ≠ 45) : OwnQ (w.setCell ⟨L, 0, none⟩ v) B o ps := row_set h (fun k hk e => hb.not_row ht h (by rw [hk, ← e]))
theorem InQ.put {w0 W : World} {D : Nat} {o o' : Obj} {ps : List (Value × List Ent)} (h : InQ w0 W ps) (hK : W.heap[D]? = some o) (ho : o.isCells = false) : InQ w0 (W.putObj D o') ps := fun p hp => ⟨by
  rcases (h p hp).1 with a | a
  · exact .inl a
  · exact .inr (ownsRow_putObj a o' hK ho), (h p hp).2⟩
open Go.RowKit
end Go.Proofs.YtpbbahpndgigjaaGreatDoor
