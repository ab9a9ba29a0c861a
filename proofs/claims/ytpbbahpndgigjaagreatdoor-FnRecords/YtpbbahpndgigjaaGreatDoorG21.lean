/- The contracts of the law's measure, copy and comparison of entries. The contracts of the program's cut and joining of pieces of entries. The contract of the model's Shown. -/
import Derived.Deep.RegionHeld3
import Derived.Test.YtpbbahpndgigjaaGreatDoorG12
import Derived.Laws.CopyOwn
namespace Go.Proofs.YtpbbahpndgigjaaGreatDoor
set_option maxHeartbeats 16000000
set_option maxRecDepth 100000
open Go.RowKit
open Go.RowKit
def Pieces (w : World) (v : Value) (ps : List (Value × List Ent)) : Prop :=
  (v = .slice none 0 0 ∧ ps = []) ∨ ∃ b off cap, v = .slice (some ⟨b, off, none⟩) ps.length cap ∧ ps.length ≤ cap ∧ cap ≤ maxLen ∧
    ∀ i (h : i < ps.length), w.cell? ⟨b, off + i, none⟩ = some (ps[i].1) ∧ RdE w ps[i].1 ps[i].2
theorem Pieces.below {w w' : World} {v : Value} {ps : List (Value × List Ent)} (h : Pieces w v ps) (hb : Below w.heap.size w w') : Pieces w' v ps := by
  rcases h with h | ⟨b, off, cap, hv, h1, h2, hc⟩
  · exact .inl h
  · exact .inr ⟨b, off, cap, hv, h1, h2, fun i hi => ⟨by rw [hb.cell (World.block_lt_of_cell? w _ (hc i hi).1)]; exact (hc i hi).1, (hc i hi).2.below hb⟩⟩
open Go.RowKit
theorem entAt_boxS (W : World) (x : Ent) (t : TypeId) : EntAt (W.alloc (.cells #[.string x.key, .string x.val, .int .i64 x.seq, .bool x.gone] t)) W.heap.size 0 x :=
  ⟨by simp [World.cell?_alloc_at], by simp [World.cell?_alloc_at], by simp [World.cell?_alloc_at], by simp [World.cell?_alloc_at]⟩
theorem rdE_oneS {w : World} {b : Nat} {x : Ent} (h : EntAt w b 0 x) : RdE w (.slice (some ⟨b, 0, none⟩) 1 1) [x] :=
  ⟨_, 1, rfl, Nat.le_refl _, by decide, (fun h => by cases h), .inr ⟨b, 0, rfl, fun i hi => by
    have : i = 0 := by simpa using hi
    subst this
    exact h⟩⟩
def RowPost (w : World) (ys : List Ent) (e : Ending) (w' : World) : Prop :=
  ∃ u, e = .returned u ∧ OwnE w' w.heap.size u ys ∧ Below w.heap.size w w'
end Go.Proofs.YtpbbahpndgigjaaGreatDoor
