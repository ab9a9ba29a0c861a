import Derived.Test.YtmlmlemiidedcaaGreatG02
namespace Go.Proofs.YtmlmlemiidedcaaGreat
set_option maxHeartbeats 16000000
set_option maxRecDepth 100000
open Go.RowKit
theorem entAt_boxS (W:World) (x:Ent) (t:TypeId):EntAt (W.alloc (.cells #[.string x.key,.string x.val,.int .i64 x.seq,.bool x.gone] t)) W.heap.size 0 x :=
 ⟨by simp [World.cell?_alloc_at],by simp [World.cell?_alloc_at],by simp [World.cell?_alloc_at],by simp [World.cell?_alloc_at]⟩
theorem rdE_oneS {w:World} {b:Nat} {x:Ent} (h:EntAt w b 0 x):RdE w (.slice (some ⟨b,0,none⟩) 1 1) [x] :=
 ⟨_,1,rfl,Nat.le_refl _,by decide,(fun h=>by cases h),.inr ⟨b,0,rfl,fun i hi=>by
  have:i=0:=by simpa using hi
  subst this
  exact h⟩⟩
def RowPost (w:World) (ys:List Ent) (e:Ending) (w':World):Prop :=
 ∃ u,e=.returned u∧OwnE w' w.heap.size u ys∧Below w.heap.size w w'
end Go.Proofs.YtmlmlemiidedcaaGreat
