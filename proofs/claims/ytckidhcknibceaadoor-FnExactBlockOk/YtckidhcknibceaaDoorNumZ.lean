/- The law's marks of numbers, from any number on. -/
import Derived.Test.YtckidhcknibceaaDoorNumHelp
namespace Go.Proofs.YtckidhcknibceaaDoor
open Go.RowKit
theorem eqIntsZ (va vb : Value) (xs : List Int) (w : World) (ha : RdI w va xs) (hb : RdI w vb xs) :
    Calls Tryd.prog 104 #[va, vb] w fun e w' => e = .returned (.bool true) ∧ Below w.heap.size w w' :=
  (eqInts_same va vb xs w ha hb).mono fun e w' ⟨a, n, b⟩ => ⟨a, by rw [b]; exact below_drewN (Below.refl _ _) n⟩
end Go.Proofs.YtckidhcknibceaaDoor
