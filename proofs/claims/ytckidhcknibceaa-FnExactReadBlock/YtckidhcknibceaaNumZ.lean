/- The law's marks of numbers, from any number on. -/
import Derived.Test.YtckidhcknibceaaNumHelp
namespace Go.Proofs.Ytckidhcknibceaa
open Go.RowKit
theorem eqIntsZ (va vb : Value) (xs : List Int) (w : World) (ha : RdI w va xs) (hb : RdI w vb xs) :
    Calls Try.prog 45 #[va, vb] w fun e w' => e = .returned (.bool true) ∧ Below w.heap.size w w' :=
  (eqInts_same va vb xs w ha hb).mono fun e w' ⟨a, n, b⟩ => ⟨a, by rw [b]; exact below_drewN (Below.refl _ _) n⟩
theorem imarkZ (v : Value) (bs : List Int) (base k : Nat) (z : Int) (w : World) (hz : z = (k : Int)) (hk : k + bs.length ≤ 1073741824) (hown : OwnI w base v bs) :
    Calls Try.prog 52 #[v, .int .i64 z] w fun e w' => e = .returned (.int .i64 (z + (bs.length : Int))) ∧ OwnI w' base v (imarks k bs.length) ∧ w.grownBy w' v.ownBlock := by
  subst hz
  have h := imark_any v bs base k w hk hown
  rwa [show ((k + bs.length : Nat) : Int) = (k : Int) + (bs.length : Int) by omega] at h
theorem iheldZ (v : Value) (n k : Nat) (z : Int) (w : World) (hz : z = (k : Int)) (hk : k + n ≤ 1073741824) (hr : RdI w v (imarks k n)) :
    Calls Try.prog 54 #[v, .int .i64 z] w fun e w' => e = .returned (.int .i64 (z + (n : Int))) ∧ Below w.heap.size w w' := by
  subst hz
  have h := iheld_any v n k w hk hr
  rw [show ((k + n : Nat) : Int) = (k : Int) + (n : Int) by omega] at h
  exact h.mono fun e w' ⟨a, b⟩ => ⟨a, by rw [b]; exact Below.refl _ _⟩
end Go.Proofs.Ytckidhcknibceaa
