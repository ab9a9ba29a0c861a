/- The contract of the model's EntriesOk. -/
import Derived.Test.YtckidhcknibceaaEntOrd
import Derived.Deep.RegionHeld3
namespace Go.Proofs.Ytckidhcknibceaa
open Go.RowKit
theorem tkA (i d : Nat) {P : Program} {ops : Array Oper} {Q : Exit → Act → World → Prop} {md : Region.Mode} {S : World → Prop} {oi : Oper} {v : Value} {fuel : Nat} {listed : Array Bool} {a : Act} {w : World} (hS : S w)
    (h : wpAnyH P md ops (NoPanic Q) S fuel (listed.setIfInBounds i true) (a.put (some d) v) w) (hi : ops[i]? = some oi := by rfl) (hd : oi.dst = some d := by rfl)
    (hs : Region.noSelect ops = true := by kernel_rfl) (hf : Region.free md ops listed i = true := by kernel_rfl) (hr : (Region.ready md ops listed).contains i = true := by kernel_rfl) (hw : Region.wanted oi (yielded ops a.tmps) = true := by kernel_rfl)
    (hy : ∀ w, S w → (execOp a.eval oi).run P w = .ok (.value v) w := by intro w hS; (try dsimp only [EntAt, Nat.zero_add] at hS); go_simp; (try with_reducible rfl)) : wpAnyH P md ops (NoPanic Q) S (fuel + 1) listed a w :=
  takeH hi hd hs hf hr (fun _ _ _ h => h) (Or.inl ⟨hw, hy⟩) hS h
end Go.Proofs.Ytckidhcknibceaa
