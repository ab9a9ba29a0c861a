/- A bank's box that a region which draws its order makes and fills. -/
import Derived.Test.YtdleolgkbkoekaaDoorBnkLaw
namespace Go.Proofs.YtdleolgkbkoekaaDoor
open Go.RowKit
theorem QB.new {w V : World} {xa : Option BkX} {mt : Option (TypeId × Mov)} {l : List BI} (h : QB w V xa mt l) : QB w (V.alloc (.cells #[.slice none 0 0, .slice none 0 0] 26)) xa mt (⟨V.heap.size, V.heap.size, ⟨.slice none 0 0, .slice none 0 0, [], []⟩⟩ :: l) ∧ (∀ i ∈ l, i.b ≠ V.heap.size) ∧ (∀ X, xa = some X → w.heap.size ≠ V.heap.size) ∧ (∀ t m, mt = some (t, m) → w.heap.size + 1 ≠ V.heap.size) :=
  ⟨QB.put (Y := ⟨.slice none 0 0, .slice none 0 0, [], []⟩) (h.on (below1 _ _)) (boxBk_new _ _ _) (ownBk_zero _ _), fun i hi e => by have := (h.bx i hi).lt; omega, fun X e => by have := (h.arg X e).lt; omega, fun t m e => by have := (h.mov t m e).lt; omega⟩
theorem QB.fill {w V : World} {xa : Option BkX} {mt : Option (TypeId × Mov)} {l : List BI} {b lo0 lo : Nat} {Y Z : BkX} (h : QB w V xa mt (⟨b, lo0, Z⟩ :: l)) (ho : OwnBk V lo Y) (h1 : (∀ i ∈ l, i.b ≠ b) ∧ (∀ X, xa = some X → w.heap.size ≠ b) ∧ (∀ t m, mt = some (t, m) → w.heap.size + 1 ≠ b)) (hb : w.heap.size ≤ b) :
    QB w ((V.setCell ⟨b, 0, none⟩ Y.vm).setCell ⟨b, 1, none⟩ Y.vc) xa mt (⟨b, lo, Y⟩ :: l) := by
  have hbx := h.bx _ (List.mem_cons_self ..)
  have hto : Touch [b] V ((V.setCell ⟨b, 0, none⟩ Y.vm).setCell ⟨b, 1, none⟩ Y.vc) := (Touch.set (by simp)).trans (Touch.set (by simp))
  refine QB.put (h.drop.touch hto (fun k hk => by rw [List.mem_singleton.1 hk]; exact hb) (fun X e k => h1.2.1 X e (List.mem_singleton.1 k)) (fun t m e k => h1.2.2 t m e (List.mem_singleton.1 k)) (fun i hi e => h1.1 i hi (List.mem_singleton.1 e)) (fun i hi k hk e => ?_)) (hbx.set0.set1) (ho.touch hto (fun k hk e => ?_))
  · rw [List.mem_singleton.1 e] at hk
    exact hbx.out (h.ow i (List.mem_cons_of_mem _ hi)) hk
  · rw [List.mem_singleton.1 e] at hk
    exact hbx.out ho hk
/-- A box of a bank comes up in a region that draws its order. -/
theorem step_bank {w : World} {ops : Array Oper} {o : Oper} {a : Act} {K : Act → World → Prop} {Q : Exit → Act → World → Prop} {E : Prop} (hgd : o.guard = none) (d : Nat) (hd : o.dst = some d)
    (hrun : (execOp a.eval o).run Tryd.prog w = .ok (.value (.pointer (some ⟨w.heap.size, 0, none⟩))) (w.alloc (.cells #[.slice none 0 0, .slice none 0 0] 26)))
    (h : K (a.put (some d) (.pointer (some ⟨w.heap.size, 0, none⟩))) (w.alloc (.cells #[.slice none 0 0, .slice none 0 0] 26))) :
    if Region.wanted o (yielded ops a.tmps) = true then Oper.wp Tryd.prog o a w K Q else E := by
  have hw : Region.wanted o (yielded ops a.tmps) = true := by simp [Region.wanted, hgd]
  rw [if_pos hw]
  rw [← hd] at h
  unfold Oper.wp
  rw [hrun]
  exact h
theorem listed_asK {P : Program} {md : Region.Mode} {ops : Array Oper} {Q : Exit → Act → World → Prop} {S : World → Prop} {fuel : Nat} {l l' : Array Bool} {a : Act} {w : World} (hl : l = l') (h : wpAnyH P md ops Q S fuel l' a w) : wpAnyH P md ops Q S fuel l a w := by subst hl; exact h
theorem QB.sub {w V : World} {xa : Option BkX} {mt : Option (TypeId × Mov)} {l l' : List BI} (h : QB w V xa mt l) (hs : ∀ i ∈ l', i ∈ l) : QB w V xa mt l' := ⟨h.bel, h.arg, h.mov, fun i hi => h.bx i (hs i hi), fun i hi => h.ow i (hs i hi)⟩
/-- The rows of one bank turn: all others stay. -/
theorem QB.mark {w V V' : World} {xa : Option BkX} {mt : Option (TypeId × Mov)} {l : List BI} {lo : Nat} {U : BkX} (h : QB w V xa mt l) (ho : OwnBk V lo U) (hlo : w.heap.size + 2 ≤ lo) (ht : Touch (bkB U) V V') (ha : ∀ i ∈ l, ∀ k ∈ bkB i.Y, k ∉ bkB U) : QB w V' xa mt l :=
  h.touch ht (fun k hk => by have := (ho.bound hk).1; omega) (fun _ _ e => by have := (ho.bound e).1; omega) (fun _ _ _ e => by have := (ho.bound e).1; omega) (fun i hi => (h.bx i hi).out ho) ha
end Go.Proofs.YtdleolgkbkoekaaDoor
