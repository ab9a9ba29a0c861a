/- The contract of the model's l7Sink. -/
import Derived.Test.YtbefmbjlogkmbaaGreatG34
import Derived.Test.YtbefmbjlogkmbaaGreatMrgSpec2
-- UNF Gen
namespace Go.Proofs.YtbefmbjlogkmbaaGreat
set_option maxHeartbeats 16000000
set_option maxRecDepth 100000
open Go.RowKit
theorem step_tab1 {w : World} {ops : Array Oper} {o : Oper} {a : Act} {K : Act → World → Prop} {Q : Exit → Act → World → Prop} {E : Prop} (hgd : o.guard = none) (d : Nat) (hd : o.dst = some d) (f l : ByteArray) (vb vk : Value)
    (hrun : (execOp a.eval o).run Tryz.prog w = .ok (.value (.slice (some ⟨w.heap.size, 0, none⟩) 1 1)) (w.alloc (.cells #[.string f, .string l, vb, vk] 72)))
    (h : ∀ b W', Below w.heap.size w W' → (∀ bs ks, OwnT W' w.heap.size (.slice (some ⟨b, 0, none⟩) 1 1) [⟨⟨f, l, bs, ks⟩, vb, vk⟩]) → K (a.put (some d) (.slice (some ⟨b, 0, none⟩) 1 1)) W') :
    if Region.wanted o (yielded ops a.tmps) = true then Oper.wp Tryz.prog o a w K Q else E := by
  have hw : Region.wanted o (yielded ops a.tmps) = true := by simp [Region.wanted, hgd]
  rw [if_pos hw]
  have h' := h w.heap.size _ (below1 w (.cells #[.string f, .string l, vb, vk] 72)) (fun bs ks => World.ownsRow_lit w #[.string f, .string l, vb, vk] 1 (Nat.le_refl _) (by unfold maxLen; omega) (by simp))
  rw [← hd] at h'
  unfold Oper.wp
  rw [hrun]
  exact h'
theorem step_append_tabs {w : World} {ops : Array Oper} {o : Oper} {a : Act} {K : Act → World → Prop} {Q : Exit → Act → World → Prop} {E : Prop} (hgd : o.guard = none) (d : Nat) (hd : o.dst = some d) (s x : Operand)
    (ho : o.op = .call { callee := .builtin .append, args := #[s, x], argTypes := #[31, 31] }) (base : Nat) (v u : Value) (us ts : List TV) (hs : a.eval s = v) (hx : a.eval x = u) (hown : OwnT w base v us) (hr : RdTs w u ts) (hn : NilOk u) (hl : us.length + ts.length ≤ 10000000) (hbase : base ≤ w.heap.size)
    (h : ∀ v' w', OwnT w' base v' (us ++ ts) → w.grownBy w' v.ownBlock → K (a.put (some d) v') w') :
    if Region.wanted o (yielded ops a.tmps) = true then Oper.wp Tryz.prog o a w K Q else E := by
  have hw : Region.wanted o (yielded ops a.tmps) = true := by simp [Region.wanted, hgd]
  rw [if_pos hw]
  obtain ⟨v', w', hrun, r1, r2⟩ := run_append_tabs o.type hown hr hn hl hbase
  unfold Oper.wp
  simp [execOp, ho, resolve, invoke, builtin, hs, hx, hrun, Result.andThen]
  have h' := h v' w' r1 r2
  rw [← hd] at h'
  exact h'
theorem own_sliceT {w : World} {B t z n : Nat} {v : Value} {xs : List Value} (h : w.ownsRow B t z v n xs) : ∃ a c, v = .slice a n c := by
  rcases h.2 with ⟨hv, h0⟩ | ⟨g, cap, cur, hv, _⟩
  · exact ⟨none, 0, by rw [hv, h0]⟩
  · exact ⟨_, _, hv⟩
end Go.Proofs.YtbefmbjlogkmbaaGreat
