/- The contract of the program's Shown. -/
import Derived.Test.YthaobdknpgnapaaEntJoin
import Derived.Test.YthaobdknpgnapaaEntIsSeen
import Derived.Test.YthaobdknpgnapaaEntSpecShown
import Derived.Test.YthaobdknpgnapaaEntImplSeen
namespace Go.Proofs.Ythaobdknpgnapaa
open Go.RowKit
theorem cut_at (v : Value) (es : List Ent) (i j : Nat) (x y : Int) (w : World) (hx : x = (i : Int)) (hy : y = (j : Int)) (hr : RdE w v es) (hij : i ≤ j) (hj : j ≤ es.length) :
    Calls Try.prog 47 #[v, .int .i64 x, .int .i64 y] w fun e w' => ∃ u, e = .returned u ∧ (∀ W, RdE W v es → RdE W u ((es.take j).drop i)) ∧ w' = w := by
  subst hx; subst hy; exact cut_any v es i j w hr hij hj
theorem cut_one (es : List Ent) (k : Nat) (h : k < es.length) : (es.take (k + 1)).drop k = [nth es k] := by
  rw [List.take_succ_eq_append_getElem h, List.drop_append, List.drop_eq_nil_of_le (by rw [List.length_take]; omega), List.length_take, Nat.min_eq_left (by omega), Nat.sub_self, List.drop_zero, List.nil_append, nth_eq h]
/-- A row of pieces of the call's own. -/
def OwnP (w : World) (base : Nat) (v : Value) (ps : List (Value × List Ent)) : Prop := w.ownsRow base 24 1 v ps.length (ps.map (·.1))
theorem OwnP.pieces {w : World} {base : Nat} {v : Value} {ps : List (Value × List Ent)} (h : OwnP w base v ps) (hp : ∀ p ∈ ps, RdE w p.1 p.2) : Pieces w v ps := by
  have h' := h
  rcases h.2 with ⟨rfl, h0⟩ | ⟨g, cap, cur, rfl, hb, hg, hn, hc, hs, ht⟩
  · exact .inl ⟨rfl, List.length_eq_zero_iff.1 h0⟩
  · refine .inr ⟨g, 0, cap, rfl, hn, hc, fun i hi => ⟨?_, hp _ (List.getElem_mem hi)⟩⟩
    have := World.ownsRow.cellAt h' i (by omega)
    rw [Nat.zero_add, this]
    simp [hi]
theorem OwnP.below {w w' : World} {base : Nat} {v : Value} {ps : List (Value × List Ent)} (h : OwnP w base v ps) (hb : Below w.heap.size w w') : OwnP w' base v ps := own_below h hb
theorem OwnP.mono {w : World} {base base' : Nat} {v : Value} {ps : List (Value × List Ent)} (h : OwnP w base v ps) (hb : base' ≤ base) : OwnP w base' v ps := by
  refine ⟨h.1, ?_⟩
  rcases h.2 with h2 | ⟨g, cap, cur, hv, hg, r⟩
  · exact .inl h2
  · exact .inr ⟨g, cap, cur, hv, Nat.le_trans hb hg, r⟩
theorem ownP_none (w : World) : OwnP (w.alloc (.cells #[] 24)) w.heap.size (.slice (some ⟨w.heap.size, 0, none⟩) 0 0) [] := World.ownsRow_lit w #[] 0 (Nat.le_refl _) (Nat.zero_le _) rfl
theorem ownP_push {w1 : World} {B : Nat} {v' : Value} {ps : List (Value × List Ent)} {u : Value} {zs : List Ent} (h : w1.ownsRow B 24 1 v' (ps.length + 1) (ps.map (·.1) ++ [u])) : OwnP w1 B v' (ps ++ [(u, zs)]) := by
  unfold OwnP
  rw [List.map_append, List.length_append]
  exact h
theorem one_newP (w : World) (x : Value) (t : TypeId) : ∀ j u, [x][j]? = some u → (w.alloc (.cells #[x] t)).cell? ((⟨w.heap.size, 0, none⟩ : Addr).add j) = some u := by
  intro j u hj
  match j, hj with
  | 0, hj => simp at hj; subst hj; simp [Addr.add]
theorem one_new_at (w : World) (x : Value) (t : TypeId) (n : Nat) (hn : n = w.heap.size) : ∀ j u, [x][j]? = some u → (w.alloc (.cells #[x] t)).cell? ((⟨n, 0, none⟩ : Addr).add j) = some u := by
  subst hn; exact one_newP w x t
theorem joinE_push (ps : List (Value × List Ent)) (u : Value) (zs : List Ent) : joinE (ps ++ [(u, zs)]) = joinE ps ++ zs := by simp [joinE]
end Go.Proofs.Ythaobdknpgnapaa
