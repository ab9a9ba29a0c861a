/- The contract of the model's Packed: the bytes of right entries, nothing of others. -/
import Derived.Test.YthkckgjcecommaaPackCom
import Derived.Test.YthkckgjcecommaaText
import Derived.Test.YthkckgjcecommaaEntSpecSeen
import Derived.Test.YthkckgjcecommaaEntImplOk
namespace Go.Proofs.Ythkckgjcecommaa
open Go.RowKit
/-- append of bytes of the call's own onto a row of the call's own. -/
theorem run_append_bytes (ty : TypeId) {w : World} {base B2 : Nat} {v u : Value} {ys zs : List UInt8} (hown : Own w base v ys) (hr : Own w B2 u zs) (hl : ys.length + zs.length ≤ 1000000000) (hbase : base ≤ w.heap.size) :
    ∃ v' w', (Builtin.append_ #[40, 40] ty #[v, u]).run Try.prog w = .ok v' w' ∧ Own w' base v' (ys ++ zs) ∧ w.grownBy w' v.ownBlock := by
  obtain ⟨i0, hi, hz0, hz1, hz2⟩ := info_parts Try.info5
  rcases hr.2 with ⟨rfl, h0⟩ | ⟨g, cap, cur, rfl, _⟩
  · have : zs = [] := List.length_eq_zero_iff.1 h0
    subst this
    refine ⟨v, w, run_append_owned_none (P := Try.prog) w base 40 ty 5 i0 1 Try.underlying40 hi v ys.length (BV ys) hown, by simpa using hown, ⟨rfl, rfl, rfl, Nat.le_refl _, fun _ _ _ => rfl⟩⟩
  · obtain ⟨v', w', hrun, r1, r2, _⟩ := run_append_own (P := Try.prog) w base 40 ty 5 i0 _ 1 1 Try.underlying40 hi hz0 hz1 hz2 rfl (by decide) v ys.length (BV ys) hown ⟨g, 0, none⟩ zs.length cap (BV zs) (by rw [BV_length]; omega) (World.ownsRow.cells hr rfl) (BV_oneCell zs) (by unfold maxLen; omega) (by omega) hbase
    exact ⟨v', w', hrun, own_more r1, r2⟩
theorem wpList_append_bytes {w : World} {ops : Array Oper} {rest : List Oper} {o : Oper} {a : Act} {Q : Exit → Act → World → Prop} (hgd : o.guard = none) (s x : Operand)
    (ho : o.op = .call { callee := .builtin .append, args := #[s, x], argTypes := #[40, 40] }) (base B2 : Nat) (v u : Value) (ys zs : List UInt8) (hs : a.eval s = v) (hx : a.eval x = u) (hown : Own w base v ys) (hr : Own w B2 u zs) (hl : ys.length + zs.length ≤ 1000000000) (hbase : base ≤ w.heap.size)
    (h : ∀ v' w', Own w' base v' (ys ++ zs) → w.grownBy w' v.ownBlock → wpList Try.prog ops Q rest (a.put o.dst v') w') : wpList Try.prog ops Q (o :: rest) a w := by
  refine wpList_plain hgd fun K hK => ?_
  obtain ⟨v', w', hrun, r1, r2⟩ := run_append_bytes o.type hown hr hl hbase
  unfold Oper.wp
  simp [execOp, ho, resolve, invoke, builtin, hs, hx, hrun, Result.andThen]
  exact hK _ _ (h v' w' r1 r2)
theorem step_append_bytes {w : World} {ops : Array Oper} {o : Oper} {a : Act} {K : Act → World → Prop} {Q : Exit → Act → World → Prop} {E : Prop} (hgd : o.guard = none) (d : Nat) (hd : o.dst = some d) (s x : Operand)
    (ho : o.op = .call { callee := .builtin .append, args := #[s, x], argTypes := #[40, 40] }) (base B2 : Nat) (v u : Value) (ys zs : List UInt8) (hs : a.eval s = v) (hx : a.eval x = u) (hown : Own w base v ys) (hr : Own w B2 u zs) (hl : ys.length + zs.length ≤ 1000000000) (hbase : base ≤ w.heap.size)
    (h : ∀ v' w', Own w' base v' (ys ++ zs) → w.grownBy w' v.ownBlock → K (a.put (some d) v') w') :
    if Region.wanted o (yielded ops a.tmps) = true then Oper.wp Try.prog o a w K Q else E := by
  have hw : Region.wanted o (yielded ops a.tmps) = true := by simp [Region.wanted, hgd]
  rw [if_pos hw]
  obtain ⟨v', w', hrun, r1, r2⟩ := run_append_bytes o.type hown hr hl hbase
  unfold Oper.wp
  simp [execOp, ho, resolve, invoke, builtin, hs, hx, hrun, Result.andThen]
  have h' := h v' w' r1 r2
  rw [← hd] at h'
  exact h'
set_option maxHeartbeats 400000 in
set_option maxRecDepth 100000 in
theorem l4Flag_any (b : Bool) (w : World) : Calls Try.prog 27 #[.bool b] w fun e w' => e = .returned (.int .i64 (if b = true then 1 else 0)) ∧ w' = w := by
  cases b with
  | true =>
    go_enter Try.func27, Try.ntmps27
    go_wp2
    go_ret
    exact ⟨rfl, rfl⟩
  | false =>
    go_enter Try.func27, Try.ntmps27
    go_wp2
    go_ret
    exact ⟨rfl, rfl⟩
theorem own_grew {N : Nat} {W W' : World} {u v : Value} {bs : List UInt8} (h : Own W N u bs) (hg : W.grownBy W' v.ownBlock) (hl : ∀ k, v.ownBlock = some k → k < N) : Own W' N u bs :=
  row_kept h hg (fun k hk e => by have h1 := hl k e; have h2 := (World.ownsRow.lt h k hk).1; omega)
theorem own_blk {w : World} {B : Nat} {v : Value} {bs : List UInt8} (h : Own w B v bs) : ∀ k, v.ownBlock = some k → k < w.heap.size := fun k hk => (World.ownsRow.lt h k hk).2
theorem cut_bytes (s : ByteArray) (c : Nat) : enc (s.extract c s.size).size ++ (s.extract c s.size).data.toList = enc (s.size - c) ++ s.data.toList.drop c := by
  rw [ByteArray.size_extract, Nat.min_self, ByteArray.data_extract, Array.toList_extract, List.extract_eq_take_drop]
  rw [List.take_of_length_le (by rw [List.length_drop, size_length]; exact Nat.le_refl _)]
/-- A row of bytes is no entry's block. -/
theorem ent_not {w : World} {B b : Nat} {v : Value} {ys : List UInt8} {x : Ent} (h : Own w B v ys) (hy : 0 < ys.length) (he : EntAt w b 0 x) : ∀ j, v.ownBlock = some j → b ≠ j := by
  obtain ⟨g, cap, hv, hc⟩ := own_some h (List.length_pos_iff.1 hy)
  subst hv
  intro j hj e
  obtain rfl : g = j := by simpa [Value.ownBlock] using hj
  subst e
  have h1 := hc 0 _ (BV_get ys 0 hy)
  rw [Addr.add_lit, Nat.zero_add] at h1
  rw [he.1] at h1
  cases h1
theorem EntAt.grew {w w' : World} {B b : Nat} {v : Value} {ys : List UInt8} {x : Ent} (he : EntAt w b 0 x) (h : Own w B v ys) (hy : 0 < ys.length) (hg : w.grownBy w' v.ownBlock) : EntAt w' b 0 x :=
  he.of_block (hg.block _ he.lt (fun e => ent_not h hy he b e.symm rfl))
theorem grew_below {a w w' : World} {B : Nat} {v : Value} {ys : List UInt8} (hb : Below B a w) (h : Own w B v ys) (hg : w.grownBy w' v.ownBlock) (hs : B ≤ w.heap.size) : Below B a w' :=
  hb.grown hg hs (fun j hj => (World.ownsRow.lt h j hj).1)
theorem nth_ok {es : List Ent} (h : okL es = true) {k : Nat} (hk : k < es.length) : okE (nth es k) = true := okL_ent h hk
theorem packL_no {es : List Ent} (h : okL es = false) : packL es = [] := by unfold packL; rw [if_neg (by simp [h])]
end Go.Proofs.Ythkckgjcecommaa
