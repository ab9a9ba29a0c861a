/- Plain facts on rows of flags that a call owns or reads. -/
import Derived.Test.YtpidmmfjmbinkaaGreatDoorGen
namespace Go.Proofs.YtpidmmfjmbinkaaGreatDoor
open Go.RowKit
theorem Tryz.infoB4 : (Tryz.prog.info? 4).map (fun i => (i.zero, i.size, i.bytes)) = some (some (.bool false), 1, 1) := by kernel_rfl
def BoV (ns : List Bool) : List Value := ns.map Value.bool
theorem BoV_length (ns : List Bool) : (BoV ns).length = ns.length := by simp [BoV]
theorem BoV_append (a b : List Bool) : BoV (a ++ b) = BoV a ++ BoV b := by simp [BoV]
theorem BoV_get (ns : List Bool) (i : Nat) (h : i < ns.length) : (BoV ns)[i]? = some (.bool ns[i]) := by simp [BoV, h]
theorem BoV_set (ns : List Bool) (i : Nat) (n : Bool) : BoV (ns.set i n) = (BoV ns).set i (.bool n) := by simp [BoV, List.map_set]
theorem BoV_oneCell (ns : List Bool) : ∀ u ∈ BoV ns, u.oneCell' = true := by
  intro u hu
  obtain ⟨_, _, rfl⟩ := List.mem_map.1 hu
  rfl
/-- The slice v is the call's own (its block is at least number base) and holds the numbers ns. -/
def OwnB (w : World) (base : Nat) (v : Value) (ns : List Bool) : Prop := w.ownsRow base 4 1 v ns.length (BoV ns)
/-- The slice v can be read and holds the numbers ns. -/
def RdB (w : World) (v : Value) (ns : List Bool) : Prop :=
  ∃ a cap, v = .slice a ns.length cap ∧ ns.length ≤ cap ∧ cap ≤ maxLen ∧ (a = none → cap = 0) ∧
    (ns = [] ∨ ∃ b off, a = some ⟨b, off, none⟩ ∧ ∀ i (h : i < ns.length), w.cell? ⟨b, off + i, none⟩ = some (.bool ns[i]))
theorem OwnB.rd {w : World} {base : Nat} {v : Value} {ns : List Bool} (h : OwnB w base v ns) : RdB w v ns := by
  have h' := h
  rcases h.2 with ⟨rfl, h0⟩ | ⟨g, cap, cur, rfl, hb, hg, hn, hc, hs, ht⟩
  · have : ns = [] := List.length_eq_zero_iff.1 h0
    subst this
    exact ⟨none, 0, rfl, Nat.le_refl _, Nat.zero_le _, fun _ => rfl, .inl rfl⟩
  · refine ⟨some ⟨g, 0, none⟩, cap, rfl, hn, hc, (fun h => by cases h), .inr ⟨g, 0, rfl, fun i hi => ?_⟩⟩
    have := h'.cellAt i (by omega)
    rw [BoV_get ns i hi] at this
    simpa using this
theorem OwnB.below {w w' : World} {base : Nat} {v : Value} {ns : List Bool} (h : OwnB w base v ns) (hb : Below w.heap.size w w') : OwnB w' base v ns := own_below h hb
theorem OwnB.drewN {w : World} {base : Nat} {v : Value} {ns : List Bool} (h : OwnB w base v ns) (q : Nat) : OwnB (w.drewN q) base v ns := h
theorem OwnB.mono {w : World} {base base' : Nat} {v : Value} {ns : List Bool} (h : OwnB w base v ns) (hb : base' ≤ base) : OwnB w base' v ns := by
  refine ⟨h.1, ?_⟩
  rcases h.2 with h2 | ⟨g, cap, cur, hv, hg, r⟩
  · exact .inl h2
  · exact .inr ⟨g, cap, cur, hv, Nat.le_trans hb hg, r⟩
theorem RdB.below {w w' : World} {v : Value} {ns : List Bool} (h : RdB w v ns) (hb : Below w.heap.size w w') : RdB w' v ns := by
  obtain ⟨a, cap, hv, h1, h2, h0, h3⟩ := h
  refine ⟨a, cap, hv, h1, h2, h0, ?_⟩
  rcases h3 with h3 | ⟨b, off, ha, hc⟩
  · exact .inl h3
  · exact .inr ⟨b, off, ha, fun i hi => by rw [hb.cell (World.block_lt_of_cell? w _ (hc i hi))]; exact hc i hi⟩
theorem RdB.drewN {w : World} {v : Value} {ns : List Bool} (h : RdB w v ns) (q : Nat) : RdB (w.drewN q) v ns := h
theorem rdB_nil (w : World) : RdB w (.slice none 0 0) [] := ⟨none, 0, rfl, Nat.le_refl _, Nat.zero_le _, fun _ => rfl, .inl rfl⟩
theorem ownB_none (w : World) : OwnB (w.alloc (.cells #[] 4)) w.heap.size (.slice (some ⟨w.heap.size, 0, none⟩) 0 0) [] := World.ownsRow_lit w #[] 0 (Nat.le_refl _) (Nat.zero_le _) rfl
theorem ownB_nil (w : World) (B : Nat) : OwnB w B (.slice none 0 0) [] := ⟨rfl, .inl ⟨rfl, rfl⟩⟩
theorem ownB_one (w : World) (n : Bool) : OwnB (w.alloc (.cells #[.bool n] 4)) w.heap.size (.slice (some ⟨w.heap.size, 0, none⟩) 1 1) [n] := World.ownsRow_lit w #[.bool n] 1 (Nat.le_refl _) (by unfold maxLen; omega) rfl
theorem ownB_lt {w : World} {B : Nat} {v : Value} {ns : List Bool} (h : OwnB w B v ns) : ∀ k, v.ownBlock = some k → k < w.heap.size := fun k hk => (World.ownsRow.lt h k hk).2
theorem ownB_more {w1 : World} {B : Nat} {v' : Value} {ys zs : List Bool} (h : w1.ownsRow B 4 1 v' (ys.length + zs.length) (BoV ys ++ BoV zs)) : OwnB w1 B v' (ys ++ zs) := by
  unfold OwnB
  rw [BoV_append, List.length_append]
  exact h
theorem ownB_some {w : World} {B : Nat} {v : Value} {ns : List Bool} (h : OwnB w B v ns) (hn : ns ≠ []) : ∃ g cap, v = .slice (some ⟨g, 0, none⟩) ns.length cap := by
  rcases h.2 with ⟨_, h0⟩ | ⟨g, cap, cur, hv, _⟩
  · exact absurd (List.length_eq_zero_iff.1 h0) hn
  · exact ⟨g, cap, hv⟩
theorem RdB.at {w : World} {a : Option Addr} {n cap : Nat} {ns : List Bool} (h : RdB w (.slice a n cap) ns) (i : Nat) (hi : i < ns.length) : ∃ b off, a = some ⟨b, off, none⟩ ∧ w.cell? ⟨b, off + i, none⟩ = some (.bool ns[i]) := by
  obtain ⟨a', cap', hv, _, _, _, h3⟩ := h
  simp only [Value.slice.injEq] at hv
  obtain ⟨rfl, _, _⟩ := hv
  rcases h3 with rfl | ⟨b, off, ha, hc⟩
  · simp at hi
  · exact ⟨b, off, ha, hc i hi⟩
theorem rdB_take {w : World} {a : Option Addr} {n cap k : Nat} {ns : List Bool} (h : RdB w (.slice a n cap) ns) (hk : k ≤ ns.length) : RdB w (.slice a k cap) (ns.take k) := by
  obtain ⟨a', cap', hv, h1, h2, h0, h3⟩ := h
  simp only [Value.slice.injEq] at hv
  obtain ⟨rfl, _, rfl⟩ := hv
  have hl : (ns.take k).length = k := by rw [List.length_take]; omega
  refine ⟨a, cap, by rw [hl], by omega, h2, h0, ?_⟩
  rcases h3 with rfl | ⟨b, off, ha, hc⟩
  · exact .inl (by simp)
  · exact .inr ⟨b, off, ha, fun i hi => by rw [List.getElem_take]; exact hc i (by omega)⟩
theorem rdB_cut {w : World} {b off n cap k : Nat} {ns : List Bool} (h : RdB w (.slice (some ⟨b, off, none⟩) n cap) ns) (hk : k ≤ ns.length) : RdB w (.slice (if cap = k then some ⟨b, off, none⟩ else some ⟨b, off + k, none⟩) (ns.length - k) (cap - k)) (ns.drop k) := by
  obtain ⟨a', cap', hv, h1, h2, h0, h3⟩ := h
  simp only [Value.slice.injEq] at hv
  obtain ⟨rfl, _, rfl⟩ := hv
  have hl : (ns.drop k).length = ns.length - k := List.length_drop
  split
  · rename_i hck
    have hl0 : ns.length - k = 0 := by omega
    rw [hl0]
    exact ⟨_, _, by rw [hl, hl0], by rw [hl]; omega, by omega, (fun h => by cases h), .inl (List.drop_eq_nil_of_le (by omega))⟩
  · refine ⟨_, _, by rw [hl], by omega, by omega, (fun h => by cases h), ?_⟩
    rcases h3 with rfl | ⟨b', off', ha, hc⟩
    · exact .inl (by simp)
    · cases ha
      refine .inr ⟨b, off + k, rfl, fun i hi => ?_⟩
      have := hc (k + i) (by omega)
      rw [← Nat.add_assoc] at this
      rw [this, List.getElem_drop]
/-- append of numbers that can be read onto a row of the call's own. -/
theorem run_append_bools (ty : TypeId) {w : World} {base : Nat} {v u : Value} {ys zs : List Bool} (hown : OwnB w base v ys) (hr : RdB w u zs) (hl : ys.length + zs.length ≤ 1000000000) (hbase : base ≤ w.heap.size) :
    ∃ v' w', (Builtin.append_ #[55, 55] ty #[v, u]).run Tryz.prog w = .ok v' w' ∧ OwnB w' base v' (ys ++ zs) ∧ w.grownBy w' v.ownBlock := by
  obtain ⟨i0, hi, hz0, hz1, hz2⟩ := info_parts Tryz.infoB4
  obtain ⟨a, cap, rfl, h1, h2, h0, h3⟩ := hr
  have row : ∀ ad, (∀ j u, (BoV zs)[j]? = some u → w.cell? (ad.add j) = some u) → ∃ v' w', (Builtin.append_ #[55, 55] ty #[v, .slice (some ad) zs.length cap]).run Tryz.prog w = .ok v' w' ∧ OwnB w' base v' (ys ++ zs) ∧ w.grownBy w' v.ownBlock := by
    intro ad hc
    obtain ⟨v', w', hrun, r1, r2, _⟩ := run_append_own (P := Tryz.prog) w base 55 ty 4 i0 _ 1 1 Tryz.underlying55 hi hz0 hz1 hz2 rfl (by decide) v ys.length (BoV ys) hown ad zs.length cap (BoV zs) (by rw [BoV_length]; omega) hc (BoV_oneCell zs) (by unfold maxLen; omega) (by omega) hbase
    exact ⟨v', w', hrun, ownB_more r1, r2⟩
  cases a with
  | some ad =>
    refine row ad ?_
    rcases h3 with rfl | ⟨b, off, ha, hc⟩
    · intro j u hj; simp [BoV] at hj
    · cases ha
      intro j u hj
      have hjl : j < zs.length := by have := (List.getElem?_eq_some_iff.1 hj).1; rwa [BoV_length] at this
      rw [BoV_get zs j hjl] at hj
      cases hj
      rw [Addr.add_lit]
      exact hc j hjl
  | none =>
    have hc0 := h0 rfl
    subst hc0
    rcases h3 with rfl | ⟨b, off, ha, hc⟩
    · refine ⟨v, w, run_append_owned_none (P := Tryz.prog) w base 55 ty 4 i0 1 Tryz.underlying55 hi v ys.length (BoV ys) hown, by simpa using hown, ⟨rfl, rfl, rfl, Nat.le_refl _, fun _ _ _ => rfl⟩⟩
    · cases ha
theorem wpList_append_bools {w : World} {ops : Array Oper} {rest : List Oper} {o : Oper} {a : Act} {Q : Exit → Act → World → Prop} (hgd : o.guard = none) (s x : Operand)
    (ho : o.op = .call { callee := .builtin .append, args := #[s, x], argTypes := #[55, 55] }) (base : Nat) (v u : Value) (ys zs : List Bool) (hs : a.eval s = v) (hx : a.eval x = u) (hown : OwnB w base v ys) (hr : RdB w u zs) (hl : ys.length + zs.length ≤ 1000000000) (hbase : base ≤ w.heap.size)
    (h : ∀ v' w', OwnB w' base v' (ys ++ zs) → w.grownBy w' v.ownBlock → wpList Tryz.prog ops Q rest (a.put o.dst v') w') : wpList Tryz.prog ops Q (o :: rest) a w := by
  refine wpList_plain hgd fun K hK => ?_
  obtain ⟨v', w', hrun, r1, r2⟩ := run_append_bools o.type hown hr hl hbase
  unfold Oper.wp
  simp [execOp, ho, resolve, invoke, builtin, hs, hx, hrun, Result.andThen]
  exact hK _ _ (h v' w' r1 r2)
theorem step_append_bools {w : World} {ops : Array Oper} {o : Oper} {a : Act} {K : Act → World → Prop} {Q : Exit → Act → World → Prop} {E : Prop} (hgd : o.guard = none) (d : Nat) (hd : o.dst = some d) (s x : Operand)
    (ho : o.op = .call { callee := .builtin .append, args := #[s, x], argTypes := #[55, 55] }) (base : Nat) (v u : Value) (ys zs : List Bool) (hs : a.eval s = v) (hx : a.eval x = u) (hown : OwnB w base v ys) (hr : RdB w u zs) (hl : ys.length + zs.length ≤ 1000000000) (hbase : base ≤ w.heap.size)
    (h : ∀ v' w', OwnB w' base v' (ys ++ zs) → w.grownBy w' v.ownBlock → K (a.put (some d) v') w') :
    if Region.wanted o (yielded ops a.tmps) = true then Oper.wp Tryz.prog o a w K Q else E := by
  have hw : Region.wanted o (yielded ops a.tmps) = true := by simp [Region.wanted, hgd]
  rw [if_pos hw]
  obtain ⟨v', w', hrun, r1, r2⟩ := run_append_bools o.type hown hr hl hbase
  unfold Oper.wp
  simp [execOp, ho, resolve, invoke, builtin, hs, hx, hrun, Result.andThen]
  have h' := h v' w' r1 r2
  rw [← hd] at h'
  exact h'
end Go.Proofs.YtpidmmfjmbinkaaGreatDoor
