/- Plain facts on rows of Leafs (two numbers each) that a call owns or reads. -/
import Derived.Test.YtmfopbkhlekhkaaDoorGen
namespace Go.Proofs.YtmfopbkhlekhkaaDoor
open Go.RowKit
/-- A Leaf: its place and its value. -/
structure Lef where
  pl : Int
  va : Int
deriving DecidableEq
def zeroL : Lef := ⟨0, 0⟩
def nthL (xs : List Lef) (i : Nat) : Lef := xs.getD i zeroL
theorem nthL_eq {xs : List Lef} {i : Nat} (h : i < xs.length) : nthL xs i = xs[i] := by simp [nthL, List.getD, List.getElem?_eq_getElem h]
theorem nthL_zero (a : Lef) (r : List Lef) : nthL (a :: r) 0 = a := by simp [nthL]
instance : Inhabited Lef := ⟨zeroL⟩
theorem nthL_succ (a : Lef) (r : List Lef) (i : Nat) : nthL (a :: r) (i + 1) = nthL r i := by simp [nthL, List.getD]
theorem Tryd.infoL42 : (Tryd.prog.info? 42).map (fun i => (i.zero, i.size, i.bytes)) = some (some (.agg #[.int .i64 0, .int .i64 0]), 2, 16) := by kernel_rfl
/-- The two cells of a Leaf. -/
def LC (e : Lef) : List Value := [.int .i64 e.pl, .int .i64 e.va]
def LA (e : Lef) : Value := .agg #[.int .i64 e.pl, .int .i64 e.va]
def LV (es : List Lef) : List Value := es.flatMap LC
theorem LV_length : ∀ es : List Lef, (LV es).length = es.length * 2
  | [] => rfl
  | a :: r => by
    have := LV_length r
    unfold LV at this ⊢
    rw [List.flatMap_cons, List.length_append, this, List.length_cons]
    simp [LC]; omega
theorem LV_append (a b : List Lef) : LV (a ++ b) = LV a ++ LV b := by simp [LV]
theorem LV_one (e : Lef) : LV [e] = LC e := by simp [LV]
theorem LV_cons (a : Lef) (r : List Lef) : LV (a :: r) = LC a ++ LV r := by simp [LV]
theorem LV_get : ∀ (es : List Lef) (i : Nat), i < es.length → ∀ j, j < 2 → (LV es)[i * 2 + j]? = (LC (nthL es i))[j]?
  | [], i, h, _, _ => by simp at h
  | a :: r, 0, _, j, hj => by
    rw [LV_cons, nthL_zero, Nat.zero_mul, Nat.zero_add, List.getElem?_append_left (by simp [LC]; exact hj)]
  | a :: r, i + 1, h, j, hj => by
    rw [LV_cons, nthL_succ, ← LV_get r i (by simpa using h) j hj, List.getElem?_append_right (by simp [LC]; omega)]
    congr 1
    simp [LC]; omega
theorem LV_oneCell (es : List Lef) : ∀ u ∈ LV es, u.oneCell' = true := by
  intro u hu
  simp only [LV, List.mem_flatMap] at hu
  obtain ⟨e, _, he⟩ := hu
  simp only [LC, List.mem_cons, List.not_mem_nil, or_false] at he
  rcases he with rfl | rfl <;> rfl
/-- The entry e lies at offset o of block b. -/
def LefAt (w : World) (b o : Nat) (e : Lef) : Prop :=
  w.cell? ⟨b, o, none⟩ = some (.int .i64 e.pl) ∧ w.cell? ⟨b, o + 1, none⟩ = some (.int .i64 e.va)
/-- The slice v is the call's own (its block is at least number base) and holds the entries es. -/
def OwnL (w : World) (base : Nat) (v : Value) (es : List Lef) : Prop := w.ownsRow base 42 2 v es.length (LV es)
/-- The slice v can be read and holds the entries es. -/
def RdL (w : World) (v : Value) (es : List Lef) : Prop :=
  ∃ a cap, v = .slice a es.length cap ∧ es.length ≤ cap ∧ cap ≤ maxLen ∧ (a = none → cap = 0) ∧
    (es = [] ∨ ∃ b off, a = some ⟨b, off, none⟩ ∧ ∀ i, i < es.length → LefAt w b (off + i * 2) (nthL es i))
theorem LefAt.lt {w : World} {b o : Nat} {e : Lef} (h : LefAt w b o e) : b < w.heap.size := World.block_lt_of_cell? w _ h.1
theorem LefAt.of_block {w w' : World} {b o : Nat} {e : Lef} (h : LefAt w b o e) (hb : w'.heap[b]? = w.heap[b]?) : LefAt w' b o e :=
  ⟨(World.cell?_of_block (a := ⟨b, o, none⟩) hb).trans h.1, (World.cell?_of_block (a := ⟨b, o + 1, none⟩) hb).trans h.2⟩
theorem LefAt.below {w w' : World} {b o : Nat} {e : Lef} (h : LefAt w b o e) (hb : Below w.heap.size w w') : LefAt w' b o e := h.of_block (hb.block b h.lt)
theorem ownL_cell {w : World} {base g cap n : Nat} {es : List Lef} (h : w.ownsRow base 42 2 (.slice (some ⟨g, 0, none⟩) n cap) n (LV es)) (hn : n = es.length) (i : Nat) (hi : i < n) : LefAt w g (i * 2) (nthL es i) := by
  subst hn
  have c : ∀ j, j < 2 → w.cell? ⟨g, i * 2 + j, none⟩ = (LC (nthL es i))[j]? := fun j hj => (h.cellAt (i * 2 + j) (by omega)).trans (LV_get es i hi j hj)
  exact ⟨c 0 (by omega), c 1 (by omega)⟩
theorem OwnL.rd {w : World} {base : Nat} {v : Value} {es : List Lef} (h : OwnL w base v es) : RdL w v es := by
  have h' := h
  rcases h.2 with ⟨rfl, h0⟩ | ⟨g, cap, cur, rfl, hb, hg, hn, hc, hs, ht⟩
  · have : es = [] := List.length_eq_zero_iff.1 h0
    subst this
    exact ⟨none, 0, rfl, Nat.le_refl _, Nat.zero_le _, fun _ => rfl, .inl rfl⟩
  · refine ⟨some ⟨g, 0, none⟩, cap, rfl, hn, hc, (fun h => by cases h), .inr ⟨g, 0, rfl, fun i hi => ?_⟩⟩
    rw [Nat.zero_add]
    exact ownL_cell h' rfl i hi
theorem OwnL.below {w w' : World} {base : Nat} {v : Value} {es : List Lef} (h : OwnL w base v es) (hb : Below w.heap.size w w') : OwnL w' base v es := own_below h hb
theorem OwnL.drewN {w : World} {base : Nat} {v : Value} {es : List Lef} (h : OwnL w base v es) (q : Nat) : OwnL (w.drewN q) base v es := h
theorem OwnL.mono {w : World} {base base' : Nat} {v : Value} {es : List Lef} (h : OwnL w base v es) (hb : base' ≤ base) : OwnL w base' v es := by
  refine ⟨h.1, ?_⟩
  rcases h.2 with h2 | ⟨g, cap, cur, hv, hg, r⟩
  · exact .inl h2
  · exact .inr ⟨g, cap, cur, hv, Nat.le_trans hb hg, r⟩
theorem RdL.below {w w' : World} {v : Value} {es : List Lef} (h : RdL w v es) (hb : Below w.heap.size w w') : RdL w' v es := by
  obtain ⟨a, cap, hv, h1, h2, h0, h3⟩ := h
  refine ⟨a, cap, hv, h1, h2, h0, ?_⟩
  rcases h3 with h3 | ⟨b, off, ha, hc⟩
  · exact .inl h3
  · exact .inr ⟨b, off, ha, fun i hi => (hc i hi).below hb⟩
theorem RdL.drewN {w : World} {v : Value} {es : List Lef} (h : RdL w v es) (q : Nat) : RdL (w.drewN q) v es := h
theorem rdL_nil (w : World) : RdL w (.slice none 0 0) [] := ⟨none, 0, rfl, Nat.le_refl _, Nat.zero_le _, fun _ => rfl, .inl rfl⟩
theorem ownL_none (w : World) : OwnL (w.alloc (.cells #[] 42)) w.heap.size (.slice (some ⟨w.heap.size, 0, none⟩) 0 0) [] := World.ownsRow_lit w #[] 0 (Nat.le_refl _) (Nat.zero_le _) rfl
theorem ownL_lt {w : World} {B : Nat} {v : Value} {es : List Lef} (h : OwnL w B v es) : ∀ k, v.ownBlock = some k → k < w.heap.size := fun k hk => (World.ownsRow.lt h k hk).2
theorem ownL_more {w1 : World} {B : Nat} {v' : Value} {ys zs : List Lef} (h : w1.ownsRow B 42 2 v' (ys.length + zs.length) (LV ys ++ LV zs)) : OwnL w1 B v' (ys ++ zs) := by
  unfold OwnL
  rw [LV_append, List.length_append]
  exact h
/-- Where an entry of a slice lies. -/
theorem RdL.at {w : World} {a : Option Addr} {n cap : Nat} {es : List Lef} (h : RdL w (.slice a n cap) es) (hn : n = es.length) (i : Nat) (hi : i < es.length) : ∃ b off, a = some ⟨b, off, none⟩ ∧ LefAt w b (off + i * 2) (nthL es i) := by
  obtain ⟨a', cap', hv, _, _, _, h3⟩ := h
  simp only [Value.slice.injEq] at hv
  obtain ⟨rfl, _, _⟩ := hv
  rcases h3 with rfl | ⟨b, off, ha, hc⟩
  · simp at hi
  · exact ⟨b, off, ha, hc i hi⟩
theorem LV_nth {es : List Lef} {j : Nat} {u : Value} (h : (LV es)[j]? = some u) : j / 2 < es.length ∧ (LC (nthL es (j / 2)))[j % 2]? = some u := by
  have hj : j < (LV es).length := (List.getElem?_eq_some_iff.1 h).1
  rw [LV_length] at hj
  have h1 : j / 2 < es.length := by omega
  refine ⟨h1, ?_⟩
  have h2 := LV_get es (j / 2) h1 (j % 2) (by omega)
  rw [show j / 2 * 2 + j % 2 = j by omega] at h2
  rw [← h2]; exact h
theorem LefAt.cellAt {w : World} {b o : Nat} {e : Lef} (h : LefAt w b o e) {j : Nat} {u : Value} (hu : (LC e)[j]? = some u) : w.cell? ⟨b, o + j, none⟩ = some u := by
  obtain ⟨h0, h1⟩ := h
  match j, hu with
  | 0, hu => simp [LC] at hu; subst hu; exact h0
  | 1, hu => simp [LC] at hu; subst hu; exact h1
/-- The cells of a slice of entries, in a row. -/
theorem lefsAt_cells {w : World} {b off : Nat} {es : List Lef} (h : ∀ i, i < es.length → LefAt w b (off + i * 2) (nthL es i)) : ∀ j u, (LV es)[j]? = some u → w.cell? ((⟨b, off, none⟩ : Addr).add j) = some u := by
  intro j u hu
  obtain ⟨h1, h2⟩ := LV_nth hu
  have := (h _ h1).cellAt h2
  rw [Addr.add_lit]
  rw [show off + j / 2 * 2 + j % 2 = off + j by omega] at this
  exact this
/-- append of entries that can be read onto a row of the call's own. -/
theorem run_append_lefs (ty : TypeId) {w : World} {base : Nat} {v u : Value} {ys zs : List Lef} (hown : OwnL w base v ys) (hr : RdL w u zs) (hl : ys.length + zs.length ≤ 1000000000) (hbase : base ≤ w.heap.size) :
    ∃ v' w', (Builtin.append_ #[24, 24] ty #[v, u]).run Tryd.prog w = .ok v' w' ∧ OwnL w' base v' (ys ++ zs) ∧ w.grownBy w' v.ownBlock := by
  obtain ⟨i0, hi, hz0, hz1, hz2⟩ := info_parts Tryd.infoL42
  obtain ⟨a, cap, rfl, h1, h2, h0, h3⟩ := hr
  have row : ∀ ad news, news = LV zs → (∀ j u, news[j]? = some u → w.cell? (ad.add j) = some u) → ∃ v' w', (Builtin.append_ #[24, 24] ty #[v, .slice (some ad) zs.length cap]).run Tryd.prog w = .ok v' w' ∧ OwnL w' base v' (ys ++ zs) ∧ w.grownBy w' v.ownBlock := by
    intro ad news hn hc
    subst hn
    obtain ⟨v', w', hrun, r1, r2, _⟩ := run_append_own (P := Tryd.prog) w base 24 ty 42 i0 _ 2 16 Tryd.underlying24 hi hz0 hz1 hz2 rfl (by decide) v ys.length (LV ys) hown ad zs.length cap (LV zs) (LV_length zs) hc (LV_oneCell zs) (by unfold maxLen; omega) (by omega) hbase
    exact ⟨v', w', hrun, ownL_more r1, r2⟩
  cases a with
  | some ad =>
    refine row ad (LV zs) rfl ?_
    rcases h3 with rfl | ⟨b, off, ha, hc⟩
    · intro j u hj; simp [LV] at hj
    · cases ha; exact lefsAt_cells hc
  | none =>
    have hc0 := h0 rfl
    subst hc0
    rcases h3 with rfl | ⟨b, off, ha, hc⟩
    · refine ⟨v, w, run_append_owned_none (P := Tryd.prog) w base 24 ty 42 i0 2 Tryd.underlying24 hi v ys.length (LV ys) hown, by simpa using hown, ⟨rfl, rfl, rfl, Nat.le_refl _, fun _ _ _ => rfl⟩⟩
    · cases ha
theorem wpList_append_lefs {w : World} {ops : Array Oper} {rest : List Oper} {o : Oper} {a : Act} {Q : Exit → Act → World → Prop} (hgd : o.guard = none) (s x : Operand)
    (ho : o.op = .call { callee := .builtin .append, args := #[s, x], argTypes := #[24, 24] }) (base : Nat) (v u : Value) (ys zs : List Lef) (hs : a.eval s = v) (hx : a.eval x = u) (hown : OwnL w base v ys) (hr : RdL w u zs) (hl : ys.length + zs.length ≤ 1000000000) (hbase : base ≤ w.heap.size)
    (h : ∀ v' w', OwnL w' base v' (ys ++ zs) → w.grownBy w' v.ownBlock → wpList Tryd.prog ops Q rest (a.put o.dst v') w') : wpList Tryd.prog ops Q (o :: rest) a w := by
  refine wpList_plain hgd fun K hK => ?_
  obtain ⟨v', w', hrun, r1, r2⟩ := run_append_lefs o.type hown hr hl hbase
  unfold Oper.wp
  simp [execOp, ho, resolve, invoke, builtin, hs, hx, hrun, Result.andThen]
  exact hK _ _ (h v' w' r1 r2)
theorem step_append_lefs {w : World} {ops : Array Oper} {o : Oper} {a : Act} {K : Act → World → Prop} {Q : Exit → Act → World → Prop} {E : Prop} (hgd : o.guard = none) (d : Nat) (hd : o.dst = some d) (s x : Operand)
    (ho : o.op = .call { callee := .builtin .append, args := #[s, x], argTypes := #[24, 24] }) (base : Nat) (v u : Value) (ys zs : List Lef) (hs : a.eval s = v) (hx : a.eval x = u) (hown : OwnL w base v ys) (hr : RdL w u zs) (hl : ys.length + zs.length ≤ 1000000000) (hbase : base ≤ w.heap.size)
    (h : ∀ v' w', OwnL w' base v' (ys ++ zs) → w.grownBy w' v.ownBlock → K (a.put (some d) v') w') :
    if Region.wanted o (yielded ops a.tmps) = true then Oper.wp Tryd.prog o a w K Q else E := by
  have hw : Region.wanted o (yielded ops a.tmps) = true := by simp [Region.wanted, hgd]
  rw [if_pos hw]
  obtain ⟨v', w', hrun, r1, r2⟩ := run_append_lefs o.type hown hr hl hbase
  unfold Oper.wp
  simp [execOp, ho, resolve, invoke, builtin, hs, hx, hrun, Result.andThen]
  have h' := h v' w' r1 r2
  rw [← hd] at h'
  exact h'
end Go.Proofs.YtmfopbkhlekhkaaDoor
