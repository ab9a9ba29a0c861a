/- Plain facts on rows of Offers (a number and a text each) that a call owns or reads. -/
import Derived.Test.YteohiicaiilicaaGen
namespace Go.Proofs.Yteohiicaiilicaa
open Go.RowKit
/-- An Offer: what it pays, and its text. -/
structure Off where
  fee : Int
  text : ByteArray
def zeroO : Off := ⟨0, ⟨#[]⟩⟩
def nthO (xs : List Off) (i : Nat) : Off := xs.getD i zeroO
theorem nthO_eq {xs : List Off} {i : Nat} (h : i < xs.length) : nthO xs i = xs[i] := by simp [nthO, List.getD, List.getElem?_eq_getElem h]
theorem nthO_zero (a : Off) (r : List Off) : nthO (a :: r) 0 = a := by simp [nthO]
instance : Inhabited Off := ⟨zeroO⟩
theorem nthO_succ (a : Off) (r : List Off) (i : Nat) : nthO (a :: r) (i + 1) = nthO r i := by simp [nthO, List.getD]
theorem Try.infoO26 : (Try.prog.info? 26).map (fun i => (i.zero, i.size, i.bytes)) = some (some (.agg #[.int .i64 0, .string ⟨#[]⟩]), 2, 24) := by kernel_rfl
/-- The two cells of an Offer. -/
def OC (e : Off) : List Value := [.int .i64 e.fee, .string e.text]
def OA (e : Off) : Value := .agg #[.int .i64 e.fee, .string e.text]
def OV (es : List Off) : List Value := es.flatMap OC
theorem OV_length : ∀ es : List Off, (OV es).length = es.length * 2
  | [] => rfl
  | a :: r => by
    have := OV_length r
    unfold OV at this ⊢
    rw [List.flatMap_cons, List.length_append, this, List.length_cons]
    simp [OC]; omega
theorem OV_append (a b : List Off) : OV (a ++ b) = OV a ++ OV b := by simp [OV]
theorem OV_one (e : Off) : OV [e] = OC e := by simp [OV]
theorem OV_cons (a : Off) (r : List Off) : OV (a :: r) = OC a ++ OV r := by simp [OV]
theorem OV_get : ∀ (es : List Off) (i : Nat), i < es.length → ∀ j, j < 2 → (OV es)[i * 2 + j]? = (OC (nthO es i))[j]?
  | [], i, h, _, _ => by simp at h
  | a :: r, 0, _, j, hj => by
    rw [OV_cons, nthO_zero, Nat.zero_mul, Nat.zero_add, List.getElem?_append_left (by simp [OC]; exact hj)]
  | a :: r, i + 1, h, j, hj => by
    rw [OV_cons, nthO_succ, ← OV_get r i (by simpa using h) j hj, List.getElem?_append_right (by simp [OC]; omega)]
    congr 1
    simp [OC]; omega
theorem OV_oneCell (es : List Off) : ∀ u ∈ OV es, u.oneCell' = true := by
  intro u hu
  simp only [OV, List.mem_flatMap] at hu
  obtain ⟨e, _, he⟩ := hu
  simp only [OC, List.mem_cons, List.not_mem_nil, or_false] at he
  rcases he with rfl | rfl <;> rfl
/-- The entry e lies at offset o of block b. -/
def OffAt (w : World) (b o : Nat) (e : Off) : Prop :=
  w.cell? ⟨b, o, none⟩ = some (.int .i64 e.fee) ∧ w.cell? ⟨b, o + 1, none⟩ = some (.string e.text)
/-- The slice v is the call's own (its block is at least number base) and holds the entries es. -/
def OwnO (w : World) (base : Nat) (v : Value) (es : List Off) : Prop := w.ownsRow base 26 2 v es.length (OV es)
/-- The slice v can be read and holds the entries es. -/
def RdO (w : World) (v : Value) (es : List Off) : Prop :=
  ∃ a cap, v = .slice a es.length cap ∧ es.length ≤ cap ∧ cap ≤ maxLen ∧ (a = none → cap = 0) ∧
    (es = [] ∨ ∃ b off, a = some ⟨b, off, none⟩ ∧ ∀ i, i < es.length → OffAt w b (off + i * 2) (nthO es i))
theorem OffAt.lt {w : World} {b o : Nat} {e : Off} (h : OffAt w b o e) : b < w.heap.size := World.block_lt_of_cell? w _ h.1
theorem OffAt.of_block {w w' : World} {b o : Nat} {e : Off} (h : OffAt w b o e) (hb : w'.heap[b]? = w.heap[b]?) : OffAt w' b o e :=
  ⟨(World.cell?_of_block (a := ⟨b, o, none⟩) hb).trans h.1, (World.cell?_of_block (a := ⟨b, o + 1, none⟩) hb).trans h.2⟩
theorem OffAt.below {w w' : World} {b o : Nat} {e : Off} (h : OffAt w b o e) (hb : Below w.heap.size w w') : OffAt w' b o e := h.of_block (hb.block b h.lt)
theorem ownO_cell {w : World} {base g cap n : Nat} {es : List Off} (h : w.ownsRow base 26 2 (.slice (some ⟨g, 0, none⟩) n cap) n (OV es)) (hn : n = es.length) (i : Nat) (hi : i < n) : OffAt w g (i * 2) (nthO es i) := by
  subst hn
  have c : ∀ j, j < 2 → w.cell? ⟨g, i * 2 + j, none⟩ = (OC (nthO es i))[j]? := fun j hj => (h.cellAt (i * 2 + j) (by omega)).trans (OV_get es i hi j hj)
  exact ⟨c 0 (by omega), c 1 (by omega)⟩
theorem OwnO.rd {w : World} {base : Nat} {v : Value} {es : List Off} (h : OwnO w base v es) : RdO w v es := by
  have h' := h
  rcases h.2 with ⟨rfl, h0⟩ | ⟨g, cap, cur, rfl, hb, hg, hn, hc, hs, ht⟩
  · have : es = [] := List.length_eq_zero_iff.1 h0
    subst this
    exact ⟨none, 0, rfl, Nat.le_refl _, Nat.zero_le _, fun _ => rfl, .inl rfl⟩
  · refine ⟨some ⟨g, 0, none⟩, cap, rfl, hn, hc, (fun h => by cases h), .inr ⟨g, 0, rfl, fun i hi => ?_⟩⟩
    rw [Nat.zero_add]
    exact ownO_cell h' rfl i hi
theorem OwnO.below {w w' : World} {base : Nat} {v : Value} {es : List Off} (h : OwnO w base v es) (hb : Below w.heap.size w w') : OwnO w' base v es := own_below h hb
theorem OwnO.drewN {w : World} {base : Nat} {v : Value} {es : List Off} (h : OwnO w base v es) (q : Nat) : OwnO (w.drewN q) base v es := h
theorem OwnO.mono {w : World} {base base' : Nat} {v : Value} {es : List Off} (h : OwnO w base v es) (hb : base' ≤ base) : OwnO w base' v es := by
  refine ⟨h.1, ?_⟩
  rcases h.2 with h2 | ⟨g, cap, cur, hv, hg, r⟩
  · exact .inl h2
  · exact .inr ⟨g, cap, cur, hv, Nat.le_trans hb hg, r⟩
theorem RdO.below {w w' : World} {v : Value} {es : List Off} (h : RdO w v es) (hb : Below w.heap.size w w') : RdO w' v es := by
  obtain ⟨a, cap, hv, h1, h2, h0, h3⟩ := h
  refine ⟨a, cap, hv, h1, h2, h0, ?_⟩
  rcases h3 with h3 | ⟨b, off, ha, hc⟩
  · exact .inl h3
  · exact .inr ⟨b, off, ha, fun i hi => (hc i hi).below hb⟩
theorem RdO.drewN {w : World} {v : Value} {es : List Off} (h : RdO w v es) (q : Nat) : RdO (w.drewN q) v es := h
theorem rdO_nil (w : World) : RdO w (.slice none 0 0) [] := ⟨none, 0, rfl, Nat.le_refl _, Nat.zero_le _, fun _ => rfl, .inl rfl⟩
theorem ownO_none (w : World) : OwnO (w.alloc (.cells #[] 26)) w.heap.size (.slice (some ⟨w.heap.size, 0, none⟩) 0 0) [] := World.ownsRow_lit w #[] 0 (Nat.le_refl _) (Nat.zero_le _) rfl
theorem ownO_lt {w : World} {B : Nat} {v : Value} {es : List Off} (h : OwnO w B v es) : ∀ k, v.ownBlock = some k → k < w.heap.size := fun k hk => (World.ownsRow.lt h k hk).2
theorem ownO_more {w1 : World} {B : Nat} {v' : Value} {ys zs : List Off} (h : w1.ownsRow B 26 2 v' (ys.length + zs.length) (OV ys ++ OV zs)) : OwnO w1 B v' (ys ++ zs) := by
  unfold OwnO
  rw [OV_append, List.length_append]
  exact h
/-- Where an entry of a slice lies. -/
theorem RdO.at {w : World} {a : Option Addr} {n cap : Nat} {es : List Off} (h : RdO w (.slice a n cap) es) (hn : n = es.length) (i : Nat) (hi : i < es.length) : ∃ b off, a = some ⟨b, off, none⟩ ∧ OffAt w b (off + i * 2) (nthO es i) := by
  obtain ⟨a', cap', hv, _, _, _, h3⟩ := h
  simp only [Value.slice.injEq] at hv
  obtain ⟨rfl, _, _⟩ := hv
  rcases h3 with rfl | ⟨b, off, ha, hc⟩
  · simp at hi
  · exact ⟨b, off, ha, hc i hi⟩
theorem OV_nth {es : List Off} {j : Nat} {u : Value} (h : (OV es)[j]? = some u) : j / 2 < es.length ∧ (OC (nthO es (j / 2)))[j % 2]? = some u := by
  have hj : j < (OV es).length := (List.getElem?_eq_some_iff.1 h).1
  rw [OV_length] at hj
  have h1 : j / 2 < es.length := by omega
  refine ⟨h1, ?_⟩
  have h2 := OV_get es (j / 2) h1 (j % 2) (by omega)
  rw [show j / 2 * 2 + j % 2 = j by omega] at h2
  rw [← h2]; exact h
theorem OffAt.cellAt {w : World} {b o : Nat} {e : Off} (h : OffAt w b o e) {j : Nat} {u : Value} (hu : (OC e)[j]? = some u) : w.cell? ⟨b, o + j, none⟩ = some u := by
  obtain ⟨h0, h1⟩ := h
  match j, hu with
  | 0, hu => simp [OC] at hu; subst hu; exact h0
  | 1, hu => simp [OC] at hu; subst hu; exact h1
/-- The cells of a slice of entries, in a row. -/
theorem offsAt_cells {w : World} {b off : Nat} {es : List Off} (h : ∀ i, i < es.length → OffAt w b (off + i * 2) (nthO es i)) : ∀ j u, (OV es)[j]? = some u → w.cell? ((⟨b, off, none⟩ : Addr).add j) = some u := by
  intro j u hu
  obtain ⟨h1, h2⟩ := OV_nth hu
  have := (h _ h1).cellAt h2
  rw [Addr.add_lit]
  rw [show off + j / 2 * 2 + j % 2 = off + j by omega] at this
  exact this
/-- append of entries that can be read onto a row of the call's own. -/
theorem run_append_offs (ty : TypeId) {w : World} {base : Nat} {v u : Value} {ys zs : List Off} (hown : OwnO w base v ys) (hr : RdO w u zs) (hl : ys.length + zs.length ≤ 1000000000) (hbase : base ≤ w.heap.size) :
    ∃ v' w', (Builtin.append_ #[24, 24] ty #[v, u]).run Try.prog w = .ok v' w' ∧ OwnO w' base v' (ys ++ zs) ∧ w.grownBy w' v.ownBlock := by
  obtain ⟨i0, hi, hz0, hz1, hz2⟩ := info_parts Try.infoO26
  obtain ⟨a, cap, rfl, h1, h2, h0, h3⟩ := hr
  have row : ∀ ad news, news = OV zs → (∀ j u, news[j]? = some u → w.cell? (ad.add j) = some u) → ∃ v' w', (Builtin.append_ #[24, 24] ty #[v, .slice (some ad) zs.length cap]).run Try.prog w = .ok v' w' ∧ OwnO w' base v' (ys ++ zs) ∧ w.grownBy w' v.ownBlock := by
    intro ad news hn hc
    subst hn
    obtain ⟨v', w', hrun, r1, r2, _⟩ := run_append_own (P := Try.prog) w base 24 ty 26 i0 _ 2 24 Try.underlying24 hi hz0 hz1 hz2 rfl (by decide) v ys.length (OV ys) hown ad zs.length cap (OV zs) (OV_length zs) hc (OV_oneCell zs) (by unfold maxLen; omega) (by omega) hbase
    exact ⟨v', w', hrun, ownO_more r1, r2⟩
  cases a with
  | some ad =>
    refine row ad (OV zs) rfl ?_
    rcases h3 with rfl | ⟨b, off, ha, hc⟩
    · intro j u hj; simp [OV] at hj
    · cases ha; exact offsAt_cells hc
  | none =>
    have hc0 := h0 rfl
    subst hc0
    rcases h3 with rfl | ⟨b, off, ha, hc⟩
    · refine ⟨v, w, run_append_owned_none (P := Try.prog) w base 24 ty 26 i0 2 Try.underlying24 hi v ys.length (OV ys) hown, by simpa using hown, ⟨rfl, rfl, rfl, Nat.le_refl _, fun _ _ _ => rfl⟩⟩
    · cases ha
theorem wpList_append_offs {w : World} {ops : Array Oper} {rest : List Oper} {o : Oper} {a : Act} {Q : Exit → Act → World → Prop} (hgd : o.guard = none) (s x : Operand)
    (ho : o.op = .call { callee := .builtin .append, args := #[s, x], argTypes := #[24, 24] }) (base : Nat) (v u : Value) (ys zs : List Off) (hs : a.eval s = v) (hx : a.eval x = u) (hown : OwnO w base v ys) (hr : RdO w u zs) (hl : ys.length + zs.length ≤ 1000000000) (hbase : base ≤ w.heap.size)
    (h : ∀ v' w', OwnO w' base v' (ys ++ zs) → w.grownBy w' v.ownBlock → wpList Try.prog ops Q rest (a.put o.dst v') w') : wpList Try.prog ops Q (o :: rest) a w := by
  refine wpList_plain hgd fun K hK => ?_
  obtain ⟨v', w', hrun, r1, r2⟩ := run_append_offs o.type hown hr hl hbase
  unfold Oper.wp
  simp [execOp, ho, resolve, invoke, builtin, hs, hx, hrun, Result.andThen]
  exact hK _ _ (h v' w' r1 r2)
theorem step_append_offs {w : World} {ops : Array Oper} {o : Oper} {a : Act} {K : Act → World → Prop} {Q : Exit → Act → World → Prop} {E : Prop} (hgd : o.guard = none) (d : Nat) (hd : o.dst = some d) (s x : Operand)
    (ho : o.op = .call { callee := .builtin .append, args := #[s, x], argTypes := #[24, 24] }) (base : Nat) (v u : Value) (ys zs : List Off) (hs : a.eval s = v) (hx : a.eval x = u) (hown : OwnO w base v ys) (hr : RdO w u zs) (hl : ys.length + zs.length ≤ 1000000000) (hbase : base ≤ w.heap.size)
    (h : ∀ v' w', OwnO w' base v' (ys ++ zs) → w.grownBy w' v.ownBlock → K (a.put (some d) v') w') :
    if Region.wanted o (yielded ops a.tmps) = true then Oper.wp Try.prog o a w K Q else E := by
  have hw : Region.wanted o (yielded ops a.tmps) = true := by simp [Region.wanted, hgd]
  rw [if_pos hw]
  obtain ⟨v', w', hrun, r1, r2⟩ := run_append_offs o.type hown hr hl hbase
  unfold Oper.wp
  simp [execOp, ho, resolve, invoke, builtin, hs, hx, hrun, Result.andThen]
  have h' := h v' w' r1 r2
  rw [← hd] at h'
  exact h'
end Go.Proofs.Yteohiicaiilicaa
