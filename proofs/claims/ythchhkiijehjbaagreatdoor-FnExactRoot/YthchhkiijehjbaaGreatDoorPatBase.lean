/- Plain facts on rows of patches (two cells each) that a call owns or reads. -/
import Derived.Test.YthchhkiijehjbaaGreatDoorGen
namespace Go.Proofs.YthchhkiijehjbaaGreatDoor
open Go.RowKit
/-- A patch: where, and what. -/
structure Pat where
  pos : Int
  text : ByteArray
def zeroP : Pat := ⟨0, ⟨#[]⟩⟩
def nthP (xs : List Pat) (i : Nat) : Pat := xs.getD i zeroP
theorem nthP_eq {xs : List Pat} {i : Nat} (h : i < xs.length) : nthP xs i = xs[i] := by simp [nthP, List.getD, List.getElem?_eq_getElem h]
theorem nthP_zero (a : Pat) (r : List Pat) : nthP (a :: r) 0 = a := by simp [nthP]
instance : Inhabited Pat := ⟨zeroP⟩
theorem nthP_succ (a : Pat) (r : List Pat) (i : Nat) : nthP (a :: r) (i + 1) = nthP r i := by simp [nthP, List.getD]
theorem Tryz.infoPt68 : (Tryz.prog.info? 68).map (fun i => (i.zero, i.size, i.bytes)) = some (some (.agg #[.int .i64 0, .string ⟨#[]⟩]), 2, 24) := by kernel_rfl
/-- The four cells of an entry. -/
def PtC (e : Pat) : List Value := [.int .i64 e.pos, .string e.text]
def PtA (e : Pat) : Value := .agg #[.int .i64 e.pos, .string e.text]
def PtV (es : List Pat) : List Value := es.flatMap PtC
theorem PtV_length : ∀ es : List Pat, (PtV es).length = es.length * 2
  | [] => rfl
  | a :: r => by
    have := PtV_length r
    unfold PtV at this ⊢
    rw [List.flatMap_cons, List.length_append, this, List.length_cons]
    simp [PtC]; omega
theorem PtV_append (a b : List Pat) : PtV (a ++ b) = PtV a ++ PtV b := by simp [PtV]
theorem PtV_one (e : Pat) : PtV [e] = PtC e := by simp [PtV]
theorem PtV_cons (a : Pat) (r : List Pat) : PtV (a :: r) = PtC a ++ PtV r := by simp [PtV]
theorem PtV_get : ∀ (es : List Pat) (i : Nat), i < es.length → ∀ j, j < 2 → (PtV es)[i * 2 + j]? = (PtC (nthP es i))[j]?
  | [], i, h, _, _ => by simp at h
  | a :: r, 0, _, j, hj => by
    rw [PtV_cons, nthP_zero, Nat.zero_mul, Nat.zero_add, List.getElem?_append_left (by simp [PtC]; exact hj)]
  | a :: r, i + 1, h, j, hj => by
    rw [PtV_cons, nthP_succ, ← PtV_get r i (by simpa using h) j hj, List.getElem?_append_right (by simp [PtC]; omega)]
    congr 1
    simp [PtC]; omega
theorem PtV_oneCell (es : List Pat) : ∀ u ∈ PtV es, u.oneCell' = true := by
  intro u hu
  simp only [PtV, List.mem_flatMap] at hu
  obtain ⟨e, _, he⟩ := hu
  simp only [PtC, List.mem_cons, List.not_mem_nil, or_false] at he
  rcases he with rfl | rfl <;> rfl
/-- The entry e lies at offset o of block b. -/
def PatAt (w : World) (b o : Nat) (e : Pat) : Prop :=
  w.cell? ⟨b, o, none⟩ = some (.int .i64 e.pos) ∧ w.cell? ⟨b, o + 1, none⟩ = some (.string e.text)
/-- The slice v is the call's own (its block is at least number base) and holds the entries es. -/
def OwnPt (w : World) (base : Nat) (v : Value) (es : List Pat) : Prop := w.ownsRow base 68 2 v es.length (PtV es)
/-- The slice v can be read and holds the entries es. -/
def RdPt (w : World) (v : Value) (es : List Pat) : Prop :=
  ∃ a cap, v = .slice a es.length cap ∧ es.length ≤ cap ∧ cap ≤ maxLen ∧ (a = none → cap = 0) ∧
    (es = [] ∨ ∃ b off, a = some ⟨b, off, none⟩ ∧ ∀ i, i < es.length → PatAt w b (off + i * 2) (nthP es i))
theorem PatAt.lt {w : World} {b o : Nat} {e : Pat} (h : PatAt w b o e) : b < w.heap.size := World.block_lt_of_cell? w _ h.1
theorem PatAt.of_block {w w' : World} {b o : Nat} {e : Pat} (h : PatAt w b o e) (hb : w'.heap[b]? = w.heap[b]?) : PatAt w' b o e :=
  ⟨(World.cell?_of_block (a := ⟨b, o, none⟩) hb).trans h.1, (World.cell?_of_block (a := ⟨b, o + 1, none⟩) hb).trans h.2⟩
theorem PatAt.below {w w' : World} {b o : Nat} {e : Pat} (h : PatAt w b o e) (hb : Below w.heap.size w w') : PatAt w' b o e := h.of_block (hb.block b h.lt)
theorem ownPt_cell {w : World} {base g cap n : Nat} {es : List Pat} (h : w.ownsRow base 68 2 (.slice (some ⟨g, 0, none⟩) n cap) n (PtV es)) (hn : n = es.length) (i : Nat) (hi : i < n) : PatAt w g (i * 2) (nthP es i) := by
  subst hn
  have c : ∀ j, j < 2 → w.cell? ⟨g, i * 2 + j, none⟩ = (PtC (nthP es i))[j]? := fun j hj => (h.cellAt (i * 2 + j) (by omega)).trans (PtV_get es i hi j hj)
  exact ⟨c 0 (by omega), c 1 (by omega)⟩
theorem OwnPt.rd {w : World} {base : Nat} {v : Value} {es : List Pat} (h : OwnPt w base v es) : RdPt w v es := by
  have h' := h
  rcases h.2 with ⟨rfl, h0⟩ | ⟨g, cap, cur, rfl, hb, hg, hn, hc, hs, ht⟩
  · have : es = [] := List.length_eq_zero_iff.1 h0
    subst this
    exact ⟨none, 0, rfl, Nat.le_refl _, Nat.zero_le _, fun _ => rfl, .inl rfl⟩
  · refine ⟨some ⟨g, 0, none⟩, cap, rfl, hn, hc, (fun h => by cases h), .inr ⟨g, 0, rfl, fun i hi => ?_⟩⟩
    rw [Nat.zero_add]
    exact ownPt_cell h' rfl i hi
theorem OwnPt.below {w w' : World} {base : Nat} {v : Value} {es : List Pat} (h : OwnPt w base v es) (hb : Below w.heap.size w w') : OwnPt w' base v es := own_below h hb
theorem OwnPt.drewN {w : World} {base : Nat} {v : Value} {es : List Pat} (h : OwnPt w base v es) (q : Nat) : OwnPt (w.drewN q) base v es := h
theorem OwnPt.mono {w : World} {base base' : Nat} {v : Value} {es : List Pat} (h : OwnPt w base v es) (hb : base' ≤ base) : OwnPt w base' v es := by
  refine ⟨h.1, ?_⟩
  rcases h.2 with h2 | ⟨g, cap, cur, hv, hg, r⟩
  · exact .inl h2
  · exact .inr ⟨g, cap, cur, hv, Nat.le_trans hb hg, r⟩
theorem RdPt.below {w w' : World} {v : Value} {es : List Pat} (h : RdPt w v es) (hb : Below w.heap.size w w') : RdPt w' v es := by
  obtain ⟨a, cap, hv, h1, h2, h0, h3⟩ := h
  refine ⟨a, cap, hv, h1, h2, h0, ?_⟩
  rcases h3 with h3 | ⟨b, off, ha, hc⟩
  · exact .inl h3
  · exact .inr ⟨b, off, ha, fun i hi => (hc i hi).below hb⟩
theorem RdPt.drewN {w : World} {v : Value} {es : List Pat} (h : RdPt w v es) (q : Nat) : RdPt (w.drewN q) v es := h
theorem rdPt_nil (w : World) : RdPt w (.slice none 0 0) [] := ⟨none, 0, rfl, Nat.le_refl _, Nat.zero_le _, fun _ => rfl, .inl rfl⟩
theorem ownPt_none (w : World) : OwnPt (w.alloc (.cells #[] 68)) w.heap.size (.slice (some ⟨w.heap.size, 0, none⟩) 0 0) [] := World.ownsRow_lit w #[] 0 (Nat.le_refl _) (Nat.zero_le _) rfl
theorem ownPt_lt {w : World} {B : Nat} {v : Value} {es : List Pat} (h : OwnPt w B v es) : ∀ k, v.ownBlock = some k → k < w.heap.size := fun k hk => (World.ownsRow.lt h k hk).2
theorem ownPt_more {w1 : World} {B : Nat} {v' : Value} {ys zs : List Pat} (h : w1.ownsRow B 68 2 v' (ys.length + zs.length) (PtV ys ++ PtV zs)) : OwnPt w1 B v' (ys ++ zs) := by
  unfold OwnPt
  rw [PtV_append, List.length_append]
  exact h
/-- Where an entry of a slice lies. -/
theorem RdPt.at {w : World} {a : Option Addr} {n cap : Nat} {es : List Pat} (h : RdPt w (.slice a n cap) es) (hn : n = es.length) (i : Nat) (hi : i < es.length) : ∃ b off, a = some ⟨b, off, none⟩ ∧ PatAt w b (off + i * 2) (nthP es i) := by
  obtain ⟨a', cap', hv, _, _, _, h3⟩ := h
  simp only [Value.slice.injEq] at hv
  obtain ⟨rfl, _, _⟩ := hv
  rcases h3 with rfl | ⟨b, off, ha, hc⟩
  · simp at hi
  · exact ⟨b, off, ha, hc i hi⟩
theorem PtV_nth {es : List Pat} {j : Nat} {u : Value} (h : (PtV es)[j]? = some u) : j / 2 < es.length ∧ (PtC (nthP es (j / 2)))[j % 2]? = some u := by
  have hj : j < (PtV es).length := (List.getElem?_eq_some_iff.1 h).1
  rw [PtV_length] at hj
  have h1 : j / 2 < es.length := by omega
  refine ⟨h1, ?_⟩
  have h2 := PtV_get es (j / 2) h1 (j % 2) (by omega)
  rw [show j / 2 * 2 + j % 2 = j by omega] at h2
  rw [← h2]; exact h
theorem PatAt.cellAt {w : World} {b o : Nat} {e : Pat} (h : PatAt w b o e) {j : Nat} {u : Value} (hu : (PtC e)[j]? = some u) : w.cell? ⟨b, o + j, none⟩ = some u := by
  obtain ⟨h0, h1⟩ := h
  match j, hu with
  | 0, hu => simp [PtC] at hu; subst hu; exact h0
  | 1, hu => simp [PtC] at hu; subst hu; exact h1
/-- The cells of a slice of entries, in a row. -/
theorem patsAt_cells {w : World} {b off : Nat} {es : List Pat} (h : ∀ i, i < es.length → PatAt w b (off + i * 2) (nthP es i)) : ∀ j u, (PtV es)[j]? = some u → w.cell? ((⟨b, off, none⟩ : Addr).add j) = some u := by
  intro j u hu
  obtain ⟨h1, h2⟩ := PtV_nth hu
  have := (h _ h1).cellAt h2
  rw [Addr.add_lit]
  rw [show off + j / 2 * 2 + j % 2 = off + j by omega] at this
  exact this
/-- append of entries that can be read onto a row of the call's own. -/
theorem run_append_pats (ty : TypeId) {w : World} {base : Nat} {v u : Value} {ys zs : List Pat} (hown : OwnPt w base v ys) (hr : RdPt w u zs) (hl : ys.length + zs.length ≤ 1000000000) (hbase : base ≤ w.heap.size) :
    ∃ v' w', (Builtin.append_ #[29, 29] ty #[v, u]).run Tryz.prog w = .ok v' w' ∧ OwnPt w' base v' (ys ++ zs) ∧ w.grownBy w' v.ownBlock := by
  obtain ⟨i0, hi, hz0, hz1, hz2⟩ := info_parts Tryz.infoPt68
  obtain ⟨a, cap, rfl, h1, h2, h0, h3⟩ := hr
  have row : ∀ ad news, news = PtV zs → (∀ j u, news[j]? = some u → w.cell? (ad.add j) = some u) → ∃ v' w', (Builtin.append_ #[29, 29] ty #[v, .slice (some ad) zs.length cap]).run Tryz.prog w = .ok v' w' ∧ OwnPt w' base v' (ys ++ zs) ∧ w.grownBy w' v.ownBlock := by
    intro ad news hn hc
    subst hn
    obtain ⟨v', w', hrun, r1, r2, _⟩ := run_append_own (P := Tryz.prog) w base 29 ty 68 i0 _ 2 24 Tryz.underlying29 hi hz0 hz1 hz2 rfl (by decide) v ys.length (PtV ys) hown ad zs.length cap (PtV zs) (PtV_length zs) hc (PtV_oneCell zs) (by unfold maxLen; omega) (by omega) hbase
    exact ⟨v', w', hrun, ownPt_more r1, r2⟩
  cases a with
  | some ad =>
    refine row ad (PtV zs) rfl ?_
    rcases h3 with rfl | ⟨b, off, ha, hc⟩
    · intro j u hj; simp [PtV] at hj
    · cases ha; exact patsAt_cells hc
  | none =>
    have hc0 := h0 rfl
    subst hc0
    rcases h3 with rfl | ⟨b, off, ha, hc⟩
    · refine ⟨v, w, run_append_owned_none (P := Tryz.prog) w base 29 ty 68 i0 2 Tryz.underlying29 hi v ys.length (PtV ys) hown, by simpa using hown, ⟨rfl, rfl, rfl, Nat.le_refl _, fun _ _ _ => rfl⟩⟩
    · cases ha
theorem wpList_append_pats {w : World} {ops : Array Oper} {rest : List Oper} {o : Oper} {a : Act} {Q : Exit → Act → World → Prop} (hgd : o.guard = none) (s x : Operand)
    (ho : o.op = .call { callee := .builtin .append, args := #[s, x], argTypes := #[29, 29] }) (base : Nat) (v u : Value) (ys zs : List Pat) (hs : a.eval s = v) (hx : a.eval x = u) (hown : OwnPt w base v ys) (hr : RdPt w u zs) (hl : ys.length + zs.length ≤ 1000000000) (hbase : base ≤ w.heap.size)
    (h : ∀ v' w', OwnPt w' base v' (ys ++ zs) → w.grownBy w' v.ownBlock → wpList Tryz.prog ops Q rest (a.put o.dst v') w') : wpList Tryz.prog ops Q (o :: rest) a w := by
  refine wpList_plain hgd fun K hK => ?_
  obtain ⟨v', w', hrun, r1, r2⟩ := run_append_pats o.type hown hr hl hbase
  unfold Oper.wp
  simp [execOp, ho, resolve, invoke, builtin, hs, hx, hrun, Result.andThen]
  exact hK _ _ (h v' w' r1 r2)
theorem step_append_pats {w : World} {ops : Array Oper} {o : Oper} {a : Act} {K : Act → World → Prop} {Q : Exit → Act → World → Prop} {E : Prop} (hgd : o.guard = none) (d : Nat) (hd : o.dst = some d) (s x : Operand)
    (ho : o.op = .call { callee := .builtin .append, args := #[s, x], argTypes := #[29, 29] }) (base : Nat) (v u : Value) (ys zs : List Pat) (hs : a.eval s = v) (hx : a.eval x = u) (hown : OwnPt w base v ys) (hr : RdPt w u zs) (hl : ys.length + zs.length ≤ 1000000000) (hbase : base ≤ w.heap.size)
    (h : ∀ v' w', OwnPt w' base v' (ys ++ zs) → w.grownBy w' v.ownBlock → K (a.put (some d) v') w') :
    if Region.wanted o (yielded ops a.tmps) = true then Oper.wp Tryz.prog o a w K Q else E := by
  have hw : Region.wanted o (yielded ops a.tmps) = true := by simp [Region.wanted, hgd]
  rw [if_pos hw]
  obtain ⟨v', w', hrun, r1, r2⟩ := run_append_pats o.type hown hr hl hbase
  unfold Oper.wp
  simp [execOp, ho, resolve, invoke, builtin, hs, hx, hrun, Result.andThen]
  have h' := h v' w' r1 r2
  rw [← hd] at h'
  exact h'
end Go.Proofs.YthchhkiijehjbaaGreatDoor
