/- Plain facts on rows of Votes (4 numbers each) that a call owns or reads. -/
import Derived.Test.YtckidhcknibceaaGen
namespace Go.Proofs.Ytckidhcknibceaa
open Go.RowKit
/-- A Vote. -/
structure Vot where
  vw : Int
  nm : Int
  sv : Int
  tg : Int
deriving DecidableEq
/-- The numbers of a Vote are numbers of a program. -/
structure FitVo (x : Vot) : Prop where
  vw : -9223372036854775808 ≤ x.vw ∧ x.vw ≤ 9223372036854775807
  nm : -9223372036854775808 ≤ x.nm ∧ x.nm ≤ 9223372036854775807
  sv : -9223372036854775808 ≤ x.sv ∧ x.sv ≤ 9223372036854775807
  tg : -9223372036854775808 ≤ x.tg ∧ x.tg ≤ 9223372036854775807
def zeroVo : Vot := ⟨0, 0, 0, 0⟩
def nthVo (xs : List Vot) (i : Nat) : Vot := xs.getD i zeroVo
theorem nthVo_eq {xs : List Vot} {i : Nat} (h : i < xs.length) : nthVo xs i = xs[i] := by simp [nthVo, List.getD, List.getElem?_eq_getElem h]
theorem nthVo_zero (a : Vot) (r : List Vot) : nthVo (a :: r) 0 = a := by simp [nthVo]
instance : Inhabited Vot := ⟨zeroVo⟩
theorem nthVo_succ (a : Vot) (r : List Vot) (i : Nat) : nthVo (a :: r) (i + 1) = nthVo r i := by simp [nthVo, List.getD]
theorem Try.infoVo72 : (Try.prog.info? 72).map (fun i => (i.zero, i.size, i.bytes)) = some (some (.agg #[.int .i64 0, .int .i64 0, .int .i64 0, .int .i64 0]), 4, 32) := by kernel_rfl
/-- The cells of a Vote. -/
def VoC (e : Vot) : List Value := [.int .i64 e.vw, .int .i64 e.nm, .int .i64 e.sv, .int .i64 e.tg]
def VoA (e : Vot) : Value := .agg #[.int .i64 e.vw, .int .i64 e.nm, .int .i64 e.sv, .int .i64 e.tg]
def VoV (es : List Vot) : List Value := es.flatMap VoC
theorem VoV_length : ∀ es : List Vot, (VoV es).length = es.length * 4
  | [] => rfl
  | a :: r => by
    have := VoV_length r
    unfold VoV at this ⊢
    rw [List.flatMap_cons, List.length_append, this, List.length_cons]
    simp [VoC]; omega
theorem VoV_append (a b : List Vot) : VoV (a ++ b) = VoV a ++ VoV b := by simp [VoV]
theorem VoV_one (e : Vot) : VoV [e] = VoC e := by simp [VoV]
theorem VoV_cons (a : Vot) (r : List Vot) : VoV (a :: r) = VoC a ++ VoV r := by simp [VoV]
theorem VoV_get : ∀ (es : List Vot) (i : Nat), i < es.length → ∀ j, j < 4 → (VoV es)[i * 4 + j]? = (VoC (nthVo es i))[j]?
  | [], i, h, _, _ => by simp at h
  | a :: r, 0, _, j, hj => by
    rw [VoV_cons, nthVo_zero, Nat.zero_mul, Nat.zero_add, List.getElem?_append_left (by simp [VoC]; exact hj)]
  | a :: r, i + 1, h, j, hj => by
    rw [VoV_cons, nthVo_succ, ← VoV_get r i (by simpa using h) j hj, List.getElem?_append_right (by simp [VoC]; omega)]
    congr 1
    simp [VoC]; omega
theorem VoV_oneCell (es : List Vot) : ∀ u ∈ VoV es, u.oneCell' = true := by
  intro u hu
  simp only [VoV, List.mem_flatMap] at hu
  obtain ⟨e, _, he⟩ := hu
  simp only [VoC, List.mem_cons, List.not_mem_nil, or_false] at he
  rcases he with rfl | rfl | rfl | rfl <;> rfl
/-- The entry e lies at offset o of block b. -/
def VotAt (w : World) (b o : Nat) (e : Vot) : Prop :=
  w.cell? ⟨b, o, none⟩ = some (.int .i64 e.vw) ∧ w.cell? ⟨b, o + 1, none⟩ = some (.int .i64 e.nm) ∧ w.cell? ⟨b, o + 2, none⟩ = some (.int .i64 e.sv) ∧ w.cell? ⟨b, o + 3, none⟩ = some (.int .i64 e.tg)
/-- The slice v is the call's own (its block is at least number base) and holds the entries es. -/
def OwnVo (w : World) (base : Nat) (v : Value) (es : List Vot) : Prop := w.ownsRow base 72 4 v es.length (VoV es)
/-- The slice v can be read and holds the entries es. -/
def RdVo (w : World) (v : Value) (es : List Vot) : Prop :=
  ∃ a cap, v = .slice a es.length cap ∧ es.length ≤ cap ∧ cap ≤ maxLen ∧ (a = none → cap = 0) ∧
    (es = [] ∨ ∃ b off, a = some ⟨b, off, none⟩ ∧ ∀ i, i < es.length → VotAt w b (off + i * 4) (nthVo es i))
theorem VotAt.lt {w : World} {b o : Nat} {e : Vot} (h : VotAt w b o e) : b < w.heap.size := World.block_lt_of_cell? w _ h.1
theorem VotAt.of_block {w w' : World} {b o : Nat} {e : Vot} (h : VotAt w b o e) (hb : w'.heap[b]? = w.heap[b]?) : VotAt w' b o e :=
  ⟨(World.cell?_of_block (a := ⟨b, o, none⟩) hb).trans h.1, (World.cell?_of_block (a := ⟨b, o + 1, none⟩) hb).trans h.2.1, (World.cell?_of_block (a := ⟨b, o + 2, none⟩) hb).trans h.2.2.1, (World.cell?_of_block (a := ⟨b, o + 3, none⟩) hb).trans h.2.2.2⟩
theorem VotAt.below {w w' : World} {b o : Nat} {e : Vot} (h : VotAt w b o e) (hb : Below w.heap.size w w') : VotAt w' b o e := h.of_block (hb.block b h.lt)
theorem ownVo_cell {w : World} {base g cap n : Nat} {es : List Vot} (h : w.ownsRow base 72 4 (.slice (some ⟨g, 0, none⟩) n cap) n (VoV es)) (hn : n = es.length) (i : Nat) (hi : i < n) : VotAt w g (i * 4) (nthVo es i) := by
  subst hn
  have c : ∀ j, j < 4 → w.cell? ⟨g, i * 4 + j, none⟩ = (VoC (nthVo es i))[j]? := fun j hj => (h.cellAt (i * 4 + j) (by omega)).trans (VoV_get es i hi j hj)
  exact ⟨c 0 (by omega), c 1 (by omega), c 2 (by omega), c 3 (by omega)⟩
theorem OwnVo.rd {w : World} {base : Nat} {v : Value} {es : List Vot} (h : OwnVo w base v es) : RdVo w v es := by
  have h' := h
  rcases h.2 with ⟨rfl, h0⟩ | ⟨g, cap, cur, rfl, hb, hg, hn, hc, hs, ht⟩
  · have : es = [] := List.length_eq_zero_iff.1 h0
    subst this
    exact ⟨none, 0, rfl, Nat.le_refl _, Nat.zero_le _, fun _ => rfl, .inl rfl⟩
  · refine ⟨some ⟨g, 0, none⟩, cap, rfl, hn, hc, (fun h => by cases h), .inr ⟨g, 0, rfl, fun i hi => ?_⟩⟩
    rw [Nat.zero_add]
    exact ownVo_cell h' rfl i hi
theorem OwnVo.below {w w' : World} {base : Nat} {v : Value} {es : List Vot} (h : OwnVo w base v es) (hb : Below w.heap.size w w') : OwnVo w' base v es := own_below h hb
theorem OwnVo.drewN {w : World} {base : Nat} {v : Value} {es : List Vot} (h : OwnVo w base v es) (q : Nat) : OwnVo (w.drewN q) base v es := h
theorem OwnVo.mono {w : World} {base base' : Nat} {v : Value} {es : List Vot} (h : OwnVo w base v es) (hb : base' ≤ base) : OwnVo w base' v es := by
  refine ⟨h.1, ?_⟩
  rcases h.2 with h2 | ⟨g, cap, cur, hv, hg, r⟩
  · exact .inl h2
  · exact .inr ⟨g, cap, cur, hv, Nat.le_trans hb hg, r⟩
theorem RdVo.below {w w' : World} {v : Value} {es : List Vot} (h : RdVo w v es) (hb : Below w.heap.size w w') : RdVo w' v es := by
  obtain ⟨a, cap, hv, h1, h2, h0, h3⟩ := h
  refine ⟨a, cap, hv, h1, h2, h0, ?_⟩
  rcases h3 with h3 | ⟨b, off, ha, hc⟩
  · exact .inl h3
  · exact .inr ⟨b, off, ha, fun i hi => (hc i hi).below hb⟩
theorem RdVo.drewN {w : World} {v : Value} {es : List Vot} (h : RdVo w v es) (q : Nat) : RdVo (w.drewN q) v es := h
theorem rdVo_nil (w : World) : RdVo w (.slice none 0 0) [] := ⟨none, 0, rfl, Nat.le_refl _, Nat.zero_le _, fun _ => rfl, .inl rfl⟩
theorem ownVo_none (w : World) : OwnVo (w.alloc (.cells #[] 72)) w.heap.size (.slice (some ⟨w.heap.size, 0, none⟩) 0 0) [] := World.ownsRow_lit w #[] 0 (Nat.le_refl _) (Nat.zero_le _) rfl
theorem ownVo_lt {w : World} {B : Nat} {v : Value} {es : List Vot} (h : OwnVo w B v es) : ∀ k, v.ownBlock = some k → k < w.heap.size := fun k hk => (World.ownsRow.lt h k hk).2
theorem ownVo_more {w1 : World} {B : Nat} {v' : Value} {ys zs : List Vot} (h : w1.ownsRow B 72 4 v' (ys.length + zs.length) (VoV ys ++ VoV zs)) : OwnVo w1 B v' (ys ++ zs) := by
  unfold OwnVo
  rw [VoV_append, List.length_append]
  exact h
/-- Where an entry of a slice lies. -/
theorem RdVo.at {w : World} {a : Option Addr} {n cap : Nat} {es : List Vot} (h : RdVo w (.slice a n cap) es) (hn : n = es.length) (i : Nat) (hi : i < es.length) : ∃ b off, a = some ⟨b, off, none⟩ ∧ VotAt w b (off + i * 4) (nthVo es i) := by
  obtain ⟨a', cap', hv, _, _, _, h3⟩ := h
  simp only [Value.slice.injEq] at hv
  obtain ⟨rfl, _, _⟩ := hv
  rcases h3 with rfl | ⟨b, off, ha, hc⟩
  · simp at hi
  · exact ⟨b, off, ha, hc i hi⟩
theorem VoV_nth {es : List Vot} {j : Nat} {u : Value} (h : (VoV es)[j]? = some u) : j / 4 < es.length ∧ (VoC (nthVo es (j / 4)))[j % 4]? = some u := by
  have hj : j < (VoV es).length := (List.getElem?_eq_some_iff.1 h).1
  rw [VoV_length] at hj
  have h1 : j / 4 < es.length := by omega
  refine ⟨h1, ?_⟩
  have h2 := VoV_get es (j / 4) h1 (j % 4) (by omega)
  rw [show j / 4 * 4 + j % 4 = j by omega] at h2
  rw [← h2]; exact h
theorem VotAt.cellAt {w : World} {b o : Nat} {e : Vot} (h : VotAt w b o e) {j : Nat} {u : Value} (hu : (VoC e)[j]? = some u) : w.cell? ⟨b, o + j, none⟩ = some u := by
  obtain ⟨h0, h1, h2, h3⟩ := h
  match j, hu with
  | 0, hu => simp [VoC] at hu; subst hu; exact h0
  | 1, hu => simp [VoC] at hu; subst hu; exact h1
  | 2, hu => simp [VoC] at hu; subst hu; exact h2
  | 3, hu => simp [VoC] at hu; subst hu; exact h3
/-- The cells of a slice of entries, in a row. -/
theorem votesAt_cells {w : World} {b off : Nat} {es : List Vot} (h : ∀ i, i < es.length → VotAt w b (off + i * 4) (nthVo es i)) : ∀ j u, (VoV es)[j]? = some u → w.cell? ((⟨b, off, none⟩ : Addr).add j) = some u := by
  intro j u hu
  obtain ⟨h1, h2⟩ := VoV_nth hu
  have := (h _ h1).cellAt h2
  rw [Addr.add_lit]
  rw [show off + j / 4 * 4 + j % 4 = off + j by omega] at this
  exact this
/-- append of entries that can be read onto a row of the call's own. -/
theorem run_append_votes (ty : TypeId) {w : World} {base : Nat} {v u : Value} {ys zs : List Vot} (hown : OwnVo w base v ys) (hr : RdVo w u zs) (hl : ys.length + zs.length ≤ 1000000000) (hbase : base ≤ w.heap.size) :
    ∃ v' w', (Builtin.append_ #[68, 68] ty #[v, u]).run Try.prog w = .ok v' w' ∧ OwnVo w' base v' (ys ++ zs) ∧ w.grownBy w' v.ownBlock := by
  obtain ⟨i0, hi, hz0, hz1, hz2⟩ := info_parts Try.infoVo72
  obtain ⟨a, cap, rfl, h1, h2, h0, h3⟩ := hr
  have row : ∀ ad news, news = VoV zs → (∀ j u, news[j]? = some u → w.cell? (ad.add j) = some u) → ∃ v' w', (Builtin.append_ #[68, 68] ty #[v, .slice (some ad) zs.length cap]).run Try.prog w = .ok v' w' ∧ OwnVo w' base v' (ys ++ zs) ∧ w.grownBy w' v.ownBlock := by
    intro ad news hn hc
    subst hn
    obtain ⟨v', w', hrun, r1, r2, _⟩ := run_append_own (P := Try.prog) w base 68 ty 72 i0 _ 4 32 Try.underlying68 hi hz0 hz1 hz2 rfl (by decide) v ys.length (VoV ys) hown ad zs.length cap (VoV zs) (VoV_length zs) hc (VoV_oneCell zs) (by unfold maxLen; omega) (by omega) hbase
    exact ⟨v', w', hrun, ownVo_more r1, r2⟩
  cases a with
  | some ad =>
    refine row ad (VoV zs) rfl ?_
    rcases h3 with rfl | ⟨b, off, ha, hc⟩
    · intro j u hj; simp [VoV] at hj
    · cases ha; exact votesAt_cells hc
  | none =>
    have hc0 := h0 rfl
    subst hc0
    rcases h3 with rfl | ⟨b, off, ha, hc⟩
    · refine ⟨v, w, run_append_owned_none (P := Try.prog) w base 68 ty 72 i0 4 Try.underlying68 hi v ys.length (VoV ys) hown, by simpa using hown, ⟨rfl, rfl, rfl, Nat.le_refl _, fun _ _ _ => rfl⟩⟩
    · cases ha
theorem wpList_append_votes {w : World} {ops : Array Oper} {rest : List Oper} {o : Oper} {a : Act} {Q : Exit → Act → World → Prop} (hgd : o.guard = none) (s x : Operand)
    (ho : o.op = .call { callee := .builtin .append, args := #[s, x], argTypes := #[68, 68] }) (base : Nat) (v u : Value) (ys zs : List Vot) (hs : a.eval s = v) (hx : a.eval x = u) (hown : OwnVo w base v ys) (hr : RdVo w u zs) (hl : ys.length + zs.length ≤ 1000000000) (hbase : base ≤ w.heap.size)
    (h : ∀ v' w', OwnVo w' base v' (ys ++ zs) → w.grownBy w' v.ownBlock → wpList Try.prog ops Q rest (a.put o.dst v') w') : wpList Try.prog ops Q (o :: rest) a w := by
  refine wpList_plain hgd fun K hK => ?_
  obtain ⟨v', w', hrun, r1, r2⟩ := run_append_votes o.type hown hr hl hbase
  unfold Oper.wp
  simp [execOp, ho, resolve, invoke, builtin, hs, hx, hrun, Result.andThen]
  exact hK _ _ (h v' w' r1 r2)
theorem step_append_votes {w : World} {ops : Array Oper} {o : Oper} {a : Act} {K : Act → World → Prop} {Q : Exit → Act → World → Prop} {E : Prop} (hgd : o.guard = none) (d : Nat) (hd : o.dst = some d) (s x : Operand)
    (ho : o.op = .call { callee := .builtin .append, args := #[s, x], argTypes := #[68, 68] }) (base : Nat) (v u : Value) (ys zs : List Vot) (hs : a.eval s = v) (hx : a.eval x = u) (hown : OwnVo w base v ys) (hr : RdVo w u zs) (hl : ys.length + zs.length ≤ 1000000000) (hbase : base ≤ w.heap.size)
    (h : ∀ v' w', OwnVo w' base v' (ys ++ zs) → w.grownBy w' v.ownBlock → K (a.put (some d) v') w') :
    if Region.wanted o (yielded ops a.tmps) = true then Oper.wp Try.prog o a w K Q else E := by
  have hw : Region.wanted o (yielded ops a.tmps) = true := by simp [Region.wanted, hgd]
  rw [if_pos hw]
  obtain ⟨v', w', hrun, r1, r2⟩ := run_append_votes o.type hown hr hl hbase
  unfold Oper.wp
  simp [execOp, ho, resolve, invoke, builtin, hs, hx, hrun, Result.andThen]
  have h' := h v' w' r1 r2
  rw [← hd] at h'
  exact h'
end Go.Proofs.Ytckidhcknibceaa
