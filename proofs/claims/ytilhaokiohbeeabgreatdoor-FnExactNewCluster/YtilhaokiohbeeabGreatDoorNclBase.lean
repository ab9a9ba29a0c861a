/- Plain facts on rows of Replicas without lists (eight numbers each) that a call owns or reads. -/
import Derived.Test.YtilhaokiohbeeabGreatDoorGen
import Derived.Test.YtilhaokiohbeeabGreatDoorBxGen
namespace Go.Proofs.YtilhaokiohbeeabGreatDoor
open Go.RowKit
/-- A Replica without lists. -/
structure Ncr where
  idn : Int
  n : Int
  vw : Int
  vo : Int
  lo : Int
  pr : Int
  hv : Int
  hn : Int
deriving DecidableEq
def zeroNc : Ncr := ⟨0, 0, 0, 0, 0, 0, 0, 0⟩
def nthNc (xs : List Ncr) (i : Nat) : Ncr := xs.getD i zeroNc
theorem nthNc_eq {xs : List Ncr} {i : Nat} (h : i < xs.length) : nthNc xs i = xs[i] := by simp [nthNc, List.getD, List.getElem?_eq_getElem h]
theorem nthNc_zero (a : Ncr) (r : List Ncr) : nthNc (a :: r) 0 = a := by simp [nthNc]
instance : Inhabited Ncr := ⟨zeroNc⟩
theorem nthNc_succ (a : Ncr) (r : List Ncr) (i : Nat) : nthNc (a :: r) (i + 1) = nthNc r i := by simp [nthNc, List.getD]
theorem Tryz.infoNc81 : (Tryz.prog.info? 81).map (fun i => (i.zero, i.size, i.bytes)) = some (some (.agg #[.int .i64 0, .int .i64 0, .int .i64 0, .int .i64 0, .int .i64 0, .int .i64 0, .int .i64 0, .int .i64 0, .slice none 0 0, .slice none 0 0, .slice none 0 0, .slice none 0 0, .slice none 0 0, .slice none 0 0]), 14, 208) := by kernel_rfl
/-- The cells of a Replica. -/
def NcC (e : Ncr) : List Value := [.int .i64 e.idn, .int .i64 e.n, .int .i64 e.vw, .int .i64 e.vo, .int .i64 e.lo, .int .i64 e.pr, .int .i64 e.hv, .int .i64 e.hn, .slice none 0 0, .slice none 0 0, .slice none 0 0, .slice none 0 0, .slice none 0 0, .slice none 0 0]
def NcA (e : Ncr) : Value := .agg #[.int .i64 e.idn, .int .i64 e.n, .int .i64 e.vw, .int .i64 e.vo, .int .i64 e.lo, .int .i64 e.pr, .int .i64 e.hv, .int .i64 e.hn, .slice none 0 0, .slice none 0 0, .slice none 0 0, .slice none 0 0, .slice none 0 0, .slice none 0 0]
def NcV (es : List Ncr) : List Value := es.flatMap NcC
theorem NcV_length : ∀ es : List Ncr, (NcV es).length = es.length * 14
  | [] => rfl
  | a :: r => by
    have := NcV_length r
    unfold NcV at this ⊢
    rw [List.flatMap_cons, List.length_append, this, List.length_cons]
    simp [NcC]; omega
theorem NcV_append (a b : List Ncr) : NcV (a ++ b) = NcV a ++ NcV b := by simp [NcV]
theorem NcV_one (e : Ncr) : NcV [e] = NcC e := by simp [NcV]
theorem NcV_cons (a : Ncr) (r : List Ncr) : NcV (a :: r) = NcC a ++ NcV r := by simp [NcV]
theorem NcV_get : ∀ (es : List Ncr) (i : Nat), i < es.length → ∀ j, j < 14 → (NcV es)[i * 14 + j]? = (NcC (nthNc es i))[j]?
  | [], i, h, _, _ => by simp at h
  | a :: r, 0, _, j, hj => by
    rw [NcV_cons, nthNc_zero, Nat.zero_mul, Nat.zero_add, List.getElem?_append_left (by simp [NcC]; exact hj)]
  | a :: r, i + 1, h, j, hj => by
    rw [NcV_cons, nthNc_succ, ← NcV_get r i (by simpa using h) j hj, List.getElem?_append_right (by simp [NcC]; omega)]
    congr 1
    simp [NcC]; omega
theorem NcV_oneCell (es : List Ncr) : ∀ u ∈ NcV es, u.oneCell' = true := by
  intro u hu
  simp only [NcV, List.mem_flatMap] at hu
  obtain ⟨e, _, he⟩ := hu
  simp only [NcC, List.mem_cons, List.not_mem_nil, or_false] at he
  rcases he with rfl | rfl | rfl | rfl | rfl | rfl | rfl | rfl | rfl | rfl | rfl | rfl | rfl | rfl <;> rfl
/-- The entry e lies at offset o of block b. -/
def NcrAt (w : World) (b o : Nat) (e : Ncr) : Prop :=
  w.cell? ⟨b, o, none⟩ = some (.int .i64 e.idn) ∧ w.cell? ⟨b, o + 1, none⟩ = some (.int .i64 e.n) ∧ w.cell? ⟨b, o + 2, none⟩ = some (.int .i64 e.vw) ∧ w.cell? ⟨b, o + 3, none⟩ = some (.int .i64 e.vo) ∧ w.cell? ⟨b, o + 4, none⟩ = some (.int .i64 e.lo) ∧ w.cell? ⟨b, o + 5, none⟩ = some (.int .i64 e.pr) ∧ w.cell? ⟨b, o + 6, none⟩ = some (.int .i64 e.hv) ∧ w.cell? ⟨b, o + 7, none⟩ = some (.int .i64 e.hn) ∧ w.cell? ⟨b, o + 8, none⟩ = some (.slice none 0 0) ∧ w.cell? ⟨b, o + 9, none⟩ = some (.slice none 0 0) ∧ w.cell? ⟨b, o + 10, none⟩ = some (.slice none 0 0) ∧ w.cell? ⟨b, o + 11, none⟩ = some (.slice none 0 0) ∧ w.cell? ⟨b, o + 12, none⟩ = some (.slice none 0 0) ∧ w.cell? ⟨b, o + 13, none⟩ = some (.slice none 0 0)
/-- The slice v is the call's own (its block is at least number base) and holds the entries es. -/
def OwnNc (w : World) (base : Nat) (v : Value) (es : List Ncr) : Prop := w.ownsRow base 81 14 v es.length (NcV es)
/-- The slice v can be read and holds the entries es. -/
def RdNc (w : World) (v : Value) (es : List Ncr) : Prop :=
  ∃ a cap, v = .slice a es.length cap ∧ es.length ≤ cap ∧ cap ≤ maxLen ∧ (a = none → cap = 0) ∧
    (es = [] ∨ ∃ b off, a = some ⟨b, off, none⟩ ∧ ∀ i, i < es.length → NcrAt w b (off + i * 14) (nthNc es i))
theorem NcrAt.lt {w : World} {b o : Nat} {e : Ncr} (h : NcrAt w b o e) : b < w.heap.size := World.block_lt_of_cell? w _ h.1
theorem NcrAt.of_block {w w' : World} {b o : Nat} {e : Ncr} (h : NcrAt w b o e) (hb : w'.heap[b]? = w.heap[b]?) : NcrAt w' b o e :=
  ⟨(World.cell?_of_block (a := ⟨b, o, none⟩) hb).trans h.1, (World.cell?_of_block (a := ⟨b, o + 1, none⟩) hb).trans h.2.1, (World.cell?_of_block (a := ⟨b, o + 2, none⟩) hb).trans h.2.2.1, (World.cell?_of_block (a := ⟨b, o + 3, none⟩) hb).trans h.2.2.2.1, (World.cell?_of_block (a := ⟨b, o + 4, none⟩) hb).trans h.2.2.2.2.1, (World.cell?_of_block (a := ⟨b, o + 5, none⟩) hb).trans h.2.2.2.2.2.1, (World.cell?_of_block (a := ⟨b, o + 6, none⟩) hb).trans h.2.2.2.2.2.2.1, (World.cell?_of_block (a := ⟨b, o + 7, none⟩) hb).trans h.2.2.2.2.2.2.2.1, (World.cell?_of_block (a := ⟨b, o + 8, none⟩) hb).trans h.2.2.2.2.2.2.2.2.1, (World.cell?_of_block (a := ⟨b, o + 9, none⟩) hb).trans h.2.2.2.2.2.2.2.2.2.1, (World.cell?_of_block (a := ⟨b, o + 10, none⟩) hb).trans h.2.2.2.2.2.2.2.2.2.2.1, (World.cell?_of_block (a := ⟨b, o + 11, none⟩) hb).trans h.2.2.2.2.2.2.2.2.2.2.2.1, (World.cell?_of_block (a := ⟨b, o + 12, none⟩) hb).trans h.2.2.2.2.2.2.2.2.2.2.2.2.1, (World.cell?_of_block (a := ⟨b, o + 13, none⟩) hb).trans h.2.2.2.2.2.2.2.2.2.2.2.2.2⟩
theorem NcrAt.below {w w' : World} {b o : Nat} {e : Ncr} (h : NcrAt w b o e) (hb : Below w.heap.size w w') : NcrAt w' b o e := h.of_block (hb.block b h.lt)
theorem ownNc_cell {w : World} {base g cap n : Nat} {es : List Ncr} (h : w.ownsRow base 81 14 (.slice (some ⟨g, 0, none⟩) n cap) n (NcV es)) (hn : n = es.length) (i : Nat) (hi : i < n) : NcrAt w g (i * 14) (nthNc es i) := by
  subst hn
  have c : ∀ j, j < 14 → w.cell? ⟨g, i * 14 + j, none⟩ = (NcC (nthNc es i))[j]? := fun j hj => (h.cellAt (i * 14 + j) (by omega)).trans (NcV_get es i hi j hj)
  exact ⟨c 0 (by omega), c 1 (by omega), c 2 (by omega), c 3 (by omega), c 4 (by omega), c 5 (by omega), c 6 (by omega), c 7 (by omega), c 8 (by omega), c 9 (by omega), c 10 (by omega), c 11 (by omega), c 12 (by omega), c 13 (by omega)⟩
theorem OwnNc.rd {w : World} {base : Nat} {v : Value} {es : List Ncr} (h : OwnNc w base v es) : RdNc w v es := by
  have h' := h
  rcases h.2 with ⟨rfl, h0⟩ | ⟨g, cap, cur, rfl, hb, hg, hn, hc, hs, ht⟩
  · have : es = [] := List.length_eq_zero_iff.1 h0
    subst this
    exact ⟨none, 0, rfl, Nat.le_refl _, Nat.zero_le _, fun _ => rfl, .inl rfl⟩
  · refine ⟨some ⟨g, 0, none⟩, cap, rfl, hn, hc, (fun h => by cases h), .inr ⟨g, 0, rfl, fun i hi => ?_⟩⟩
    rw [Nat.zero_add]
    exact ownNc_cell h' rfl i hi
theorem OwnNc.below {w w' : World} {base : Nat} {v : Value} {es : List Ncr} (h : OwnNc w base v es) (hb : Below w.heap.size w w') : OwnNc w' base v es := own_below h hb
theorem OwnNc.drewN {w : World} {base : Nat} {v : Value} {es : List Ncr} (h : OwnNc w base v es) (q : Nat) : OwnNc (w.drewN q) base v es := h
theorem OwnNc.mono {w : World} {base base' : Nat} {v : Value} {es : List Ncr} (h : OwnNc w base v es) (hb : base' ≤ base) : OwnNc w base' v es := by
  refine ⟨h.1, ?_⟩
  rcases h.2 with h2 | ⟨g, cap, cur, hv, hg, r⟩
  · exact .inl h2
  · exact .inr ⟨g, cap, cur, hv, Nat.le_trans hb hg, r⟩
theorem RdNc.below {w w' : World} {v : Value} {es : List Ncr} (h : RdNc w v es) (hb : Below w.heap.size w w') : RdNc w' v es := by
  obtain ⟨a, cap, hv, h1, h2, h0, h3⟩ := h
  refine ⟨a, cap, hv, h1, h2, h0, ?_⟩
  rcases h3 with h3 | ⟨b, off, ha, hc⟩
  · exact .inl h3
  · exact .inr ⟨b, off, ha, fun i hi => (hc i hi).below hb⟩
theorem RdNc.drewN {w : World} {v : Value} {es : List Ncr} (h : RdNc w v es) (q : Nat) : RdNc (w.drewN q) v es := h
theorem rdNc_nil (w : World) : RdNc w (.slice none 0 0) [] := ⟨none, 0, rfl, Nat.le_refl _, Nat.zero_le _, fun _ => rfl, .inl rfl⟩
theorem ownNc_none (w : World) : OwnNc (w.alloc (.cells #[] 81)) w.heap.size (.slice (some ⟨w.heap.size, 0, none⟩) 0 0) [] := World.ownsRow_lit w #[] 0 (Nat.le_refl _) (Nat.zero_le _) rfl
theorem ownNc_lt {w : World} {B : Nat} {v : Value} {es : List Ncr} (h : OwnNc w B v es) : ∀ k, v.ownBlock = some k → k < w.heap.size := fun k hk => (World.ownsRow.lt h k hk).2
theorem ownNc_more {w1 : World} {B : Nat} {v' : Value} {ys zs : List Ncr} (h : w1.ownsRow B 81 14 v' (ys.length + zs.length) (NcV ys ++ NcV zs)) : OwnNc w1 B v' (ys ++ zs) := by
  unfold OwnNc
  rw [NcV_append, List.length_append]
  exact h
/-- Where an entry of a slice lies. -/
theorem RdNc.at {w : World} {a : Option Addr} {n cap : Nat} {es : List Ncr} (h : RdNc w (.slice a n cap) es) (hn : n = es.length) (i : Nat) (hi : i < es.length) : ∃ b off, a = some ⟨b, off, none⟩ ∧ NcrAt w b (off + i * 14) (nthNc es i) := by
  obtain ⟨a', cap', hv, _, _, _, h3⟩ := h
  simp only [Value.slice.injEq] at hv
  obtain ⟨rfl, _, _⟩ := hv
  rcases h3 with rfl | ⟨b, off, ha, hc⟩
  · simp at hi
  · exact ⟨b, off, ha, hc i hi⟩
theorem NcV_nth {es : List Ncr} {j : Nat} {u : Value} (h : (NcV es)[j]? = some u) : j / 14 < es.length ∧ (NcC (nthNc es (j / 14)))[j % 14]? = some u := by
  have hj : j < (NcV es).length := (List.getElem?_eq_some_iff.1 h).1
  rw [NcV_length] at hj
  have h1 : j / 14 < es.length := by omega
  refine ⟨h1, ?_⟩
  have h2 := NcV_get es (j / 14) h1 (j % 14) (by omega)
  rw [show j / 14 * 14 + j % 14 = j by omega] at h2
  rw [← h2]; exact h
theorem NcrAt.cellAt {w : World} {b o : Nat} {e : Ncr} (h : NcrAt w b o e) {j : Nat} {u : Value} (hu : (NcC e)[j]? = some u) : w.cell? ⟨b, o + j, none⟩ = some u := by
  obtain ⟨h0, h1, h2, h3, h4, h5, h6, h7, h8, h9, h10, h11, h12, h13⟩ := h
  match j, hu with
  | 0, hu => simp [NcC] at hu; subst hu; exact h0
  | 1, hu => simp [NcC] at hu; subst hu; exact h1
  | 2, hu => simp [NcC] at hu; subst hu; exact h2
  | 3, hu => simp [NcC] at hu; subst hu; exact h3
  | 4, hu => simp [NcC] at hu; subst hu; exact h4
  | 5, hu => simp [NcC] at hu; subst hu; exact h5
  | 6, hu => simp [NcC] at hu; subst hu; exact h6
  | 7, hu => simp [NcC] at hu; subst hu; exact h7
  | 8, hu => simp [NcC] at hu; subst hu; exact h8
  | 9, hu => simp [NcC] at hu; subst hu; exact h9
  | 10, hu => simp [NcC] at hu; subst hu; exact h10
  | 11, hu => simp [NcC] at hu; subst hu; exact h11
  | 12, hu => simp [NcC] at hu; subst hu; exact h12
  | 13, hu => simp [NcC] at hu; subst hu; exact h13
/-- The cells of a slice of entries, in a row. -/
theorem ncrsAt_cells {w : World} {b off : Nat} {es : List Ncr} (h : ∀ i, i < es.length → NcrAt w b (off + i * 14) (nthNc es i)) : ∀ j u, (NcV es)[j]? = some u → w.cell? ((⟨b, off, none⟩ : Addr).add j) = some u := by
  intro j u hu
  obtain ⟨h1, h2⟩ := NcV_nth hu
  have := (h _ h1).cellAt h2
  rw [Addr.add_lit]
  rw [show off + j / 14 * 14 + j % 14 = off + j by omega] at this
  exact this
/-- append of entries that can be read onto a row of the call's own. -/
theorem run_append_ncrs (ty : TypeId) {w : World} {base : Nat} {v u : Value} {ys zs : List Ncr} (hown : OwnNc w base v ys) (hr : RdNc w u zs) (hl : ys.length + zs.length ≤ 1000000000) (hbase : base ≤ w.heap.size) :
    ∃ v' w', (Builtin.append_ #[22, 22] ty #[v, u]).run Tryz.prog w = .ok v' w' ∧ OwnNc w' base v' (ys ++ zs) ∧ w.grownBy w' v.ownBlock := by
  obtain ⟨i0, hi, hz0, hz1, hz2⟩ := info_parts Tryz.infoNc81
  obtain ⟨a, cap, rfl, h1, h2, h0, h3⟩ := hr
  have row : ∀ ad news, news = NcV zs → (∀ j u, news[j]? = some u → w.cell? (ad.add j) = some u) → ∃ v' w', (Builtin.append_ #[22, 22] ty #[v, .slice (some ad) zs.length cap]).run Tryz.prog w = .ok v' w' ∧ OwnNc w' base v' (ys ++ zs) ∧ w.grownBy w' v.ownBlock := by
    intro ad news hn hc
    subst hn
    obtain ⟨v', w', hrun, r1, r2, _⟩ := run_append_own (P := Tryz.prog) w base 22 ty 81 i0 _ 14 208 Tryz.underlying22 hi hz0 hz1 hz2 rfl (by decide) v ys.length (NcV ys) hown ad zs.length cap (NcV zs) (NcV_length zs) hc (NcV_oneCell zs) (by unfold maxLen; omega) (by omega) hbase
    exact ⟨v', w', hrun, ownNc_more r1, r2⟩
  cases a with
  | some ad =>
    refine row ad (NcV zs) rfl ?_
    rcases h3 with rfl | ⟨b, off, ha, hc⟩
    · intro j u hj; simp [NcV] at hj
    · cases ha; exact ncrsAt_cells hc
  | none =>
    have hc0 := h0 rfl
    subst hc0
    rcases h3 with rfl | ⟨b, off, ha, hc⟩
    · refine ⟨v, w, run_append_owned_none (P := Tryz.prog) w base 22 ty 81 i0 14 Tryz.underlying22 hi v ys.length (NcV ys) hown, by simpa using hown, ⟨rfl, rfl, rfl, Nat.le_refl _, fun _ _ _ => rfl⟩⟩
    · cases ha
theorem wpList_append_ncrs {w : World} {ops : Array Oper} {rest : List Oper} {o : Oper} {a : Act} {Q : Exit → Act → World → Prop} (hgd : o.guard = none) (s x : Operand)
    (ho : o.op = .call { callee := .builtin .append, args := #[s, x], argTypes := #[22, 22] }) (base : Nat) (v u : Value) (ys zs : List Ncr) (hs : a.eval s = v) (hx : a.eval x = u) (hown : OwnNc w base v ys) (hr : RdNc w u zs) (hl : ys.length + zs.length ≤ 1000000000) (hbase : base ≤ w.heap.size)
    (h : ∀ v' w', OwnNc w' base v' (ys ++ zs) → w.grownBy w' v.ownBlock → wpList Tryz.prog ops Q rest (a.put o.dst v') w') : wpList Tryz.prog ops Q (o :: rest) a w := by
  refine wpList_plain hgd fun K hK => ?_
  obtain ⟨v', w', hrun, r1, r2⟩ := run_append_ncrs o.type hown hr hl hbase
  unfold Oper.wp
  simp [execOp, ho, resolve, invoke, builtin, hs, hx, hrun, Result.andThen]
  exact hK _ _ (h v' w' r1 r2)
theorem step_append_ncrs {w : World} {ops : Array Oper} {o : Oper} {a : Act} {K : Act → World → Prop} {Q : Exit → Act → World → Prop} {E : Prop} (hgd : o.guard = none) (d : Nat) (hd : o.dst = some d) (s x : Operand)
    (ho : o.op = .call { callee := .builtin .append, args := #[s, x], argTypes := #[22, 22] }) (base : Nat) (v u : Value) (ys zs : List Ncr) (hs : a.eval s = v) (hx : a.eval x = u) (hown : OwnNc w base v ys) (hr : RdNc w u zs) (hl : ys.length + zs.length ≤ 1000000000) (hbase : base ≤ w.heap.size)
    (h : ∀ v' w', OwnNc w' base v' (ys ++ zs) → w.grownBy w' v.ownBlock → K (a.put (some d) v') w') :
    if Region.wanted o (yielded ops a.tmps) = true then Oper.wp Tryz.prog o a w K Q else E := by
  have hw : Region.wanted o (yielded ops a.tmps) = true := by simp [Region.wanted, hgd]
  rw [if_pos hw]
  obtain ⟨v', w', hrun, r1, r2⟩ := run_append_ncrs o.type hown hr hl hbase
  unfold Oper.wp
  simp [execOp, ho, resolve, invoke, builtin, hs, hx, hrun, Result.andThen]
  have h' := h v' w' r1 r2
  rw [← hd] at h'
  exact h'
theorem rdNc_one (w : World) (x : Ncr) (ty : TypeId) : RdNc (w.alloc (.cells #[.int .i64 x.idn, .int .i64 x.n, .int .i64 x.vw, .int .i64 x.vo, .int .i64 x.lo, .int .i64 x.pr, .int .i64 x.hv, .int .i64 x.hn, .slice none 0 0, .slice none 0 0, .slice none 0 0, .slice none 0 0, .slice none 0 0, .slice none 0 0] ty)) (.slice (some ⟨w.heap.size, 0, none⟩) 1 1) [x] := by
  refine ⟨some ⟨w.heap.size, 0, none⟩, 1, rfl, by simp, by unfold maxLen; omega, (fun h => by cases h), .inr ⟨w.heap.size, 0, rfl, fun i hi => ?_⟩⟩
  have hi0 : i = 0 := by simp at hi; omega
  subst hi0
  have hx := bx_new w ty #[.int .i64 x.idn, .int .i64 x.n, .int .i64 x.vw, .int .i64 x.vo, .int .i64 x.lo, .int .i64 x.pr, .int .i64 x.hv, .int .i64 x.hn, .slice none 0 0, .slice none 0 0, .slice none 0 0, .slice none 0 0, .slice none 0 0, .slice none 0 0]
  refine ⟨hx.cell 0 rfl, hx.cell 1 rfl, hx.cell 2 rfl, hx.cell 3 rfl, hx.cell 4 rfl, hx.cell 5 rfl, hx.cell 6 rfl, hx.cell 7 rfl, hx.cell 8 rfl, hx.cell 9 rfl, hx.cell 10 rfl, hx.cell 11 rfl, hx.cell 12 rfl, hx.cell 13 rfl⟩
end Go.Proofs.YtilhaokiohbeeabGreatDoor
