/- Plain facts on rows of Newss (2 numbers each) that a call owns or reads. Replicas in memory. The contracts of the law's measure, copy and comparison of Votes. -/
import Derived.Test.YtilhaokiohbeeaaGreatDoorG02
import Derived.Test.YtilhaokiohbeeaaGreatDoorBlsCp
import Derived.Test.YtilhaokiohbeeaaGreatDoorG03
import Derived.Deep.RegionHeld3
namespace Go.Proofs.YtilhaokiohbeeaaGreatDoor
open Go.RowKit
/-- A News. -/
structure Nws where
  vw : Int
  sv : Int
deriving DecidableEq
/-- The numbers of a News are numbers of a program. -/
structure FitNw (x : Nws) : Prop where
  vw : -9223372036854775808 ≤ x.vw ∧ x.vw ≤ 9223372036854775807
  sv : -9223372036854775808 ≤ x.sv ∧ x.sv ≤ 9223372036854775807
def zeroNw : Nws := ⟨0, 0⟩
def nthNw (xs : List Nws) (i : Nat) : Nws := xs.getD i zeroNw
theorem nthNw_eq {xs : List Nws} {i : Nat} (h : i < xs.length) : nthNw xs i = xs[i] := by simp [nthNw, List.getD, List.getElem?_eq_getElem h]
theorem nthNw_zero (a : Nws) (r : List Nws) : nthNw (a :: r) 0 = a := by simp [nthNw]
instance : Inhabited Nws := ⟨zeroNw⟩
theorem nthNw_succ (a : Nws) (r : List Nws) (i : Nat) : nthNw (a :: r) (i + 1) = nthNw r i := by simp [nthNw, List.getD]
theorem Tryz.infoNw128 : (Tryz.prog.info? 128).map (fun i => (i.zero, i.size, i.bytes)) = some (some (.agg #[.int .i64 0, .int .i64 0]), 2, 16) := by kernel_rfl
/-- The cells of a News. -/
def NwC (e : Nws) : List Value := [.int .i64 e.vw, .int .i64 e.sv]
def NwA (e : Nws) : Value := .agg #[.int .i64 e.vw, .int .i64 e.sv]
def NwV (es : List Nws) : List Value := es.flatMap NwC
theorem NwV_length : ∀ es : List Nws, (NwV es).length = es.length * 2
  | [] => rfl
  | a :: r => by
    have := NwV_length r
    unfold NwV at this ⊢
    rw [List.flatMap_cons, List.length_append, this, List.length_cons]
    simp [NwC]; omega
theorem NwV_append (a b : List Nws) : NwV (a ++ b) = NwV a ++ NwV b := by simp [NwV]
theorem NwV_one (e : Nws) : NwV [e] = NwC e := by simp [NwV]
theorem NwV_cons (a : Nws) (r : List Nws) : NwV (a :: r) = NwC a ++ NwV r := by simp [NwV]
theorem NwV_get : ∀ (es : List Nws) (i : Nat), i < es.length → ∀ j, j < 2 → (NwV es)[i * 2 + j]? = (NwC (nthNw es i))[j]?
  | [], i, h, _, _ => by simp at h
  | a :: r, 0, _, j, hj => by
    rw [NwV_cons, nthNw_zero, Nat.zero_mul, Nat.zero_add, List.getElem?_append_left (by simp [NwC]; exact hj)]
  | a :: r, i + 1, h, j, hj => by
    rw [NwV_cons, nthNw_succ, ← NwV_get r i (by simpa using h) j hj, List.getElem?_append_right (by simp [NwC]; omega)]
    congr 1
    simp [NwC]; omega
theorem NwV_oneCell (es : List Nws) : ∀ u ∈ NwV es, u.oneCell' = true := by
  intro u hu
  simp only [NwV, List.mem_flatMap] at hu
  obtain ⟨e, _, he⟩ := hu
  simp only [NwC, List.mem_cons, List.not_mem_nil, or_false] at he
  rcases he with rfl | rfl <;> rfl
/-- The entry e lies at offset o of block b. -/
def NwsAt (w : World) (b o : Nat) (e : Nws) : Prop :=
  w.cell? ⟨b, o, none⟩ = some (.int .i64 e.vw) ∧ w.cell? ⟨b, o + 1, none⟩ = some (.int .i64 e.sv)
/-- The slice v is the call's own (its block is at least number base) and holds the entries es. -/
def OwnNw (w : World) (base : Nat) (v : Value) (es : List Nws) : Prop := w.ownsRow base 128 2 v es.length (NwV es)
/-- The slice v can be read and holds the entries es. -/
def RdNw (w : World) (v : Value) (es : List Nws) : Prop :=
  ∃ a cap, v = .slice a es.length cap ∧ es.length ≤ cap ∧ cap ≤ maxLen ∧ (a = none → cap = 0) ∧
    (es = [] ∨ ∃ b off, a = some ⟨b, off, none⟩ ∧ ∀ i, i < es.length → NwsAt w b (off + i * 2) (nthNw es i))
theorem NwsAt.lt {w : World} {b o : Nat} {e : Nws} (h : NwsAt w b o e) : b < w.heap.size := World.block_lt_of_cell? w _ h.1
theorem NwsAt.of_block {w w' : World} {b o : Nat} {e : Nws} (h : NwsAt w b o e) (hb : w'.heap[b]? = w.heap[b]?) : NwsAt w' b o e :=
  ⟨(World.cell?_of_block (a := ⟨b, o, none⟩) hb).trans h.1, (World.cell?_of_block (a := ⟨b, o + 1, none⟩) hb).trans h.2⟩
theorem NwsAt.below {w w' : World} {b o : Nat} {e : Nws} (h : NwsAt w b o e) (hb : Below w.heap.size w w') : NwsAt w' b o e := h.of_block (hb.block b h.lt)
theorem ownNw_cell {w : World} {base g cap n : Nat} {es : List Nws} (h : w.ownsRow base 128 2 (.slice (some ⟨g, 0, none⟩) n cap) n (NwV es)) (hn : n = es.length) (i : Nat) (hi : i < n) : NwsAt w g (i * 2) (nthNw es i) := by
  subst hn
  have c : ∀ j, j < 2 → w.cell? ⟨g, i * 2 + j, none⟩ = (NwC (nthNw es i))[j]? := fun j hj => (h.cellAt (i * 2 + j) (by omega)).trans (NwV_get es i hi j hj)
  exact ⟨c 0 (by omega), c 1 (by omega)⟩
theorem OwnNw.rd {w : World} {base : Nat} {v : Value} {es : List Nws} (h : OwnNw w base v es) : RdNw w v es := by
  have h' := h
  rcases h.2 with ⟨rfl, h0⟩ | ⟨g, cap, cur, rfl, hb, hg, hn, hc, hs, ht⟩
  · have : es = [] := List.length_eq_zero_iff.1 h0
    subst this
    exact ⟨none, 0, rfl, Nat.le_refl _, Nat.zero_le _, fun _ => rfl, .inl rfl⟩
  · refine ⟨some ⟨g, 0, none⟩, cap, rfl, hn, hc, (fun h => by cases h), .inr ⟨g, 0, rfl, fun i hi => ?_⟩⟩
    rw [Nat.zero_add]
    exact ownNw_cell h' rfl i hi
theorem OwnNw.below {w w' : World} {base : Nat} {v : Value} {es : List Nws} (h : OwnNw w base v es) (hb : Below w.heap.size w w') : OwnNw w' base v es := own_below h hb
theorem OwnNw.drewN {w : World} {base : Nat} {v : Value} {es : List Nws} (h : OwnNw w base v es) (q : Nat) : OwnNw (w.drewN q) base v es := h
theorem OwnNw.mono {w : World} {base base' : Nat} {v : Value} {es : List Nws} (h : OwnNw w base v es) (hb : base' ≤ base) : OwnNw w base' v es := by
  refine ⟨h.1, ?_⟩
  rcases h.2 with h2 | ⟨g, cap, cur, hv, hg, r⟩
  · exact .inl h2
  · exact .inr ⟨g, cap, cur, hv, Nat.le_trans hb hg, r⟩
theorem RdNw.below {w w' : World} {v : Value} {es : List Nws} (h : RdNw w v es) (hb : Below w.heap.size w w') : RdNw w' v es := by
  obtain ⟨a, cap, hv, h1, h2, h0, h3⟩ := h
  refine ⟨a, cap, hv, h1, h2, h0, ?_⟩
  rcases h3 with h3 | ⟨b, off, ha, hc⟩
  · exact .inl h3
  · exact .inr ⟨b, off, ha, fun i hi => (hc i hi).below hb⟩
theorem RdNw.drewN {w : World} {v : Value} {es : List Nws} (h : RdNw w v es) (q : Nat) : RdNw (w.drewN q) v es := h
theorem rdNw_nil (w : World) : RdNw w (.slice none 0 0) [] := ⟨none, 0, rfl, Nat.le_refl _, Nat.zero_le _, fun _ => rfl, .inl rfl⟩
theorem ownNw_none (w : World) : OwnNw (w.alloc (.cells #[] 128)) w.heap.size (.slice (some ⟨w.heap.size, 0, none⟩) 0 0) [] := World.ownsRow_lit w #[] 0 (Nat.le_refl _) (Nat.zero_le _) rfl
theorem ownNw_lt {w : World} {B : Nat} {v : Value} {es : List Nws} (h : OwnNw w B v es) : ∀ k, v.ownBlock = some k → k < w.heap.size := fun k hk => (World.ownsRow.lt h k hk).2
theorem ownNw_more {w1 : World} {B : Nat} {v' : Value} {ys zs : List Nws} (h : w1.ownsRow B 128 2 v' (ys.length + zs.length) (NwV ys ++ NwV zs)) : OwnNw w1 B v' (ys ++ zs) := by
  unfold OwnNw
  rw [NwV_append, List.length_append]
  exact h
/-- Where an entry of a slice lies. -/
theorem RdNw.at {w : World} {a : Option Addr} {n cap : Nat} {es : List Nws} (h : RdNw w (.slice a n cap) es) (hn : n = es.length) (i : Nat) (hi : i < es.length) : ∃ b off, a = some ⟨b, off, none⟩ ∧ NwsAt w b (off + i * 2) (nthNw es i) := by
  obtain ⟨a', cap', hv, _, _, _, h3⟩ := h
  simp only [Value.slice.injEq] at hv
  obtain ⟨rfl, _, _⟩ := hv
  rcases h3 with rfl | ⟨b, off, ha, hc⟩
  · simp at hi
  · exact ⟨b, off, ha, hc i hi⟩
theorem NwV_nth {es : List Nws} {j : Nat} {u : Value} (h : (NwV es)[j]? = some u) : j / 2 < es.length ∧ (NwC (nthNw es (j / 2)))[j % 2]? = some u := by
  have hj : j < (NwV es).length := (List.getElem?_eq_some_iff.1 h).1
  rw [NwV_length] at hj
  have h1 : j / 2 < es.length := by omega
  refine ⟨h1, ?_⟩
  have h2 := NwV_get es (j / 2) h1 (j % 2) (by omega)
  rw [show j / 2 * 2 + j % 2 = j by omega] at h2
  rw [← h2]; exact h
theorem NwsAt.cellAt {w : World} {b o : Nat} {e : Nws} (h : NwsAt w b o e) {j : Nat} {u : Value} (hu : (NwC e)[j]? = some u) : w.cell? ⟨b, o + j, none⟩ = some u := by
  obtain ⟨h0, h1⟩ := h
  match j, hu with
  | 0, hu => simp [NwC] at hu; subst hu; exact h0
  | 1, hu => simp [NwC] at hu; subst hu; exact h1
/-- The cells of a slice of entries, in a row. -/
theorem newsAt_cells {w : World} {b off : Nat} {es : List Nws} (h : ∀ i, i < es.length → NwsAt w b (off + i * 2) (nthNw es i)) : ∀ j u, (NwV es)[j]? = some u → w.cell? ((⟨b, off, none⟩ : Addr).add j) = some u := by
  intro j u hu
  obtain ⟨h1, h2⟩ := NwV_nth hu
  have := (h _ h1).cellAt h2
  rw [Addr.add_lit]
  rw [show off + j / 2 * 2 + j % 2 = off + j by omega] at this
  exact this
/-- append of entries that can be read onto a row of the call's own. -/
theorem run_append_news (ty : TypeId) {w : World} {base : Nat} {v u : Value} {ys zs : List Nws} (hown : OwnNw w base v ys) (hr : RdNw w u zs) (hl : ys.length + zs.length ≤ 1000000000) (hbase : base ≤ w.heap.size) :
    ∃ v' w', (Builtin.append_ #[29, 29] ty #[v, u]).run Tryz.prog w = .ok v' w' ∧ OwnNw w' base v' (ys ++ zs) ∧ w.grownBy w' v.ownBlock := by
  obtain ⟨i0, hi, hz0, hz1, hz2⟩ := info_parts Tryz.infoNw128
  obtain ⟨a, cap, rfl, h1, h2, h0, h3⟩ := hr
  have row : ∀ ad news, news = NwV zs → (∀ j u, news[j]? = some u → w.cell? (ad.add j) = some u) → ∃ v' w', (Builtin.append_ #[29, 29] ty #[v, .slice (some ad) zs.length cap]).run Tryz.prog w = .ok v' w' ∧ OwnNw w' base v' (ys ++ zs) ∧ w.grownBy w' v.ownBlock := by
    intro ad news hn hc
    subst hn
    obtain ⟨v', w', hrun, r1, r2, _⟩ := run_append_own (P := Tryz.prog) w base 29 ty 128 i0 _ 2 16 Tryz.underlying29 hi hz0 hz1 hz2 rfl (by decide) v ys.length (NwV ys) hown ad zs.length cap (NwV zs) (NwV_length zs) hc (NwV_oneCell zs) (by unfold maxLen; omega) (by omega) hbase
    exact ⟨v', w', hrun, ownNw_more r1, r2⟩
  cases a with
  | some ad =>
    refine row ad (NwV zs) rfl ?_
    rcases h3 with rfl | ⟨b, off, ha, hc⟩
    · intro j u hj; simp [NwV] at hj
    · cases ha; exact newsAt_cells hc
  | none =>
    have hc0 := h0 rfl
    subst hc0
    rcases h3 with rfl | ⟨b, off, ha, hc⟩
    · refine ⟨v, w, run_append_owned_none (P := Tryz.prog) w base 29 ty 128 i0 2 Tryz.underlying29 hi v ys.length (NwV ys) hown, by simpa using hown, ⟨rfl, rfl, rfl, Nat.le_refl _, fun _ _ _ => rfl⟩⟩
    · cases ha
theorem wpList_append_news {w : World} {ops : Array Oper} {rest : List Oper} {o : Oper} {a : Act} {Q : Exit → Act → World → Prop} (hgd : o.guard = none) (s x : Operand)
    (ho : o.op = .call { callee := .builtin .append, args := #[s, x], argTypes := #[29, 29] }) (base : Nat) (v u : Value) (ys zs : List Nws) (hs : a.eval s = v) (hx : a.eval x = u) (hown : OwnNw w base v ys) (hr : RdNw w u zs) (hl : ys.length + zs.length ≤ 1000000000) (hbase : base ≤ w.heap.size)
    (h : ∀ v' w', OwnNw w' base v' (ys ++ zs) → w.grownBy w' v.ownBlock → wpList Tryz.prog ops Q rest (a.put o.dst v') w') : wpList Tryz.prog ops Q (o :: rest) a w := by
  refine wpList_plain hgd fun K hK => ?_
  obtain ⟨v', w', hrun, r1, r2⟩ := run_append_news o.type hown hr hl hbase
  unfold Oper.wp
  simp [execOp, ho, resolve, invoke, builtin, hs, hx, hrun, Result.andThen]
  exact hK _ _ (h v' w' r1 r2)
theorem step_append_news {w : World} {ops : Array Oper} {o : Oper} {a : Act} {K : Act → World → Prop} {Q : Exit → Act → World → Prop} {E : Prop} (hgd : o.guard = none) (d : Nat) (hd : o.dst = some d) (s x : Operand)
    (ho : o.op = .call { callee := .builtin .append, args := #[s, x], argTypes := #[29, 29] }) (base : Nat) (v u : Value) (ys zs : List Nws) (hs : a.eval s = v) (hx : a.eval x = u) (hown : OwnNw w base v ys) (hr : RdNw w u zs) (hl : ys.length + zs.length ≤ 1000000000) (hbase : base ≤ w.heap.size)
    (h : ∀ v' w', OwnNw w' base v' (ys ++ zs) → w.grownBy w' v.ownBlock → K (a.put (some d) v') w') :
    if Region.wanted o (yielded ops a.tmps) = true then Oper.wp Tryz.prog o a w K Q else E := by
  have hw : Region.wanted o (yielded ops a.tmps) = true := by simp [Region.wanted, hgd]
  rw [if_pos hw]
  obtain ⟨v', w', hrun, r1, r2⟩ := run_append_news o.type hown hr hl hbase
  unfold Oper.wp
  simp [execOp, ho, resolve, invoke, builtin, hs, hx, hrun, Result.andThen]
  have h' := h v' w' r1 r2
  rw [← hd] at h'
  exact h'
end Go.Proofs.YtilhaokiohbeeaaGreatDoor
namespace Go.Proofs.YtilhaokiohbeeaaGreatDoor
open Go.RowKit
/-- A Replica: its number, of how many, View, Voted, Locked, Proposed, High, Blocks, Votes, News, Done. -/
structure Rep where
  idn : Int
  n : Int
  vw : Int
  vo : Int
  lo : Int
  pr : Int
  hi : Prf
  bs : List Blk
  vs : List Vot
  ns : List Nws
  dn : List Int
/-- A Replica with the values of its rows. -/
structure RepX where
  idn : Int
  n : Int
  vw : Int
  vo : Int
  lo : Int
  pr : Int
  hi : PrX
  vb : Value
  bs : List BlX
  vv : Value
  vs : List Vot
  vn : Value
  ns : List Nws
  vd : Value
  dn : List Int
def RepX.rep (X : RepX) : Rep := ⟨X.idn, X.n, X.vw, X.vo, X.lo, X.pr, X.hi.p, X.bs.map (·.b), X.vs, X.ns, X.dn⟩
def RepX.cs (X : RepX) : List Value := [.int .i64 X.idn, .int .i64 X.n, .int .i64 X.vw, .int .i64 X.vo, .int .i64 X.lo, .int .i64 X.pr, .int .i64 X.hi.p.vw, .int .i64 X.hi.p.nm, X.hi.vs, X.hi.vt, X.vb, X.vv, X.vn, X.vd]
/-- A Replica that can be read. -/
structure RdRep (w : World) (X : RepX) : Prop where
  hi : RdPr w X.hi
  bl : RdBs w X.vb X.bs
  ib : InBs w X.bs
  vo : RdVo w X.vv X.vs
  nw : RdNw w X.vn X.ns
  dn : RdI w X.vd X.dn
theorem RdRep.below {w w' : World} {X : RepX} (h : RdRep w X) (hb : Below w.heap.size w w') : RdRep w' X := ⟨h.hi.below hb, h.bl.below hb, h.ib.below hb, h.vo.below hb, h.nw.below hb, h.dn.below hb⟩
/-- Its numbers are numbers of a program. -/
structure FitRep (X : Rep) : Prop where
  idn : -9223372036854775808 ≤ X.idn ∧ X.idn ≤ 9223372036854775807
  n : -9223372036854775808 ≤ X.n ∧ X.n ≤ 9223372036854775807
  vw : -9223372036854775808 ≤ X.vw ∧ X.vw ≤ 9223372036854775807
  vo : -9223372036854775808 ≤ X.vo ∧ X.vo ≤ 9223372036854775807
  lo : -9223372036854775808 ≤ X.lo ∧ X.lo ≤ 9223372036854775807
  pr : -9223372036854775808 ≤ X.pr ∧ X.pr ≤ 9223372036854775807
  hi : FitPr X.hi
  bs : ∀ b ∈ X.bs, FitBl b
  vs : ∀ v ∈ X.vs, FitVo v
  ns : ∀ v ∈ X.ns, FitNw v
  dn : ∀ s ∈ X.dn, -9223372036854775808 ≤ s ∧ s ≤ 9223372036854775807
/-- Its lists are short enough to be copied, its texts small. -/
structure SmallRep (X : RepX) : Prop where
  sum : X.hi.p.sv.length + X.hi.p.tg.length + bsz X.bs + X.vs.length + X.ns.length + X.dn.length ≤ 1048576
  bs : ∀ t ∈ X.bs, SmallB t.b
end Go.Proofs.YtilhaokiohbeeaaGreatDoor
-- UNF Gen
namespace Go.Proofs.YtilhaokiohbeeaaGreatDoor
open Go.RowKit
theorem made_VoV (n : Nat) : (madeCells #[.int .i64 0, .int .i64 0, .int .i64 0, .int .i64 0] (n * 4)).toList = VoV (List.replicate n zeroVo) := by
  apply List.ext_getElem?
  intro j
  by_cases hj : j < n * 4
  · have h1 : j / 4 < n := by omega
    have h2 := VoV_get (List.replicate n zeroVo) (j / 4) (by rw [List.length_replicate]; exact h1) (j % 4) (by omega)
    rw [show j / 4 * 4 + j % 4 = j by omega] at h2
    rw [h2, nthVo_eq (by rw [List.length_replicate]; exact h1), List.getElem_replicate]
    have h3 : j % 4 = 0 ∨ j % 4 = 1 ∨ j % 4 = 2 ∨ j % 4 = 3 := by omega
    rcases h3 with h | h | h | h <;> simp [madeCells, hj, h, VoC, zeroVo]
  · rw [List.getElem?_eq_none (by rw [Array.length_toList, size_madeCells]; omega), List.getElem?_eq_none (by rw [VoV_length, List.length_replicate]; omega)]
theorem VoV_setAt : ∀ (es : List Vot) (k : Nat), k < es.length → ∀ (j : Nat), j < 4 → ∀ (u : Value) (e' : Vot), (VoC (nthVo es k)).set j u = VoC e' → (VoV es).set (k * 4 + j) u = VoV (es.set k e')
  | [], k, h, _, _, _, _, _ => by simp at h
  | a :: r, 0, _, j, hj, u, e', h => by
    rw [nthVo_zero] at h
    rw [VoV_cons, Nat.zero_mul, Nat.zero_add, List.set_append_left _ _ (by simp [VoC]; exact hj), h, List.set_cons_zero, VoV_cons]
  | a :: r, k + 1, hk, j, hj, u, e', h => by
    rw [nthVo_succ] at h
    rw [VoV_cons, List.set_append_right _ _ (by simp [VoC]; omega), List.set_cons_succ, VoV_cons, ← VoV_setAt r k (by simpa using hk) j hj u e' h]
    congr 2
    simp [VoC]; omega
theorem ownVo_store {w : World} {base g cap n : Nat} {es : List Vot} (ho : w.ownsRow base 36 4 (.slice (some ⟨g, 0, none⟩) n cap) n (VoV es)) {k j : Nat} (hk : k < es.length) (hj : j < 4) {u : Value} {e' : Vot} (h : (VoC (nthVo es k)).set j u = VoC e') :
    (w.setCell ⟨g, k * 4 + j, none⟩ u).ownsRow base 36 4 (.slice (some ⟨g, 0, none⟩) n cap) n (VoV (es.set k e')) := by
  have := (ho.stored (k * 4 + j) u).1
  rwa [VoV_setAt es k hk j hj u e' h] at this
theorem nthVo_set_same {es : List Vot} {k : Nat} (hk : k < es.length) (e : Vot) : nthVo (es.set k e) k = e := by
  rw [nthVo_eq (by rw [List.length_set]; exact hk), List.getElem_set_self]
/-- A whole entry stored. -/
theorem ownVo_store2 {w : World} {base g cap n : Nat} {es : List Vot} (ho : w.ownsRow base 36 4 (.slice (some ⟨g, 0, none⟩) n cap) n (VoV es)) {k : Nat} (hk : k < es.length) (x : Vot) :
    ((((w.setCell ⟨g, k * 4, none⟩ (.int .i64 x.vw)).setCell ⟨g, k * 4 + 1, none⟩ (.int .i64 x.nm)).setCell ⟨g, k * 4 + 2, none⟩ (.int .i64 x.sv)).setCell ⟨g, k * 4 + 3, none⟩ (.int .i64 x.tg)).ownsRow base 36 4 (.slice (some ⟨g, 0, none⟩) n cap) n (VoV (es.set k x)) := by
  have h0 := ownVo_store ho hk (j := 0) (by omega) (u := .int .i64 x.vw) (e' := { nthVo es k with vw := x.vw }) rfl
  have h1 := ownVo_store h0 (k := k) (j := 1) (by rw [List.length_set]; exact hk) (by omega) (u := .int .i64 x.nm) (e' := { nthVo es k with vw := x.vw, nm := x.nm }) (by rw [nthVo_set_same hk]; rfl)
  rw [List.set_set] at h1
  have h2 := ownVo_store h1 (k := k) (j := 2) (by rw [List.length_set]; exact hk) (by omega) (u := .int .i64 x.sv) (e' := { nthVo es k with vw := x.vw, nm := x.nm, sv := x.sv }) (by rw [nthVo_set_same hk]; rfl)
  rw [List.set_set] at h2
  have h3 := ownVo_store h2 (k := k) (j := 3) (by rw [List.length_set]; exact hk) (by omega) (u := .int .i64 x.tg) (e' := x) (by rw [nthVo_set_same hk]; rfl)
  rw [List.set_set] at h3
  exact h3
theorem cpVo_step (bs : List Vot) (z : Vot) (k : Nat) (h : k < bs.length) : (bs.take k ++ List.replicate (bs.length - k) z).set k (nthVo bs k) = bs.take (k + 1) ++ List.replicate (bs.length - (k + 1)) z := by
  have hl : (bs.take k).length = k := by rw [List.length_take]; omega
  rw [List.set_append_right _ _ (by omega), hl, Nat.sub_self]
  obtain ⟨m, hm⟩ : ∃ m, bs.length - k = m + 1 := ⟨bs.length - k - 1, by omega⟩
  have hm2 : bs.length - (k + 1) = m := by omega
  rw [hm, hm2, List.replicate_succ, List.set_cons_zero, List.take_succ_eq_append_getElem h, List.append_assoc, List.singleton_append, nthVo_eq h]
theorem cpVo_len (bs : List Vot) (z : Vot) (k : Nat) (h : k ≤ bs.length) : (bs.take k ++ List.replicate (bs.length - k) z).length = bs.length := by
  rw [List.length_append, List.length_take, List.length_replicate]; omega
set_option maxHeartbeats 1000000 in
set_option maxRecDepth 100000 in
theorem toVote_any (x : Vot) (w : World) :
    Calls Tryz.prog 112 #[.agg #[.int .i64 x.vw, .int .i64 x.nm, .int .i64 x.sv, .int .i64 x.tg]] w fun e w' => e = .returned (.agg #[.int .i64 x.vw, .int .i64 x.nm, .int .i64 x.sv, .int .i64 x.tg]) ∧ Below w.heap.size w w' := by
  go_enter Tryz.func112, Tryz.ntmps112
  go_wp2
  refine bodyPost_ret (v := .agg #[.int .i64 x.vw, .int .i64 x.nm, .int .i64 x.sv, .int .i64 x.tg]) (by simp [results, Tryz.results112, go_sem]) rfl ⟨rfl, (below2 _ _ _).alloc (by simp; omega) _⟩
set_option maxHeartbeats 1000000 in
set_option maxRecDepth 100000 in
theorem toVotes_any (v : Value) (bs : List Vot) (w : World) (hr : RdVo w v bs) (hs : bs.length ≤ 1073741824) :
    Calls Tryz.prog 108 #[v] w fun e w' => ∃ u, e = .returned u ∧ OwnVo w' w.heap.size u bs ∧ Below w.heap.size w w' := by
  obtain ⟨i0, hi, hz0, hz1, hz2⟩ := info_parts Tryz.infoVo36
  obtain ⟨a, cap, hv, hl, hm, _⟩ := id hr
  unfold maxLen at hm
  subst hv
  go_enter Tryz.func108, Tryz.ntmps108
  go_wp2_with (at_make; (refine wpList_make_full _ rfl _ _ 28 rfl w.heap.size 36 i0 _ 4 Tryz.underlying28 hi hz0 hz1 .i64 .i64 (bs.length : Int) (bs.length : Int) bs.length rfl rfl rfl rfl ?c1 ?c2 ?c3 ?_))
  case c1 => rw [hz2]; omega
  case c2 => unfold maxLen; omega
  case c3 => omega
  intro w1 ho1 hg1
  rw [made_VoV] at ho1
  have hb1 : Below w.heap.size w w1 := (Below.refl _ _).grown hg1 (Nat.le_refl _) (fun k hk => by cases hk)
  clear hg1
  go_wp2
  go_loopw [4] (fun i wr => ∃ k : Nat, k ≤ bs.length ∧ i = .int .i64 k ∧ wr.ownsRow w.heap.size 36 4 (.slice (some ⟨w.heap.size, 0, none⟩) bs.length bs.length) bs.length (VoV (bs.take k ++ List.replicate (bs.length - k) zeroVo)) ∧ Below w.heap.size w wr) (fun i _ => bs.length - (intOf i).toNat)
  case atStart => exact ⟨0, Nat.zero_le _, rfl, by simpa using ho1, hb1⟩
  case round =>
    obtain ⟨k, hk, rfl, ho, hb⟩ := hrel
    clear ho1 hb1
    by_cases hlt : k < bs.length
    · obtain ⟨b, off, rfl, hc⟩ := (hr.below hb).at rfl k hlt
      obtain ⟨x, hx⟩ : ∃ x, x = nthVo bs k := ⟨_, rfl⟩
      rw [← hx] at hc
      have HX : Hid (x = nthVo bs k) := hx
      clear hx
      obtain ⟨c0, c1, c2, c3⟩ := hc
      go_wp2_with fail
      refine (toVote_any x _).mono ?_
      rintro e w1 ⟨rfl, hb1⟩
      have ho1 := own_below ho hb1
      have hlen := cpVo_len bs zeroVo k hk
      obtain ⟨d0, d1, d2, d3⟩ := ownVo_cell ho1 hlen.symm k hlt
      have f0 := ho1.frozenAt (k * 4)
      have f1 := ho1.frozenAt (k * 4 + 1)
      have f2 := ho1.frozenAt (k * 4 + 2)
      have f3 := ho1.frozenAt (k * 4 + 3)
      have R1 := ownVo_store2 ho1 (k := k) (by rw [hlen]; exact hlt) x
      rw [HX.out, cpVo_step bs zeroVo k hlt, ← HX.out] at R1
      have R2 := hb.trans (hb1.mono hb.size)
      have H1 : Hid (World.ownsRow _ _ _ _ _ _ _) := R1
      clear ho ho1 hb hb1 R1
      go_wp2
      go_roundw
      case rel => exact ⟨k + 1, by omega, by go_num, H1.out, (((R2.setCell (Nat.le_refl _) _).setCell (Nat.le_refl _) _).setCell (Nat.le_refl _) _).setCell (Nat.le_refl _) _⟩
      case measure => simp [intOf]; omega
    · have hke : k = bs.length := by omega
      subst hke
      have H1 : OwnVo wr w.heap.size (.slice (some ⟨w.heap.size, 0, none⟩) bs.length bs.length) bs := by unfold OwnVo; simpa using ho
      clear ho
      go_wp2
      go_ret
      exact ⟨_, rfl, H1, hb⟩
/-- What the measure of Votes leaves: a number below 0, or there are few. -/
def SzVos (w : World) (es : List Vot) (e : Ending) (w' : World) : Prop :=
  w' = w ∧ ∃ z : Int, e = .returned (.int .i64 z) ∧ (z = -1 ∨ 0 ≤ z ∧ es.length ≤ 1048576)
set_option maxHeartbeats 1000000 in
set_option maxRecDepth 100000 in
theorem szVotes_any (v : Value) (es : List Vot) (w : World) (hr : RdVo w v es) :
    Calls Tryz.prog 102 #[v, .int .i64 1048576] w fun e w' => SzVos w es e w' := by
  obtain ⟨a, cap, hv, hl, hm, _⟩ := id hr
  unfold maxLen at hm
  subst hv
  by_cases hbig : 1048576 < es.length
  · go_enter Tryz.func102, Tryz.ntmps102
    go_wp2
    go_ret
    exact ⟨rfl, -1, rfl, .inl rfl⟩
  · go_enter Tryz.func102, Tryz.ntmps102
    go_wp2
    go_ret
    exact ⟨rfl, _, rfl, .inr ⟨by omega, by omega⟩⟩
set_option maxHeartbeats 1000000 in
set_option maxRecDepth 100000 in
theorem eqVote_same (x : Vot) (w : World) :
    Calls Tryz.prog 119 #[.agg #[.int .i64 x.vw, .int .i64 x.nm, .int .i64 x.sv, .int .i64 x.tg], .agg #[.int .i64 x.vw, .int .i64 x.nm, .int .i64 x.sv, .int .i64 x.tg]] w fun e w' => e = .returned (.bool true) ∧ Below w.heap.size w w' := by
  have h1 : (x.vw != x.vw) = false := by simp
  have h2 : (x.nm != x.nm) = false := by simp
  have h3 : (x.sv != x.sv) = false := by simp
  have h4 : (x.tg != x.tg) = false := by simp
  go_enter Tryz.func119, Tryz.ntmps119
  go_wp2
  go_ret
  exact ⟨rfl, below2 _ _ _⟩
set_option maxHeartbeats 1000000 in
set_option maxRecDepth 100000 in
theorem eqVotes_same (va vb : Value) (es : List Vot) (w : World) (ha : RdVo w va es) (hb : RdVo w vb es) :
    Calls Tryz.prog 115 #[va, vb] w fun e w' => e = .returned (.bool true) ∧ Below w.heap.size w w' := by
  obtain ⟨aa, ca, hva, hla, hma, _⟩ := id ha
  obtain ⟨ab, cb, hvb, hlb, hmb, _⟩ := id hb
  subst hva
  subst hvb
  unfold maxLen at hma hmb
  have hne : ((es.length : Int) != (es.length : Int)) = false := by simp
  go_enter Tryz.func115, Tryz.ntmps115
  go_wp2
  go_loopw [5] (fun i wr => ∃ k : Nat, k ≤ es.length ∧ i = .int .i64 k ∧ Below w.heap.size w wr) (fun i _ => es.length - (intOf i).toNat)
  case atStart => exact ⟨0, Nat.zero_le _, rfl, Below.refl _ _⟩
  case round =>
    obtain ⟨k, hk, rfl, hbw⟩ := hrel
    by_cases hlt : k < es.length
    · obtain ⟨b1, o1, rfl, hc1⟩ := (ha.below hbw).at rfl k hlt
      obtain ⟨b2, o2, rfl, hc2⟩ := (hb.below hbw).at rfl k hlt
      obtain ⟨x, hx⟩ : ∃ x, x = nthVo es k := ⟨_, rfl⟩
      rw [← hx] at hc1 hc2
      clear hx
      go_wp2_with fail
      refine wp_region_noPanic ?_
      refine wp_region_held_drew (S := fun w' => (w'.cell? ⟨b1, o1 + k * 4, none⟩ = some (.int .i64 x.vw) ∧ w'.cell? ⟨b1, o1 + k * 4 + 1, none⟩ = some (.int .i64 x.nm) ∧ w'.cell? ⟨b1, o1 + k * 4 + 2, none⟩ = some (.int .i64 x.sv) ∧ w'.cell? ⟨b1, o1 + k * 4 + 3, none⟩ = some (.int .i64 x.tg)) ∧ (w'.cell? ⟨b2, o2 + k * 4, none⟩ = some (.int .i64 x.vw) ∧ w'.cell? ⟨b2, o2 + k * 4 + 1, none⟩ = some (.int .i64 x.nm) ∧ w'.cell? ⟨b2, o2 + k * 4 + 2, none⟩ = some (.int .i64 x.sv) ∧ w'.cell? ⟨b2, o2 + k * 4 + 3, none⟩ = some (.int .i64 x.tg))) (by kernel_rfl) ⟨hc1, hc2⟩ (fun hH => ?_)
      refine tkG 0 17 hH ?_
      try simp only [Act.put, List.setIfInBounds_toArray, List.set_cons_zero, List.set_cons_succ]
      refine tkG 1 18 hH ?_
      try simp only [Act.put, List.setIfInBounds_toArray, List.set_cons_zero, List.set_cons_succ]
      refine tkG 2 19 hH ?_
      try simp only [Act.put, List.setIfInBounds_toArray, List.set_cons_zero, List.set_cons_succ]
      refine tkG 3 20 hH ?_
      try simp only [Act.put, List.setIfInBounds_toArray, List.set_cons_zero, List.set_cons_succ]
      refine tkG 4 21 hH ?_
      try simp only [Act.put, List.setIfInBounds_toArray, List.set_cons_zero, List.set_cons_succ]
      refine tkG 5 22 hH ?_
      try simp only [Act.put, List.setIfInBounds_toArray, List.set_cons_zero, List.set_cons_succ]
      refine tkG 6 23 hH ?_
      try simp only [Act.put, List.setIfInBounds_toArray, List.set_cons_zero, List.set_cons_succ]
      refine tkG 7 24 hH ?_
      try simp only [Act.put, List.setIfInBounds_toArray, List.set_cons_zero, List.set_cons_succ]
      refine wpAnyH_ready (rs := [8]) (by kernel_rfl) (by simp) ?_
      refine AllReadyH.cons rfl (fun K hK => ?_) AllReadyH.nil
      go_simp
      refine (eqVote_same x _).mono ?_
      rintro e w1 ⟨rfl, hb1⟩
      refine hK.out _ _ ⟨VotAt.below (w := wr.drew) (e := x) hH.1 hb1, VotAt.below (w := wr.drew) (e := x) hH.2 hb1⟩ (fun hA => ?_)
      clear hK K
      try simp only [Act.put, List.setIfInBounds_toArray, List.set_cons_zero, List.set_cons_succ]
      refine tkG 9 26 hA ?_
      try simp only [Act.put, List.setIfInBounds_toArray, List.set_cons_zero, List.set_cons_succ]
      refine wpAnyH_done (by kernel_rfl) ?_ _
      refine NoPanic.normal ?_
      have bz := hbw.drew.trans (hb1.mono hbw.size)
      clear hH hA hc1 hc2
      go_wp2
      go_roundw
      case rel => exact ⟨k + 1, by omega, by go_num, bz⟩
      case measure => simp [intOf]; omega
    · go_wp2
      go_ret
      exact ⟨rfl, hbw⟩
end Go.Proofs.YtilhaokiohbeeaaGreatDoor
