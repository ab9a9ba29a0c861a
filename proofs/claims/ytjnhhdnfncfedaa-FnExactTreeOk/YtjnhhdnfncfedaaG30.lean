/- Rows of tables and trees in memory. Rows of tables of the call's own; the contract of the model's l7Tables. The contract of the model's l7Copy: a tree's own copy. The contracts of the law's marking of a slice of entries, and of finding the marks again. The contract of the program's question whether an entry is the newest of its key. -/
import Derived.Test.YtjnhhdnfncfedaaTreMath2
import Derived.Test.YtjnhhdnfncfedaaG27
import Derived.Test.YtjnhhdnfncfedaaMrgSpec3
import Derived.Test.YtjnhhdnfncfedaaG19
import Derived.Maps.AppendAt
import Derived.Test.YtjnhhdnfncfedaaEntImplOk
namespace Go.Proofs.Ytjnhhdnfncfedaa
open Go.RowKit
/-- A table and its two rows. -/
structure TV where
  T : Tbl
  vb : Value
  vk : Value
def zeroTV : TV := ⟨zeroT, .slice none 0 0, .slice none 0 0⟩
def nthT (ts : List TV) (i : Nat) : TV := ts.getD i zeroTV
theorem nthT_eq {ts : List TV} {i : Nat} (h : i < ts.length) : nthT ts i = ts[i] := by simp [nthT, List.getD, List.getElem?_eq_getElem h]
/-- A table lies at offset o of block b, its rows can be read. -/
def TabAt (w : World) (b o : Nat) (t : TV) : Prop :=
  w.cell? ⟨b, o, none⟩ = some (.string t.T.first) ∧ w.cell? ⟨b, o + 1, none⟩ = some (.string t.T.last) ∧ w.cell? ⟨b, o + 2, none⟩ = some t.vb ∧ w.cell? ⟨b, o + 3, none⟩ = some t.vk
theorem TabAt.lt {w : World} {b o : Nat} {t : TV} (h : TabAt w b o t) : b < w.heap.size := World.block_lt_of_cell? w _ h.1
theorem TabAt.of_block {w w' : World} {b o : Nat} {t : TV} (h : TabAt w b o t) (hb : w'.heap[b]? = w.heap[b]?) : TabAt w' b o t :=
  ⟨(World.cell?_of_block (a := ⟨b, o, none⟩) hb).trans h.1, (World.cell?_of_block (a := ⟨b, o + 1, none⟩) hb).trans h.2.1, (World.cell?_of_block (a := ⟨b, o + 2, none⟩) hb).trans h.2.2.1, (World.cell?_of_block (a := ⟨b, o + 3, none⟩) hb).trans h.2.2.2⟩
theorem TabAt.below {w w' : World} {b o : Nat} {t : TV} (h : TabAt w b o t) (hb : Below w.heap.size w w') : TabAt w' b o t := h.of_block (hb.block b h.lt)
/-- A row of tables that can be read. -/
def RdTs (w : World) (v : Value) (ts : List TV) : Prop :=
  ∃ a cap, v = .slice a ts.length cap ∧ ts.length ≤ cap ∧ cap ≤ maxLen ∧ (ts = [] ∨ ∃ b off, a = some ⟨b, off, none⟩ ∧ ∀ i, i < ts.length → TabAt w b (off + i * 4) (nthT ts i)) ∧ ∀ t ∈ ts, RdI w t.vb t.T.bits ∧ RdS w t.vk t.T.blocks
theorem RdTs.below {w w' : World} {v : Value} {ts : List TV} (h : RdTs w v ts) (hb : Below w.heap.size w w') : RdTs w' v ts := by
  obtain ⟨a, cap, hv, h1, h2, h3, h4⟩ := h
  refine ⟨a, cap, hv, h1, h2, ?_, fun t ht => ⟨(h4 t ht).1.below hb, (h4 t ht).2.below hb⟩⟩
  rcases h3 with h3 | ⟨b, off, ha, hc⟩
  · exact .inl h3
  · exact .inr ⟨b, off, ha, fun i hi => (hc i hi).below hb⟩
theorem RdTs.at {w : World} {a : Option Addr} {n cap : Nat} {ts : List TV} (h : RdTs w (.slice a n cap) ts) (i : Nat) (hi : i < ts.length) : ∃ b off, a = some ⟨b, off, none⟩ ∧ TabAt w b (off + i * 4) (nthT ts i) ∧ RdI w (nthT ts i).vb (nthT ts i).T.bits ∧ RdS w (nthT ts i).vk (nthT ts i).T.blocks := by
  obtain ⟨a', cap', hv, _, _, h3, h4⟩ := h
  simp only [Value.slice.injEq] at hv
  obtain ⟨rfl, _, _⟩ := hv
  rcases h3 with rfl | ⟨b, off, ha, hc⟩
  · simp at hi
  · have := h4 (nthT ts i) (by rw [nthT_eq hi]; exact List.getElem_mem hi)
    exact ⟨b, off, ha, hc i hi, this.1, this.2⟩
/-- A tree with its values. -/
structure TrX where
  vm : Value
  vy : Value
  vo : Value
  vs : Value
  mem : List Ent
  ys : List TV
  os : List TV
  seq : Int
  snaps : List Int
def TrX.tre (X : TrX) : Tre := ⟨X.mem, X.ys.map (·.T), X.os.map (·.T), X.seq, X.snaps⟩
/-- A tree that can be read; its texts and numbers are such as a program can hold. -/
structure RdTr (w : World) (X : TrX) : Prop where
  mem : RdE w X.vm X.mem
  young : RdTs w X.vy X.ys
  old : RdTs w X.vo X.os
  snaps : RdI w X.vs X.snaps
theorem RdTr.below {w w' : World} {X : TrX} (h : RdTr w X) (hb : Below w.heap.size w w') : RdTr w' X := ⟨h.mem.below hb, h.young.below hb, h.old.below hb, h.snaps.below hb⟩
structure FitTr (X : TrX) : Prop where
  mem : ∀ e ∈ X.mem, Fits e
  young : ∀ t ∈ X.ys, ∀ s ∈ t.T.blocks, s.size ≤ 1000000000
  old : ∀ t ∈ X.os, ∀ s ∈ t.T.blocks, s.size ≤ 1000000000
/-- The five cells of a tree in a box. -/
def TreAt (w : World) (b : Nat) (X : TrX) : Prop :=
  w.cell? ⟨b, 0, none⟩ = some X.vm ∧ w.cell? ⟨b, 1, none⟩ = some X.vy ∧ w.cell? ⟨b, 2, none⟩ = some X.vo ∧ w.cell? ⟨b, 3, none⟩ = some (.int .i64 X.seq) ∧ w.cell? ⟨b, 4, none⟩ = some X.vs
theorem TreAt.lt {w : World} {b : Nat} {X : TrX} (h : TreAt w b X) : b < w.heap.size := World.block_lt_of_cell? w _ h.1
theorem TreAt.of_block {w w' : World} {b : Nat} {X : TrX} (h : TreAt w b X) (hb : w'.heap[b]? = w.heap[b]?) : TreAt w' b X :=
  ⟨(World.cell?_of_block (a := ⟨b, 0, none⟩) hb).trans h.1, (World.cell?_of_block (a := ⟨b, 1, none⟩) hb).trans h.2.1, (World.cell?_of_block (a := ⟨b, 2, none⟩) hb).trans h.2.2.1, (World.cell?_of_block (a := ⟨b, 3, none⟩) hb).trans h.2.2.2.1, (World.cell?_of_block (a := ⟨b, 4, none⟩) hb).trans h.2.2.2.2⟩
theorem TreAt.below {w w' : World} {b : Nat} {X : TrX} (h : TreAt w b X) (hb : Below w.heap.size w w') : TreAt w' b X := h.of_block (hb.block b h.lt)
theorem treAt_new (w : World) (X : TrX) (t : TypeId) : TreAt (w.alloc (.cells #[X.vm, X.vy, X.vo, .int .i64 X.seq, X.vs] t)) w.heap.size X := by
  refine ⟨?_, ?_, ?_, ?_, ?_⟩ <;> simp [World.cell?_alloc_at]
end Go.Proofs.Ytjnhhdnfncfedaa
namespace Go.Proofs.Ytjnhhdnfncfedaa
open Go.RowKit
theorem Try.infoT62 : (Try.prog.info? 62).map (fun i => (i.zero, i.size, i.bytes)) = some (some (.agg #[.string ⟨#[]⟩, .string ⟨#[]⟩, .slice none 0 0, .slice none 0 0]), 4, 80) := by kernel_rfl
/-- A slice without a block has no room. -/
def NilOk (v : Value) : Prop := ∀ n c, v = .slice none n c → c = 0
theorem run_append_txts (ty : TypeId) {w : World} {base : Nat} {v u : Value} {ys zs : List ByteArray} (hown : OwnS w base v ys) (hr : RdS w u zs) (hn : NilOk u) (hl : ys.length + zs.length ≤ 1000000000) (hbase : base ≤ w.heap.size) :
    ∃ v' w', (Builtin.append_ #[57, 57] ty #[v, u]).run Try.prog w = .ok v' w' ∧ OwnS w' base v' (ys ++ zs) ∧ w.grownBy w' v.ownBlock := by
  obtain ⟨i0, hi, hz0, hz1, hz2⟩ := info_parts Try.info9
  obtain ⟨a, cap, rfl, h1, h2, h3⟩ := hr
  have more : ∀ {w1 : World} {v' : Value}, w1.ownsRow base 9 1 v' (ys.length + zs.length) (SV ys ++ SV zs) → OwnS w1 base v' (ys ++ zs) := fun h => by unfold OwnS; rw [SV_append, List.length_append]; exact h
  have row : ∀ ad, (∀ j u, (SV zs)[j]? = some u → w.cell? (ad.add j) = some u) → ∃ v' w', (Builtin.append_ #[57, 57] ty #[v, .slice (some ad) zs.length cap]).run Try.prog w = .ok v' w' ∧ OwnS w' base v' (ys ++ zs) ∧ w.grownBy w' v.ownBlock := by
    intro ad hc
    obtain ⟨v', w', hrun, r1, r2, _⟩ := run_append_own (P := Try.prog) w base 57 ty 9 i0 _ 1 16 Try.underlying57 hi hz0 hz1 hz2 rfl (by decide) v ys.length (SV ys) hown ad zs.length cap (SV zs) (by rw [SV_length]; omega) hc (fun u hu => by obtain ⟨_, _, rfl⟩ := List.mem_map.1 hu; rfl) (by unfold maxLen; omega) (by omega) hbase
    exact ⟨v', w', hrun, more r1, r2⟩
  cases a with
  | some ad =>
    refine row ad ?_
    rcases h3 with rfl | ⟨b, off, ha, hc⟩
    · intro j u hj; simp [SV] at hj
    · cases ha
      intro j u hj
      have hjl : j < zs.length := by have := (List.getElem?_eq_some_iff.1 hj).1; rwa [SV_length] at this
      rw [SV_get zs j hjl] at hj
      cases hj
      rw [Addr.add_lit]
      exact hc j hjl
  | none =>
    have hc0 := hn _ _ rfl
    subst hc0
    rcases h3 with rfl | ⟨b, off, ha, hc⟩
    · refine ⟨v, w, run_append_owned_none (P := Try.prog) w base 57 ty 9 i0 1 Try.underlying57 hi v ys.length (SV ys) hown, by simpa using hown, ⟨rfl, rfl, rfl, Nat.le_refl _, fun _ _ _ => rfl⟩⟩
    · cases ha
theorem wpList_append_txts {w : World} {ops : Array Oper} {rest : List Oper} {o : Oper} {a : Act} {Q : Exit → Act → World → Prop} (hgd : o.guard = none) (s x : Operand)
    (ho : o.op = .call { callee := .builtin .append, args := #[s, x], argTypes := #[57, 57] }) (base : Nat) (v u : Value) (ys zs : List ByteArray) (hs : a.eval s = v) (hx : a.eval x = u) (hown : OwnS w base v ys) (hr : RdS w u zs) (hn : NilOk u) (hl : ys.length + zs.length ≤ 1000000000) (hbase : base ≤ w.heap.size)
    (h : ∀ v' w', OwnS w' base v' (ys ++ zs) → w.grownBy w' v.ownBlock → wpList Try.prog ops Q rest (a.put o.dst v') w') : wpList Try.prog ops Q (o :: rest) a w := by
  refine wpList_plain hgd fun K hK => ?_
  obtain ⟨v', w', hrun, r1, r2⟩ := run_append_txts o.type hown hr hn hl hbase
  unfold Oper.wp
  simp [execOp, ho, resolve, invoke, builtin, hs, hx, hrun, Result.andThen]
  exact hK _ _ (h v' w' r1 r2)
/-- A table's four cells; a row of tables of the call's own; its tables' rows are the call's own too. -/
def TC (t : TV) : List Value := [.string t.T.first, .string t.T.last, t.vb, t.vk]
def TVs (ts : List TV) : List Value := ts.flatMap TC
theorem TVs_append (a b : List TV) : TVs (a ++ b) = TVs a ++ TVs b := by simp [TVs]
theorem TVs_cons (a : TV) (r : List TV) : TVs (a :: r) = TC a ++ TVs r := by simp [TVs]
theorem TVs_length (ts : List TV) : (TVs ts).length = ts.length * 4 := by
  induction ts with
  | nil => rfl
  | cons a r ih => rw [TVs_cons, List.length_append, ih]; simp [TC]; omega
theorem TVs_get : ∀ (ts : List TV) (i : Nat), i < ts.length → ∀ j, j < 4 → (TVs ts)[i * 4 + j]? = (TC (nthT ts i))[j]?
  | [], i, h => by simp at h
  | a :: r, 0, _ => fun j hj => by
    rw [TVs_cons, Nat.zero_mul, Nat.zero_add, List.getElem?_append_left (by simp [TC]; exact hj)]
    rfl
  | a :: r, i + 1, h => fun j hj => by
    have hn : nthT (a :: r) (i + 1) = nthT r i := by simp [nthT, List.getD]
    rw [TVs_cons, hn, ← TVs_get r i (by simpa using h) j hj, List.getElem?_append_right (by simp [TC]; omega)]
    congr 1
    simp [TC]; omega
def OwnT (w : World) (base : Nat) (v : Value) (ts : List TV) : Prop := w.ownsRow base 62 4 v ts.length (TVs ts)
def InT (w : World) (B : Nat) (ts : List TV) : Prop := ∀ t ∈ ts, OwnI w B t.vb t.T.bits ∧ OwnS w B t.vk t.T.blocks
theorem OwnT.below {w w' : World} {B : Nat} {v : Value} {ts : List TV} (h : OwnT w B v ts) (hb : Below w.heap.size w w') : OwnT w' B v ts := own_below h hb
theorem InT.below {w w' : World} {B : Nat} {ts : List TV} (h : InT w B ts) (hb : Below w.heap.size w w') : InT w' B ts := fun t ht => ⟨(h t ht).1.below hb, (h t ht).2.below hb⟩
theorem InT.grown {w w' : World} {B B' : Nat} {o : Value} {ts us : List TV} (h : InT w B ts) (ho : OwnT w B' o us) (hg : w.grownBy w' o.ownBlock) : InT w' B ts := fun t ht =>
  ⟨row_kept (h t ht).1 hg (fun k hk e => rows_apart (h t ht).1 ho (by decide) k hk e), row_kept (h t ht).2 hg (fun k hk e => rows_apart (h t ht).2 ho (by decide) k hk e)⟩
theorem InT.push {w : World} {B : Nat} {ts : List TV} {t : TV} (h : InT w B ts) (h1 : OwnI w B t.vb t.T.bits) (h2 : OwnS w B t.vk t.T.blocks) : InT w B (ts ++ [t]) := fun x hx => by
  rcases List.mem_append.1 hx with hx | hx
  · exact h x hx
  · rw [List.mem_singleton.1 hx]; exact ⟨h1, h2⟩
theorem ownT_push {w : World} {B : Nat} {v : Value} {ts : List TV} {t : TV} (h : w.ownsRow B 62 4 v (ts.length + 1) (TVs ts ++ TC t)) : OwnT w B v (ts ++ [t]) := by
  unfold OwnT
  rw [List.length_append, TVs_append, show TVs [t] = TC t by simp [TVs]]
  exact h
theorem ownT_none (w : World) : OwnT (w.alloc (.cells #[] 62)) w.heap.size (.slice (some ⟨w.heap.size, 0, none⟩) 0 0) [] := World.ownsRow_lit w #[] 0 (Nat.le_refl _) (Nat.zero_le _) rfl
theorem OwnT.rd {w : World} {B B' : Nat} {v : Value} {ts : List TV} (h : OwnT w B v ts) (hi : InT w B' ts) : RdTs w v ts := by
  have h' := h
  have hin : ∀ t ∈ ts, RdI w t.vb t.T.bits ∧ RdS w t.vk t.T.blocks := fun t ht => ⟨(hi t ht).1.rd, (hi t ht).2.rd⟩
  rcases h.2 with ⟨rfl, h0⟩ | ⟨g, cap, cur, rfl, hb, hg, hn, hc, hs, ht⟩
  · have : ts = [] := List.length_eq_zero_iff.1 h0
    subst this
    exact ⟨none, 0, rfl, Nat.le_refl _, Nat.zero_le _, .inl rfl, hin⟩
  · refine ⟨_, cap, rfl, hn, hc, .inr ⟨g, 0, rfl, fun i hi => ?_⟩, hin⟩
    have c : ∀ j, j < 4 → w.cell? ⟨g, i * 4 + j, none⟩ = (TC (nthT ts i))[j]? := fun j hj => (World.ownsRow.cellAt h' (i * 4 + j) (by omega)).trans (TVs_get ts i hi j hj)
    rw [Nat.zero_add]
    exact ⟨c 0 (by omega), c 1 (by omega), c 2 (by omega), c 3 (by omega)⟩
/-- What l7Tables leaves: the same tables, in rows of the call's own. -/
def TabsPost (w : World) (ts : List TV) (e : Ending) (w' : World) : Prop :=
  ∃ u us, e = .returned u ∧ us.map (·.T) = ts.map (·.T) ∧ OwnT w' w.heap.size u us ∧ InT w' w.heap.size us ∧ Below w.heap.size w w'
theorem one_tab (w : World) (t : TV) (ty : TypeId) (n : Nat) (hn : n = w.heap.size) : ∀ j u, (TC t)[j]? = some u → (w.alloc (.cells #[.string t.T.first, .string t.T.last, t.vb, t.vk] ty)).cell? ((⟨n, 0, none⟩ : Addr).add j) = some u := by
  intro j u h
  subst hn
  match j with
  | 0 => cases h; simp [Addr.add, World.cell?_alloc_at]
  | 1 => cases h; simp [Addr.add, World.cell?_alloc_at]
  | 2 => cases h; simp [Addr.add, World.cell?_alloc_at]
  | 3 => cases h; simp [Addr.add, World.cell?_alloc_at]
  | j + 4 => simp [TC] at h
theorem boxT_put2 {w : World} {b : Nat} {f l : ByteArray} {vb vk vb' : Value} (h : BoxT w b f l vb vk) : BoxT (w.setCell ⟨b, 2, none⟩ vb') b f l vb' vk := by
  unfold BoxT at h ⊢
  exact heap_setCell_same w b 2 _ _ vb' h
theorem boxT_put3 {w : World} {b : Nat} {f l : ByteArray} {vb vk vk' : Value} (h : BoxT w b f l vb vk) : BoxT (w.setCell ⟨b, 3, none⟩ vk') b f l vb vk' := by
  unfold BoxT at h ⊢
  exact heap_setCell_same w b 3 _ _ vk' h
/-- What stands at the end of a round. -/
theorem rowOwn_set {w : World} {B b j : Nat} {o u : Value} {us : List TV} (h : OwnT w B o us) (hb : ∀ k, o.ownBlock = some k → b ≠ k) : OwnT (w.setCell ⟨b, j, none⟩ u) B o us := row_set h hb
theorem InT.set {w : World} {B b j : Nat} {f l : ByteArray} {vb vk u : Value} {us : List TV} (h : InT w B us) (hx : BoxT w b f l vb vk) : InT (w.setCell ⟨b, j, none⟩ u) B us := fun t ht =>
  ⟨row_set (h t ht).1 (boxT_row hx (h t ht).1 (by decide)), row_set (h t ht).2 (boxT_row hx (h t ht).2 (by decide))⟩
end Go.Proofs.Ytjnhhdnfncfedaa
namespace Go.Proofs.Ytjnhhdnfncfedaa
open Go.RowKit
/-- An empty row of the call's own comes up in a region that draws its order. -/
theorem step_row0 {w : World} {ops : Array Oper} {o : Oper} {a : Act} {K : Act → World → Prop} {Q : Exit → Act → World → Prop} {E : Prop} (hgd : o.guard = none) (d : Nat) (hd : o.dst = some d) (e : TypeId) (s : Nat)
    (hrun : (execOp a.eval o).run Try.prog w = .ok (.value (.slice (some ⟨w.heap.size, 0, none⟩) 0 0)) (w.alloc (.cells #[] e)))
    (h : ∀ b W', Below w.heap.size w W' → W'.ownsRow w.heap.size e s (.slice (some ⟨b, 0, none⟩) 0 0) 0 [] → w.heap.size ≤ b → b < W'.heap.size → K (a.put (some d) (.slice (some ⟨b, 0, none⟩) 0 0)) W') :
    if Region.wanted o (yielded ops a.tmps) = true then Oper.wp Try.prog o a w K Q else E := by
  have hw : Region.wanted o (yielded ops a.tmps) = true := by simp [Region.wanted, hgd]
  rw [if_pos hw]
  have h' := h w.heap.size _ (below1 w (.cells #[] e)) (World.ownsRow_lit w #[] 0 (Nat.le_refl _) (Nat.zero_le _) (by simp)) (Nat.le_refl _) (by simp)
  rw [← hd] at h'
  unfold Oper.wp
  rw [hrun]
  exact h'
theorem InT.mono {w : World} {B B' : Nat} {ts : List TV} (h : InT w B ts) (hb : B' ≤ B) : InT w B' ts := fun t ht => ⟨(h t ht).1.mono hb, (h t ht).2.mono hb⟩
theorem OwnT.mono {w : World} {B B' : Nat} {v : Value} {ts : List TV} (h : OwnT w B v ts) (hb : B' ≤ B) : OwnT w B' v ts := by
  refine ⟨h.1, ?_⟩
  rcases h.2 with h2 | ⟨g, cap, cur, hv, hg, r⟩
  · exact .inl h2
  · exact .inr ⟨g, cap, cur, hv, Nat.le_trans hb hg, r⟩
/-- No table's bits lie in block b. -/
def Off (b : Nat) (ts : List TV) : Prop := ∀ t ∈ ts, ∀ k, t.vb.ownBlock = some k → b ≠ k
theorem InT.ints {w w' : World} {B b : Nat} {ts : List TV} {v : Value} (h : InT w B ts) {B' : Nat} (hv : OwnI w B' v []) (hb : v.ownBlock = some b) (ho : Off b ts) (hg : w.grownBy w' v.ownBlock) : InT w' B ts := fun t ht =>
  ⟨row_kept (h t ht).1 hg (fun k hk e => by rw [hb] at e; exact ho t ht k hk (Option.some.inj e)), row_kept (h t ht).2 hg (fun k hk e => rows_apart (h t ht).2 hv (by decide) k hk e)⟩
theorem run_ints_at (ty : TypeId) {w : World} {base : Nat} {v u : Value} {ys zs : List Int} (hown : OwnI w base v ys) (hr : RdI w u zs) (hl : ys.length + zs.length ≤ 1000000000) (hbase : base ≤ w.heap.size) :
    ∃ v' w', (Builtin.append_ #[24, 24] ty #[v, u]).run Try.prog w = .ok v' w' ∧ OwnI w' base v' (ys ++ zs) ∧ w.grownBy w' v.ownBlock ∧ (v'.ownBlock = v.ownBlock ∨ v'.ownBlock = some w.heap.size) := by
  obtain ⟨i0, hi, hz0, hz1, hz2⟩ := info_parts Try.info2
  obtain ⟨a, cap, rfl, h1, h2, h0, h3⟩ := hr
  have row : ∀ ad, (∀ j u, (IV zs)[j]? = some u → w.cell? (ad.add j) = some u) → ∃ v' w', (Builtin.append_ #[24, 24] ty #[v, .slice (some ad) zs.length cap]).run Try.prog w = .ok v' w' ∧ OwnI w' base v' (ys ++ zs) ∧ w.grownBy w' v.ownBlock ∧ (v'.ownBlock = v.ownBlock ∨ v'.ownBlock = some w.heap.size) := by
    intro ad hc
    obtain ⟨v', w', hrun, r1, r2, _, r3⟩ := run_append_own_at (P := Try.prog) w base 24 ty 2 i0 _ 1 8 Try.underlying24 hi hz0 hz1 hz2 rfl (by decide) v ys.length (IV ys) hown ad zs.length cap (IV zs) (by rw [IV_length]; omega) hc (IV_oneCell zs) (by unfold maxLen; omega) (by omega) hbase
    exact ⟨v', w', hrun, ownI_more r1, r2, r3⟩
  cases a with
  | some ad =>
    refine row ad ?_
    rcases h3 with rfl | ⟨b, off, ha, hc⟩
    · intro j u hj; simp [IV] at hj
    · cases ha
      intro j u hj
      have hjl : j < zs.length := by have := (List.getElem?_eq_some_iff.1 hj).1; rwa [IV_length] at this
      rw [IV_get zs j hjl] at hj
      cases hj
      rw [Addr.add_lit]
      exact hc j hjl
  | none =>
    have hc0 := h0 rfl
    subst hc0
    rcases h3 with rfl | ⟨b, off, ha, hc⟩
    · refine ⟨v, w, run_append_owned_none (P := Try.prog) w base 24 ty 2 i0 1 Try.underlying24 hi v ys.length (IV ys) hown, by simpa using hown, ⟨rfl, rfl, rfl, Nat.le_refl _, fun _ _ _ => rfl⟩, .inl rfl⟩
    · cases ha
theorem step_ints_at {w : World} {ops : Array Oper} {o : Oper} {a : Act} {K : Act → World → Prop} {Q : Exit → Act → World → Prop} {E : Prop} (hgd : o.guard = none) (d : Nat) (hd : o.dst = some d) (s x : Operand)
    (ho : o.op = .call { callee := .builtin .append, args := #[s, x], argTypes := #[24, 24] }) (base : Nat) (v u : Value) (ys zs : List Int) (hs : a.eval s = v) (hx : a.eval x = u) (hown : OwnI w base v ys) (hr : RdI w u zs) (hl : ys.length + zs.length ≤ 1000000000) (hbase : base ≤ w.heap.size)
    (h : ∀ v' w', OwnI w' base v' (ys ++ zs) → w.grownBy w' v.ownBlock → (v'.ownBlock = v.ownBlock ∨ v'.ownBlock = some w.heap.size) → K (a.put (some d) v') w') :
    if Region.wanted o (yielded ops a.tmps) = true then Oper.wp Try.prog o a w K Q else E := by
  have hw : Region.wanted o (yielded ops a.tmps) = true := by simp [Region.wanted, hgd]
  rw [if_pos hw]
  obtain ⟨v', w', hrun, r1, r2, r3⟩ := run_ints_at o.type hown hr hl hbase
  unfold Oper.wp
  simp [execOp, ho, resolve, invoke, builtin, hs, hx, hrun, Result.andThen]
  have h' := h v' w' r1 r2 r3
  rw [← hd] at h'
  exact h'
/-- A tree in rows of the call's own; the snapshots lie apart from the tables' bits. -/
structure OwnTr (w : World) (B : Nat) (Y : TrX) : Prop where
  mem : OwnE w B Y.vm Y.mem
  young : OwnT w B Y.vy Y.ys
  youngs : InT w B Y.ys
  old : OwnT w B Y.vo Y.os
  olds : InT w B Y.os
  snaps : OwnI w B Y.vs Y.snaps
  apart : ∀ b, Y.vs.ownBlock = some b → Off b Y.ys ∧ Off b Y.os
/-- What a copy's sizes may be. -/
structure SizTr (X : TrX) : Prop where
  mem : X.mem.length ≤ 1000000000
  young : X.ys.length ≤ 1000000
  old : X.os.length ≤ 1000000
  snaps : X.snaps.length ≤ 1000000000
  youngs : ∀ t ∈ X.ys, t.T.bits.length ≤ 1000000000 ∧ t.T.blocks.length ≤ 1000000000 ∧ NilOk t.vk
  olds : ∀ t ∈ X.os, t.T.bits.length ≤ 1000000000 ∧ t.T.blocks.length ≤ 1000000000 ∧ NilOk t.vk
/-- A tree's box at block b. -/
def BoxTr (w : World) (b : Nat) (vm vy vo : Value) (q : Int) (vs : Value) : Prop := w.heap[b]? = some (.cells #[vm, vy, vo, .int .i64 q, vs] 32 (0, 0))
theorem BoxTr.lt {w : World} {b : Nat} {vm vy vo vs : Value} {q : Int} (h : BoxTr w b vm vy vo q vs) : b < w.heap.size := (Array.getElem?_eq_some_iff.1 h).1
theorem BoxTr.below {w w' : World} {b B : Nat} {vm vy vo vs : Value} {q : Int} (h : BoxTr w b vm vy vo q vs) (hb : Below B w w') (hB : b < B) : BoxTr w' b vm vy vo q vs := (hb.block b hB).trans h
theorem BoxTr.facts {w : World} {b : Nat} {vm vy vo vs : Value} {q : Int} (h : BoxTr w b vm vy vo q vs) : w.cell? ⟨b, 0, none⟩ = some vm ∧ w.cell? ⟨b, 1, none⟩ = some vy ∧ w.cell? ⟨b, 2, none⟩ = some vo ∧ w.cell? ⟨b, 3, none⟩ = some (.int .i64 q) ∧ w.cell? ⟨b, 4, none⟩ = some vs ∧
    w.frozen? ⟨b, 0, none⟩ = false ∧ w.frozen? ⟨b, 1, none⟩ = false ∧ w.frozen? ⟨b, 2, none⟩ = false ∧ w.frozen? ⟨b, 3, none⟩ = false ∧ w.frozen? ⟨b, 4, none⟩ = false := by
  unfold BoxTr at h
  refine ⟨?_, ?_, ?_, ?_, ?_, ?_, ?_, ?_, ?_, ?_⟩ <;> simp [World.cell?, World.frozen?, h]
theorem row_base {w : World} {B t s n c j : Nat} {v u : Value} {xs : List Value} (ho : w.ownsRow B t s v n xs) (hc : c < B) : (w.setCell ⟨c, j, none⟩ u).ownsRow B t s v n xs := row_set ho (fun k hk e => by have := (World.ownsRow.lt ho k hk).1; omega)
/-- The five cells of a box are written. -/
def put5 (w : World) (b : Nat) (u0 u1 u2 u3 u4 : Value) : World := ((((w.setCell ⟨b, 0, none⟩ u0).setCell ⟨b, 1, none⟩ u1).setCell ⟨b, 2, none⟩ u2).setCell ⟨b, 3, none⟩ u3).setCell ⟨b, 4, none⟩ u4
theorem row_put5 {w : World} {B t s n c : Nat} {v u0 u1 u2 u3 u4 : Value} {xs : List Value} (ho : w.ownsRow B t s v n xs) (hc : c < B) : (put5 w c u0 u1 u2 u3 u4).ownsRow B t s v n xs := row_base (row_base (row_base (row_base (row_base ho hc) hc) hc) hc) hc
theorem InT.put5 {w : World} {B c : Nat} {u0 u1 u2 u3 u4 : Value} {ts : List TV} (h : InT w B ts) (hc : c < B) : InT (put5 w c u0 u1 u2 u3 u4) B ts := fun t ht => ⟨row_put5 (h t ht).1 hc, row_put5 (h t ht).2 hc⟩
theorem boxTr_put5 {w : World} {b : Nat} {vm vy vo vs : Value} {q : Int} (h : BoxTr w b vm vy vo q vs) (u0 u1 u2 u4 : Value) (r : Int) : BoxTr (put5 w b u0 u1 u2 (.int .i64 r) u4) b u0 u1 u2 r u4 := by
  unfold BoxTr at h ⊢
  have h0 := heap_setCell_same w b 0 _ _ u0 h
  have h1 := heap_setCell_same _ b 1 _ _ u1 h0
  have h2 := heap_setCell_same _ b 2 _ _ u2 h1
  have h3 := heap_setCell_same _ b 3 _ _ (.int .i64 r) h2
  exact heap_setCell_same _ b 4 _ _ u4 h3
theorem treAt_put5 {w : World} {b c : Nat} {X : TrX} {u0 u1 u2 u3 u4 : Value} (h : TreAt w b X) (hne : b ≠ c) : TreAt (put5 w c u0 u1 u2 u3 u4) b X :=
  h.of_block ((heap_setCell_other _ ⟨c, 4, none⟩ b u4 hne).trans ((heap_setCell_other _ ⟨c, 3, none⟩ b u3 hne).trans ((heap_setCell_other _ ⟨c, 2, none⟩ b u2 hne).trans ((heap_setCell_other _ ⟨c, 1, none⟩ b u1 hne).trans (heap_setCell_other w ⟨c, 0, none⟩ b u0 hne)))))
theorem below_put5 {a w : World} {B c : Nat} {u0 u1 u2 u3 u4 : Value} (h : Below B a w) (hc : B ≤ c) : Below B a (put5 w c u0 u1 u2 u3 u4) := ((((h.setCell hc _).setCell hc _).setCell hc _).setCell hc _).setCell hc _
/-- What l7Copy leaves. -/
def CopyPost (w : World) (X : TrX) (e : Ending) (w' : World) : Prop :=
  ∃ Y : TrX, e = .returned (.agg #[Y.vm, Y.vy, Y.vo, .int .i64 Y.seq, Y.vs]) ∧ Y.tre = X.tre ∧ OwnTr w' w.heap.size Y ∧ Below w.heap.size w w'
end Go.Proofs.Ytjnhhdnfncfedaa
namespace Go.Proofs.Ytjnhhdnfncfedaa
open Go.RowKit
/-- The law's mark number k, as an entry. -/
def emk (k : Nat) : Ent := ⟨mk k, mk (k + 1), ((k + 2 : Nat) : Int), decide ((k + 3) % 3 = 0)⟩
def emarks (k n : Nat) : List Ent := (List.range n).map fun i => emk (k + 4 * i)
theorem emarks_length (k n : Nat) : (emarks k n).length = n := by simp [emarks]
theorem emarks_succ (k n : Nat) : emarks k (n + 1) = emarks k n ++ [emk (k + 4 * n)] := by simp [emarks, List.range_succ]
theorem emarks_nth (k n i : Nat) (h : i < n) : nth (emarks k n) i = emk (k + 4 * i) := by
  rw [nth_eq (by rw [emarks_length]; exact h)]; simp [emarks]
theorem emark_step (k i : Nat) (bs : List Ent) (h : i < bs.length) : (emarks k i ++ bs.drop i).set i (emk (k + 4 * i)) = emarks k (i + 1) ++ bs.drop (i + 1) := by
  rw [emarks_succ, List.set_append_right _ _ (by rw [emarks_length]; omega), emarks_length, Nat.sub_self, List.drop_eq_getElem_cons h, List.set_cons_zero]
  simp
theorem emark_frame {w wr w1 : World} {g : Nat} {u : Value} {j : Nat} (hg : w.grownBy wr (some g)) (hb : Below wr.heap.size wr w1) : w.grownBy (w1.setCell ⟨g, j, none⟩ u) (some g) :=
  ⟨hb.os.trans hg.os, hb.tape.trans hg.tape, hb.output.trans hg.output, by have := hg.size; have := hb.size; simp; omega, fun k hk hr => by
    rw [heap_setCell_other w1 ⟨g, j, none⟩ k u (fun e => hr (by simp [e])), hb.block k (by have := hg.size; omega)]
    exact hg.block k hk hr⟩
theorem emark_frame0 {w w1 : World} {g : Nat} {u : Value} {j : Nat} (hg : w.grownBy w1 (some g)) : w.grownBy (w1.setCell ⟨g, j, none⟩ u) (some g) := emark_frame hg (Below.refl _ _)
theorem egrownBy_one (a : World) (row : Option Nat) : a.grownBy a row := ⟨rfl, rfl, rfl, Nat.le_refl _, fun _ _ _ => rfl⟩
end Go.Proofs.Ytjnhhdnfncfedaa
namespace Go.Proofs.Ytjnhhdnfncfedaa
open Go.RowKit
theorem isShown_zero {es : List Ent} {q : Int} {i : Nat} (h : i = 0) (hq : (nth es i).seq ≤ q) : isShown es q i = true := by simp [isShown, h] at *; exact hq
theorem isShown_key {es : List Ent} {q : Int} {i : Nat} (h : kEq (nth es (i - 1)).key (nth es i).key = false) (hq : (nth es i).seq ≤ q) : isShown es q i = true := by simp [isShown, h, hq]
theorem isShown_seq {es : List Ent} {q : Int} {i : Nat} (h0 : i ≠ 0) (h : kEq (nth es (i - 1)).key (nth es i).key = true) (hq : (nth es i).seq ≤ q) : isShown es q i = decide (q < (nth es (i - 1)).seq) := by simp [isShown, h, hq, h0]
end Go.Proofs.Ytjnhhdnfncfedaa
