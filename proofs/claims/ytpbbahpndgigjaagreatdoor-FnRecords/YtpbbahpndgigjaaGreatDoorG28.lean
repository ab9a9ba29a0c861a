/- The contracts of the laws' own helpers over rows of tables and trees: copied, alike. The contracts of the laws' own copy and comparison of trees. The contracts of the program's copies of lists and of rows of tables. The contract of the program's copy of a tree. The contracts of the laws' own comparison of rows of tables and trees. The contracts of the laws' own marks of rows of tables and of trees. Trees in rows of the call's own. -/
import Derived.Test.YtpbbahpndgigjaaGreatDoorG27
namespace Go.Proofs.YtpbbahpndgigjaaGreatDoor
set_option maxHeartbeats 16000000
set_option maxRecDepth 100000
open Go.RowKit
def tblks (ts : List TV) : List Nat := ts.flatMap (fun t => oneB t.vb ++ oneB t.vk)
structure OwnTs (w : World) (lo : Nat) (v : Value) (ts : List TV) : Prop where
  row : OwnT w lo v ts
  ins : InT w lo ts
  nod : (oneB v ++ tblks ts).Nodup
theorem OwnTs.below {w w' : World} {lo : Nat} {v : Value} {ts : List TV} (h : OwnTs w lo v ts) (hb : Below w.heap.size w w') : OwnTs w' lo v ts := ⟨h.row.below hb, h.ins.below hb, h.nod⟩
theorem OwnTs.mono {w : World} {lo lo' : Nat} {v : Value} {ts : List TV} (h : OwnTs w lo v ts) (hb : lo' ≤ lo) : OwnTs w lo' v ts := ⟨h.row.mono hb, h.ins.mono hb, h.nod⟩
theorem OwnTs.rd {w : World} {lo : Nat} {v : Value} {ts : List TV} (h : OwnTs w lo v ts) : RdTs w v ts := h.row.rd h.ins
theorem mem_tblks {ts : List TV} {k : Nat} (h : k ∈ tblks ts) : ∃ t ∈ ts, t.vb.ownBlock = some k ∨ t.vk.ownBlock = some k := by
  unfold tblks at h
  obtain ⟨t, ht, hk⟩ := List.mem_flatMap.1 h
  rcases List.mem_append.1 hk with hk | hk
  · exact ⟨t, ht, .inl (mem_oneB.1 hk)⟩
  · exact ⟨t, ht, .inr (mem_oneB.1 hk)⟩
theorem tblks_bound {w : World} {lo : Nat} {ts : List TV} (h : InT w lo ts) {k : Nat} (hk : k ∈ tblks ts) : lo ≤ k ∧ k < w.heap.size := by
  obtain ⟨t, ht, e | e⟩ := mem_tblks hk
  · exact World.ownsRow.lt (h t ht).1 k e
  · exact World.ownsRow.lt (h t ht).2 k e
theorem OwnTs.bound {w : World} {lo : Nat} {v : Value} {ts : List TV} (h : OwnTs w lo v ts) {k : Nat} (hk : k ∈ oneB v ++ tblks ts) : lo ≤ k ∧ k < w.heap.size := by
  rcases List.mem_append.1 hk with hk | hk
  · exact World.ownsRow.lt h.row k (mem_oneB.1 hk)
  · exact tblks_bound h.ins hk
open Go.RowKit
theorem OwnTs.base {w : World} {B c j : Nat} {v u : Value} {ts : List TV} (h : OwnTs w B v ts) (hc : c < B) : OwnTs (w.setCell ⟨c, j, none⟩ u) B v ts := ⟨row_base h.row hc, fun t ht => ⟨row_base (h.ins t ht).1 hc, row_base (h.ins t ht).2 hc⟩, h.nod⟩
theorem OwnTs.put5 {w : World} {B c : Nat} {v u0 u1 u2 u3 u4 : Value} {ts : List TV} (h : OwnTs w B v ts) (hc : c < B) : OwnTs (put5 w c u0 u1 u2 u3 u4) B v ts := ((((h.base hc).base hc).base hc).base hc).base hc
def trB (Y : TrX) : List Nat := oneB Y.vm ++ ((oneB Y.vy ++ tblks Y.ys) ++ ((oneB Y.vo ++ tblks Y.os) ++ oneB Y.vs))
structure OwnTree (w : World) (lo : Nat) (Y : TrX) : Prop where
  mem : OwnE w lo Y.vm Y.mem
  young : OwnT w lo Y.vy Y.ys
  youngs : InT w lo Y.ys
  old : OwnT w lo Y.vo Y.os
  olds : InT w lo Y.os
  snaps : OwnI w lo Y.vs Y.snaps
  nod : (trB Y).Nodup
theorem OwnTree.below {w w' : World} {lo : Nat} {Y : TrX} (h : OwnTree w lo Y) (hb : Below w.heap.size w w') : OwnTree w' lo Y := ⟨h.mem.below hb, h.young.below hb, h.youngs.below hb, h.old.below hb, h.olds.below hb, h.snaps.below hb, h.nod⟩
theorem OwnTree.mono {w : World} {lo lo' : Nat} {Y : TrX} (h : OwnTree w lo Y) (hb : lo' ≤ lo) : OwnTree w lo' Y := ⟨h.mem.mono hb, h.young.mono hb, h.youngs.mono hb, h.old.mono hb, h.olds.mono hb, h.snaps.mono hb, h.nod⟩
theorem OwnTree.rd {w : World} {lo : Nat} {Y : TrX} (h : OwnTree w lo Y) : RdTr w Y := ⟨h.mem.rd, h.young.rd h.youngs, h.old.rd h.olds, h.snaps.rd⟩
theorem OwnTree.bound {w : World} {lo : Nat} {Y : TrX} (h : OwnTree w lo Y) {k : Nat} (hk : k ∈ trB Y) : lo ≤ k ∧ k < w.heap.size := by
  unfold trB at hk
  rcases List.mem_append.1 hk with hk | hk
  · exact World.ownsRow.lt h.mem k (mem_oneB.1 hk)
  rcases List.mem_append.1 hk with hk | hk
  · rcases List.mem_append.1 hk with hk | hk
    · exact World.ownsRow.lt h.young k (mem_oneB.1 hk)
    · exact tblks_bound h.youngs hk
  rcases List.mem_append.1 hk with hk | hk
  · rcases List.mem_append.1 hk with hk | hk
    · exact World.ownsRow.lt h.old k (mem_oneB.1 hk)
    · exact tblks_bound h.olds hk
  · exact World.ownsRow.lt h.snaps k (mem_oneB.1 hk)
theorem boxTr_new (w : World) (vm vy vo vs : Value) (q : Int) : BoxTr (w.alloc (.cells #[vm, vy, vo, .int .i64 q, vs] 49)) w.heap.size vm vy vo q vs := heap_alloc_new w _
theorem boxTr_set0 {w : World} {b : Nat} {vm vy vo vs : Value} {q : Int} (h : BoxTr w b vm vy vo q vs) (u : Value) : BoxTr (w.setCell ⟨b, 0, none⟩ u) b u vy vo q vs := heap_setCell_same w b 0 _ _ u h
theorem boxTr_set1 {w : World} {b : Nat} {vm vy vo vs : Value} {q : Int} (h : BoxTr w b vm vy vo q vs) (u : Value) : BoxTr (w.setCell ⟨b, 1, none⟩ u) b vm u vo q vs := heap_setCell_same w b 1 _ _ u h
theorem boxTr_set2 {w : World} {b : Nat} {vm vy vo vs : Value} {q : Int} (h : BoxTr w b vm vy vo q vs) (u : Value) : BoxTr (w.setCell ⟨b, 2, none⟩ u) b vm vy u q vs := heap_setCell_same w b 2 _ _ u h
theorem boxTr_set3 {w : World} {b : Nat} {vm vy vo vs : Value} {q : Int} (h : BoxTr w b vm vy vo q vs) (r : Int) : BoxTr (w.setCell ⟨b, 3, none⟩ (.int .i64 r)) b vm vy vo r vs := heap_setCell_same w b 3 _ _ _ h
theorem boxTr_set4 {w : World} {b : Nat} {vm vy vo vs : Value} {q : Int} (h : BoxTr w b vm vy vo q vs) (u : Value) : BoxTr (w.setCell ⟨b, 4, none⟩ u) b vm vy vo q u := heap_setCell_same w b 4 _ _ u h
theorem boxTr_other {w : World} {b c j : Nat} {vm vy vo vs u : Value} {q : Int} (h : BoxTr w b vm vy vo q vs) (hn : b ≠ c) : BoxTr (w.setCell ⟨c, j, none⟩ u) b vm vy vo q vs := (heap_setCell_other w ⟨c, j, none⟩ b u hn).trans h
theorem BoxTr.on {w w' : World} {b : Nat} {vm vy vo vs : Value} {q : Int} (h : BoxTr w b vm vy vo q vs) (hb : Below w.heap.size w w') : BoxTr w' b vm vy vo q vs := (hb.block b h.lt).trans h
open Go.RowKit
theorem TVs_nth {ts : List TV} {j : Nat} {u : Value} (h : (TVs ts)[j]? = some u) : j / 4 < ts.length ∧ (TC (nthT ts (j / 4)))[j % 4]? = some u := by
  have hl := (List.getElem?_eq_some_iff.1 h).1
  rw [TVs_length] at hl
  have h1 : j / 4 < ts.length := by omega
  refine ⟨h1, ?_⟩
  have h2 := TVs_get ts (j / 4) h1 (j % 4) (by omega)
  rw [show j / 4 * 4 + j % 4 = j by omega] at h2
  rw [← h2]; exact h
theorem TabAt.cellAt {w : World} {b o : Nat} {t : TV} (h : TabAt w b o t) {j : Nat} {u : Value} (hu : (TC t)[j]? = some u) : w.cell? ⟨b, o + j, none⟩ = some u := by
  obtain ⟨h0, h1, h2, h3⟩ := h
  match j, hu with
  | 0, hu => simp [TC] at hu; subst hu; exact h0
  | 1, hu => simp [TC] at hu; subst hu; exact h1
  | 2, hu => simp [TC] at hu; subst hu; exact h2
  | 3, hu => simp [TC] at hu; subst hu; exact h3
theorem tabsAt_cells {w : World} {b off : Nat} {ts : List TV} (h : ∀ i, i < ts.length → TabAt w b (off + i * 4) (nthT ts i)) : ∀ j u, (TVs ts)[j]? = some u → w.cell? ((⟨b, off, none⟩ : Addr).add j) = some u := by
  intro j u hu
  obtain ⟨h1, h2⟩ := TVs_nth hu
  have := (h _ h1).cellAt h2
  rw [Addr.add_lit]
  rw [show off + j / 4 * 4 + j % 4 = off + j by omega] at this
  exact this
theorem TVs_oneCell {w : World} {ts : List TV} (h : ∀ t ∈ ts, RdI w t.vb t.T.bits ∧ RdS w t.vk t.T.blocks) : ∀ u ∈ TVs ts, u.oneCell' = true := by
  intro u hu
  obtain ⟨t, ht, hu⟩ := List.mem_flatMap.1 hu
  obtain ⟨⟨a, c, e1, -⟩, ⟨a2, c2, e2, -⟩⟩ := h t ht
  simp [TC] at hu
  rcases hu with rfl | rfl | rfl | rfl
  · rfl
  · rfl
  · rw [e1]; rfl
  · rw [e2]; rfl
theorem run_append_tabs (ty : TypeId) {w : World} {base : Nat} {v u : Value} {us ts : List TV} (hown : OwnT w base v us) (hr : RdTs w u ts) (hn : NilOk u) (hl : us.length + ts.length ≤ 10000000) (hbase : base ≤ w.heap.size) :
    ∃ v' w', (Builtin.append_ #[46, 46] ty #[v, u]).run Tryz.prog w = .ok v' w' ∧ OwnT w' base v' (us ++ ts) ∧ w.grownBy w' v.ownBlock := by
  obtain ⟨i0, hi, hz0, hz1, hz2⟩ := info_parts Tryz.infoT95
  obtain ⟨a, cap, rfl, h1, h2, h3, h4⟩ := hr
  have more : ∀ {w1 : World} {v' : Value}, w1.ownsRow base 95 4 v' (us.length + ts.length) (TVs us ++ TVs ts) → OwnT w1 base v' (us ++ ts) := fun h => by unfold OwnT; rw [TVs_append, List.length_append]; exact h
  have row : ∀ ad news, news = TVs ts → (∀ j u, news[j]? = some u → w.cell? (ad.add j) = some u) → ∃ v' w', (Builtin.append_ #[46, 46] ty #[v, .slice (some ad) ts.length cap]).run Tryz.prog w = .ok v' w' ∧ OwnT w' base v' (us ++ ts) ∧ w.grownBy w' v.ownBlock := by
    intro ad news hn hc
    subst hn
    obtain ⟨v', w', hrun, r1, r2, _⟩ := run_append_own (P := Tryz.prog) w base 46 ty 95 i0 _ 4 80 Tryz.underlying46 hi hz0 hz1 hz2 rfl (by decide) v us.length (TVs us) hown ad ts.length cap (TVs ts) (TVs_length ts) hc (TVs_oneCell h4) (by unfold maxLen; omega) (by omega) hbase
    exact ⟨v', w', hrun, more r1, r2⟩
  cases a with
  | some ad =>
    refine row ad (TVs ts) rfl ?_
    rcases h3 with rfl | ⟨b, off, ha, hc⟩
    · intro j u hj; simp [TVs] at hj
    · cases ha; exact tabsAt_cells hc
  | none =>
    have hc0 := hn _ _ rfl
    subst hc0
    rcases h3 with rfl | ⟨b, off, ha, hc⟩
    · refine ⟨v, w, run_append_owned_none (P := Tryz.prog) w base 46 ty 95 i0 4 Tryz.underlying46 hi v us.length (TVs us) hown, by simpa using hown, ⟨rfl, rfl, rfl, Nat.le_refl _, fun _ _ _ => rfl⟩⟩
    · cases ha
open Go.RowKit
theorem step_row1 {w : World} {ops : Array Oper} {o : Oper} {a : Act} {K : Act → World → Prop} {Q : Exit → Act → World → Prop} {E : Prop} (hgd : o.guard = none) (d : Nat) (hd : o.dst = some d) (x : Value) (e : TypeId)
    (hrun : (execOp a.eval o).run Tryz.prog w = .ok (.value (.slice (some ⟨w.heap.size, 0, none⟩) 1 1)) (w.alloc (.cells #[x] e)))
    (h : K (a.put (some d) (.slice (some ⟨w.heap.size, 0, none⟩) 1 1)) (w.alloc (.cells #[x] e))) :
    if Region.wanted o (yielded ops a.tmps) = true then Oper.wp Tryz.prog o a w K Q else E := by
  have hw : Region.wanted o (yielded ops a.tmps) = true := by simp [Region.wanted, hgd]
  rw [if_pos hw]
  rw [← hd] at h
  unfold Oper.wp
  rw [hrun]
  exact h
structure CpTr (X : TrX) : Prop where
  siz : SizTr X
  mem : X.mem.length ≤ 1000000
  vy : NilOk X.vy
  vo : NilOk X.vo
end Go.Proofs.YtpbbahpndgigjaaGreatDoor
-- UNF TabAt
namespace Go.Proofs.YtpbbahpndgigjaaGreatDoor
set_option maxHeartbeats 16000000
set_option maxRecDepth 100000
open Go.RowKit
theorem RdTr.slices {w : World} {X : TrX} (h : RdTr w X) : ∃ (am ay ao an : Option Addr) (mn yn on nn cm cy co cn : Nat), X.vm = .slice am mn cm ∧ X.vy = .slice ay yn cy ∧ X.vo = .slice ao on co ∧ X.vs = .slice an nn cn := by
  obtain ⟨am, cm, hm, -⟩ := h.mem
  obtain ⟨ay, cy, hy, -⟩ := h.young
  obtain ⟨ao, co, ho, -⟩ := h.old
  obtain ⟨an, cn, hn, -⟩ := h.snaps
  exact ⟨am, ay, ao, an, _, _, _, _, cm, cy, co, cn, hm, hy, ho, hn⟩
open Go.RowKit
def blk (t : TV) : List Nat := oneB t.vb ++ oneB t.vk
theorem blk_sub {ts : List TV} {t : TV} (h : t ∈ ts) {k : Nat} (hk : k ∈ blk t) : k ∈ tblks ts := List.mem_flatMap.2 ⟨t, h, hk⟩
theorem OwnTs.touch {bs : List Nat} {w w' : World} {B : Nat} {v : Value} {ts : List TV} (h : OwnTs w B v ts) (ht : Touch bs w w') (hn : ∀ k ∈ oneB v ++ tblks ts, k ∉ bs) : OwnTs w' B v ts :=
  ⟨ht.row h.row (fun k hk => hn k (List.mem_append_left _ (mem_oneB.2 hk))), fun t hm => ⟨ht.row (h.ins t hm).1 (fun k hk => hn k (List.mem_append_right _ (blk_sub hm (List.mem_append_left _ (mem_oneB.2 hk))))), ht.row (h.ins t hm).2 (fun k hk => hn k (List.mem_append_right _ (blk_sub hm (List.mem_append_right _ (mem_oneB.2 hk)))))⟩, h.nod⟩
open Go.RowKit
structure RowsTr (w : World) (lo : Nat) (Y : TrX) : Prop where
  mem : OwnE w lo Y.vm Y.mem
  young : OwnT w lo Y.vy Y.ys
  youngs : InT w lo Y.ys
  old : OwnT w lo Y.vo Y.os
  olds : InT w lo Y.os
  snaps : OwnI w lo Y.vs Y.snaps
theorem RowsTr.rd {w : World} {lo : Nat} {Y : TrX} (h : RowsTr w lo Y) : RdTr w Y := ⟨h.mem.rd, h.young.rd h.youngs, h.old.rd h.olds, h.snaps.rd⟩
theorem RowsTr.below {w w' : World} {lo : Nat} {Y : TrX} (h : RowsTr w lo Y) (hb : Below w.heap.size w w') : RowsTr w' lo Y := ⟨h.mem.below hb, h.young.below hb, h.youngs.below hb, h.old.below hb, h.olds.below hb, h.snaps.below hb⟩
theorem RowsTr.mono {w : World} {lo lo' : Nat} {Y : TrX} (h : RowsTr w lo Y) (hb : lo' ≤ lo) : RowsTr w lo' Y := ⟨h.mem.mono hb, h.young.mono hb, h.youngs.mono hb, h.old.mono hb, h.olds.mono hb, h.snaps.mono hb⟩
theorem RowsTr.bound {w : World} {lo : Nat} {Y : TrX} (h : RowsTr w lo Y) {k : Nat} (hk : k ∈ trB Y) : lo ≤ k ∧ k < w.heap.size := by
  unfold trB at hk
  rcases List.mem_append.1 hk with hk | hk
  · exact World.ownsRow.lt h.mem k (mem_oneB.1 hk)
  rcases List.mem_append.1 hk with hk | hk
  · rcases List.mem_append.1 hk with hk | hk
    · exact World.ownsRow.lt h.young k (mem_oneB.1 hk)
    · exact tblks_bound h.youngs hk
  rcases List.mem_append.1 hk with hk | hk
  · rcases List.mem_append.1 hk with hk | hk
    · exact World.ownsRow.lt h.old k (mem_oneB.1 hk)
    · exact tblks_bound h.olds hk
  · exact World.ownsRow.lt h.snaps k (mem_oneB.1 hk)
theorem RowsTr.touch {bs : List Nat} {w w' : World} {lo : Nat} {Y : TrX} (h : RowsTr w lo Y) (ht : Touch bs w w') (hn : ∀ k ∈ trB Y, k ∉ bs) : RowsTr w' lo Y := by
  have m1 : ∀ k ∈ oneB Y.vm, k ∈ trB Y := fun q hq => List.mem_append_left _ hq
  have m2 : ∀ k ∈ oneB Y.vy ++ tblks Y.ys, k ∈ trB Y := fun q hq => List.mem_append_right _ (List.mem_append_left _ hq)
  have m3 : ∀ k ∈ oneB Y.vo ++ tblks Y.os, k ∈ trB Y := fun q hq => List.mem_append_right _ (List.mem_append_right _ (List.mem_append_left _ hq))
  have m4 : ∀ k ∈ oneB Y.vs, k ∈ trB Y := fun q hq => List.mem_append_right _ (List.mem_append_right _ (List.mem_append_right _ hq))
  exact ⟨ht.row h.mem (fun k hk => hn k (m1 k (mem_oneB.2 hk))), ht.row h.young (fun k hk => hn k (m2 k (List.mem_append_left _ (mem_oneB.2 hk)))), fun t hm => ⟨ht.row (h.youngs t hm).1 (fun k hk => hn k (m2 k (List.mem_append_right _ (blk_sub hm (List.mem_append_left _ (mem_oneB.2 hk)))))), ht.row (h.youngs t hm).2 (fun k hk => hn k (m2 k (List.mem_append_right _ (blk_sub hm (List.mem_append_right _ (mem_oneB.2 hk))))))⟩,
    ht.row h.old (fun k hk => hn k (m3 k (List.mem_append_left _ (mem_oneB.2 hk)))), fun t hm => ⟨ht.row (h.olds t hm).1 (fun k hk => hn k (m3 k (List.mem_append_right _ (blk_sub hm (List.mem_append_left _ (mem_oneB.2 hk)))))), ht.row (h.olds t hm).2 (fun k hk => hn k (m3 k (List.mem_append_right _ (blk_sub hm (List.mem_append_right _ (mem_oneB.2 hk))))))⟩, ht.row h.snaps (fun k hk => hn k (m4 k (mem_oneB.2 hk)))⟩
theorem ownTree_zero (w : World) (lo : Nat) : OwnTree w lo ⟨.slice none 0 0, .slice none 0 0, .slice none 0 0, .slice none 0 0, [], [], [], 0, []⟩ :=
  ⟨⟨rfl, .inl ⟨rfl, rfl⟩⟩, ⟨rfl, .inl ⟨rfl, rfl⟩⟩, (fun t ht => by cases ht), ⟨rfl, .inl ⟨rfl, rfl⟩⟩, (fun t ht => by cases ht), ⟨rfl, .inl ⟨rfl, rfl⟩⟩, List.nodup_nil⟩
theorem OwnTree.other {w : World} {lo c j : Nat} {u : Value} {Y : TrX} (h : OwnTree w lo Y) (hc : c ∉ trB Y) : OwnTree (w.setCell ⟨c, j, none⟩ u) lo Y := by
  have m1 : ∀ k ∈ oneB Y.vm, k ∈ trB Y := fun q hq => List.mem_append_left _ hq
  have m2 : ∀ k ∈ oneB Y.vy ++ tblks Y.ys, k ∈ trB Y := fun q hq => List.mem_append_right _ (List.mem_append_left _ hq)
  have m3 : ∀ k ∈ oneB Y.vo ++ tblks Y.os, k ∈ trB Y := fun q hq => List.mem_append_right _ (List.mem_append_right _ (List.mem_append_left _ hq))
  have m4 : ∀ k ∈ oneB Y.vs, k ∈ trB Y := fun q hq => List.mem_append_right _ (List.mem_append_right _ (List.mem_append_right _ hq))
  refine ⟨row_set h.mem (fun k hk e => hc (e ▸ m1 k (mem_oneB.2 hk))), row_set h.young (fun k hk e => hc (e ▸ m2 k (List.mem_append_left _ (mem_oneB.2 hk)))), fun t ht => ⟨row_set (h.youngs t ht).1 (fun k hk e => hc (e ▸ m2 k (List.mem_append_right _ (blk_sub ht (List.mem_append_left _ (mem_oneB.2 hk)))))), row_set (h.youngs t ht).2 (fun k hk e => hc (e ▸ m2 k (List.mem_append_right _ (blk_sub ht (List.mem_append_right _ (mem_oneB.2 hk))))))⟩,
    row_set h.old (fun k hk e => hc (e ▸ m3 k (List.mem_append_left _ (mem_oneB.2 hk)))), fun t ht => ⟨row_set (h.olds t ht).1 (fun k hk e => hc (e ▸ m3 k (List.mem_append_right _ (blk_sub ht (List.mem_append_left _ (mem_oneB.2 hk)))))), row_set (h.olds t ht).2 (fun k hk e => hc (e ▸ m3 k (List.mem_append_right _ (blk_sub ht (List.mem_append_right _ (mem_oneB.2 hk))))))⟩, row_set h.snaps (fun k hk e => hc (e ▸ m4 k (mem_oneB.2 hk))), h.nod⟩
theorem OwnTree.others {w : World} {lo c : Nat} {u0 u1 u2 u3 u4 : Value} {Y : TrX} (h : OwnTree w lo Y) (hc : c ∉ trB Y) : OwnTree (put5 w c u0 u1 u2 u3 u4) lo Y := ((((h.other hc).other hc).other hc).other hc).other hc
end Go.Proofs.YtpbbahpndgigjaaGreatDoor
