/- The contract of the program's copy of a tree. Trees in rows of the call's own. What the exact laws over trees share. A table that came in as an argument of a law: what is read of it. A tree that came in as an argument of a law: what is read of it. -/
import Derived.Test.YtbefmbjlogkmbaaGreatG33
import Derived.OpenShut
import Derived.SliceStrings
import Derived.ChangeArms
namespace Go.Proofs.YtbefmbjlogkmbaaGreat
set_option maxHeartbeats 16000000
set_option maxRecDepth 100000
open Go.RowKit
theorem step_row1 {w : World} {ops : Array Oper} {o : Oper} {a : Act} {K : Act → World → Prop} {Q : Exit → Act → World → Prop} {E : Prop} (hgd : o.guard = none) (d : Nat) (hd : o.dst = some d) (x : Value) (e : TypeId)
    (hrun : (execOp a.eval o).run Tryz.prog w = .ok (.value (.slice (some ⟨w.heap.size, 0, none⟩) 1 1)) (w.alloc (.cells #[x] e)))
    (h : K (a.put (some d) (.slice (some ⟨w.heap.size, 0, none⟩) 1 1)) (w.alloc (.cells #[x] e))) :
    if Region.wanted o (yielded ops a.tmps) = true then Oper.wp Tryz.prog o a w K Q else E := by
  have hw : Region.wanted o (yielded ops a.tmps) = true := by simp [Region.wanted, hgd]
  rw [if_pos hw]
  rw [← hd] at h
  unfold Oper.wp
  rw [hrun]
  exact h
theorem pieces1 {W : World} {u : Value} {A : List Ent} (h : RdE W u A) : Pieces (W.alloc (.cells #[u] 30)) (.slice (some ⟨W.heap.size, 0, none⟩) 1 1) [(u, A)] := by
  have hb2 := below1 W (.cells #[u] 30)
  refine .inr ⟨W.heap.size, 0, 1, rfl, Nat.le_refl _, by decide, fun i hi => ?_⟩
  match i, hi with
  | 0, _ => exact ⟨by simp [World.cell?_alloc_at], h.below hb2⟩
structure CpTr (X : TrX) : Prop where
  siz : SizTr X
  mem : X.mem.length ≤ 1000000
  vy : NilOk X.vy
  vo : NilOk X.vo
theorem copied_any (X : TrX) (w : World) (hx : RdTr w X) (hs : CpTr X) :
    Calls Tryz.prog 34 #[.agg #[X.vm, X.vy, X.vo, .int .i64 X.seq, X.vs]] w fun e w' => ToTr w X e w' := by
  have HJ : Hid (∀ u W, Pieces W u [(X.vm, X.mem)] → Calls Tryz.prog 66 #[u] W fun e w' => ∃ u, e = .returned u ∧ OwnE w' W.heap.size u X.mem ∧ Below W.heap.size W w') := fun u W h => by
    have e : joinE [(X.vm, X.mem)] = X.mem := by simp [joinE]
    have := joined_any u _ W h (by rw [e]; exact hs.mem) (by simp)
    rw [e] at this
    exact this
  have HY : Hid (∀ W, RdTs W X.vy X.ys → Calls Tryz.prog 67 #[X.vy] W fun e w' => TosPost W X.ys e w') := fun W h => copiedTabs_any X.vy X.ys W h hs.vy hs.siz.young hs.siz.youngs
  have HO : Hid (∀ W, RdTs W X.vo X.os → Calls Tryz.prog 67 #[X.vo] W fun e w' => TosPost W X.os e w') := fun W h => copiedTabs_any X.vo X.os W h hs.vo hs.siz.old hs.siz.olds
  have HI : Hid (∀ W, RdI W X.vs X.snaps → Calls Tryz.prog 53 #[X.vs] W fun e w' => ∃ u, e = .returned u ∧ OwnI w' W.heap.size u X.snaps ∧ Below W.heap.size W w') := fun W h => copiedInts_any X.vs X.snaps W h hs.siz.snaps
  clear hs
  obtain ⟨am, cm, hvm, -⟩ := id hx.mem
  obtain ⟨mn, hmn⟩ : ∃ mn, mn = X.mem.length := ⟨_, rfl⟩
  rw [← hmn] at hvm
  have ht0 := treAt_new w X 33
  have b0 := below1 w (.cells #[X.vm, X.vy, X.vo, .int .i64 X.seq, X.vs] 33)
  have HVM : Hid (X.vm = .slice am mn cm) := hvm
  rw [hvm] at ht0 b0 ⊢
  clear hvm hmn
  obtain ⟨V0, hV0⟩ : ∃ V0, V0 = w.alloc (.cells #[.slice am mn cm, X.vy, X.vo, .int .i64 X.seq, X.vs] 33) := ⟨_, rfl⟩
  have s0 : V0.heap.size = w.heap.size + 1 := by rw [hV0]; simp
  rw [← hV0] at ht0 b0
  have b1 := below1 V0 (.cells #[.slice none 0 0, .slice none 0 0, .slice none 0 0, .int .i64 0, .slice none 0 0] 33)
  have hz : BoxTr (V0.alloc (.cells #[.slice none 0 0, .slice none 0 0, .slice none 0 0, .int .i64 0, .slice none 0 0] 33)) (w.heap.size + 1) (.slice none 0 0) (.slice none 0 0) (.slice none 0 0) 0 (.slice none 0 0) := by rw [← s0]; exact heap_alloc_new V0 _
  have ht1 := ht0.below b1
  obtain ⟨W0, hW0⟩ : ∃ W0, W0 = V0.alloc (.cells #[.slice none 0 0, .slice none 0 0, .slice none 0 0, .int .i64 0, .slice none 0 0] 33) := ⟨_, rfl⟩
  have s1 : W0.heap.size = w.heap.size + 2 := by rw [hW0]; simp [s0]
  rw [← hW0] at hz b1 ht1
  have bw : Below w.heap.size w W0 := b0.trans (b1.mono (by omega))
  have hx0 := hx.below bw
  have HSV : Hid (∀ W, TreAt W w.heap.size X → W.cell? ⟨w.heap.size, 0, none⟩ = some (.slice am mn cm) ∧ W.cell? ⟨w.heap.size, 1, none⟩ = some X.vy ∧ W.cell? ⟨w.heap.size, 2, none⟩ = some X.vo ∧ W.cell? ⟨w.heap.size, 3, none⟩ = some (.int .i64 X.seq) ∧ W.cell? ⟨w.heap.size, 4, none⟩ = some X.vs) := fun W h => ⟨by rw [← HVM.out]; exact h.1, h.2.1, h.2.2.1, h.2.2.2.1, h.2.2.2.2⟩
  clear ht0 b0 b1 s0
  go_enter Tryz.func34, Tryz.ntmps34
  go_wp2_with fail
  rw [← hV0, ← hW0]
  clear hV0 hW0
  refine wp_region_noPanic ?_
  refine wp_region_held_drew (S := fun W => W.cell? ⟨w.heap.size, 0, none⟩ = some (.slice am mn cm) ∧ W.cell? ⟨w.heap.size, 1, none⟩ = some X.vy ∧ W.cell? ⟨w.heap.size, 2, none⟩ = some X.vo ∧ W.cell? ⟨w.heap.size, 3, none⟩ = some (.int .i64 X.seq) ∧ W.cell? ⟨w.heap.size, 4, none⟩ = some X.vs) (by kernel_rfl) (HSV.out _ ht1) (fun hS => ?_)
  have qb : Below (w.heap.size + 2) W0 W0.drew := (Below.refl _ _).drew
  refine tkA 0 3 hS ?_; try simp only [Act.put, sA, sZ, sS]
  refine tkA 1 4 hS ?_; try simp only [Act.put, sA, sZ, sS]
  refine tkA 4 7 hS ?_; try simp only [Act.put, sA, sZ, sS]
  refine tkA 5 8 hS ?_; try simp only [Act.put, sA, sZ, sS]
  refine tkA 7 10 hS ?_; try simp only [Act.put, sA, sZ, sS]
  refine tkA 8 11 hS ?_; try simp only [Act.put, sA, sZ, sS]
  refine tkA 10 13 hS ?_; try simp only [Act.put, sA, sZ, sS]
  refine tkA 11 14 hS ?_; try simp only [Act.put, sA, sZ, sS]
  refine tkA 12 15 hS ?_; try simp only [Act.put, sA, sZ, sS]
  refine tkA 13 16 hS ?_; try simp only [Act.put, sA, sZ, sS]
  have hBV : w.heap.size + 2 ≤ W0.drew.heap.size := by show w.heap.size + 2 ≤ W0.heap.size; omega
  generalize W0.drew = V at qb hS hBV ⊢
  refine wpAnyH_ready (rs := [2]) (by kernel_rfl) (by simp) ?_
  refine AllReadyH.cons rfl (fun K hK => ?_) AllReadyH.nil
  refine step_row1 rfl 5 rfl (.slice am mn cm) 30 (by go_simp; (try rfl)) ?_
  have hp1 : Pieces (V.alloc (.cells #[.slice am mn cm] 30)) (.slice (some ⟨V.heap.size, 0, none⟩) 1 1) [(X.vm, X.mem)] := by
    have h := (hx0.mem).below (show Below W0.heap.size W0 V by rw [s1]; exact qb)
    rw [HVM.out] at h ⊢
    exact pieces1 h
  have bb1 := below1 V (.cells #[.slice am mn cm] 30)
  replace qb := qb.trans (bb1.mono hBV)
  replace hBV := Nat.le_trans hBV bb1.size
  clear hS bb1
  have htV : TreAt _ w.heap.size X := ht1.of_block (qb.block w.heap.size (by omega))
  refine hK.out _ _ (HSV.out _ htV) (fun hS2 => ?_)
  clear hK K htV
  try simp only [Act.put, sA, sZ, sS]
  generalize V.alloc (.cells #[.slice am mn cm] 30) = V1 at qb hBV hp1 hS2 ⊢
  refine wpAnyH_ready (rs := [3]) (by kernel_rfl) (by simp) ?_
  refine AllReadyH.cons rfl (fun K hK => ?_) AllReadyH.nil
  go_simp
  refine (HJ.out _ _ hp1).mono ?_
  rintro e V3 ⟨vE, rfl, qE, hm⟩
  replace qE : OwnE V3 (w.heap.size + 2) vE X.mem := OwnE.mono qE hBV
  have LE : ∀ k ∈ oneB vE, k < V3.heap.size := fun k hk => (World.ownsRow.lt qE k (mem_oneB.1 hk)).2
  replace qb := qb.trans (hm.mono hBV)
  replace hBV := Nat.le_trans hBV hm.size
  clear hm hS2 hp1
  have htV : TreAt V3 w.heap.size X := ht1.of_block (qb.block w.heap.size (by omega))
  refine hK.out _ _ (HSV.out _ htV) (fun hS4 => ?_)
  clear hK K htV
  try simp only [Act.put, sA, sZ, sS]
  refine wpAnyH_ready (rs := [6]) (by kernel_rfl) (by simp) ?_
  refine AllReadyH.cons rfl (fun K hK => ?_) AllReadyH.nil
  go_simp
  refine (HY.out _ ((hx0.young).below (by rw [s1]; exact qb))).mono ?_
  rintro e V5 ⟨vY, usY, rfl, hYe, qY, hm⟩
  have LY : ∀ k ∈ oneB vY ++ tblks usY, V3.heap.size ≤ k ∧ k < V5.heap.size := fun k hk => qY.bound hk
  have s35 := hm.size
  replace qY := qY.mono hBV
  replace qE := qE.below hm
  replace qb := qb.trans (hm.mono hBV)
  replace hBV := Nat.le_trans hBV hm.size
  clear hm hS4
  have htV : TreAt V5 w.heap.size X := ht1.of_block (qb.block w.heap.size (by omega))
  refine hK.out _ _ (HSV.out _ htV) (fun hS6 => ?_)
  clear hK K htV
  try simp only [Act.put, sA, sZ, sS]
  refine wpAnyH_ready (rs := [9]) (by kernel_rfl) (by simp) ?_
  refine AllReadyH.cons rfl (fun K hK => ?_) AllReadyH.nil
  go_simp
  refine (HO.out _ ((hx0.old).below (by rw [s1]; exact qb))).mono ?_
  rintro e V7 ⟨vO, usO, rfl, hOe, qO, hm⟩
  have LO : ∀ k ∈ oneB vO ++ tblks usO, V5.heap.size ≤ k ∧ k < V7.heap.size := fun k hk => qO.bound hk
  have s57 := hm.size
  replace qO := qO.mono hBV
  replace qE := qE.below hm
  replace qY := qY.below hm
  replace qb := qb.trans (hm.mono hBV)
  replace hBV := Nat.le_trans hBV hm.size
  clear hm hS6
  have htV : TreAt V7 w.heap.size X := ht1.of_block (qb.block w.heap.size (by omega))
  refine hK.out _ _ (HSV.out _ htV) (fun hS8 => ?_)
  clear hK K htV
  try simp only [Act.put, sA, sZ, sS]
  refine wpAnyH_ready (rs := [14]) (by kernel_rfl) (by simp) ?_
  refine AllReadyH.cons rfl (fun K hK => ?_) AllReadyH.nil
  go_simp
  refine (HI.out _ ((hx0.snaps).below (by rw [s1]; exact qb))).mono ?_
  rintro e V9 ⟨vS, rfl, qS, hm⟩
  have LS : ∀ k ∈ oneB vS, V7.heap.size ≤ k := fun k hk => (World.ownsRow.lt qS k (mem_oneB.1 hk)).1
  replace qS : OwnI V9 (w.heap.size + 2) vS X.snaps := OwnI.mono qS hBV
  replace qE := qE.below hm
  replace qY := qY.below hm
  replace qO := qO.below hm
  replace qb := qb.trans (hm.mono hBV)
  replace hBV := Nat.le_trans hBV hm.size
  clear hm hS8
  have htV : TreAt V9 w.heap.size X := ht1.of_block (qb.block w.heap.size (by omega))
  refine hK.out _ _ (HSV.out _ htV) (fun hS10 => ?_)
  clear hK K htV
  try simp only [Act.put, sA, sZ, sS]
  obtain ⟨aE, cE, heE, -⟩ := id qE.rd
  obtain ⟨aY, cY, heY, -⟩ := id qY.rd
  obtain ⟨aO, cO, heO, -⟩ := id qO.rd
  obtain ⟨aS, cS, heS, -⟩ := id qS.rd
  subst heE; subst heY; subst heO; subst heS
  refine tkA 15 18 hS10 ?_; try simp only [Act.put, sA, sZ, sS]
  have hzV : BoxTr V9 (w.heap.size + 1) (.slice none 0 0) (.slice none 0 0) (.slice none 0 0) 0 (.slice none 0 0) := hz.below qb (by omega)
  have htV : TreAt V9 w.heap.size X := ht1.of_block (qb.block w.heap.size (by omega))
  obtain ⟨y0, y1, y2, y3, y4, g0, g1, g2, g3, g4⟩ := hzV.facts
  refine wpAnyH_ready (rs := [16]) (by kernel_rfl) (by simp) ?_
  refine AllReadyH.cons rfl (fun K hK => ?_) AllReadyH.nil
  go_simp
  refine hK.out _ _ (HSV.out _ (treAt_put5 (u0 := .slice aE X.mem.length cE) (u1 := .slice aY usY.length cY) (u2 := .slice aO usO.length cO) (u3 := .int .i64 X.seq) (u4 := .slice aS X.snaps.length cS) htV (by omega))) (fun hSf => ?_)
  clear hK K
  refine wpAnyH_done (by kernel_rfl) ?_ _
  refine NoPanic.normal ?_
  have HF : Hid (ToTr w X (.returned (.agg #[.slice aE X.mem.length cE, .slice aY usY.length cY, .slice aO usO.length cO, .int .i64 X.seq, .slice aS X.snaps.length cS])) (put5 V9 (w.heap.size + 1) (.slice aE X.mem.length cE) (.slice aY usY.length cY) (.slice aO usO.length cO) (.int .i64 X.seq) (.slice aS X.snaps.length cS))) := by
    have h1 := qY.put5 (c := w.heap.size + 1) (u0 := .slice aE X.mem.length cE) (u1 := .slice aY usY.length cY) (u2 := .slice aO usO.length cO) (u3 := .int .i64 X.seq) (u4 := .slice aS X.snaps.length cS) (by omega)
    have h2 := qO.put5 (c := w.heap.size + 1) (u0 := .slice aE X.mem.length cE) (u1 := .slice aY usY.length cY) (u2 := .slice aO usO.length cO) (u3 := .int .i64 X.seq) (u4 := .slice aS X.snaps.length cS) (by omega)
    refine ⟨⟨.slice aE X.mem.length cE, .slice aY usY.length cY, .slice aO usO.length cO, .slice aS X.snaps.length cS, X.mem, usY, usO, X.seq, X.snaps⟩, rfl, ?_, ⟨OwnE.mono (row_put5 qE (by omega)) (by omega), h1.row.mono (by omega), h1.ins.mono (by omega), h2.row.mono (by omega), h2.ins.mono (by omega), OwnI.mono (row_put5 qS (by omega)) (by omega), ?_⟩, below_put5 (bw.trans (qb.mono (by omega))) (by omega)⟩
    · unfold TrX.tre
      simp only [hYe, hOe]
    · unfold trB
      refine nod_app (m := V3.heap.size) (oneB_nodup _) (nod_app (m := V5.heap.size) qY.nod (nod_app (m := V7.heap.size) qO.nod (oneB_nodup _) (fun k hk => (LO k hk).2) LS) (fun k hk => (LY k hk).2) (mem_app_le (fun k hk => (LO k hk).1) (fun k hk => Nat.le_trans s57 (LS k hk)))) LE (mem_app_le (fun k hk => (LY k hk).1) (mem_app_le (fun k hk => Nat.le_trans s35 (LO k hk).1) (fun k hk => Nat.le_trans s35 (Nat.le_trans s57 (LS k hk)))))
  have hzF := boxTr_put5 hzV (.slice aE X.mem.length cE) (.slice aY usY.length cY) (.slice aO usO.length cO) (.slice aS X.snaps.length cS) X.seq
  obtain ⟨f0, f1, f2, f3, f4, -, -, -, -, -⟩ := hzF.facts
  clear y0 y1 y2 y3 y4 g0 g1 g2 g3 g4 hzF hSf htV hzV qb hBV
  unfold put5 at f0 f1 f2 f3 f4
  go_wp2
  exact bodyPost_ret (v := .agg #[.slice aE X.mem.length cE, .slice aY usY.length cY, .slice aO usO.length cO, .int .i64 X.seq, .slice aS X.snaps.length cS]) (by simp [results, Tryz.results34, go_sem, f0, f1, f2, f3, f4]) rfl HF.out
open Go.RowKit
structure RowsTr (w : World) (lo : Nat) (Y : TrX) : Prop where
  mem : OwnE w lo Y.vm Y.mem
  young : OwnT w lo Y.vy Y.ys
  youngs : InT w lo Y.ys
  old : OwnT w lo Y.vo Y.os
  olds : InT w lo Y.os
  snaps : OwnI w lo Y.vs Y.snaps
theorem RowsTr.rd {w : World} {lo : Nat} {Y : TrX} (h : RowsTr w lo Y) : RdTr w Y := ⟨h.mem.rd, h.young.rd h.youngs, h.old.rd h.olds, h.snaps.rd⟩
theorem RowsTr.below {w w' : World} {lo : Nat} {Y : TrX} (h : RowsTr w lo Y) (hb : Below w.heap.size w w') : RowsTr w' lo Y := ⟨h.mem.below hb, h.young.below hb, h.youngs.below hb, h.old.below hb, h.olds.below hb, h.snaps.below hb⟩
theorem RowsTr.mono {w : World} {lo lo' : Nat} {Y : TrX} (h : RowsTr w lo Y) (hb : lo' ≤ lo) : RowsTr w lo' Y := ⟨h.mem.mono hb, h.young.mono hb, h.youngs.mono hb, h.old.mono hb, h.olds.mono hb, h.snaps.mono hb⟩
theorem RowsTr.bound {w : World} {lo : Nat} {Y : TrX} (h : RowsTr w lo Y) {k : Nat} (hk : k ∈ trB Y) : lo ≤ k ∧ k < w.heap.size := by
  unfold trB at hk
  rcases List.mem_append.1 hk with hk | hk
  · exact World.ownsRow.lt h.mem k (mem_oneB.1 hk)
  rcases List.mem_append.1 hk with hk | hk
  · rcases List.mem_append.1 hk with hk | hk
    · exact World.ownsRow.lt h.young k (mem_oneB.1 hk)
    · exact tblks_bound h.youngs hk
  rcases List.mem_append.1 hk with hk | hk
  · rcases List.mem_append.1 hk with hk | hk
    · exact World.ownsRow.lt h.old k (mem_oneB.1 hk)
    · exact tblks_bound h.olds hk
  · exact World.ownsRow.lt h.snaps k (mem_oneB.1 hk)
theorem RowsTr.touch {bs : List Nat} {w w' : World} {lo : Nat} {Y : TrX} (h : RowsTr w lo Y) (ht : Touch bs w w') (hn : ∀ k ∈ trB Y, k ∉ bs) : RowsTr w' lo Y := by
  have m1 : ∀ k ∈ oneB Y.vm, k ∈ trB Y := fun q hq => List.mem_append_left _ hq
  have m2 : ∀ k ∈ oneB Y.vy ++ tblks Y.ys, k ∈ trB Y := fun q hq => List.mem_append_right _ (List.mem_append_left _ hq)
  have m3 : ∀ k ∈ oneB Y.vo ++ tblks Y.os, k ∈ trB Y := fun q hq => List.mem_append_right _ (List.mem_append_right _ (List.mem_append_left _ hq))
  have m4 : ∀ k ∈ oneB Y.vs, k ∈ trB Y := fun q hq => List.mem_append_right _ (List.mem_append_right _ (List.mem_append_right _ hq))
  exact ⟨ht.row h.mem (fun k hk => hn k (m1 k (mem_oneB.2 hk))), ht.row h.young (fun k hk => hn k (m2 k (List.mem_append_left _ (mem_oneB.2 hk)))), fun t hm => ⟨ht.row (h.youngs t hm).1 (fun k hk => hn k (m2 k (List.mem_append_right _ (blk_sub hm (List.mem_append_left _ (mem_oneB.2 hk)))))), ht.row (h.youngs t hm).2 (fun k hk => hn k (m2 k (List.mem_append_right _ (blk_sub hm (List.mem_append_right _ (mem_oneB.2 hk))))))⟩,
    ht.row h.old (fun k hk => hn k (m3 k (List.mem_append_left _ (mem_oneB.2 hk)))), fun t hm => ⟨ht.row (h.olds t hm).1 (fun k hk => hn k (m3 k (List.mem_append_right _ (blk_sub hm (List.mem_append_left _ (mem_oneB.2 hk)))))), ht.row (h.olds t hm).2 (fun k hk => hn k (m3 k (List.mem_append_right _ (blk_sub hm (List.mem_append_right _ (mem_oneB.2 hk))))))⟩, ht.row h.snaps (fun k hk => hn k (m4 k (mem_oneB.2 hk)))⟩
theorem ownTree_zero (w : World) (lo : Nat) : OwnTree w lo ⟨.slice none 0 0, .slice none 0 0, .slice none 0 0, .slice none 0 0, [], [], [], 0, []⟩ :=
  ⟨⟨rfl, .inl ⟨rfl, rfl⟩⟩, ⟨rfl, .inl ⟨rfl, rfl⟩⟩, (fun t ht => by cases ht), ⟨rfl, .inl ⟨rfl, rfl⟩⟩, (fun t ht => by cases ht), ⟨rfl, .inl ⟨rfl, rfl⟩⟩, List.nodup_nil⟩
theorem OwnTree.other {w : World} {lo c j : Nat} {u : Value} {Y : TrX} (h : OwnTree w lo Y) (hc : c ∉ trB Y) : OwnTree (w.setCell ⟨c, j, none⟩ u) lo Y := by
  have m1 : ∀ k ∈ oneB Y.vm, k ∈ trB Y := fun q hq => List.mem_append_left _ hq
  have m2 : ∀ k ∈ oneB Y.vy ++ tblks Y.ys, k ∈ trB Y := fun q hq => List.mem_append_right _ (List.mem_append_left _ hq)
  have m3 : ∀ k ∈ oneB Y.vo ++ tblks Y.os, k ∈ trB Y := fun q hq => List.mem_append_right _ (List.mem_append_right _ (List.mem_append_left _ hq))
  have m4 : ∀ k ∈ oneB Y.vs, k ∈ trB Y := fun q hq => List.mem_append_right _ (List.mem_append_right _ (List.mem_append_right _ hq))
  refine ⟨row_set h.mem (fun k hk e => hc (e ▸ m1 k (mem_oneB.2 hk))), row_set h.young (fun k hk e => hc (e ▸ m2 k (List.mem_append_left _ (mem_oneB.2 hk)))), fun t ht => ⟨row_set (h.youngs t ht).1 (fun k hk e => hc (e ▸ m2 k (List.mem_append_right _ (blk_sub ht (List.mem_append_left _ (mem_oneB.2 hk)))))), row_set (h.youngs t ht).2 (fun k hk e => hc (e ▸ m2 k (List.mem_append_right _ (blk_sub ht (List.mem_append_right _ (mem_oneB.2 hk))))))⟩,
    row_set h.old (fun k hk e => hc (e ▸ m3 k (List.mem_append_left _ (mem_oneB.2 hk)))), fun t ht => ⟨row_set (h.olds t ht).1 (fun k hk e => hc (e ▸ m3 k (List.mem_append_right _ (blk_sub ht (List.mem_append_left _ (mem_oneB.2 hk)))))), row_set (h.olds t ht).2 (fun k hk e => hc (e ▸ m3 k (List.mem_append_right _ (blk_sub ht (List.mem_append_right _ (mem_oneB.2 hk))))))⟩, row_set h.snaps (fun k hk e => hc (e ▸ m4 k (mem_oneB.2 hk))), h.nod⟩
theorem OwnTree.others {w : World} {lo c : Nat} {u0 u1 u2 u3 u4 : Value} {Y : TrX} (h : OwnTree w lo Y) (hc : c ∉ trB Y) : OwnTree (put5 w c u0 u1 u2 u3 u4) lo Y := ((((h.other hc).other hc).other hc).other hc).other hc
open Go.RowKit
theorem own_cp {w : World} {lo : Nat} {Y : TrX} (ho : OwnTree w lo Y) (hs : SmallTr Y) (ht : treeOk Y.tre = true) : CpTr Y := by
  have hp := (treeOk_iff Y.tre).1 ht
  have hm : Y.mem.length ≤ 300 := okL_len hp.mem
  have hy : Y.ys.length ≤ 6 := by have := hp.young; simpa [TrX.tre] using this
  have hol : Y.os.length ≤ 1 := by have := hp.old; simpa [TrX.tre] using this
  have hsn : Y.snaps.length ≤ 10 := hp.few
  have hsum := hs.sum
  refine ⟨⟨by omega, by omega, by omega, by omega, fun t hm => ?_, fun t hm => ?_⟩, by omega, own_nil ho.young, own_nil ho.old⟩
  · have := tsz_mem hm
    exact ⟨by omega, by omega, own_nil (ho.youngs t hm).2⟩
  · have := tsz_mem hm
    exact ⟨by omega, by omega, own_nil (ho.olds t hm).2⟩
def TreRes (W : World) (R : Tre) (ok : Bool) (e : Ending) (w' : World) : Prop := ∃ G : TrX, e = .returned (.tuple #[.agg #[G.vm, G.vy, G.vo, .int .i64 G.seq, G.vs], .bool ok]) ∧ G.tre = R ∧ OwnTree w' W.heap.size G ∧ Below W.heap.size W w'
def TreResS (W : World) (R : Tre) (ok : Bool) (e : Ending) (w' : World) : Prop := ∃ G : TrX, e = .returned (.tuple #[.agg #[G.vm, G.vy, G.vo, .int .i64 G.seq, G.vs], .bool ok]) ∧ G.tre = R ∧ RowsTr w' W.heap.size G ∧ Below W.heap.size W w'
open Go.RowKit Go.ChangeShapes Go.WideShapes
theorem cellsT9 : Tryz.prog.cellsOf 9 = 1 := by kernel_rfl
theorem cellsT24 : Tryz.prog.cellsOf 24 = 1 := by kernel_rfl
theorem cellsT70 : Tryz.prog.cellsOf 70 = 1 := by kernel_rfl
theorem cellsT86 : Tryz.prog.cellsOf 86 = 4 := by kernel_rfl
theorem rdI_of {w : World} {x : Addr} {len cap : Nat} {zs : List Int} (hl : len ≤ cap) (hm : cap ≤ maxLen) (hz : zs.length = cap) (hcell : ∀ i, i < zs.length → w.cell? (x.add i) = some (.int .i64 (zs.getD i 0))) :
    ∃ ns, RdI w (.slice (some x) len cap) ns := by
  refine ⟨zs.take len, some x, cap, ?_, ?_, hm, (fun h => by cases h), ?_⟩
  · congr 1; rw [List.length_take]; omega
  · rw [List.length_take]; omega
  · by_cases h0 : len = 0
    · left; subst h0; simp
    · right
      obtain ⟨b, off, spot⟩ := x
      have hc := hcell 0 (by omega)
      have hspot : spot = none := by simpa [Addr.add] using World.cell?_spot hc
      subst hspot
      refine ⟨b, off, rfl, fun i hi => ?_⟩
      have hi' : i < len := by rw [List.length_take] at hi; omega
      have h := hcell i (by omega)
      have hg : zs.getD i 0 = zs[i]'(by omega) := by simp [List.getD, List.getElem?_eq_getElem (show i < zs.length by omega)]
      rw [Addr.add_lit] at h
      rw [h, hg]
      simp only [List.getElem_take]
theorem open_table {H : Type} {enc : TypeId × Value → H} {w : World} {fuel : Nat} {cs : List Value} {x : DataW H × List MemPlace} (h : DataW.trod enc Tryz.prog w 0 (fun _ => true) true fuel 86 cs = some x) :
    ∃ (T : Tbl) (vb vk : Value), cs = [.string T.first, .string T.last, vb, vk] ∧ RdI w vb T.bits ∧ RdS w vk T.blocks ∧ T.first.size ≤ maxLen ∧ T.last.size ≤ maxLen ∧ ∀ s ∈ T.blocks, s.size ≤ maxLen := by
  obtain ⟨xs, n, _, _, hl, hxl, hf⟩ := DataW.trod_struct Tryz.underlying86 h
  rw [cellsT86] at hl
  match xs, hxl, cs, hl with
  | [y0, y1, y2, y3], _, [v0, v1, v2, v3], _ =>
    have g0 := hf 0 _ rfl
    have g1 := hf 1 _ rfl
    have g2 := hf 2 _ rfl
    have g3 := hf 3 _ rfl
    simp [cellsT9, cellsT24, cellsT70] at g0 g1 g2 g3
    obtain ⟨s0, h0, _, z0⟩ := DataW.trod_string Tryz.underlying9 g0
    obtain ⟨s1, h1, _, z1⟩ := DataW.trod_string Tryz.underlying9 g1
    simp only [List.cons.injEq, and_true] at h0 h1
    subst h0 h1
    obtain ⟨ns, hi⟩ : ∃ ns, RdI w v2 ns := by
      rcases open_ints Tryz.underlying24 Tryz.underlying2 (by kernel_rfl) g2 with ⟨hcs, _⟩ | ⟨x, l, c, zs, hcs, _, hl, hm, hz, _, hcell, _⟩
      · simp at hcs
        subst hcs
        exact ⟨[], rdI_nil w⟩
      · simp at hcs
        subst hcs
        exact rdI_of hl hm (by simpa using hz) hcell
    obtain ⟨ss, hk, hz⟩ : ∃ ss, RdS w v3 ss ∧ ∀ s ∈ ss, s.size ≤ maxLen := by
      rcases open_strings Tryz.underlying70 Tryz.underlying9 (by kernel_rfl) g3 with ⟨hcs, _⟩ | ⟨x, l, c, zs, hcs, _, hl, hm, hz, _, hcell, hwz⟩
      · simp at hcs
        subst hcs
        exact ⟨[], rdS_nil w, fun s hs => by cases hs⟩
      · simp at hcs
        subst hcs
        exact rdS_of hl hm (by simpa using hz) hcell hwz
    exact ⟨⟨s0, s1, ns, ss⟩, v2, v3, rfl, hi, hk, z0, z1, hz⟩
open Go.RowKit Go.ChangeShapes Go.WideShapes
theorem cellsR22 : Tryz.prog.cellsOf 22 = 1 := by kernel_rfl
theorem cellsR23 : Tryz.prog.cellsOf 23 = 1 := by kernel_rfl
theorem cellsR2 : Tryz.prog.cellsOf 2 = 1 := by kernel_rfl
theorem cellsR26 : Tryz.prog.cellsOf 26 = 5 := by kernel_rfl
instance : Inhabited TV := ⟨zeroTV⟩
theorem open_tabs {H : Type} {enc : TypeId × Value → H} {w : World} {v : Value} {d : DataW H} {pl : List MemPlace} (h : DataW.Trod enc Tryz.prog w 0 (fun _ => true) true 23 v d pl) (hv : ∃ a len cap, v = .slice a len cap) :
    ∃ ts, RdTs w v ts ∧ ∀ t ∈ ts, HeldT t.T := by
  obtain ⟨fuel, hf⟩ := h
  obtain ⟨a0, len0, cap0, rfl⟩ := hv
  rcases Deep.open_slice Tryz.underlying23 hf with ⟨hcs, _⟩ | ⟨a, len, cap, m, n, D, Pl, hcs, _, hl, hm, hmm, _, hx⟩
  · simp [Value.cells] at hcs
    obtain ⟨rfl, rfl, rfl⟩ := hcs
    exact ⟨[], ⟨none, 0, rfl, Nat.le_refl _, Nat.zero_le _, .inl rfl, fun t ht => by cases ht⟩, fun t ht => by cases ht⟩
  · simp [Value.cells] at hcs
    obtain ⟨rfl, rfl, rfl⟩ := hcs
    simp only [if_true] at hmm
    subst hmm
    have each : ∀ i, i < m → ∃ t : TV, w.cells? 0 (a.add (i * 4)) 4 = some (TC t) ∧ RdI w t.vb t.T.bits ∧ RdS w t.vk t.T.blocks ∧ HeldT t.T := by
      intro i hi
      obtain ⟨cs', h1, h2⟩ := hx i hi
      rw [cellsT86] at h1
      obtain ⟨T, vb, vk, hcs, hi', hk', g1, g2, g3⟩ := open_table h2
      subst hcs
      exact ⟨⟨T, vb, vk⟩, h1, hi', hk', g1, g2, g3⟩
    obtain ⟨q, hq⟩ := Deep.choose_lt each
    obtain ⟨b, off, spot⟩ := a
    refine ⟨(List.range len0).map q, ⟨some ⟨b, off, spot⟩, m, by simp, by simpa using hl, hm, ?_, fun t ht => ?_⟩, fun t ht => ?_⟩
    · by_cases h0 : len0 = 0
      · left; simp [h0]
      · right
        obtain ⟨_, _, hc0⟩ := World.cells?_some (hq 0 (by omega)).1
        have hc00 := hc0 0 (by omega)
        rw [Deep.add_add] at hc00
        have hspot : spot = none := by
          have := World.cell?_spot hc00
          cases spot with
          | none => rfl
          | some sp => simp [Addr.add] at this
        subst hspot
        refine ⟨b, off, rfl, fun i hi => ?_⟩
        have hi' : i < len0 := by simpa using hi
        obtain ⟨_, _, hc⟩ := World.cells?_some (hq i (by omega)).1
        have k0 := hc 0 (by omega)
        have k1 := hc 1 (by omega)
        have k2 := hc 2 (by omega)
        have k3 := hc 3 (by omega)
        rw [Deep.add_add, Addr.add_lit] at k0 k1 k2 k3
        rw [nthT_eq (by simpa using hi')]
        simp only [List.getElem_map, List.getElem_range]
        exact ⟨by simpa [TC] using k0, by simpa [TC, Nat.add_assoc] using k1, by simpa [TC, Nat.add_assoc] using k2, by simpa [TC, Nat.add_assoc] using k3⟩
    · simp only [List.mem_map, List.mem_range] at ht
      obtain ⟨i, hi, rfl⟩ := ht
      exact ⟨(hq i (by omega)).2.1, (hq i (by omega)).2.2.1⟩
    · simp only [List.mem_map, List.mem_range] at ht
      obtain ⟨i, hi, rfl⟩ := ht
      exact (hq i (by omega)).2.2.2
theorem open_tree {H : Type} {enc : TypeId × Value → H} {w : World} {fuel : Nat} {cs : List Value} {x : DataW H × List MemPlace} (h : DataW.trod enc Tryz.prog w 0 (fun _ => true) true fuel 26 cs = some x) :
    ∃ X : TrX, cs = [X.vm, X.vy, X.vo, .int .i64 X.seq, X.vs] ∧ RdTr w X ∧ HeldTr X := by
  obtain ⟨xs, n, _, _, hl, hxl, hf⟩ := DataW.trod_struct Tryz.underlying26 h
  rw [cellsR26] at hl
  match xs, hxl, cs, hl with
  | [y0, y1, y2, y3, y4], _, [v0, v1, v2, v3, v4], _ =>
    have g0 := hf 0 _ rfl
    have g1 := hf 1 _ rfl
    have g2 := hf 2 _ rfl
    have g3 := hf 3 _ rfl
    have g4 := hf 4 _ rfl
    simp [cellsR22, cellsR23, cellsR2, cellsT24] at g0 g1 g2 g3 g4
    have sl0 : ∃ a len cap, v0 = .slice a len cap := by
      rcases DataW.trod_slice Tryz.underlying22 g0 with ⟨e, _⟩ | ⟨a', len', cap', _, _, _, _, e, _⟩
      · simp at e; exact ⟨none, 0, 0, e⟩
      · simp at e; exact ⟨some a', len', cap', e⟩
    have sl1 : ∃ a len cap, v1 = .slice a len cap := by
      rcases DataW.trod_slice Tryz.underlying23 g1 with ⟨e, _⟩ | ⟨a', len', cap', _, _, _, _, e, _⟩
      · simp at e; exact ⟨none, 0, 0, e⟩
      · simp at e; exact ⟨some a', len', cap', e⟩
    have sl2 : ∃ a len cap, v2 = .slice a len cap := by
      rcases DataW.trod_slice Tryz.underlying23 g2 with ⟨e, _⟩ | ⟨a', len', cap', _, _, _, _, e, _⟩
      · simp at e; exact ⟨none, 0, 0, e⟩
      · simp at e; exact ⟨some a', len', cap', e⟩
    obtain ⟨i3, h3, _⟩ := DataW.trod_int Tryz.underlying2 g3
    simp only [List.cons.injEq, and_true] at h3
    subst h3
    obtain ⟨es, hr0, hh0⟩ : ∃ es, RdE w v0 es ∧ ∀ e ∈ es, Held e := by
      obtain ⟨a, len, cap, rfl⟩ := sl0
      exact open_ents (H := H) (enc := enc) (held := true) (v := .slice a len cap) ⟨n, g0⟩ ⟨a, len, cap, rfl⟩
    obtain ⟨ts, hr1, hh1⟩ : ∃ ts, RdTs w v1 ts ∧ ∀ t ∈ ts, HeldT t.T := by
      obtain ⟨a, len, cap, rfl⟩ := sl1
      exact open_tabs (H := H) (enc := enc) (v := .slice a len cap) ⟨n, g1⟩ ⟨a, len, cap, rfl⟩
    obtain ⟨us, hr2, hh2⟩ : ∃ ts, RdTs w v2 ts ∧ ∀ t ∈ ts, HeldT t.T := by
      obtain ⟨a, len, cap, rfl⟩ := sl2
      exact open_tabs (H := H) (enc := enc) (v := .slice a len cap) ⟨n, g2⟩ ⟨a, len, cap, rfl⟩
    obtain ⟨ns, hr4⟩ : ∃ ns, RdI w v4 ns := by
      rcases open_ints Tryz.underlying24 Tryz.underlying2 (by kernel_rfl) g4 with ⟨hcs, _⟩ | ⟨x, l, c, zs, hcs, _, hl, hm, hz, _, hcell, _⟩
      · simp at hcs
        subst hcs
        exact ⟨[], rdI_nil w⟩
      · simp at hcs
        subst hcs
        exact rdI_of hl hm (by simpa using hz) hcell
    exact ⟨⟨v0, v1, v2, v4, es, ts, us, i3, ns⟩, rfl, ⟨hr0, hr1, hr2, hr4⟩, hh0, hh1, hh2⟩
end Go.Proofs.YtbefmbjlogkmbaaGreat
