/- Plain facts on moves, and the contracts of the copies of a bank, of its code for a move, and of the payment. -/
-- UNF Gen
import Derived.Test.YtdleolgkbkoekaaDoorBnkOk
import Derived.Test.YtdleolgkbkoekaaDoorBnkLaw
import Derived.Maps.AppendAt
import Derived.Deep.DeepCutAuto
namespace Go.Proofs.YtdleolgkbkoekaaDoor
open Go.RowKit
theorem run_intsK_at (ty : TypeId) {w : World} {base : Nat} {v u : Value} {ys zs : List Int} (hown : OwnI w base v ys) (hr : RdI w u zs) (hl : ys.length + zs.length ≤ 1000000000) (hbase : base ≤ w.heap.size) :
    ∃ v' w', (Builtin.append_ #[24, 24] ty #[v, u]).run Tryd.prog w = .ok v' w' ∧ OwnI w' base v' (ys ++ zs) ∧ w.grownBy w' v.ownBlock ∧ (v'.ownBlock = v.ownBlock ∨ v'.ownBlock = some w.heap.size) := by
  obtain ⟨i0, hi, hz0, hz1, hz2⟩ := info_parts Tryd.info2
  obtain ⟨a, cap, rfl, h1, h2, h0, h3⟩ := hr
  have row : ∀ ad, (∀ j u, (IV zs)[j]? = some u → w.cell? (ad.add j) = some u) → ∃ v' w', (Builtin.append_ #[24, 24] ty #[v, .slice (some ad) zs.length cap]).run Tryd.prog w = .ok v' w' ∧ OwnI w' base v' (ys ++ zs) ∧ w.grownBy w' v.ownBlock ∧ (v'.ownBlock = v.ownBlock ∨ v'.ownBlock = some w.heap.size) := by
    intro ad hc
    obtain ⟨v', w', hrun, r1, r2, _, r3⟩ := run_append_own_at (P := Tryd.prog) w base 24 ty 2 i0 _ 1 8 Tryd.underlying24 hi hz0 hz1 hz2 rfl (by decide) v ys.length (IV ys) hown ad zs.length cap (IV zs) (by rw [IV_length]; omega) hc (IV_oneCell zs) (by unfold maxLen; omega) (by omega) hbase
    exact ⟨v', w', hrun, ownI_more r1, r2, r3⟩
  cases a with
  | some ad =>
    refine row ad ?_
    rcases h3 with rfl | ⟨b, off, ha, hc⟩
    · intro j u hj; simp [IV] at hj
    · cases ha
      intro j u hj
      have hjl : j < zs.length := by have := (List.getElem?_eq_some_iff.1 hj).1; rwa [IV_length] at this
      rw [IV_get zs j hjl] at hj
      cases hj
      rw [Addr.add_lit]
      exact hc j hjl
  | none =>
    have hc0 := h0 rfl
    subst hc0
    rcases h3 with rfl | ⟨b, off, ha, hc⟩
    · refine ⟨v, w, run_append_owned_none (P := Tryd.prog) w base 24 ty 2 i0 1 Tryd.underlying24 hi v ys.length (IV ys) hown, by simpa using hown, ⟨rfl, rfl, rfl, Nat.le_refl _, fun _ _ _ => rfl⟩, .inl rfl⟩
    · cases ha
theorem step_intsK_at {w : World} {ops : Array Oper} {o : Oper} {a : Act} {K : Act → World → Prop} {Q : Exit → Act → World → Prop} {E : Prop} (hgd : o.guard = none) (d : Nat) (hd : o.dst = some d) (s x : Operand)
    (ho : o.op = .call { callee := .builtin .append, args := #[s, x], argTypes := #[24, 24] }) (base : Nat) (v u : Value) (ys zs : List Int) (hs : a.eval s = v) (hx : a.eval x = u) (hown : OwnI w base v ys) (hr : RdI w u zs) (hl : ys.length + zs.length ≤ 1000000000) (hbase : base ≤ w.heap.size)
    (h : ∀ v' w', OwnI w' base v' (ys ++ zs) → w.grownBy w' v.ownBlock → (v'.ownBlock = v.ownBlock ∨ v'.ownBlock = some w.heap.size) → K (a.put (some d) v') w') :
    if Region.wanted o (yielded ops a.tmps) = true then Oper.wp Tryd.prog o a w K Q else E := by
  have hw : Region.wanted o (yielded ops a.tmps) = true := by simp [Region.wanted, hgd]
  rw [if_pos hw]
  obtain ⟨v', w', hrun, r1, r2, r3⟩ := run_intsK_at o.type hown hr hl hbase
  unfold Oper.wp
  simp [execOp, ho, resolve, invoke, builtin, hs, hx, hrun, Result.andThen]
  have h' := h v' w' r1 r2 r3
  rw [← hd] at h'
  exact h'
set_option maxHeartbeats 1000000 in
set_option maxRecDepth 100000 in
theorem copiedK_any (v : Value) (bs : List Int) (w : World) (hr : RdI w v bs) (hl : bs.length ≤ 1000000000) :
    Calls Tryd.prog 39 #[v] w fun e w' => ∃ u, e = .returned u ∧ OwnI w' w.heap.size u bs ∧ Below w.heap.size w w' := by
  have hoi := ownI_none w
  have b0 := below1 w (.cells #[] 2)
  have hr0 := hr.below b0
  go_enter Tryd.func39, Tryd.ntmps39
  go_wp2_with (at_builtin; (refine wpList_append_ints rfl _ _ rfl w.heap.size _ _ [] bs rfl rfl hoi hr0 (by simp; omega) (by simp) ?_))
  intro u w1 ho hg
  have b1 : Below w.heap.size w w1 := b0.grown hg (by simp) (fun k hk => by have : w.heap.size = k := Option.some.inj hk; omega)
  clear hoi b0 hr0 hg
  go_wp2
  go_ret
  exact ⟨u, rfl, ho, b1⟩
/-- The end of a copy: the two rows are put into the box of the answer. -/
theorem copy_end {w V : World} {ms cs : List Int} {a a' : Option Addr} {n n' k k' : Nat} (hb : Below w.heap.size w V) (hm : OwnI V (w.heap.size + 2) (.slice a n k) ms) (hc : OwnI V (w.heap.size + 2) (.slice a' n' k') cs) (h2 : ∀ q, (Value.slice a n k).ownBlock = some q → (Value.slice a' n' k').ownBlock = some q → False) :
    ToBk w ms cs (.returned (.agg #[.slice a n k, .slice a' n' k'])) ((V.setCell ⟨w.heap.size + 1, 0, none⟩ (.slice a n k)).setCell ⟨w.heap.size + 1, 1, none⟩ (.slice a' n' k')) :=
  ⟨⟨.slice a n k, .slice a' n' k', ms, cs⟩, rfl, rfl, rfl, ⟨OwnI.mono (row_base (row_base hm (by omega)) (by omega)) (by omega), OwnI.mono (row_base (row_base hc (by omega)) (by omega)) (by omega), h2⟩, (hb.setCell (p := ⟨w.heap.size + 1, 0, none⟩) (by simp) _).setCell (p := ⟨w.heap.size + 1, 1, none⟩) (by simp) _⟩
set_option maxHeartbeats 4000000 in
set_option maxRecDepth 100000 in
theorem copiedBk_any (X : BkX) (w : World) (hx : RdBk w X) (hl : X.mon.length ≤ 1000000 ∧ X.cnt.length ≤ 1000000 ∨ X.mon.length + X.cnt.length ≤ 1048576) :
    Calls Tryd.prog 26 #[.agg #[X.vm, X.vc]] w fun e w' => ToBk w X.mon X.cnt e w' := by
  have ht0 := bkAt_new w X 26
  have b0 := below1 w (.cells #[X.vm, X.vc] 26)
  obtain ⟨V0, hV0⟩ : ∃ V0, V0 = w.alloc (.cells #[X.vm, X.vc] 26) := ⟨_, rfl⟩
  have s0 : V0.heap.size = w.heap.size + 1 := by rw [hV0]; simp
  rw [← hV0] at ht0 b0
  have b1 := below1 V0 (.cells #[.slice none 0 0, .slice none 0 0] 26)
  have hz : BoxBk (V0.alloc (.cells #[.slice none 0 0, .slice none 0 0] 26)) (w.heap.size + 1) (.slice none 0 0) (.slice none 0 0) := by rw [← s0]; exact heap_alloc_new V0 _
  have ht1 := ht0.below b1
  obtain ⟨W0, hW0⟩ : ∃ W0, W0 = V0.alloc (.cells #[.slice none 0 0, .slice none 0 0] 26) := ⟨_, rfl⟩
  have s1 : W0.heap.size = w.heap.size + 2 := by rw [hW0]; simp [s0]
  rw [← hW0] at hz b1 ht1
  have bw : Below w.heap.size w W0 := b0.trans (b1.mono (by omega))
  have hx0 := hx.below bw
  clear ht0 b0 b1 s0
  have HM : Hid (∀ W, RdI W X.vm X.mon → Calls Tryd.prog 39 #[X.vm] W fun e w' => ∃ u, e = .returned u ∧ OwnI w' W.heap.size u X.mon ∧ Below W.heap.size W w') := fun W h => copiedK_any _ _ W h (by omega)
  have HC : Hid (∀ W, RdI W X.vc X.cnt → Calls Tryd.prog 39 #[X.vc] W fun e w' => ∃ u, e = .returned u ∧ OwnI w' W.heap.size u X.cnt ∧ Below W.heap.size W w') := fun W h => copiedK_any _ _ W h (by omega)
  clear hl
  go_enter Tryd.func26, Tryd.ntmps26
  go_wp2_with fail
  rw [← hV0, ← hW0]
  clear hV0 hW0
  refine wp_region_noPanic ?_
  refine wp_region_held_drew (S := fun W => W.cell? ⟨w.heap.size, 0, none⟩ = some X.vm ∧ W.cell? ⟨w.heap.size, 1, none⟩ = some X.vc) (by kernel_rfl) ht1 (fun hS => ?_)
  have qb : Below (w.heap.size + 2) W0 W0.drew := (Below.refl _ _).drew
  refine tkG 0 3 hS ?_
  try simp only [Act.put, List.setIfInBounds_toArray, List.set_cons_zero, List.set_cons_succ]
  refine tkG 1 4 hS ?_
  try simp only [Act.put, List.setIfInBounds_toArray, List.set_cons_zero, List.set_cons_succ]
  refine tkG 3 6 hS ?_
  try simp only [Act.put, List.setIfInBounds_toArray, List.set_cons_zero, List.set_cons_succ]
  refine tkG 4 7 hS ?_
  try simp only [Act.put, List.setIfInBounds_toArray, List.set_cons_zero, List.set_cons_succ]
  have hBV : w.heap.size + 2 ≤ W0.drew.heap.size := by show w.heap.size + 2 ≤ W0.heap.size; omega
  generalize W0.drew = V0 at qb hS hBV ⊢
  refine wpAnyH_ready (rs := [2]) (by kernel_rfl) (by simp) ?_
  refine AllReadyH.cons rfl (fun K hK => ?_) AllReadyH.nil
  go_simp
  refine (HM.out _ ((hx0.mon).below (by rw [s1]; exact qb))).mono ?_
  rintro e V1 ⟨vA, rfl, qA, hm⟩
  have LA : Hid (∀ q, vA.ownBlock = some q → q < V1.heap.size) := fun q hq => (World.ownsRow.lt qA q hq).2
  replace qA := OwnI.mono qA hBV
  replace qb := qb.trans (hm.mono hBV)
  replace hBV := Nat.le_trans hBV hm.size
  clear hm hS
  have htV : BkAt V1 w.heap.size X := ht1.of_block (qb.block w.heap.size (by omega))
  refine hK.out _ _ htV (fun hS2 => ?_)
  clear hK K htV
  try simp only [Act.put, List.setIfInBounds_toArray, List.set_cons_zero, List.set_cons_succ]
  refine wpAnyH_ready (rs := [5]) (by kernel_rfl) (by simp) ?_
  refine AllReadyH.cons rfl (fun K hK => ?_) AllReadyH.nil
  go_simp
  refine (HC.out _ ((hx0.cnt).below (by rw [s1]; exact qb))).mono ?_
  rintro e V ⟨vC, rfl, qC, hm⟩
  have TWO : Hid (∀ q, vA.ownBlock = some q → vC.ownBlock = some q → False) := fun q h1 h2 => by have := LA.out q h1; have := (World.ownsRow.lt qC q h2).1; omega
  replace qC := OwnI.mono qC hBV
  replace qA := qA.below hm
  replace qb := qb.trans (hm.mono hBV)
  replace hBV := Nat.le_trans hBV hm.size
  clear hm hS2 LA
  have htV : BkAt V w.heap.size X := ht1.of_block (qb.block w.heap.size (by omega))
  refine hK.out _ _ htV (fun hS => ?_)
  clear hK K htV
  try simp only [Act.put, List.setIfInBounds_toArray, List.set_cons_zero, List.set_cons_succ]
  obtain ⟨aA, cA, heA⟩ := ownSl qA
  obtain ⟨aC, cC, heC⟩ := ownSl qC
  skip
  generalize X.mon.length = nA at heA
  generalize X.cnt.length = nC at heC
  subst heA
  subst heC
  refine tkG 6 9 hS ?_
  try simp only [Act.put, List.setIfInBounds_toArray, List.set_cons_zero, List.set_cons_succ]
  have hzV : BoxBk V (w.heap.size + 1) (.slice none 0 0) (.slice none 0 0) := hz.of_block (qb.block _ (by omega))
  have htV : BkAt V w.heap.size X := ht1.of_block (qb.block w.heap.size (by omega))
  obtain ⟨y0, y1, g0, g1⟩ := hzV.facts
  refine wpAnyH_ready (rs := [7]) (by kernel_rfl) (by simp) ?_
  refine AllReadyH.cons rfl (fun K hK => ?_) AllReadyH.nil
  go_simp
  refine hK.out _ _ (show BkAt _ w.heap.size X from (htV.of_block (blkSet (by omega))).of_block (blkSet (by omega))) (fun hSf => ?_)
  clear hK K
  refine wpAnyH_done (by kernel_rfl) ?_ _
  refine NoPanic.normal ?_
  have HF := copy_end (bw.trans (qb.mono (by omega))) qA qC TWO.out
  have HG : Hid (ToBk _ _ _ _ _) := HF
  obtain ⟨f0, f1, -, -⟩ := ((hzV.set0 (u := .slice aA nA cA)).set1 (u := .slice aC nC cC)).facts
  clear y0 y1 g0 g1 hSf htV hzV qb hBV qA qC HF
  go_wp2
  exact bodyPost_ret (v := .agg #[.slice aA nA cA, .slice aC nC cC]) (by simp [results, Tryd.results26, go_sem, f0, f1]) rfl HG.out
set_option maxHeartbeats 8000000 in
set_option maxRecDepth 100000 in
theorem copyBk_any (X : BkX) (w : World) (hx : RdBk w X) (hl : X.mon.length ≤ 1000000 ∧ X.cnt.length ≤ 1000000 ∨ X.mon.length + X.cnt.length ≤ 1048576) :
    Calls Tryd.prog 33 #[.agg #[X.vm, X.vc]] w fun e w' => ToBk w X.mon X.cnt e w' := by
  have ht0 := bkAt_new w X 26
  have b0 := below1 w (.cells #[X.vm, X.vc] 26)
  obtain ⟨V0, hV0⟩ : ∃ V0, V0 = w.alloc (.cells #[X.vm, X.vc] 26) := ⟨_, rfl⟩
  have s0 : V0.heap.size = w.heap.size + 1 := by rw [hV0]; simp
  rw [← hV0] at ht0 b0
  have b1 := below1 V0 (.cells #[.slice none 0 0, .slice none 0 0] 26)
  have hz : BoxBk (V0.alloc (.cells #[.slice none 0 0, .slice none 0 0] 26)) (w.heap.size + 1) (.slice none 0 0) (.slice none 0 0) := by rw [← s0]; exact heap_alloc_new V0 _
  have ht1 := ht0.below b1
  obtain ⟨W0, hW0⟩ : ∃ W0, W0 = V0.alloc (.cells #[.slice none 0 0, .slice none 0 0] 26) := ⟨_, rfl⟩
  have s1 : W0.heap.size = w.heap.size + 2 := by rw [hW0]; simp [s0]
  rw [← hW0] at hz b1 ht1
  have bw : Below w.heap.size w W0 := b0.trans (b1.mono (by omega))
  have hx0 := hx.below bw
  clear ht0 b0 b1 s0
  go_enter Tryd.func33, Tryd.ntmps33
  go_wp2_with fail
  rw [← hV0, ← hW0]
  clear hV0 hW0
  refine wp_region_noPanic ?_
  refine wp_region_held_drew (S := fun W => W.cell? ⟨w.heap.size, 0, none⟩ = some X.vm ∧ W.cell? ⟨w.heap.size, 1, none⟩ = some X.vc) (by kernel_rfl) ht1 (fun hS => ?_)
  have qb : Below (w.heap.size + 2) W0 W0.drew := (Below.refl _ _).drew
  refine tkG 1 4 hS ?_
  try simp only [Act.put, List.setIfInBounds_toArray, List.set_cons_zero, List.set_cons_succ]
  refine tkG 2 5 hS ?_
  try simp only [Act.put, List.setIfInBounds_toArray, List.set_cons_zero, List.set_cons_succ]
  refine tkG 5 8 hS ?_
  try simp only [Act.put, List.setIfInBounds_toArray, List.set_cons_zero, List.set_cons_succ]
  refine tkG 6 9 hS ?_
  try simp only [Act.put, List.setIfInBounds_toArray, List.set_cons_zero, List.set_cons_succ]
  have hBV : w.heap.size + 2 ≤ W0.drew.heap.size := by show w.heap.size + 2 ≤ W0.heap.size; omega
  generalize W0.drew = V0 at qb hS hBV ⊢
  refine wpAnyH_ready (rs := [0, 4]) (by kernel_rfl) (by simp) ?_
  refine AllReadyH.cons rfl (fun K hK => ?_) ?_
  · skip
    refine step_row0 rfl 3 rfl 2 1 (by go_simp; (try rfl)) ?_
    intro bA V1 hm qA hge hlt
    replace qA : OwnI V1 (w.heap.size + 2) (.slice (some ⟨bA, 0, none⟩) 0 0) [] := OwnI.mono qA hBV
    have LTA : Hid (bA < V1.heap.size) := hlt
    replace qb := qb.trans (hm.mono hBV)
    replace hBV := Nat.le_trans hBV hm.size
    clear hge hlt hm hS
    have htV : BkAt V1 w.heap.size X := ht1.of_block (qb.block w.heap.size (by omega))
    refine hK.out _ _ htV (fun hS => ?_)
    clear hK K htV
    try simp only [Act.put, List.setIfInBounds_toArray, List.set_cons_zero, List.set_cons_succ]
    refine wpAnyH_ready (rs := [3, 4]) (by kernel_rfl) (by simp) ?_
    refine AllReadyH.cons rfl (fun K hK => ?_) ?_
    · skip
      refine step_intsK_at rfl 6 rfl _ _ rfl (w.heap.size + 2) (.slice (some ⟨bA, 0, none⟩) 0 0) X.vm [] X.mon rfl rfl qA ((hx0.mon).below (by rw [s1]; exact qb)) (by simp; omega) hBV ?_
      intro vA V2 qAn hg hat
      rw [List.nil_append] at qAn
      have LU : Hid (∀ q, vA.ownBlock = some q → q < V2.heap.size) := fun q hq => (World.ownsRow.lt qAn q hq).2
      replace qb := qb.grown hg hBV (fun k hk => (World.ownsRow.lt qA k hk).1)
      replace hBV := Nat.le_trans hBV hg.size
      clear qA hat hS
      clear hg
      have qA := qAn
      clear qAn
      have htV : BkAt V2 w.heap.size X := ht1.of_block (qb.block w.heap.size (by omega))
      refine hK.out _ _ htV (fun hS => ?_)
      clear hK K htV
      try simp only [Act.put, List.setIfInBounds_toArray, List.set_cons_zero, List.set_cons_succ]
      refine wpAnyH_ready (rs := [4]) (by kernel_rfl) (by simp) ?_
      refine AllReadyH.cons rfl (fun K hK => ?_) AllReadyH.nil
      refine step_row0 rfl 7 rfl 2 1 (by go_simp; (try rfl)) ?_
      intro bC V3 hm qC hge hlt
      replace qA := qA.below hm
      replace qC : OwnI V3 (w.heap.size + 2) (.slice (some ⟨bC, 0, none⟩) 0 0) [] := OwnI.mono qC hBV
      have LC : Hid (∀ q, vA.ownBlock = some q → q < bC) := fun q hq => by have := LU.out q hq; omega
      have LTC : Hid (bC < V3.heap.size) := hlt
      replace qb := qb.trans (hm.mono hBV)
      replace hBV := Nat.le_trans hBV hm.size
      replace LU : Hid (∀ q, vA.ownBlock = some q → q < V3.heap.size) := fun q hq => by have := LU.out q hq; have := hm.size; omega
      clear hge hlt hm hS
      have htV : BkAt V3 w.heap.size X := ht1.of_block (qb.block w.heap.size (by omega))
      refine hK.out _ _ htV (fun hS => ?_)
      clear hK K htV
      try simp only [Act.put, List.setIfInBounds_toArray, List.set_cons_zero, List.set_cons_succ]
      have TW : Hid (∀ q, vA.ownBlock = some q → q ≠ bC) := fun q hq e => by have := LC.out q hq; omega
      refine wpAnyH_ready (rs := [7]) (by kernel_rfl) (by simp) ?_
      refine AllReadyH.cons rfl (fun K hK => ?_) AllReadyH.nil
      refine step_intsK_at rfl 10 rfl _ _ rfl (w.heap.size + 2) (.slice (some ⟨bC, 0, none⟩) 0 0) X.vc [] X.cnt rfl rfl qC ((hx0.cnt).below (by rw [s1]; exact qb)) (by simp; omega) hBV ?_
      intro vC V4 qCn hg hat
      rw [List.nil_append] at qCn
      have TWO : Hid (∀ q, vA.ownBlock = some q → vC.ownBlock = some q → False) := fun q h1 h2 => by
        have h3 := LU.out q h1
        have h4 := TW.out q h1
        rcases hat with hat | hat
        · rw [hat] at h2; have : bC = q := Option.some.inj h2; omega
        · rw [hat] at h2; have := Option.some.inj h2; omega
      replace qA : OwnI V4 (w.heap.size + 2) vA X.mon := row_kept qA hg (fun k hk e => by have h1 : bC = k := Option.some.inj e; exact TW.out k hk h1.symm)
      replace qb := qb.grown hg hBV (fun k hk => (World.ownsRow.lt qC k hk).1)
      replace hBV := Nat.le_trans hBV hg.size
      clear qC hat hS
      clear hg
      have qC := qCn
      clear qCn
      have htV : BkAt V4 w.heap.size X := ht1.of_block (qb.block w.heap.size (by omega))
      refine hK.out _ _ htV (fun hS => ?_)
      clear hK K htV
      try simp only [Act.put, List.setIfInBounds_toArray, List.set_cons_zero, List.set_cons_succ]
      obtain ⟨aA, cA, heA⟩ := ownSl qA
      obtain ⟨aC, cC, heC⟩ := ownSl qC
      skip
      generalize X.mon.length = nA at heA
      generalize X.cnt.length = nC at heC
      subst heA
      subst heC
      refine tkG 8 11 hS ?_
      try simp only [Act.put, List.setIfInBounds_toArray, List.set_cons_zero, List.set_cons_succ]
      have hzV : BoxBk V4 (w.heap.size + 1) (.slice none 0 0) (.slice none 0 0) := hz.of_block (qb.block _ (by omega))
      have htV : BkAt V4 w.heap.size X := ht1.of_block (qb.block w.heap.size (by omega))
      obtain ⟨y0, y1, g0, g1⟩ := hzV.facts
      refine wpAnyH_ready (rs := [9]) (by kernel_rfl) (by simp) ?_
      refine AllReadyH.cons rfl (fun K hK => ?_) AllReadyH.nil
      go_simp
      refine hK.out _ _ (show BkAt _ w.heap.size X from (htV.of_block (blkSet (by omega))).of_block (blkSet (by omega))) (fun hSf => ?_)
      clear hK K
      refine wpAnyH_done (by kernel_rfl) ?_ _
      refine NoPanic.normal ?_
      have HF := copy_end (bw.trans (qb.mono (by omega))) qA qC TWO.out
      have HG : Hid (ToBk _ _ _ _ _) := HF
      obtain ⟨f0, f1, -, -⟩ := ((hzV.set0 (u := .slice aA nA cA)).set1 (u := .slice aC nC cC)).facts
      clear y0 y1 g0 g1 hSf htV hzV qb hBV qA qC HF
      go_wp2
      exact bodyPost_ret (v := .agg #[.slice aA nA cA, .slice aC nC cC]) (by simp [results, Tryd.results33, go_sem, f0, f1]) rfl HG.out
    refine AllReadyH.cons rfl (fun K hK => ?_) AllReadyH.nil
    refine step_row0 rfl 7 rfl 2 1 (by go_simp; (try rfl)) ?_
    intro bC V2 hm qC hge hlt
    replace qA := qA.below hm
    replace qC : OwnI V2 (w.heap.size + 2) (.slice (some ⟨bC, 0, none⟩) 0 0) [] := OwnI.mono qC hBV
    have LC : Hid (bA < bC) := by have h := LTA.out; unfold Hid; omega
    have LTC : Hid (bC < V2.heap.size) := hlt
    replace LTA : Hid (bA < V2.heap.size) := by have := LTA.out; have := hm.size; unfold Hid; omega
    replace qb := qb.trans (hm.mono hBV)
    replace hBV := Nat.le_trans hBV hm.size
    clear hge hlt hm hS
    have htV : BkAt V2 w.heap.size X := ht1.of_block (qb.block w.heap.size (by omega))
    refine hK.out _ _ htV (fun hS => ?_)
    clear hK K htV
    try simp only [Act.put, List.setIfInBounds_toArray, List.set_cons_zero, List.set_cons_succ]
    have LLL : Hid (bA < bC ∨ bC < bA) := by unfold Hid; first | exact .inl LC.out | exact .inr LA.out
    refine wpAnyH_ready (rs := [3]) (by kernel_rfl) (by simp) ?_
    refine AllReadyH.cons rfl (fun K hK => ?_) AllReadyH.nil
    refine step_intsK_at rfl 6 rfl _ _ rfl (w.heap.size + 2) (.slice (some ⟨bA, 0, none⟩) 0 0) X.vm [] X.mon rfl rfl qA ((hx0.mon).below (by rw [s1]; exact qb)) (by simp; omega) hBV ?_
    intro vA V3 qAn hg hat
    rw [List.nil_append] at qAn
    have NEC : Hid (bA ≠ bC) := by unfold Hid; have := LLL.out; omega
    replace qC : OwnI V3 (w.heap.size + 2) (.slice (some ⟨bC, 0, none⟩) 0 0) [] := row_kept qC hg (fun k hk e => by have h1 : bC = k := Option.some.inj hk; have h2 : bA = k := Option.some.inj e; exact NEC.out (by omega))
    have TW : Hid (∀ q, vA.ownBlock = some q → q ≠ bC) := fun q hq => by
      have h1 := LTC.out
      have h2 := NEC.out
      rcases hat with hat | hat
      · rw [hat] at hq; have : bA = q := Option.some.inj hq; omega
      · rw [hat] at hq; have := Option.some.inj hq; omega
    have LU : Hid (∀ q, vA.ownBlock = some q → q < V3.heap.size) := fun q hq => (World.ownsRow.lt qAn q hq).2
    replace qb := qb.grown hg hBV (fun k hk => (World.ownsRow.lt qA k hk).1)
    replace hBV := Nat.le_trans hBV hg.size
    clear qA hat hS
    have LTC2 : Hid (bC < V3.heap.size) := by have := LTC.out; have := hg.size; unfold Hid; omega
    clear LTC
    have LTC := LTC2
    clear LTC2
    clear hg
    have qA := qAn
    clear qAn
    have htV : BkAt V3 w.heap.size X := ht1.of_block (qb.block w.heap.size (by omega))
    refine hK.out _ _ htV (fun hS => ?_)
    clear hK K htV
    try simp only [Act.put, List.setIfInBounds_toArray, List.set_cons_zero, List.set_cons_succ]
    refine wpAnyH_ready (rs := [7]) (by kernel_rfl) (by simp) ?_
    refine AllReadyH.cons rfl (fun K hK => ?_) AllReadyH.nil
    refine step_intsK_at rfl 10 rfl _ _ rfl (w.heap.size + 2) (.slice (some ⟨bC, 0, none⟩) 0 0) X.vc [] X.cnt rfl rfl qC ((hx0.cnt).below (by rw [s1]; exact qb)) (by simp; omega) hBV ?_
    intro vC V4 qCn hg hat
    rw [List.nil_append] at qCn
    have TWO : Hid (∀ q, vA.ownBlock = some q → vC.ownBlock = some q → False) := fun q h1 h2 => by
      have h3 := LU.out q h1
      have h4 := TW.out q h1
      rcases hat with hat | hat
      · rw [hat] at h2; have : bC = q := Option.some.inj h2; omega
      · rw [hat] at h2; have := Option.some.inj h2; omega
    replace qA : OwnI V4 (w.heap.size + 2) vA X.mon := row_kept qA hg (fun k hk e => by have h1 : bC = k := Option.some.inj e; exact TW.out k hk h1.symm)
    replace qb := qb.grown hg hBV (fun k hk => (World.ownsRow.lt qC k hk).1)
    replace hBV := Nat.le_trans hBV hg.size
    clear qC hat hS
    clear hg
    have qC := qCn
    clear qCn
    have htV : BkAt V4 w.heap.size X := ht1.of_block (qb.block w.heap.size (by omega))
    refine hK.out _ _ htV (fun hS => ?_)
    clear hK K htV
    try simp only [Act.put, List.setIfInBounds_toArray, List.set_cons_zero, List.set_cons_succ]
    obtain ⟨aA, cA, heA⟩ := ownSl qA
    obtain ⟨aC, cC, heC⟩ := ownSl qC
    skip
    generalize X.mon.length = nA at heA
    generalize X.cnt.length = nC at heC
    subst heA
    subst heC
    refine tkG 8 11 hS ?_
    try simp only [Act.put, List.setIfInBounds_toArray, List.set_cons_zero, List.set_cons_succ]
    have hzV : BoxBk V4 (w.heap.size + 1) (.slice none 0 0) (.slice none 0 0) := hz.of_block (qb.block _ (by omega))
    have htV : BkAt V4 w.heap.size X := ht1.of_block (qb.block w.heap.size (by omega))
    obtain ⟨y0, y1, g0, g1⟩ := hzV.facts
    refine wpAnyH_ready (rs := [9]) (by kernel_rfl) (by simp) ?_
    refine AllReadyH.cons rfl (fun K hK => ?_) AllReadyH.nil
    go_simp
    refine hK.out _ _ (show BkAt _ w.heap.size X from (htV.of_block (blkSet (by omega))).of_block (blkSet (by omega))) (fun hSf => ?_)
    clear hK K
    refine wpAnyH_done (by kernel_rfl) ?_ _
    refine NoPanic.normal ?_
    have HF := copy_end (bw.trans (qb.mono (by omega))) qA qC TWO.out
    have HG : Hid (ToBk _ _ _ _ _) := HF
    obtain ⟨f0, f1, -, -⟩ := ((hzV.set0 (u := .slice aA nA cA)).set1 (u := .slice aC nC cC)).facts
    clear y0 y1 g0 g1 hSf htV hzV qb hBV qA qC HF
    go_wp2
    exact bodyPost_ret (v := .agg #[.slice aA nA cA, .slice aC nC cC]) (by simp [results, Tryd.results33, go_sem, f0, f1]) rfl HG.out
  refine AllReadyH.cons rfl (fun K hK => ?_) AllReadyH.nil
  refine step_row0 rfl 7 rfl 2 1 (by go_simp; (try rfl)) ?_
  intro bC V1 hm qC hge hlt
  replace qC : OwnI V1 (w.heap.size + 2) (.slice (some ⟨bC, 0, none⟩) 0 0) [] := OwnI.mono qC hBV
  have LTC : Hid (bC < V1.heap.size) := hlt
  replace qb := qb.trans (hm.mono hBV)
  replace hBV := Nat.le_trans hBV hm.size
  clear hge hlt hm hS
  have htV : BkAt V1 w.heap.size X := ht1.of_block (qb.block w.heap.size (by omega))
  refine hK.out _ _ htV (fun hS => ?_)
  clear hK K htV
  try simp only [Act.put, List.setIfInBounds_toArray, List.set_cons_zero, List.set_cons_succ]
  refine wpAnyH_ready (rs := [0]) (by kernel_rfl) (by simp) ?_
  refine AllReadyH.cons rfl (fun K hK => ?_) AllReadyH.nil
  refine step_row0 rfl 3 rfl 2 1 (by go_simp; (try rfl)) ?_
  intro bA V2 hm qA hge hlt
  replace qC := qC.below hm
  replace qA : OwnI V2 (w.heap.size + 2) (.slice (some ⟨bA, 0, none⟩) 0 0) [] := OwnI.mono qA hBV
  have LA : Hid (bC < bA) := by have h := LTC.out; unfold Hid; omega
  have LTA : Hid (bA < V2.heap.size) := hlt
  replace LTC : Hid (bC < V2.heap.size) := by have := LTC.out; have := hm.size; unfold Hid; omega
  replace qb := qb.trans (hm.mono hBV)
  replace hBV := Nat.le_trans hBV hm.size
  clear hge hlt hm hS
  have htV : BkAt V2 w.heap.size X := ht1.of_block (qb.block w.heap.size (by omega))
  refine hK.out _ _ htV (fun hS => ?_)
  clear hK K htV
  try simp only [Act.put, List.setIfInBounds_toArray, List.set_cons_zero, List.set_cons_succ]
  have LLL : Hid (bA < bC ∨ bC < bA) := by unfold Hid; first | exact .inl LC.out | exact .inr LA.out
  refine wpAnyH_ready (rs := [3]) (by kernel_rfl) (by simp) ?_
  refine AllReadyH.cons rfl (fun K hK => ?_) AllReadyH.nil
  refine step_intsK_at rfl 6 rfl _ _ rfl (w.heap.size + 2) (.slice (some ⟨bA, 0, none⟩) 0 0) X.vm [] X.mon rfl rfl qA ((hx0.mon).below (by rw [s1]; exact qb)) (by simp; omega) hBV ?_
  intro vA V3 qAn hg hat
  rw [List.nil_append] at qAn
  have NEC : Hid (bA ≠ bC) := by unfold Hid; have := LLL.out; omega
  replace qC : OwnI V3 (w.heap.size + 2) (.slice (some ⟨bC, 0, none⟩) 0 0) [] := row_kept qC hg (fun k hk e => by have h1 : bC = k := Option.some.inj hk; have h2 : bA = k := Option.some.inj e; exact NEC.out (by omega))
  have TW : Hid (∀ q, vA.ownBlock = some q → q ≠ bC) := fun q hq => by
    have h1 := LTC.out
    have h2 := NEC.out
    rcases hat with hat | hat
    · rw [hat] at hq; have : bA = q := Option.some.inj hq; omega
    · rw [hat] at hq; have := Option.some.inj hq; omega
  have LU : Hid (∀ q, vA.ownBlock = some q → q < V3.heap.size) := fun q hq => (World.ownsRow.lt qAn q hq).2
  replace qb := qb.grown hg hBV (fun k hk => (World.ownsRow.lt qA k hk).1)
  replace hBV := Nat.le_trans hBV hg.size
  clear qA hat hS
  have LTC2 : Hid (bC < V3.heap.size) := by have := LTC.out; have := hg.size; unfold Hid; omega
  clear LTC
  have LTC := LTC2
  clear LTC2
  clear hg
  have qA := qAn
  clear qAn
  have htV : BkAt V3 w.heap.size X := ht1.of_block (qb.block w.heap.size (by omega))
  refine hK.out _ _ htV (fun hS => ?_)
  clear hK K htV
  try simp only [Act.put, List.setIfInBounds_toArray, List.set_cons_zero, List.set_cons_succ]
  refine wpAnyH_ready (rs := [7]) (by kernel_rfl) (by simp) ?_
  refine AllReadyH.cons rfl (fun K hK => ?_) AllReadyH.nil
  refine step_intsK_at rfl 10 rfl _ _ rfl (w.heap.size + 2) (.slice (some ⟨bC, 0, none⟩) 0 0) X.vc [] X.cnt rfl rfl qC ((hx0.cnt).below (by rw [s1]; exact qb)) (by simp; omega) hBV ?_
  intro vC V4 qCn hg hat
  rw [List.nil_append] at qCn
  have TWO : Hid (∀ q, vA.ownBlock = some q → vC.ownBlock = some q → False) := fun q h1 h2 => by
    have h3 := LU.out q h1
    have h4 := TW.out q h1
    rcases hat with hat | hat
    · rw [hat] at h2; have : bC = q := Option.some.inj h2; omega
    · rw [hat] at h2; have := Option.some.inj h2; omega
  replace qA : OwnI V4 (w.heap.size + 2) vA X.mon := row_kept qA hg (fun k hk e => by have h1 : bC = k := Option.some.inj e; exact TW.out k hk h1.symm)
  replace qb := qb.grown hg hBV (fun k hk => (World.ownsRow.lt qC k hk).1)
  replace hBV := Nat.le_trans hBV hg.size
  clear qC hat hS
  clear hg
  have qC := qCn
  clear qCn
  have htV : BkAt V4 w.heap.size X := ht1.of_block (qb.block w.heap.size (by omega))
  refine hK.out _ _ htV (fun hS => ?_)
  clear hK K htV
  try simp only [Act.put, List.setIfInBounds_toArray, List.set_cons_zero, List.set_cons_succ]
  obtain ⟨aA, cA, heA⟩ := ownSl qA
  obtain ⟨aC, cC, heC⟩ := ownSl qC
  skip
  generalize X.mon.length = nA at heA
  generalize X.cnt.length = nC at heC
  subst heA
  subst heC
  refine tkG 8 11 hS ?_
  try simp only [Act.put, List.setIfInBounds_toArray, List.set_cons_zero, List.set_cons_succ]
  have hzV : BoxBk V4 (w.heap.size + 1) (.slice none 0 0) (.slice none 0 0) := hz.of_block (qb.block _ (by omega))
  have htV : BkAt V4 w.heap.size X := ht1.of_block (qb.block w.heap.size (by omega))
  obtain ⟨y0, y1, g0, g1⟩ := hzV.facts
  refine wpAnyH_ready (rs := [9]) (by kernel_rfl) (by simp) ?_
  refine AllReadyH.cons rfl (fun K hK => ?_) AllReadyH.nil
  go_simp
  refine hK.out _ _ (show BkAt _ w.heap.size X from (htV.of_block (blkSet (by omega))).of_block (blkSet (by omega))) (fun hSf => ?_)
  clear hK K
  refine wpAnyH_done (by kernel_rfl) ?_ _
  refine NoPanic.normal ?_
  have HF := copy_end (bw.trans (qb.mono (by omega))) qA qC TWO.out
  have HG : Hid (ToBk _ _ _ _ _) := HF
  obtain ⟨f0, f1, -, -⟩ := ((hzV.set0 (u := .slice aA nA cA)).set1 (u := .slice aC nC cC)).facts
  clear y0 y1 g0 g1 hSf htV hzV qb hBV qA qC HF
  go_wp2
  exact bodyPost_ret (v := .agg #[.slice aA nA cA, .slice aC nC cC]) (by simp [results, Tryd.results33, go_sem, f0, f1]) rfl HG.out
end Go.Proofs.YtdleolgkbkoekaaDoor
