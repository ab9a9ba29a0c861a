/- The contracts of both copies of a device. -/
import Derived.Test.YtpidmmfjmbinkaaGreatDoorG04
-- UNF Gen
namespace Go.Proofs.YtpidmmfjmbinkaaGreatDoor
open Go.RowKit
set_option maxHeartbeats 1000000 in
set_option maxRecDepth 100000 in
theorem copiedTxts_any (v : Value) (bs : List ByteArray) (w : World) (hr : RdS w v bs) (hn : NilOk v) (hl : bs.length ≤ 1000000000) :
    Calls Tryz.prog 57 #[v] w fun e w' => ∃ u, e = .returned u ∧ OwnS w' w.heap.size u bs ∧ Below w.heap.size w w' := by
  have hoi := ownS_none w
  have b0 := below1 w (.cells #[] 9)
  have hr0 := hr.below b0
  go_enter Tryz.func57, Tryz.ntmps57
  go_wp2_with (at_builtin; (refine wpList_append_txts rfl _ _ rfl w.heap.size _ _ [] bs rfl rfl hoi hr0 hn (by simp; omega) (by simp) ?_))
  intro u w1 ho hg
  have b1 : Below w.heap.size w w1 := b0.grown hg (by simp) (fun k hk => by have : w.heap.size = k := Option.some.inj hk; omega)
  clear hoi b0 hr0 hg
  go_wp2
  go_ret
  exact ⟨u, rfl, ho, b1⟩
set_option maxHeartbeats 1000000 in
set_option maxRecDepth 100000 in
theorem copiedPats_any (v : Value) (bs : List Pat) (w : World) (hr : RdPt w v bs) (hl : bs.length ≤ 1000000000) :
    Calls Tryz.prog 58 #[v] w fun e w' => ∃ u, e = .returned u ∧ OwnPt w' w.heap.size u bs ∧ Below w.heap.size w w' := by
  have hoi := ownPt_none w
  have b0 := below1 w (.cells #[] 70)
  have hr0 := hr.below b0
  go_enter Tryz.func58, Tryz.ntmps58
  go_wp2_with (at_builtin; (refine wpList_append_pats rfl _ _ rfl w.heap.size _ _ [] bs rfl rfl hoi hr0 (by simp; omega) (by simp) ?_))
  intro u w1 ho hg
  have b1 : Below w.heap.size w w1 := b0.grown hg (by simp) (fun k hk => by have : w.heap.size = k := Option.some.inj hk; omega)
  clear hoi b0 hr0 hg
  go_wp2
  go_ret
  exact ⟨u, rfl, ho, b1⟩
set_option maxHeartbeats 4000000 in
set_option maxRecDepth 100000 in
theorem l8Copy_any (X : DvX) (w : World) (hx : RdDv w X) (hl1 : X.secs.length ≤ 1000000) (hl2 : X.late.length ≤ 1000000) :
    Calls Tryz.prog 39 #[.agg #[X.vs, X.vl]] w fun e w' => ToDv w X.secs X.late e w' := by
  have ht0 := dvAt_new w X 27
  have b0 := below1 w (.cells #[X.vs, X.vl] 27)
  obtain ⟨V0, hV0⟩ : ∃ V0, V0 = w.alloc (.cells #[X.vs, X.vl] 27) := ⟨_, rfl⟩
  have s0 : V0.heap.size = w.heap.size + 1 := by rw [hV0]; simp
  rw [← hV0] at ht0 b0
  have b1 := below1 V0 (.cells #[.slice none 0 0, .slice none 0 0] 27)
  have hz : BoxDv (V0.alloc (.cells #[.slice none 0 0, .slice none 0 0] 27)) (w.heap.size + 1) (.slice none 0 0) (.slice none 0 0) := by rw [← s0]; exact boxDv_new V0 _ _
  have ht1 := ht0.below b1
  obtain ⟨W0, hW0⟩ : ∃ W0, W0 = V0.alloc (.cells #[.slice none 0 0, .slice none 0 0] 27) := ⟨_, rfl⟩
  have s1 : W0.heap.size = w.heap.size + 2 := by rw [hW0]; simp [s0]
  rw [← hW0] at hz b1 ht1
  have bw : Below w.heap.size w W0 := b0.trans (b1.mono (by omega))
  have hx0 := hx.below bw
  have HSV : Hid (∀ W, DvAt W w.heap.size X → W.cell? ⟨w.heap.size, 0, none⟩ = some X.vs ∧ W.cell? ⟨w.heap.size, 1, none⟩ = some X.vl) := fun W h => h
  clear ht0 b0 b1 s0
  go_enter Tryz.func39, Tryz.ntmps39
  go_wp2_with fail
  rw [← hV0, ← hW0]
  clear hV0 hW0
  refine wp_region_noPanic ?_
  refine wp_region_held_drew (S := fun W => W.cell? ⟨w.heap.size, 0, none⟩ = some X.vs ∧ W.cell? ⟨w.heap.size, 1, none⟩ = some X.vl) (by kernel_rfl) (HSV.out _ ht1) (fun hS => ?_)
  have qb : Below (w.heap.size + 2) W0 W0.drew := (Below.refl _ _).drew
  refine tkG 1 4 hS ?_
  try simp only [Act.put, List.setIfInBounds_toArray, List.set_cons_zero, List.set_cons_succ]
  refine tkG 2 5 hS ?_
  try simp only [Act.put, List.setIfInBounds_toArray, List.set_cons_zero, List.set_cons_succ]
  refine tkG 5 8 hS ?_
  try simp only [Act.put, List.setIfInBounds_toArray, List.set_cons_zero, List.set_cons_succ]
  refine tkG 6 9 hS ?_
  try simp only [Act.put, List.setIfInBounds_toArray, List.set_cons_zero, List.set_cons_succ]
  have hBV : w.heap.size + 2 ≤ W0.drew.heap.size := by show w.heap.size + 2 ≤ W0.heap.size; omega
  have htV : DvAt W0.drew w.heap.size X := ht1.of_block (qb.block w.heap.size (by omega))
  generalize W0.drew = V at qb hS hBV htV ⊢
  refine wpAnyH_ready (rs := [0, 4]) (by kernel_rfl) (by simp) ?_
  refine AllReadyH.cons rfl (fun K hK => ?_) (AllReadyH.cons rfl (fun K hK => ?_) AllReadyH.nil)
  · refine step_row0 rfl 3 rfl 9 1 (by go_simp; (try rfl)) ?_
    intro bS V1 hm hoS _ _
    have qS : OwnS V1 (w.heap.size + 2) (.slice (some ⟨bS, 0, none⟩) 0 0) [] := OwnS.mono hoS hBV
    clear hoS
    replace qb := qb.trans (hm.mono hBV)
    replace hBV := Nat.le_trans hBV hm.size
    clear hm hS
    replace htV : DvAt V1 w.heap.size X := ht1.of_block (qb.block w.heap.size (by omega))
    refine hK.out _ _ (HSV.out _ htV) (fun hS => ?_)
    clear hK K
    try simp only [Act.put, List.setIfInBounds_toArray, List.set_cons_zero, List.set_cons_succ]
    refine wpAnyH_ready (rs := [3, 4]) (by kernel_rfl) (by simp) ?_
    refine AllReadyH.cons rfl (fun K hK => ?_) (AllReadyH.cons rfl (fun K hK => ?_) AllReadyH.nil)
    · refine step_append_txts rfl 6 rfl _ _ rfl (w.heap.size + 2) _ _ [] X.secs rfl rfl qS ((hx0.secs).below (by rw [s1]; exact qb)) hx0.nil (by simp; omega) hBV ?_
      intro vS V3 hoS hg
      have qS2 : OwnS V3 (w.heap.size + 2) vS X.secs := by simpa using hoS
      replace qb := qb.grown hg hBV (fun k hk => (World.ownsRow.lt qS k hk).1)
      replace hBV := Nat.le_trans hBV hg.size
      clear hoS hg hS qS
      replace htV : DvAt V3 w.heap.size X := ht1.of_block (qb.block w.heap.size (by omega))
      refine hK.out _ _ (HSV.out _ htV) (fun hS => ?_)
      clear hK K
      try simp only [Act.put, List.setIfInBounds_toArray, List.set_cons_zero, List.set_cons_succ]
      refine wpAnyH_ready (rs := [4]) (by kernel_rfl) (by simp) ?_
      refine AllReadyH.cons rfl (fun K hK => ?_) AllReadyH.nil
      refine step_row0 rfl 7 rfl 70 2 (by go_simp; (try rfl)) ?_
      intro bP V4 hm hoP _ _
      have qP : OwnPt V4 (w.heap.size + 2) (.slice (some ⟨bP, 0, none⟩) 0 0) [] := OwnPt.mono hoP hBV
      clear hoP
      replace qS2 := qS2.below hm
      replace qb := qb.trans (hm.mono hBV)
      replace hBV := Nat.le_trans hBV hm.size
      clear hm hS
      replace htV : DvAt V4 w.heap.size X := ht1.of_block (qb.block w.heap.size (by omega))
      refine hK.out _ _ (HSV.out _ htV) (fun hS => ?_)
      clear hK K
      try simp only [Act.put, List.setIfInBounds_toArray, List.set_cons_zero, List.set_cons_succ]
      refine wpAnyH_ready (rs := [7]) (by kernel_rfl) (by simp) ?_
      refine AllReadyH.cons rfl (fun K hK => ?_) AllReadyH.nil
      refine step_append_pats rfl 10 rfl _ _ rfl (w.heap.size + 2) _ _ [] X.late rfl rfl qP ((hx0.late).below (by rw [s1]; exact qb)) (by simp; omega) hBV ?_
      intro vL V9 hoP hg
      have qP2 : OwnPt V9 (w.heap.size + 2) vL X.late := by simpa using hoP
      have qS3 : OwnS V9 (w.heap.size + 2) vS X.secs := row_kept qS2 hg (fun k hk e => rows_apart qS2 qP (by decide) k hk e)
      replace qb := qb.grown hg hBV (fun k hk => (World.ownsRow.lt qP k hk).1)
      replace hBV := Nat.le_trans hBV hg.size
      clear hoP hg hS qP qS2
      replace htV : DvAt V9 w.heap.size X := ht1.of_block (qb.block w.heap.size (by omega))
      refine hK.out _ _ (HSV.out _ htV) (fun hS => ?_)
      clear hK K
      try simp only [Act.put, List.setIfInBounds_toArray, List.set_cons_zero, List.set_cons_succ]
      obtain ⟨aS, cS, heS⟩ := own_slice qS3
      obtain ⟨aL, cL, heL⟩ := own_slice qP2
      generalize X.secs.length = sn at heS
      generalize X.late.length = ln at heL
      subst heS
      subst heL
      refine tkG 8 11 hS ?_
      try simp only [Act.put, List.setIfInBounds_toArray, List.set_cons_zero, List.set_cons_succ]
      have hzV : BoxDv V9 (w.heap.size + 1) (.slice none 0 0) (.slice none 0 0) := hz.of_block (qb.block (w.heap.size + 1) (by omega))
      obtain ⟨y0, y1, g0, g1⟩ := hzV.facts
      refine wpAnyH_ready (rs := [9]) (by kernel_rfl) (by simp) ?_
      refine AllReadyH.cons rfl (fun K hK => ?_) AllReadyH.nil
      go_simp
      refine hK.out _ _ (HSV.out _ ((htV.of_block (block_set (by omega))).of_block (block_set (by omega)))) (fun hSf => ?_)
      clear hK K
      refine wpAnyH_done (by kernel_rfl) ?_ _
      refine NoPanic.normal ?_
      have HF : Hid (ToDv w X.secs X.late (.returned (.agg #[.slice aS sn cS, .slice aL ln cL])) ((V9.setCell ⟨w.heap.size + 1, 0, none⟩ (.slice aS sn cS)).setCell ⟨w.heap.size + 1, 1, none⟩ (.slice aL ln cL))) := by
        refine ⟨⟨.slice aS sn cS, .slice aL ln cL, X.secs, X.late⟩, rfl, rfl, rfl, ⟨OwnS.mono (row_base (row_base qS3 (by omega)) (by omega)) (by omega), OwnPt.mono (row_base (row_base qP2 (by omega)) (by omega)) (by omega)⟩, ?_⟩
        exact ((bw.trans (qb.mono (by omega))).setCell (p := ⟨w.heap.size + 1, 0, none⟩) (by simp) _).setCell (p := ⟨w.heap.size + 1, 1, none⟩) (by simp) _
      have hzF := (hzV.set0 (u := .slice aS sn cS)).set1 (u := .slice aL ln cL)
      obtain ⟨f0, f1, -, -⟩ := hzF.facts
      clear y0 y1 g0 g1 hzF hSf htV hzV qb hBV qS3 qP2 hS
      go_wp2
      exact bodyPost_ret (v := .agg #[.slice aS sn cS, .slice aL ln cL]) (by simp [results, Tryz.results39, go_sem, f0, f1]) rfl HF.out
    · refine step_row0 rfl 7 rfl 70 2 (by go_simp; (try rfl)) ?_
      intro bP V4 hm hoP _ _
      have qP : OwnPt V4 (w.heap.size + 2) (.slice (some ⟨bP, 0, none⟩) 0 0) [] := OwnPt.mono hoP hBV
      clear hoP
      replace qS := qS.below hm
      replace qb := qb.trans (hm.mono hBV)
      replace hBV := Nat.le_trans hBV hm.size
      clear hm hS
      replace htV : DvAt V4 w.heap.size X := ht1.of_block (qb.block w.heap.size (by omega))
      refine hK.out _ _ (HSV.out _ htV) (fun hS => ?_)
      clear hK K
      try simp only [Act.put, List.setIfInBounds_toArray, List.set_cons_zero, List.set_cons_succ]
      refine wpAnyH_ready (rs := [3]) (by kernel_rfl) (by simp) ?_
      refine AllReadyH.cons rfl (fun K hK => ?_) AllReadyH.nil
      refine step_append_txts rfl 6 rfl _ _ rfl (w.heap.size + 2) _ _ [] X.secs rfl rfl qS ((hx0.secs).below (by rw [s1]; exact qb)) hx0.nil (by simp; omega) hBV ?_
      intro vS V3 hoS hg
      have qS2 : OwnS V3 (w.heap.size + 2) vS X.secs := by simpa using hoS
      replace qP : OwnPt V3 (w.heap.size + 2) (.slice (some ⟨bP, 0, none⟩) 0 0) [] := row_kept qP hg (fun k hk e => rows_apart qP qS (by decide) k hk e)
      replace qb := qb.grown hg hBV (fun k hk => (World.ownsRow.lt qS k hk).1)
      replace hBV := Nat.le_trans hBV hg.size
      clear hoS hg hS qS
      replace htV : DvAt V3 w.heap.size X := ht1.of_block (qb.block w.heap.size (by omega))
      refine hK.out _ _ (HSV.out _ htV) (fun hS => ?_)
      clear hK K
      try simp only [Act.put, List.setIfInBounds_toArray, List.set_cons_zero, List.set_cons_succ]
      refine wpAnyH_ready (rs := [7]) (by kernel_rfl) (by simp) ?_
      refine AllReadyH.cons rfl (fun K hK => ?_) AllReadyH.nil
      refine step_append_pats rfl 10 rfl _ _ rfl (w.heap.size + 2) _ _ [] X.late rfl rfl qP ((hx0.late).below (by rw [s1]; exact qb)) (by simp; omega) hBV ?_
      intro vL V9 hoP hg
      have qP2 : OwnPt V9 (w.heap.size + 2) vL X.late := by simpa using hoP
      have qS3 : OwnS V9 (w.heap.size + 2) vS X.secs := row_kept qS2 hg (fun k hk e => rows_apart qS2 qP (by decide) k hk e)
      replace qb := qb.grown hg hBV (fun k hk => (World.ownsRow.lt qP k hk).1)
      replace hBV := Nat.le_trans hBV hg.size
      clear hoP hg hS qP qS2
      replace htV : DvAt V9 w.heap.size X := ht1.of_block (qb.block w.heap.size (by omega))
      refine hK.out _ _ (HSV.out _ htV) (fun hS => ?_)
      clear hK K
      try simp only [Act.put, List.setIfInBounds_toArray, List.set_cons_zero, List.set_cons_succ]
      obtain ⟨aS, cS, heS⟩ := own_slice qS3
      obtain ⟨aL, cL, heL⟩ := own_slice qP2
      generalize X.secs.length = sn at heS
      generalize X.late.length = ln at heL
      subst heS
      subst heL
      refine tkG 8 11 hS ?_
      try simp only [Act.put, List.setIfInBounds_toArray, List.set_cons_zero, List.set_cons_succ]
      have hzV : BoxDv V9 (w.heap.size + 1) (.slice none 0 0) (.slice none 0 0) := hz.of_block (qb.block (w.heap.size + 1) (by omega))
      obtain ⟨y0, y1, g0, g1⟩ := hzV.facts
      refine wpAnyH_ready (rs := [9]) (by kernel_rfl) (by simp) ?_
      refine AllReadyH.cons rfl (fun K hK => ?_) AllReadyH.nil
      go_simp
      refine hK.out _ _ (HSV.out _ ((htV.of_block (block_set (by omega))).of_block (block_set (by omega)))) (fun hSf => ?_)
      clear hK K
      refine wpAnyH_done (by kernel_rfl) ?_ _
      refine NoPanic.normal ?_
      have HF : Hid (ToDv w X.secs X.late (.returned (.agg #[.slice aS sn cS, .slice aL ln cL])) ((V9.setCell ⟨w.heap.size + 1, 0, none⟩ (.slice aS sn cS)).setCell ⟨w.heap.size + 1, 1, none⟩ (.slice aL ln cL))) := by
        refine ⟨⟨.slice aS sn cS, .slice aL ln cL, X.secs, X.late⟩, rfl, rfl, rfl, ⟨OwnS.mono (row_base (row_base qS3 (by omega)) (by omega)) (by omega), OwnPt.mono (row_base (row_base qP2 (by omega)) (by omega)) (by omega)⟩, ?_⟩
        exact ((bw.trans (qb.mono (by omega))).setCell (p := ⟨w.heap.size + 1, 0, none⟩) (by simp) _).setCell (p := ⟨w.heap.size + 1, 1, none⟩) (by simp) _
      have hzF := (hzV.set0 (u := .slice aS sn cS)).set1 (u := .slice aL ln cL)
      obtain ⟨f0, f1, -, -⟩ := hzF.facts
      clear y0 y1 g0 g1 hzF hSf htV hzV qb hBV qS3 qP2 hS
      go_wp2
      exact bodyPost_ret (v := .agg #[.slice aS sn cS, .slice aL ln cL]) (by simp [results, Tryz.results39, go_sem, f0, f1]) rfl HF.out
  · refine step_row0 rfl 7 rfl 70 2 (by go_simp; (try rfl)) ?_
    intro bP V1 hm hoP _ _
    have qP : OwnPt V1 (w.heap.size + 2) (.slice (some ⟨bP, 0, none⟩) 0 0) [] := OwnPt.mono hoP hBV
    clear hoP
    replace qb := qb.trans (hm.mono hBV)
    replace hBV := Nat.le_trans hBV hm.size
    clear hm hS
    replace htV : DvAt V1 w.heap.size X := ht1.of_block (qb.block w.heap.size (by omega))
    refine hK.out _ _ (HSV.out _ htV) (fun hS => ?_)
    clear hK K
    try simp only [Act.put, List.setIfInBounds_toArray, List.set_cons_zero, List.set_cons_succ]
    refine wpAnyH_ready (rs := [0]) (by kernel_rfl) (by simp) ?_
    refine AllReadyH.cons rfl (fun K hK => ?_) AllReadyH.nil
    refine step_row0 rfl 3 rfl 9 1 (by go_simp; (try rfl)) ?_
    intro bS V2 hm hoS _ _
    have qS : OwnS V2 (w.heap.size + 2) (.slice (some ⟨bS, 0, none⟩) 0 0) [] := OwnS.mono hoS hBV
    clear hoS
    replace qP := qP.below hm
    replace qb := qb.trans (hm.mono hBV)
    replace hBV := Nat.le_trans hBV hm.size
    clear hm hS
    replace htV : DvAt V2 w.heap.size X := ht1.of_block (qb.block w.heap.size (by omega))
    refine hK.out _ _ (HSV.out _ htV) (fun hS => ?_)
    clear hK K
    try simp only [Act.put, List.setIfInBounds_toArray, List.set_cons_zero, List.set_cons_succ]
    refine wpAnyH_ready (rs := [3]) (by kernel_rfl) (by simp) ?_
    refine AllReadyH.cons rfl (fun K hK => ?_) AllReadyH.nil
    refine step_append_txts rfl 6 rfl _ _ rfl (w.heap.size + 2) _ _ [] X.secs rfl rfl qS ((hx0.secs).below (by rw [s1]; exact qb)) hx0.nil (by simp; omega) hBV ?_
    intro vS V3 hoS hg
    have qS2 : OwnS V3 (w.heap.size + 2) vS X.secs := by simpa using hoS
    replace qP : OwnPt V3 (w.heap.size + 2) (.slice (some ⟨bP, 0, none⟩) 0 0) [] := row_kept qP hg (fun k hk e => rows_apart qP qS (by decide) k hk e)
    replace qb := qb.grown hg hBV (fun k hk => (World.ownsRow.lt qS k hk).1)
    replace hBV := Nat.le_trans hBV hg.size
    clear hoS hg hS qS
    replace htV : DvAt V3 w.heap.size X := ht1.of_block (qb.block w.heap.size (by omega))
    refine hK.out _ _ (HSV.out _ htV) (fun hS => ?_)
    clear hK K
    try simp only [Act.put, List.setIfInBounds_toArray, List.set_cons_zero, List.set_cons_succ]
    refine wpAnyH_ready (rs := [7]) (by kernel_rfl) (by simp) ?_
    refine AllReadyH.cons rfl (fun K hK => ?_) AllReadyH.nil
    refine step_append_pats rfl 10 rfl _ _ rfl (w.heap.size + 2) _ _ [] X.late rfl rfl qP ((hx0.late).below (by rw [s1]; exact qb)) (by simp; omega) hBV ?_
    intro vL V9 hoP hg
    have qP2 : OwnPt V9 (w.heap.size + 2) vL X.late := by simpa using hoP
    have qS3 : OwnS V9 (w.heap.size + 2) vS X.secs := row_kept qS2 hg (fun k hk e => rows_apart qS2 qP (by decide) k hk e)
    replace qb := qb.grown hg hBV (fun k hk => (World.ownsRow.lt qP k hk).1)
    replace hBV := Nat.le_trans hBV hg.size
    clear hoP hg hS qP qS2
    replace htV : DvAt V9 w.heap.size X := ht1.of_block (qb.block w.heap.size (by omega))
    refine hK.out _ _ (HSV.out _ htV) (fun hS => ?_)
    clear hK K
    try simp only [Act.put, List.setIfInBounds_toArray, List.set_cons_zero, List.set_cons_succ]
    obtain ⟨aS, cS, heS⟩ := own_slice qS3
    obtain ⟨aL, cL, heL⟩ := own_slice qP2
    generalize X.secs.length = sn at heS
    generalize X.late.length = ln at heL
    subst heS
    subst heL
    refine tkG 8 11 hS ?_
    try simp only [Act.put, List.setIfInBounds_toArray, List.set_cons_zero, List.set_cons_succ]
    have hzV : BoxDv V9 (w.heap.size + 1) (.slice none 0 0) (.slice none 0 0) := hz.of_block (qb.block (w.heap.size + 1) (by omega))
    obtain ⟨y0, y1, g0, g1⟩ := hzV.facts
    refine wpAnyH_ready (rs := [9]) (by kernel_rfl) (by simp) ?_
    refine AllReadyH.cons rfl (fun K hK => ?_) AllReadyH.nil
    go_simp
    refine hK.out _ _ (HSV.out _ ((htV.of_block (block_set (by omega))).of_block (block_set (by omega)))) (fun hSf => ?_)
    clear hK K
    refine wpAnyH_done (by kernel_rfl) ?_ _
    refine NoPanic.normal ?_
    have HF : Hid (ToDv w X.secs X.late (.returned (.agg #[.slice aS sn cS, .slice aL ln cL])) ((V9.setCell ⟨w.heap.size + 1, 0, none⟩ (.slice aS sn cS)).setCell ⟨w.heap.size + 1, 1, none⟩ (.slice aL ln cL))) := by
      refine ⟨⟨.slice aS sn cS, .slice aL ln cL, X.secs, X.late⟩, rfl, rfl, rfl, ⟨OwnS.mono (row_base (row_base qS3 (by omega)) (by omega)) (by omega), OwnPt.mono (row_base (row_base qP2 (by omega)) (by omega)) (by omega)⟩, ?_⟩
      exact ((bw.trans (qb.mono (by omega))).setCell (p := ⟨w.heap.size + 1, 0, none⟩) (by simp) _).setCell (p := ⟨w.heap.size + 1, 1, none⟩) (by simp) _
    have hzF := (hzV.set0 (u := .slice aS sn cS)).set1 (u := .slice aL ln cL)
    obtain ⟨f0, f1, -, -⟩ := hzF.facts
    clear y0 y1 g0 g1 hzF hSf htV hzV qb hBV qS3 qP2 hS
    go_wp2
    exact bodyPost_ret (v := .agg #[.slice aS sn cS, .slice aL ln cL]) (by simp [results, Tryz.results39, go_sem, f0, f1]) rfl HF.out
set_option maxHeartbeats 4000000 in
set_option maxRecDepth 100000 in
theorem copiedDv_any (X : DvX) (w : World) (hx : RdDv w X) (hl1 : X.secs.length ≤ 1000000) (hl2 : X.late.length ≤ 1000000) :
    Calls Tryz.prog 29 #[.agg #[X.vs, X.vl]] w fun e w' => ToDv w X.secs X.late e w' := by
  have HCS : Hid (∀ W, RdS W X.vs X.secs → Calls Tryz.prog 57 #[X.vs] W fun e w' => ∃ u, e = .returned u ∧ OwnS w' W.heap.size u X.secs ∧ Below W.heap.size W w') := fun W h => copiedTxts_any X.vs X.secs W h hx.nil (by omega)
  have HCP : Hid (∀ W, RdPt W X.vl X.late → Calls Tryz.prog 58 #[X.vl] W fun e w' => ∃ u, e = .returned u ∧ OwnPt w' W.heap.size u X.late ∧ Below W.heap.size W w') := fun W h => copiedPats_any X.vl X.late W h (by omega)
  have ht0 := dvAt_new w X 27
  have b0 := below1 w (.cells #[X.vs, X.vl] 27)
  obtain ⟨V0, hV0⟩ : ∃ V0, V0 = w.alloc (.cells #[X.vs, X.vl] 27) := ⟨_, rfl⟩
  have s0 : V0.heap.size = w.heap.size + 1 := by rw [hV0]; simp
  rw [← hV0] at ht0 b0
  have b1 := below1 V0 (.cells #[.slice none 0 0, .slice none 0 0] 27)
  have hz : BoxDv (V0.alloc (.cells #[.slice none 0 0, .slice none 0 0] 27)) (w.heap.size + 1) (.slice none 0 0) (.slice none 0 0) := by rw [← s0]; exact boxDv_new V0 _ _
  have ht1 := ht0.below b1
  obtain ⟨W0, hW0⟩ : ∃ W0, W0 = V0.alloc (.cells #[.slice none 0 0, .slice none 0 0] 27) := ⟨_, rfl⟩
  have s1 : W0.heap.size = w.heap.size + 2 := by rw [hW0]; simp [s0]
  rw [← hW0] at hz b1 ht1
  have bw : Below w.heap.size w W0 := b0.trans (b1.mono (by omega))
  have hx0 := hx.below bw
  have HSV : Hid (∀ W, DvAt W w.heap.size X → W.cell? ⟨w.heap.size, 0, none⟩ = some X.vs ∧ W.cell? ⟨w.heap.size, 1, none⟩ = some X.vl) := fun W h => h
  clear ht0 b0 b1 s0
  go_enter Tryz.func29, Tryz.ntmps29
  go_wp2_with fail
  rw [← hV0, ← hW0]
  clear hV0 hW0
  refine wp_region_noPanic ?_
  refine wp_region_held_drew (S := fun W => W.cell? ⟨w.heap.size, 0, none⟩ = some X.vs ∧ W.cell? ⟨w.heap.size, 1, none⟩ = some X.vl) (by kernel_rfl) (HSV.out _ ht1) (fun hS => ?_)
  have qb : Below (w.heap.size + 2) W0 W0.drew := (Below.refl _ _).drew
  refine tkG 0 3 hS ?_
  try simp only [Act.put, List.setIfInBounds_toArray, List.set_cons_zero, List.set_cons_succ]
  refine tkG 1 4 hS ?_
  try simp only [Act.put, List.setIfInBounds_toArray, List.set_cons_zero, List.set_cons_succ]
  refine tkG 3 6 hS ?_
  try simp only [Act.put, List.setIfInBounds_toArray, List.set_cons_zero, List.set_cons_succ]
  refine tkG 4 7 hS ?_
  try simp only [Act.put, List.setIfInBounds_toArray, List.set_cons_zero, List.set_cons_succ]
  have hBV : w.heap.size + 2 ≤ W0.drew.heap.size := by show w.heap.size + 2 ≤ W0.heap.size; omega
  have htV : DvAt W0.drew w.heap.size X := ht1.of_block (qb.block w.heap.size (by omega))
  generalize W0.drew = V at qb hS hBV htV ⊢
  refine wpAnyH_ready (rs := [2]) (by kernel_rfl) (by simp) ?_
  refine AllReadyH.cons rfl (fun K hK => ?_) AllReadyH.nil
  go_simp
  refine (HCS.out _ ((hx0.secs).below (by rw [s1]; exact qb))).mono ?_
  rintro e V3 ⟨vS, rfl, hoS, hm⟩
  have qS2 : OwnS V3 (w.heap.size + 2) vS X.secs := OwnS.mono hoS hBV
  replace qb := qb.trans (hm.mono hBV)
  replace hBV := Nat.le_trans hBV hm.size
  clear hm hS hoS
  replace htV : DvAt V3 w.heap.size X := ht1.of_block (qb.block w.heap.size (by omega))
  refine hK.out _ _ (HSV.out _ htV) (fun hS => ?_)
  clear hK K
  try simp only [Act.put, List.setIfInBounds_toArray, List.set_cons_zero, List.set_cons_succ]
  refine wpAnyH_ready (rs := [5]) (by kernel_rfl) (by simp) ?_
  refine AllReadyH.cons rfl (fun K hK => ?_) AllReadyH.nil
  go_simp
  refine (HCP.out _ ((hx0.late).below (by rw [s1]; exact qb))).mono ?_
  rintro e V9 ⟨vL, rfl, hoP, hm⟩
  have qP2 : OwnPt V9 (w.heap.size + 2) vL X.late := OwnPt.mono hoP hBV
  have qS3 := qS2.below hm
  replace qb := qb.trans (hm.mono hBV)
  replace hBV := Nat.le_trans hBV hm.size
  clear hm hS hoP qS2
  replace htV : DvAt V9 w.heap.size X := ht1.of_block (qb.block w.heap.size (by omega))
  refine hK.out _ _ (HSV.out _ htV) (fun hS => ?_)
  clear hK K
  try simp only [Act.put, List.setIfInBounds_toArray, List.set_cons_zero, List.set_cons_succ]
  obtain ⟨aS, cS, heS⟩ := own_slice qS3
  obtain ⟨aL, cL, heL⟩ := own_slice qP2
  generalize X.secs.length = sn at heS
  generalize X.late.length = ln at heL
  subst heS
  subst heL
  refine tkG 6 9 hS ?_
  try simp only [Act.put, List.setIfInBounds_toArray, List.set_cons_zero, List.set_cons_succ]
  have hzV : BoxDv V9 (w.heap.size + 1) (.slice none 0 0) (.slice none 0 0) := hz.of_block (qb.block (w.heap.size + 1) (by omega))
  obtain ⟨y0, y1, g0, g1⟩ := hzV.facts
  refine wpAnyH_ready (rs := [7]) (by kernel_rfl) (by simp) ?_
  refine AllReadyH.cons rfl (fun K hK => ?_) AllReadyH.nil
  go_simp
  refine hK.out _ _ (HSV.out _ ((htV.of_block (block_set (by omega))).of_block (block_set (by omega)))) (fun hSf => ?_)
  clear hK K
  refine wpAnyH_done (by kernel_rfl) ?_ _
  refine NoPanic.normal ?_
  have HF : Hid (ToDv w X.secs X.late (.returned (.agg #[.slice aS sn cS, .slice aL ln cL])) ((V9.setCell ⟨w.heap.size + 1, 0, none⟩ (.slice aS sn cS)).setCell ⟨w.heap.size + 1, 1, none⟩ (.slice aL ln cL))) := by
    refine ⟨⟨.slice aS sn cS, .slice aL ln cL, X.secs, X.late⟩, rfl, rfl, rfl, ⟨OwnS.mono (row_base (row_base qS3 (by omega)) (by omega)) (by omega), OwnPt.mono (row_base (row_base qP2 (by omega)) (by omega)) (by omega)⟩, ?_⟩
    exact ((bw.trans (qb.mono (by omega))).setCell (p := ⟨w.heap.size + 1, 0, none⟩) (by simp) _).setCell (p := ⟨w.heap.size + 1, 1, none⟩) (by simp) _
  have hzF := (hzV.set0 (u := .slice aS sn cS)).set1 (u := .slice aL ln cL)
  obtain ⟨f0, f1, -, -⟩ := hzF.facts
  clear y0 y1 g0 g1 hzF hSf htV hzV qb hBV qS3 qP2 hS
  go_wp2
  exact bodyPost_ret (v := .agg #[.slice aS sn cS, .slice aL ln cL]) (by simp [results, Tryz.results29, go_sem, f0, f1]) rfl HF.out
end Go.Proofs.YtpidmmfjmbinkaaGreatDoor
