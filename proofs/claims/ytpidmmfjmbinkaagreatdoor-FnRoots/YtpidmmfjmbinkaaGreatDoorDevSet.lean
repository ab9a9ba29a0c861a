/- The contracts of the program's settled, Barrier, Cut and Lies. -/
import Derived.Test.YtpidmmfjmbinkaaGreatDoorDevKeep
import Derived.Test.YtpidmmfjmbinkaaGreatDoorDevCut
-- UNF Gen
namespace Go.Proofs.YtpidmmfjmbinkaaGreatDoor
open Go.RowKit
set_option maxHeartbeats 8000000 in
set_option maxRecDepth 100000 in
theorem settledB_any (X : DvX) (kp : Nat → Bool) (w : World) (hx : RdDv w X)
    (HKP : ∀ (i : Nat) W, i < X.late.length → Below w.heap.size w W → Calls Tryz.prog 56 #[.int .i64 (i : Int)] W fun e w' => e = .returned (.bool (kp i)) ∧ Below W.heap.size W w') :
    Calls Tryz.prog 55 #[.agg #[X.vs, X.vl], .func (.func 56) #[] #[]] w fun e w' => ToDv w (cutL X.secs X.late kp) [] e w' := by
  have HDO : Hid (∀ W, RdDv W X → Calls Tryz.prog 21 #[.agg #[X.vs, X.vl]] W fun e w' => e = .returned (.bool (devOk X.secs X.late)) ∧ Below W.heap.size W w') := fun W h => implDeviceOk_any X W h
  have HX : Hid (RdDv w X) := hx
  have HT0 : Hid (∀ (w : World) t, DvAt (w.alloc (.cells #[X.vs, X.vl] t)) w.heap.size X) := fun w t => dvAt_new w X t
  obtain ⟨sa, la, cs, cl, hvs, hvl, h1, h2, h3, h4⟩ := hx.slices
  have HDV : Hid (∀ W, DvAt W w.heap.size X → W.cell? ⟨w.heap.size, 0, none⟩ = some X.vs ∧ W.cell? ⟨w.heap.size, 1, none⟩ = some X.vl) := fun W h => h
  have HCS : Hid (X.secs.length ≤ 1000000 → ∀ W, RdDv W X → Calls Tryz.prog 57 #[X.vs] W fun e w' => ∃ u, e = .returned u ∧ OwnS w' W.heap.size u X.secs ∧ Below W.heap.size W w') := fun hl W h => copiedTxts_any X.vs X.secs W h.secs h.nil (by omega)
  have HKS : Hid (X.late.length ≤ 1000000 → ∀ va vn vc W, RdDv W X → Calls Tryz.prog 74 #[.agg #[X.vs, X.vl], .slice va vn vc] W fun e w' => ∃ u bS ps, e = .returned u ∧ ps.length = X.late.length ∧ Kept W w' u bS (.slice va vn vc) X.late ps ∧ Below W.heap.size W w') := fun hl va vn vc W h => keepers_any X.vs X.vl va vn vc X.late W h.late hl
  obtain ⟨sn, hsn⟩ : ∃ sn, sn = X.secs.length := ⟨_, rfl⟩
  obtain ⟨ln, hln⟩ : ∃ ln, ln = X.late.length := ⟨_, rfl⟩
  rw [← hsn] at hvs h1
  rw [← hln] at hvl h3
  have HSN : Hid (sn = X.secs.length) := hsn
  have HLN : Hid (ln = X.late.length) := hln
  have HK : Hid (∀ (i : Nat) W, i < ln → Below w.heap.size w W → Calls Tryz.prog 56 #[.int .i64 (i : Int)] W fun e w' => e = .returned (.bool (kp i)) ∧ Below W.heap.size W w') := fun i W h => HKP i W (by rw [← hln]; exact h)
  have HB : Hid (devOk X.secs X.late = true → 1 ≤ sn ∧ sn ≤ 16 ∧ ln ≤ 30 ∧ ∀ i, i < ln → pOk sn (nthP X.late i) = true) := fun h => by have := (devOk_iff _ _).1 h; rw [hsn, hln]; exact ⟨this.1, this.2.1, this.2.2.1, this.2.2.2.2⟩
  have HYES : Hid (devOk X.secs X.late = true → cutL X.secs X.late kp = cutTo X.secs X.late kp ln) := fun h => by rw [hln]; exact cutL_yes h
  have HNO : Hid (devOk X.secs X.late = false → cutL X.secs X.late kp = []) := fun h => cutL_no h
  generalize cutL X.secs X.late kp = R at HYES HNO ⊢
  rw [hvs, hvl] at HDO HT0 HDV HKS ⊢
  rw [hvs] at HCS
  clear hx hvs hvl HKP
  have t0 := HT0.out w 27
  have b0 := below1 w (.cells #[.slice sa sn cs, .slice la ln cl] 27)
  obtain ⟨W0, hW0⟩ : ∃ W0, W0 = w.alloc (.cells #[.slice sa sn cs, .slice la ln cl] 27) := ⟨_, rfl⟩
  have s0 : W0.heap.size = w.heap.size + 1 := by rw [hW0]; simp
  rw [← hW0] at t0 b0
  have r1 := boxDv_new W0 (.slice none 0 0) (.slice none 0 0)
  have bb1 := below1 W0 (.cells #[.slice none 0 0, .slice none 0 0] 27)
  obtain ⟨W1, hW1⟩ : ∃ W1, W1 = W0.alloc (.cells #[.slice none 0 0, .slice none 0 0] 27) := ⟨_, rfl⟩
  have s1 : W1.heap.size = w.heap.size + 2 := by rw [hW1]; simp [s0]
  rw [← hW1] at r1 bb1
  rw [s0] at r1
  have t1 := t0.below bb1
  have b1 := b0.trans (bb1.mono b0.size)
  have HW : Hid ((w.alloc (.cells #[.slice sa sn cs, .slice la ln cl] 27)).alloc (.cells #[.slice none 0 0, .slice none 0 0] 27) = W1) := by unfold Hid; rw [hW1, hW0]
  obtain ⟨d0, d1⟩ := HDV.out _ t1
  rw [← HW.out] at d0 d1
  clear t0 b0 bb1 hW0 hW1 s0 hsn hln
  go_enter Tryz.func55, Tryz.ntmps55
  go_wp2_with fail
  rw [HW.out]
  refine (HDO.out _ (HX.out.below b1)).mono ?_
  rintro e w2 ⟨rfl, hb2⟩
  have t2 := t1.below hb2
  have r2 := r1.below hb2
  have b2 := b1.trans (hb2.mono b1.size)
  have s2 := hb2.size
  rw [s1] at s2
  clear t1 r1 b1 hb2 d0 d1 HW HDO s1
  obtain ⟨f0, f1, f2, f3⟩ := r2.facts
  cases hok : devOk X.secs X.late with
  | false =>
    obtain rfl := HNO.out hok
    have z := (r2.set0 (u := .slice none 0 0)).set1 (u := .slice none 0 0)
    obtain ⟨k0, k1, -, -⟩ := z.facts
    have HF : Hid (ToDv w [] [] (.returned (.agg #[.slice none 0 0, .slice none 0 0])) ((w2.setCell ⟨w.heap.size + 1, 0, none⟩ (.slice none 0 0)).setCell ⟨w.heap.size + 1, 1, none⟩ (.slice none 0 0))) := ⟨⟨.slice none 0 0, .slice none 0 0, [], []⟩, rfl, rfl, rfl, ownDv_zero _ _, (b2.setCell (p := ⟨w.heap.size + 1, 0, none⟩) (by simp) _).setCell (p := ⟨w.heap.size + 1, 1, none⟩) (by simp) _⟩
    clear z hok r2 t2
    go_wp2
    exact bodyPost_ret (v := .agg #[.slice none 0 0, .slice none 0 0]) (by simp [results, Tryz.results55, go_sem, k0, k1]) rfl HF.out
  | true =>
    obtain ⟨hn1, hn2, hn3, HP⟩ := HB.out hok
    obtain rfl := HYES.out hok
    have HPO : Hid (∀ i, i < ln → pOk sn (nthP X.late i) = true) := HP
    have HCS' := HCS.out (by rw [← HSN.out]; omega)
    have HKS' := HKS.out (by rw [← HLN.out]; omega)
    have HCQ : Hid (∀ W, RdDv W X → Calls Tryz.prog 57 #[.slice sa sn cs] W fun e w' => ∃ u, e = .returned u ∧ OwnS w' W.heap.size u X.secs ∧ Below W.heap.size W w') := HCS'
    have HKQ : Hid (∀ va vn vc W, RdDv W X → Calls Tryz.prog 74 #[.agg #[.slice sa sn cs, .slice la ln cl], .slice va vn vc] W fun e w' => ∃ u bS ps, e = .returned u ∧ ps.length = X.late.length ∧ Kept W w' u bS (.slice va vn vc) X.late ps ∧ Below W.heap.size W w') := HKS'
    clear hok HB HYES HNO HP f0 f1 f2 f3 HCS HKS HCS' HKS'
    obtain ⟨d0, d1⟩ := HDV.out _ t2
    go_wp2_with fail
    refine (HCQ.out _ (HX.out.below b2)).mono ?_
    rintro e w3 ⟨vS, rfl, ho3, hb3⟩
    have t3 := t2.below hb3
    have r3 := r2.below hb3
    have b3 := b2.trans (hb3.mono b2.size)
    have s3 := hb3.size
    obtain ⟨g, cap, hv, hgB, hgL, hcn⟩ : ∃ g cap, vS = .slice (some ⟨g, 0, none⟩) sn cap ∧ w2.heap.size ≤ g ∧ g < w3.heap.size ∧ sn ≤ cap := by
      have ho := ho3
      rcases ho.2 with ⟨-, h0⟩ | ⟨g, cap, cur, hv, hBg, hg, hcn, hc, -⟩
      · rw [← HSN.out] at h0; omega
      · refine ⟨g, cap, by rw [hv, HSN.out], hBg, ?_, by rw [HSN.out]; exact hcn⟩
        exact (Array.getElem?_eq_some_iff.1 hg).1
    subst hv
    have ho4 : w3.ownsRow w2.heap.size 9 1 (.slice (some ⟨g, 0, none⟩) sn cap) sn (SV (cutTo X.secs X.late kp 0)) := by
      have h := ho3
      unfold OwnS at h
      rw [← HSN.out] at h
      exact h
    clear t2 r2 b2 hb3 ho3 d0 d1 HCQ
    obtain ⟨d0, d1⟩ := HDV.out _ t3
    go_wp2_with fail
    refine (HKQ.out _ _ _ _ (HX.out.below b3)).mono ?_
    rintro e w5 ⟨u, bS, ps, rfl, hpl, K5, hb5⟩
    have r5 := r3.below hb5
    have b5 := b3.trans (hb5.mono b3.size)
    have ho5 := own_below ho4 hb5
    have HPL : Hid (ps.length = ln) := by unfold Hid; rw [hpl, HLN.out]
    have urow := K5.row
    rw [HPL.out] at urow
    obtain ⟨ua, uc, hu⟩ := own_slice urow
    have HUL : Hid (∀ W, Kept w3 W u bS (.slice (some ⟨g, 0, none⟩) sn cap) X.late ps → ∀ k, k < ln → ∃ gu, ua = some ⟨gu, 0, none⟩ ∧ k < uc ∧ W.cell? ⟨gu, k, none⟩ = some (KF bS (ps.getD k 0))) := fun W hK k hk => by
      have hr := hK.row
      rw [HPL.out] at hr
      rcases hr.2 with ⟨-, h0⟩ | ⟨gu, cu, cur, hv, -, -, hcu, -⟩
      · omega
      · rw [hv] at hu
        injection hu with e1 e2 e3
        refine ⟨gu, e1.symm, by omega, ?_⟩
        rw [hv] at hr
        have := (hr.cellAt k (by omega)).trans (KV_get bS ps k (by rw [HPL.out]; exact hk))
        rw [this]
        simp [List.getD, List.getElem?_eq_getElem (show k < ps.length by rw [HPL.out]; exact hk)]
    have KU : Hid (Kept w3 w5 u bS (.slice (some ⟨g, 0, none⟩) sn cap) X.late ps) := K5
    clear hpl K5 urow t3 r3 b3 hb5 ho4 d0 d1 HKQ
    have hue : u = .slice ua ln uc := hu
    clear hu
    have HUE : Hid (u = .slice ua ln uc) := hue
    rw [hue]
    clear hue
    go_wp2
    go_loopw [19] (fun i wr => ∃ k : Nat, k ≤ ln ∧ i = .int .i64 k ∧ wr.ownsRow w2.heap.size 9 1 (.slice (some ⟨g, 0, none⟩) sn cap) sn (SV (cutTo X.secs X.late kp k)) ∧ Hid (BoxDv wr (w.heap.size + 1) (.slice none 0 0) (.slice none 0 0) ∧ Kept w3 wr u bS (.slice (some ⟨g, 0, none⟩) sn cap) X.late ps ∧ Below w.heap.size w wr)) (fun i _ => ln - (intOf i).toNat)
    case atStart => exact ⟨0, Nat.zero_le _, rfl, ho5, r5, KU.out, b5⟩
    case round =>
      clear r5 b5 ho5 KU
      obtain ⟨k, hk, rfl, ho, HI⟩ := hrel
      obtain ⟨rk, kk, bk⟩ := HI.out
      by_cases hlt : k < ln
      · obtain ⟨gu, rfl, hkc, hcu⟩ := HUL.out _ kk k hlt
        have hpo := pOk_iff.1 (HPO.out k hlt)
        obtain ⟨q, hq⟩ : ∃ q : Nat, (nthP X.late k).pos = (q : Int) := ⟨(nthP X.late k).pos.toNat, by omega⟩
        have hqs : q < sn := by omega
        obtain ⟨txt, htx⟩ : ∃ txt, txt = (nthP X.late k).text := ⟨_, rfl⟩
        have HNP : Hid (nthP X.late k = ⟨(q : Int), txt⟩) := by
          unfold Hid
          rw [htx, ← hq]
        clear hq htx hpo
        have HPK : Hid (∀ W, Kept w3 W u bS (.slice (some ⟨g, 0, none⟩) sn cap) X.late ps → PatAt W (ps.getD k 0) 0 ⟨(q : Int), txt⟩) := fun W h => by
          have := (h.pat k (by rw [HPL.out]; exact hlt)).2.at
          rw [HNP.out] at this
          exact this
        generalize ps.getD k 0 = pb at hcu HPK
        unfold KF at hcu
        have HKK := HK.out k wr hlt bk
        have HKC : Hid (Calls _ _ _ _ _) := HKK
        have HO : Hid (World.ownsRow _ _ _ _ _ _ _) := ho
        have HI' : Hid (_ ∧ _ ∧ _) := HI.out
        clear HKK ho HI rk kk bk
        obtain ⟨kv, hkv⟩ : ∃ kv, kv = kp k := ⟨_, rfl⟩
        rw [← hkv] at HKC
        have HKV : Hid (kv = kp k) := hkv
        clear hkv
        go_wp2_with fail
        refine HKC.out.mono ?_
        rintro e w6 ⟨rfl, hb6⟩
        obtain ⟨rk, kk, bk⟩ := HI'.out
        have r6 := rk.below hb6
        have k6 := kk.below hb6
        have b6 := bk.trans (hb6.mono bk.size)
        have o6 := own_below HO.out hb6
        clear rk kk bk hb6 HO HI' HKC hcu
        cases kv with
        | true =>
          have HST : Hid ((cutTo X.secs X.late kp k).set q txt = cutTo X.secs X.late kp (k + 1)) := cutTo_step HKV.out.symm HNP.out
          have hll : (cutTo X.secs X.late kp k).length = sn := by rw [cutTo_len, ← HSN.out]
          have hcq := (o6.cellAt q (by omega)).trans (SV_get _ q (by rw [hll]; exact hqs))
          have hfq := o6.frozenAt q
          have R1 := (o6.stored q (.string txt)).1
          rw [← SV_set, HST.out] at R1
          have H1 : Hid (World.ownsRow _ _ _ _ _ _ _) := R1
          have K7 : Hid (Kept w3 (w6.setCell ⟨g, q, none⟩ (.string txt)) u bS (.slice (some ⟨g, 0, none⟩) sn cap) X.late ps) := k6.set o6
          have r7 : BoxDv (w6.setCell ⟨g, q, none⟩ (.string txt)) (w.heap.size + 1) _ _ := r6.of_block (block_set (by omega))
          have b7 := b6.setCell (p := ⟨g, q, none⟩) (by simp; omega) (.string txt)
          have HK1 : Hid (Calls _ _ _ _ _) := keep1_any pb bS g cap sn q txt _ w6 (HPK.out _ k6) k6.sec.at hqs hcn hcq hfq
          clear R1 hll hcq hfq k6 r6 b6 o6 HST
          go_wp2_with fail
          refine HK1.out.mono ?_
          rintro e w7 ⟨rfl, rfl⟩
          clear HK1
          go_wp2
          go_roundw
          case rel => exact ⟨k + 1, by omega, by go_num, H1.out, r7, K7.out, b7⟩
          case measure => simp [intOf]; omega
        | false =>
          rw [cutTo_skip HKV.out.symm] at o6
          have H1 : Hid (World.ownsRow _ _ _ _ _ _ _) := o6
          clear o6
          go_wp2
          go_roundw
          case rel => exact ⟨k + 1, by omega, by go_num, H1.out, r6, k6, b6⟩
          case measure => simp [intOf]; omega
      · have hke : k = ln := by omega
        have hoF : OwnS wr w2.heap.size (.slice (some ⟨g, 0, none⟩) sn cap) (cutTo X.secs X.late kp ln) := by
          rw [hke] at ho
          unfold OwnS
          rw [cutTo_len, ← HSN.out]
          exact ho
        obtain ⟨f0, f1, f2, f3⟩ := rk.facts
        have s9 : w.heap.size + 1 < wr.heap.size := rk.lt
        obtain ⟨V, hV⟩ : ∃ V, V = (wr.setCell ⟨w.heap.size + 1, 0, none⟩ (.slice (some ⟨g, 0, none⟩) sn cap)).setCell ⟨w.heap.size + 1, 1, none⟩ (.slice (some ⟨wr.heap.size, 0, none⟩) 0 0) := ⟨_, rfl⟩
        have z := (rk.set0 (u := .slice (some ⟨g, 0, none⟩) sn cap)).set1 (u := .slice (some ⟨wr.heap.size, 0, none⟩) 0 0)
        have hoV : OwnS V w2.heap.size (.slice (some ⟨g, 0, none⟩) sn cap) (cutTo X.secs X.late kp ln) := by rw [hV]; exact row_base (row_base hoF (by omega)) (by omega)
        have sV : V.heap.size = wr.heap.size := by rw [hV]; simp
        have bV : Below w.heap.size w V := by rw [hV]; exact (bk.setCell (p := ⟨w.heap.size + 1, 0, none⟩) (by simp) _).setCell (p := ⟨w.heap.size + 1, 1, none⟩) (by simp) _
        rw [← hV] at z
        have bb := below1 V (.cells #[] 70)
        have hl9 := ownPt_none V
        rw [sV] at hl9
        obtain ⟨k0, k1, -, -⟩ := (z.below bb).facts
        have HF : Hid (ToDv w (cutTo X.secs X.late kp ln) [] (.returned (.agg #[.slice (some ⟨g, 0, none⟩) sn cap, .slice (some ⟨wr.heap.size, 0, none⟩) 0 0])) (V.alloc (.cells #[] 70))) :=
          ⟨⟨.slice (some ⟨g, 0, none⟩) sn cap, .slice (some ⟨wr.heap.size, 0, none⟩) 0 0, cutTo X.secs X.late kp ln, []⟩, rfl, rfl, rfl, ⟨OwnS.mono (hoV.below bb) (by omega), OwnPt.mono hl9 bk.size⟩, bV.trans (bb.mono bV.size)⟩
        rw [hV] at k0 k1 HF
        clear z hoF ho hoV hl9 bb rk kk bk HI hV sV bV hke
        go_wp2
        exact bodyPost_ret (v := .agg #[.slice (some ⟨g, 0, none⟩) sn cap, .slice (some ⟨wr.heap.size, 0, none⟩) 0 0]) (by simp [results, Tryz.results55, go_sem, k0, k1]) rfl HF.out
set_option maxHeartbeats 8000000 in
set_option maxRecDepth 100000 in
theorem settledC_any (X : DvX) (bK : Nat) (kp : Nat → Bool) (w : World) (hx : RdDv w X)
    (HKP : ∀ (i : Nat) W, i < X.late.length → Below w.heap.size w W → Calls Tryz.prog 59 #[.int .i64 (i : Int), .pointer (some ⟨bK, 0, none⟩)] W fun e w' => e = .returned (.bool (kp i)) ∧ Below W.heap.size W w') :
    Calls Tryz.prog 55 #[.agg #[X.vs, X.vl], .func (.func 59) #[] #[.pointer (some ⟨bK, 0, none⟩)]] w fun e w' => ToDv w (cutL X.secs X.late kp) [] e w' := by
  have HDO : Hid (∀ W, RdDv W X → Calls Tryz.prog 21 #[.agg #[X.vs, X.vl]] W fun e w' => e = .returned (.bool (devOk X.secs X.late)) ∧ Below W.heap.size W w') := fun W h => implDeviceOk_any X W h
  have HX : Hid (RdDv w X) := hx
  have HT0 : Hid (∀ (w : World) t, DvAt (w.alloc (.cells #[X.vs, X.vl] t)) w.heap.size X) := fun w t => dvAt_new w X t
  obtain ⟨sa, la, cs, cl, hvs, hvl, h1, h2, h3, h4⟩ := hx.slices
  have HDV : Hid (∀ W, DvAt W w.heap.size X → W.cell? ⟨w.heap.size, 0, none⟩ = some X.vs ∧ W.cell? ⟨w.heap.size, 1, none⟩ = some X.vl) := fun W h => h
  have HCS : Hid (X.secs.length ≤ 1000000 → ∀ W, RdDv W X → Calls Tryz.prog 57 #[X.vs] W fun e w' => ∃ u, e = .returned u ∧ OwnS w' W.heap.size u X.secs ∧ Below W.heap.size W w') := fun hl W h => copiedTxts_any X.vs X.secs W h.secs h.nil (by omega)
  have HKS : Hid (X.late.length ≤ 1000000 → ∀ va vn vc W, RdDv W X → Calls Tryz.prog 74 #[.agg #[X.vs, X.vl], .slice va vn vc] W fun e w' => ∃ u bS ps, e = .returned u ∧ ps.length = X.late.length ∧ Kept W w' u bS (.slice va vn vc) X.late ps ∧ Below W.heap.size W w') := fun hl va vn vc W h => keepers_any X.vs X.vl va vn vc X.late W h.late hl
  obtain ⟨sn, hsn⟩ : ∃ sn, sn = X.secs.length := ⟨_, rfl⟩
  obtain ⟨ln, hln⟩ : ∃ ln, ln = X.late.length := ⟨_, rfl⟩
  rw [← hsn] at hvs h1
  rw [← hln] at hvl h3
  have HSN : Hid (sn = X.secs.length) := hsn
  have HLN : Hid (ln = X.late.length) := hln
  have HK : Hid (∀ (i : Nat) W, i < ln → Below w.heap.size w W → Calls Tryz.prog 59 #[.int .i64 (i : Int), .pointer (some ⟨bK, 0, none⟩)] W fun e w' => e = .returned (.bool (kp i)) ∧ Below W.heap.size W w') := fun i W h => HKP i W (by rw [← hln]; exact h)
  have HB : Hid (devOk X.secs X.late = true → 1 ≤ sn ∧ sn ≤ 16 ∧ ln ≤ 30 ∧ ∀ i, i < ln → pOk sn (nthP X.late i) = true) := fun h => by have := (devOk_iff _ _).1 h; rw [hsn, hln]; exact ⟨this.1, this.2.1, this.2.2.1, this.2.2.2.2⟩
  have HYES : Hid (devOk X.secs X.late = true → cutL X.secs X.late kp = cutTo X.secs X.late kp ln) := fun h => by rw [hln]; exact cutL_yes h
  have HNO : Hid (devOk X.secs X.late = false → cutL X.secs X.late kp = []) := fun h => cutL_no h
  generalize cutL X.secs X.late kp = R at HYES HNO ⊢
  rw [hvs, hvl] at HDO HT0 HDV HKS ⊢
  rw [hvs] at HCS
  clear hx hvs hvl HKP
  have t0 := HT0.out w 27
  have b0 := below1 w (.cells #[.slice sa sn cs, .slice la ln cl] 27)
  obtain ⟨W0, hW0⟩ : ∃ W0, W0 = w.alloc (.cells #[.slice sa sn cs, .slice la ln cl] 27) := ⟨_, rfl⟩
  have s0 : W0.heap.size = w.heap.size + 1 := by rw [hW0]; simp
  rw [← hW0] at t0 b0
  have r1 := boxDv_new W0 (.slice none 0 0) (.slice none 0 0)
  have bb1 := below1 W0 (.cells #[.slice none 0 0, .slice none 0 0] 27)
  obtain ⟨W1, hW1⟩ : ∃ W1, W1 = W0.alloc (.cells #[.slice none 0 0, .slice none 0 0] 27) := ⟨_, rfl⟩
  have s1 : W1.heap.size = w.heap.size + 2 := by rw [hW1]; simp [s0]
  rw [← hW1] at r1 bb1
  rw [s0] at r1
  have t1 := t0.below bb1
  have b1 := b0.trans (bb1.mono b0.size)
  have HW : Hid ((w.alloc (.cells #[.slice sa sn cs, .slice la ln cl] 27)).alloc (.cells #[.slice none 0 0, .slice none 0 0] 27) = W1) := by unfold Hid; rw [hW1, hW0]
  obtain ⟨d0, d1⟩ := HDV.out _ t1
  rw [← HW.out] at d0 d1
  clear t0 b0 bb1 hW0 hW1 s0 hsn hln
  go_enter Tryz.func55, Tryz.ntmps55
  go_wp2_with fail
  rw [HW.out]
  refine (HDO.out _ (HX.out.below b1)).mono ?_
  rintro e w2 ⟨rfl, hb2⟩
  have t2 := t1.below hb2
  have r2 := r1.below hb2
  have b2 := b1.trans (hb2.mono b1.size)
  have s2 := hb2.size
  rw [s1] at s2
  clear t1 r1 b1 hb2 d0 d1 HW HDO s1
  obtain ⟨f0, f1, f2, f3⟩ := r2.facts
  cases hok : devOk X.secs X.late with
  | false =>
    obtain rfl := HNO.out hok
    have z := (r2.set0 (u := .slice none 0 0)).set1 (u := .slice none 0 0)
    obtain ⟨k0, k1, -, -⟩ := z.facts
    have HF : Hid (ToDv w [] [] (.returned (.agg #[.slice none 0 0, .slice none 0 0])) ((w2.setCell ⟨w.heap.size + 1, 0, none⟩ (.slice none 0 0)).setCell ⟨w.heap.size + 1, 1, none⟩ (.slice none 0 0))) := ⟨⟨.slice none 0 0, .slice none 0 0, [], []⟩, rfl, rfl, rfl, ownDv_zero _ _, (b2.setCell (p := ⟨w.heap.size + 1, 0, none⟩) (by simp) _).setCell (p := ⟨w.heap.size + 1, 1, none⟩) (by simp) _⟩
    clear z hok r2 t2
    go_wp2
    exact bodyPost_ret (v := .agg #[.slice none 0 0, .slice none 0 0]) (by simp [results, Tryz.results55, go_sem, k0, k1]) rfl HF.out
  | true =>
    obtain ⟨hn1, hn2, hn3, HP⟩ := HB.out hok
    obtain rfl := HYES.out hok
    have HPO : Hid (∀ i, i < ln → pOk sn (nthP X.late i) = true) := HP
    have HCS' := HCS.out (by rw [← HSN.out]; omega)
    have HKS' := HKS.out (by rw [← HLN.out]; omega)
    have HCQ : Hid (∀ W, RdDv W X → Calls Tryz.prog 57 #[.slice sa sn cs] W fun e w' => ∃ u, e = .returned u ∧ OwnS w' W.heap.size u X.secs ∧ Below W.heap.size W w') := HCS'
    have HKQ : Hid (∀ va vn vc W, RdDv W X → Calls Tryz.prog 74 #[.agg #[.slice sa sn cs, .slice la ln cl], .slice va vn vc] W fun e w' => ∃ u bS ps, e = .returned u ∧ ps.length = X.late.length ∧ Kept W w' u bS (.slice va vn vc) X.late ps ∧ Below W.heap.size W w') := HKS'
    clear hok HB HYES HNO HP f0 f1 f2 f3 HCS HKS HCS' HKS'
    obtain ⟨d0, d1⟩ := HDV.out _ t2
    go_wp2_with fail
    refine (HCQ.out _ (HX.out.below b2)).mono ?_
    rintro e w3 ⟨vS, rfl, ho3, hb3⟩
    have t3 := t2.below hb3
    have r3 := r2.below hb3
    have b3 := b2.trans (hb3.mono b2.size)
    have s3 := hb3.size
    obtain ⟨g, cap, hv, hgB, hgL, hcn⟩ : ∃ g cap, vS = .slice (some ⟨g, 0, none⟩) sn cap ∧ w2.heap.size ≤ g ∧ g < w3.heap.size ∧ sn ≤ cap := by
      have ho := ho3
      rcases ho.2 with ⟨-, h0⟩ | ⟨g, cap, cur, hv, hBg, hg, hcn, hc, -⟩
      · rw [← HSN.out] at h0; omega
      · refine ⟨g, cap, by rw [hv, HSN.out], hBg, ?_, by rw [HSN.out]; exact hcn⟩
        exact (Array.getElem?_eq_some_iff.1 hg).1
    subst hv
    have ho4 : w3.ownsRow w2.heap.size 9 1 (.slice (some ⟨g, 0, none⟩) sn cap) sn (SV (cutTo X.secs X.late kp 0)) := by
      have h := ho3
      unfold OwnS at h
      rw [← HSN.out] at h
      exact h
    clear t2 r2 b2 hb3 ho3 d0 d1 HCQ
    obtain ⟨d0, d1⟩ := HDV.out _ t3
    go_wp2_with fail
    refine (HKQ.out _ _ _ _ (HX.out.below b3)).mono ?_
    rintro e w5 ⟨u, bS, ps, rfl, hpl, K5, hb5⟩
    have r5 := r3.below hb5
    have b5 := b3.trans (hb5.mono b3.size)
    have ho5 := own_below ho4 hb5
    have HPL : Hid (ps.length = ln) := by unfold Hid; rw [hpl, HLN.out]
    have urow := K5.row
    rw [HPL.out] at urow
    obtain ⟨ua, uc, hu⟩ := own_slice urow
    have HUL : Hid (∀ W, Kept w3 W u bS (.slice (some ⟨g, 0, none⟩) sn cap) X.late ps → ∀ k, k < ln → ∃ gu, ua = some ⟨gu, 0, none⟩ ∧ k < uc ∧ W.cell? ⟨gu, k, none⟩ = some (KF bS (ps.getD k 0))) := fun W hK k hk => by
      have hr := hK.row
      rw [HPL.out] at hr
      rcases hr.2 with ⟨-, h0⟩ | ⟨gu, cu, cur, hv, -, -, hcu, -⟩
      · omega
      · rw [hv] at hu
        injection hu with e1 e2 e3
        refine ⟨gu, e1.symm, by omega, ?_⟩
        rw [hv] at hr
        have := (hr.cellAt k (by omega)).trans (KV_get bS ps k (by rw [HPL.out]; exact hk))
        rw [this]
        simp [List.getD, List.getElem?_eq_getElem (show k < ps.length by rw [HPL.out]; exact hk)]
    have KU : Hid (Kept w3 w5 u bS (.slice (some ⟨g, 0, none⟩) sn cap) X.late ps) := K5
    clear hpl K5 urow t3 r3 b3 hb5 ho4 d0 d1 HKQ
    have hue : u = .slice ua ln uc := hu
    clear hu
    have HUE : Hid (u = .slice ua ln uc) := hue
    rw [hue]
    clear hue
    go_wp2
    go_loopw [19] (fun i wr => ∃ k : Nat, k ≤ ln ∧ i = .int .i64 k ∧ wr.ownsRow w2.heap.size 9 1 (.slice (some ⟨g, 0, none⟩) sn cap) sn (SV (cutTo X.secs X.late kp k)) ∧ Hid (BoxDv wr (w.heap.size + 1) (.slice none 0 0) (.slice none 0 0) ∧ Kept w3 wr u bS (.slice (some ⟨g, 0, none⟩) sn cap) X.late ps ∧ Below w.heap.size w wr)) (fun i _ => ln - (intOf i).toNat)
    case atStart => exact ⟨0, Nat.zero_le _, rfl, ho5, r5, KU.out, b5⟩
    case round =>
      clear r5 b5 ho5 KU
      obtain ⟨k, hk, rfl, ho, HI⟩ := hrel
      obtain ⟨rk, kk, bk⟩ := HI.out
      by_cases hlt : k < ln
      · obtain ⟨gu, rfl, hkc, hcu⟩ := HUL.out _ kk k hlt
        have hpo := pOk_iff.1 (HPO.out k hlt)
        obtain ⟨q, hq⟩ : ∃ q : Nat, (nthP X.late k).pos = (q : Int) := ⟨(nthP X.late k).pos.toNat, by omega⟩
        have hqs : q < sn := by omega
        obtain ⟨txt, htx⟩ : ∃ txt, txt = (nthP X.late k).text := ⟨_, rfl⟩
        have HNP : Hid (nthP X.late k = ⟨(q : Int), txt⟩) := by
          unfold Hid
          rw [htx, ← hq]
        clear hq htx hpo
        have HPK : Hid (∀ W, Kept w3 W u bS (.slice (some ⟨g, 0, none⟩) sn cap) X.late ps → PatAt W (ps.getD k 0) 0 ⟨(q : Int), txt⟩) := fun W h => by
          have := (h.pat k (by rw [HPL.out]; exact hlt)).2.at
          rw [HNP.out] at this
          exact this
        generalize ps.getD k 0 = pb at hcu HPK
        unfold KF at hcu
        have HKK := HK.out k wr hlt bk
        have HKC : Hid (Calls _ _ _ _ _) := HKK
        have HO : Hid (World.ownsRow _ _ _ _ _ _ _) := ho
        have HI' : Hid (_ ∧ _ ∧ _) := HI.out
        clear HKK ho HI rk kk bk
        obtain ⟨kv, hkv⟩ : ∃ kv, kv = kp k := ⟨_, rfl⟩
        rw [← hkv] at HKC
        have HKV : Hid (kv = kp k) := hkv
        clear hkv
        go_wp2_with fail
        refine HKC.out.mono ?_
        rintro e w6 ⟨rfl, hb6⟩
        obtain ⟨rk, kk, bk⟩ := HI'.out
        have r6 := rk.below hb6
        have k6 := kk.below hb6
        have b6 := bk.trans (hb6.mono bk.size)
        have o6 := own_below HO.out hb6
        clear rk kk bk hb6 HO HI' HKC hcu
        cases kv with
        | true =>
          have HST : Hid ((cutTo X.secs X.late kp k).set q txt = cutTo X.secs X.late kp (k + 1)) := cutTo_step HKV.out.symm HNP.out
          have hll : (cutTo X.secs X.late kp k).length = sn := by rw [cutTo_len, ← HSN.out]
          have hcq := (o6.cellAt q (by omega)).trans (SV_get _ q (by rw [hll]; exact hqs))
          have hfq := o6.frozenAt q
          have R1 := (o6.stored q (.string txt)).1
          rw [← SV_set, HST.out] at R1
          have H1 : Hid (World.ownsRow _ _ _ _ _ _ _) := R1
          have K7 : Hid (Kept w3 (w6.setCell ⟨g, q, none⟩ (.string txt)) u bS (.slice (some ⟨g, 0, none⟩) sn cap) X.late ps) := k6.set o6
          have r7 : BoxDv (w6.setCell ⟨g, q, none⟩ (.string txt)) (w.heap.size + 1) _ _ := r6.of_block (block_set (by omega))
          have b7 := b6.setCell (p := ⟨g, q, none⟩) (by simp; omega) (.string txt)
          have HK1 : Hid (Calls _ _ _ _ _) := keep1_any pb bS g cap sn q txt _ w6 (HPK.out _ k6) k6.sec.at hqs hcn hcq hfq
          clear R1 hll hcq hfq k6 r6 b6 o6 HST
          go_wp2_with fail
          refine HK1.out.mono ?_
          rintro e w7 ⟨rfl, rfl⟩
          clear HK1
          go_wp2
          go_roundw
          case rel => exact ⟨k + 1, by omega, by go_num, H1.out, r7, K7.out, b7⟩
          case measure => simp [intOf]; omega
        | false =>
          rw [cutTo_skip HKV.out.symm] at o6
          have H1 : Hid (World.ownsRow _ _ _ _ _ _ _) := o6
          clear o6
          go_wp2
          go_roundw
          case rel => exact ⟨k + 1, by omega, by go_num, H1.out, r6, k6, b6⟩
          case measure => simp [intOf]; omega
      · have hke : k = ln := by omega
        have hoF : OwnS wr w2.heap.size (.slice (some ⟨g, 0, none⟩) sn cap) (cutTo X.secs X.late kp ln) := by
          rw [hke] at ho
          unfold OwnS
          rw [cutTo_len, ← HSN.out]
          exact ho
        obtain ⟨f0, f1, f2, f3⟩ := rk.facts
        have s9 : w.heap.size + 1 < wr.heap.size := rk.lt
        obtain ⟨V, hV⟩ : ∃ V, V = (wr.setCell ⟨w.heap.size + 1, 0, none⟩ (.slice (some ⟨g, 0, none⟩) sn cap)).setCell ⟨w.heap.size + 1, 1, none⟩ (.slice (some ⟨wr.heap.size, 0, none⟩) 0 0) := ⟨_, rfl⟩
        have z := (rk.set0 (u := .slice (some ⟨g, 0, none⟩) sn cap)).set1 (u := .slice (some ⟨wr.heap.size, 0, none⟩) 0 0)
        have hoV : OwnS V w2.heap.size (.slice (some ⟨g, 0, none⟩) sn cap) (cutTo X.secs X.late kp ln) := by rw [hV]; exact row_base (row_base hoF (by omega)) (by omega)
        have sV : V.heap.size = wr.heap.size := by rw [hV]; simp
        have bV : Below w.heap.size w V := by rw [hV]; exact (bk.setCell (p := ⟨w.heap.size + 1, 0, none⟩) (by simp) _).setCell (p := ⟨w.heap.size + 1, 1, none⟩) (by simp) _
        rw [← hV] at z
        have bb := below1 V (.cells #[] 70)
        have hl9 := ownPt_none V
        rw [sV] at hl9
        obtain ⟨k0, k1, -, -⟩ := (z.below bb).facts
        have HF : Hid (ToDv w (cutTo X.secs X.late kp ln) [] (.returned (.agg #[.slice (some ⟨g, 0, none⟩) sn cap, .slice (some ⟨wr.heap.size, 0, none⟩) 0 0])) (V.alloc (.cells #[] 70))) :=
          ⟨⟨.slice (some ⟨g, 0, none⟩) sn cap, .slice (some ⟨wr.heap.size, 0, none⟩) 0 0, cutTo X.secs X.late kp ln, []⟩, rfl, rfl, rfl, ⟨OwnS.mono (hoV.below bb) (by omega), OwnPt.mono hl9 bk.size⟩, bV.trans (bb.mono bV.size)⟩
        rw [hV] at k0 k1 HF
        clear z hoF ho hoV hl9 bb rk kk bk HI hV sV bV hke
        go_wp2
        exact bodyPost_ret (v := .agg #[.slice (some ⟨g, 0, none⟩) sn cap, .slice (some ⟨wr.heap.size, 0, none⟩) 0 0]) (by simp [results, Tryz.results55, go_sem, k0, k1]) rfl HF.out
end Go.Proofs.YtpidmmfjmbinkaaGreatDoor
