/- Whatever code it is called with, laws.FnSeens returns true and its argument reads as before: what is kept for some snapshots shows at each of them, and at the end, what all showed, and what went at the bottom is not missed, by the program as by the model. No condition. -/
import Derived.Test.YtihacdfchmobpaaRows
import Derived.Test.YtihacdfchmobpaaMrgDraw
import Derived.Test.YtihacdfchmobpaaMrgImpl3
import Derived.ProofKit
import Derived.OpenShut
import Derived.ShutString
import Derived.ChangeOld
namespace Go.Proofs.Ytihacdfchmobpaa
open Go.ChangeShapes Go.WideShapes Go.ChangeAt Go.RowKit
theorem smallFitsM {es : List Ent} (h : ∀ x ∈ es, Small x) : ∀ x ∈ es, Fits x := fun x hx => (h x hx).fits
theorem fitsSub {es fs : List Ent} (h : ∀ x ∈ es, Fits x) (hs : fs.Sublist es) : ∀ x ∈ fs, Fits x := fun x hx => h x (hs.subset hx)
theorem okL_told {es : List Ent} {qs : List Int} (h : toldS es qs = true) : okL es = true := told_ok h
theorem implShown_at (v : Value) (es : List Ent) (q : Int) (ys : List Ent) (w : World) (hr : RdE w v es) (hf : ∀ e ∈ es, Fits e) (h : shownL es q = ys) :
    Calls Try.prog 22 #[v, .int .i64 q] w fun e w' => RowPost w ys e w' := by subst h; exact implShown_any v es q w hr hf
set_option maxHeartbeats 8000000 in
set_option maxRecDepth 100000 in
theorem lawSeensF (v : Value) (bs : List UInt8) (w : World) (hr : Rd w v bs) :
    Calls Try.prog 4 #[v] w fun e w' => e = .returned (.bool true) ∧ Below w.heap.size w w' := by
  by_cases hbig : 4096 < bs.length
  · have hb2 : decide (4096 < (bs.length : Int)) = true := by simp; omega
    go_enter Try.func4, Try.ntmps4
    go_wp2_with fail
    refine (big_any v bs w hr).mono ?_
    rw [hb2]
    rintro e wb ⟨rfl, hwb⟩
    obtain rfl := hwb.symm
    go_wp2
    go_ret
    exact ⟨rfl, Below.refl _ _⟩
  have hb2 : decide (4096 < (bs.length : Int)) = false := by simp; omega
  go_enter Try.func4, Try.ntmps4
  go_wp2_with fail
  refine (big_any v bs w hr).mono ?_
  rw [hb2]
  rintro e wb ⟨rfl, hwb⟩
  obtain rfl := hwb.symm
  clear hb2
  go_wp2_with fail
  refine (drawSeens_any v bs _ hr (by omega)).mono ?_
  rintro e w1 ⟨vL, vq, es, qs, rfl, ho1, hi1, hl1, hlq, hsm, b1⟩
  have HF : Hid (∀ x ∈ es, Fits x) := smallFitsM hsm
  have CSI : Hid (∀ W, RdE W vL es → RdI W vq qs → Calls Try.prog 16 #[vL, vq] W fun e w' => RowPost W (seensR es qs) e w') := fun W h1 h2 => implSeens_any vL vq es qs W h1 h2 HF.out
  have CSS : Hid (∀ W, RdE W vL es → RdI W vq qs → Calls Try.prog 18 #[vL, vq] W fun e w' => RowPost W (seensR es qs) e w') := fun W h1 h2 => specSeens_any vL vq es qs W h1 h2 HF.out
  have CBI : Hid (∀ W, RdE W vL es → RdI W vq qs → Calls Try.prog 17 #[vL, vq] W fun e w' => RowPost W (bottomR es qs) e w') := fun W h1 h2 => implBottom_any vL vq es qs W h1 h2 HF.out
  have CBS : Hid (∀ W, RdE W vL es → RdI W vq qs → Calls Try.prog 19 #[vL, vq] W fun e w' => RowPost W (bottomR es qs) e w') := fun W h1 h2 => specBottom_any vL vq es qs W h1 h2 HF.out
  have HT : Hid (toldS es qs = false → seensR es qs = [] ∧ bottomR es qs = []) := fun h => by unfold seensR bottomR; simp [h]
  have HSL : Hid (toldS es qs = true → seensR es qs = seensL es qs ∧ bottomR es qs = bottomOf (seensL es qs)) := fun h => by unfold seensR bottomR; simp [h]
  have HBS : Hid ((bottomR es qs).Sublist (seensR es qs)) := by unfold Hid; rw [bottomR_eq]; exact bottom_sub _
  have HSS : Hid ((seensR es qs).Sublist es) := by
    unfold Hid seensR
    split
    · rename_i h; exact seens_sub (told_ok h) qs
    · exact List.nil_sublist _
  have HBO : Hid (okL (bottomR es qs) = true) := by unfold Hid; rw [bottomR_eq]; exact bottom_ok (seensR_ok es qs)
  have HSO : Hid (okL (seensR es qs) = true) := seensR_ok es qs
  have HSH : Hid (toldS es qs = true → ∀ t ∈ qs ++ [1000000], shownL (seensR es qs) t = shownL es t ∧ shownL (bottomR es qs) t = shownL es t) := fun h t ht => by
    have ht2 : t ∈ qs ∨ t = 1000000 := by simpa using ht
    obtain ⟨e1, e2⟩ := HSL.out h
    have h1 := seens_shown (told_ok h) qs ht2
    rw [e1, e2, h1]
    exact ⟨rfl, (bottom_shown (seens_ok (told_ok h) qs) t).trans h1⟩
  have HAG : Hid (toldS es qs = true → bottomR (bottomR es qs) qs = bottomR es qs) := fun h => by
    have h2 : toldS (bottomR es qs) qs = true := by
      unfold toldS at h ⊢
      rw [HBO.out, Bool.true_and]
      simp only [Bool.and_eq_true] at h
      exact h.2
    rw [bottomR, if_pos h2, (HSL.out h).2]
    exact bottom_again (told_ok h) qs
  obtain ⟨S, hS⟩ : ∃ S, S = seensR es qs := ⟨_, rfl⟩
  obtain ⟨T, hT⟩ : ∃ T, T = bottomR es qs := ⟨_, rfl⟩
  rw [← hS] at CSI CSS HT HSL HBS HSS HSO HSH
  rw [← hT] at CBI CBS HT HSL HBS HBO HSH HAG
  have HFS : Hid (∀ x ∈ S, Fits x) := fitsSub HF.out HSS.out
  have HFT : Hid (∀ x ∈ T, Fits x) := fitsSub HFS.out HBS.out
  have hSl : S.length ≤ es.length := HSS.out.length_le
  have hTl : T.length ≤ S.length := HBS.out.length_le
  clear hsm hS hT HBS HSS
  go_wp2_with fail
  refine (CSI.out _ ho1.rd hi1.rd).mono ?_
  rintro e w2 ⟨vs, rfl, hs2, hb2⟩
  have b2 := b1.trans (hb2.mono b1.size)
  have ho2 := ho1.below hb2
  have hi2 := hi1.below hb2
  clear ho1 hi1 hb2 b1 CSI
  go_wp2_with fail
  refine (CBI.out _ ho2.rd hi2.rd).mono ?_
  rintro e w3 ⟨vt, rfl, ht3, hb3⟩
  have b3 := b2.trans (hb3.mono b2.size)
  have ho3 := ho2.below hb3
  have hi3 := hi2.below hb3
  have hs3 := hs2.below hb3
  clear ho2 hi2 hs2 hb3 b2 CBI
  go_wp2_with fail
  refine (CSS.out _ ho3.rd hi3.rd).mono ?_
  rintro e w4 ⟨vu, rfl, hu4, hb4⟩
  have b4 := b3.trans (hb4.mono b3.size)
  have ho4 := ho3.below hb4
  have hi4 := hi3.below hb4
  have hs4 := hs3.below hb4
  have ht4 := ht3.below hb4
  clear ho3 hi3 hs3 ht3 hb4 b3 CSS
  go_wp2_with fail
  refine (likeEnts_same _ _ S _ hs4.rd hu4.rd).mono ?_
  rintro e w5 ⟨rfl, n5, rfl⟩
  have b5 := belowN b4 n5
  have ho5 := ho4.drewN n5
  have hi5 := hi4.drewN n5
  have hs5 := hs4.drewN n5
  have ht5 := ht4.drewN n5
  generalize w4.drewN n5 = W5 at b5 ho5 hi5 hs5 ht5 ⊢
  clear ho4 hi4 hs4 ht4 hu4 b4
  go_wp2_with fail
  refine (CBS.out _ ho5.rd hi5.rd).mono ?_
  rintro e w6 ⟨vx, rfl, hu6, hb6⟩
  have b6 := b5.trans (hb6.mono b5.size)
  have ho6 := ho5.below hb6
  have hi6 := hi5.below hb6
  have hs6 := hs5.below hb6
  have ht6 := ht5.below hb6
  clear ho5 hi5 hs5 ht5 hb6 b5 CBS
  go_wp2_with fail
  refine (likeEnts_same _ _ T _ ht6.rd hu6.rd).mono ?_
  rintro e w7 ⟨rfl, n7, rfl⟩
  have b7 := belowN b6 n7
  have ho7 := ho6.drewN n7
  have hi7 := hi6.drewN n7
  have hs7 := hs6.drewN n7
  have ht7 := ht6.drewN n7
  generalize w6.drewN n7 = W7 at b7 ho7 hi7 hs7 ht7 ⊢
  clear ho6 hi6 hs6 ht6 hu6 b6
  obtain ⟨sa, sc, hvs, -⟩ := id hs7.rd
  obtain ⟨ta, tc, hvt, -⟩ := id ht7.rd
  obtain ⟨la, lc, hvl, -⟩ := id ho7.rd
  obtain ⟨aq, cq, hvq, hcq, -⟩ := id hi7.rd
  obtain ⟨sn, hsn⟩ : ∃ sn, sn = S.length := ⟨_, rfl⟩
  obtain ⟨tn, htn⟩ : ∃ tn, tn = T.length := ⟨_, rfl⟩
  obtain ⟨ln, hln⟩ : ∃ ln, ln = es.length := ⟨_, rfl⟩
  obtain ⟨qn, hqn⟩ : ∃ qn, qn = qs.length := ⟨_, rfl⟩
  have HSN : Hid (sn = S.length) := hsn
  have HTN : Hid (tn = T.length) := htn
  have HLN : Hid (ln = es.length) := hln
  have HQN : Hid (qn = qs.length) := hqn
  rw [← hsn] at hvs hSl hTl
  rw [← htn] at hvt hTl
  rw [← hln] at hvl hSl hl1
  rw [← hqn] at hvq hcq hlq
  subst hvs
  subst hvt
  subst hvl
  subst hvq
  clear hsn htn hln hqn
  go_wp2_with fail
  refine (specEntriesOk_any _ es _ ho7.rd HF.out).mono ?_
  rintro e w8 ⟨rfl, hb8⟩
  have b8 := b7.trans (hb8.mono b7.size)
  have ho8 := ho7.below hb8
  have hi8 := hi7.below hb8
  have hs8 := hs7.below hb8
  have ht8 := ht7.below hb8
  clear ho7 hi7 hs7 ht7 hb8 b7
  by_cases htold : toldS es qs = true
  · skip
    have hok := told_ok htold
    have hq20 : ¬ 20 < qn := by
      unfold toldS at htold
      simp only [Bool.and_eq_true, decide_eq_true_eq] at htold
      rw [HQN.out]; omega
    have HSH2 : Hid (∀ t ∈ qs ++ [1000000], shownL S t = shownL es t ∧ shownL T t = shownL es t) := HSH.out htold
    have HAG2 : Hid (∀ W u, RdE W u T → RdI W (.slice aq qn cq) qs → Calls Try.prog 17 #[u, .slice aq qn cq] W fun e w' => RowPost W T e w') := fun W u h1 h2 => by
      have := implBottom_any u _ T qs W h1 h2 HFT.out
      rw [HAG.out htold] at this
      exact this
    rw [hok]
    clear hok htold HT HSL HSH HAG
    have hn0 := ownI_none w8
    have bn := below1 w8 (.cells #[] 2)
    have hin := (hi8.below bn).rd
    go_wp2_with (at_builtin; (refine wpList_append_ints rfl _ _ rfl w8.heap.size _ _ [] qs rfl rfl hn0 hin (by rw [← HQN.out]; simp; omega) (by simp) ?_))
    intro v9 w9 ho9 hg9
    have b9 : Below w8.heap.size w8 w9 := bn.grown hg9 (by simp) (fun k hk => by have hk2 : w8.heap.size = k := Option.some.inj hk; omega)
    have b9a := b9.alloc b9.size (.cells #[.int .i64 1000000] 2)
    have ho9a := ho9.below (below1 w9 (.cells #[.int .i64 1000000] 2))
    have h1a := (ownI_one w9 1000000).rd
    clear hg9 bn hin hn0
    go_wp2_with (at_builtin; (refine wpList_append_ints rfl _ _ rfl w8.heap.size _ _ qs [1000000] rfl rfl ho9a h1a (by rw [← HQN.out]; simp; omega) b9a.size ?_))
    intro v10 w10 hm10 hg10
    have b10 : Below w8.heap.size w8 w10 := b9a.grown hg10 b9a.size (fun k hk => (World.ownsRow.lt ho9 k hk).1)
    have bw10 := b8.trans (b10.mono b8.size)
    have ho10 := ho8.below b10
    have hi10 := hi8.below b10
    have hs10 := hs8.below b10
    have ht10 := ht8.below b10
    obtain ⟨tm, htm⟩ : ∃ tm, tm = qs ++ [1000000] := ⟨_, rfl⟩
    rw [← htm] at hm10 HSH2
    obtain ⟨g10, c10, hv10⟩ := ownI_some hm10 (by rw [htm]; simp)
    obtain ⟨mn, hmn⟩ : ∃ mn, mn = tm.length := ⟨_, rfl⟩
    have HMN : Hid (mn = tm.length) := hmn
    have hm22 : mn ≤ 22 := by rw [hmn, htm, List.length_append, ← HQN.out]; simp; omega
    rw [← hmn] at hv10
    subst hv10
    obtain ⟨a10, cc10, hvv, hlc, hmc, _⟩ := id hm10.rd
    simp only [Value.slice.injEq] at hvv
    obtain ⟨h1x, h2x, rfl⟩ := hvv
    rw [← hmn] at hlc
    unfold maxLen at hmc
    clear h1x h2x hmn htm b10 hg10 b9 b9a ho9 ho9a h1a b8 ho8 hi8 hs8 ht8
    go_wp2
    go_loopw [8] (fun i wr => ∃ k : Nat, k ≤ mn ∧ i = .int .i64 k ∧ Below w10.heap.size w10 wr) (fun i _ => mn - (intOf i).toNat)
    case atStart => exact ⟨0, Nat.zero_le _, rfl, Below.refl _ _⟩
    case round =>
      obtain ⟨k, hk, rfl, hb⟩ := hrel
      by_cases hlt : k < mn
      · skip
        obtain ⟨b', o', hbo, hcq⟩ := (hm10.below hb).rd.at k (by rw [← HMN.out]; exact hlt)
        cases hbo
        simp only [Nat.zero_add] at hcq
        obtain ⟨t, htt⟩ : ∃ t, t = tm[k]'(by rw [← HMN.out]; exact hlt) := ⟨_, rfl⟩
        rw [← htt] at hcq
        obtain ⟨e1, e2⟩ := HSH2.out t (by rw [htt]; exact List.getElem_mem _)
        have CW : Hid (∀ W, RdE W (.slice la ln lc) es → Calls Try.prog 21 #[.slice la ln lc, .int .i64 t] W fun e w' => RowPost W (shownL es t) e w') := fun W h => specShown_any _ es t W h HF.out
        have CS : Hid (∀ W, RdE W (.slice sa sn sc) S → Calls Try.prog 22 #[.slice sa sn sc, .int .i64 t] W fun e w' => RowPost W (shownL es t) e w') := fun W h => implShown_at _ S t _ W h HFS.out e1
        have CT : Hid (∀ W, RdE W (.slice ta tn tc) T → Calls Try.prog 22 #[.slice ta tn tc, .int .i64 t] W fun e w' => RowPost W (shownL es t) e w') := fun W h => implShown_at _ T t _ W h HFT.out e2
        generalize shownL es t = ys at CW CS CT
        have hkc : k < c10 := by omega
        have hcl := World.block_lt_of_cell? wr _ hcq
        clear e1 e2 htt
        go_wp2_with fail
        refine (CW.out _ (ho10.below hb).rd).mono ?_
        rintro e wA ⟨vw, rfl, hwA, hbA⟩
        have bA := hb.trans (hbA.mono hb.size)
        have hcA := (hbA.cell hcl).trans hcq
        have hclA := World.block_lt_of_cell? wA _ hcA
        clear hcq hcl hbA hb
        go_wp2_with fail
        refine (CS.out _ (hs10.below bA).rd).mono ?_
        rintro e wB ⟨vy, rfl, hyB, hbB⟩
        have bB := bA.trans (hbB.mono bA.size)
        have hcB := (hbB.cell hclA).trans hcA
        have hwB := hwA.below hbB
        clear hcA hclA hbB bA hwA
        go_wp2_with fail
        refine (likeEnts_same _ _ ys _ hyB.rd hwB.rd).mono ?_
        rintro e wC ⟨rfl, nC, rfl⟩
        have bC := belowN bB nC
        have hwC := hwB.drewN nC
        have hcC : (wB.drewN nC).cell? ⟨g10, k, none⟩ = some (.int .i64 t) := hcB
        generalize wB.drewN nC = WC at bC hwC hcC ⊢
        have hclC := World.block_lt_of_cell? WC _ hcC
        clear hyB hwB hcB bB
        go_wp2_with fail
        refine (CT.out _ (ht10.below bC).rd).mono ?_
        rintro e wD ⟨vz, rfl, hzD, hbD⟩
        have bD := bC.trans (hbD.mono bC.size)
        have hwD := hwC.below hbD
        clear hcC hclC hbD bC hwC
        go_wp2_with fail
        refine (likeEnts_same _ _ ys _ hzD.rd hwD.rd).mono ?_
        rintro e wE ⟨rfl, nE, rfl⟩
        have bE := belowN bD nE
        clear hzD hwD bD
        go_wp2
        go_roundw
        case rel => exact ⟨k + 1, by omega, by go_num, bE⟩
        case measure => simp [intOf]; omega
      · skip
        go_wp2_with fail
        refine (implOk_yes _ S _ (hs10.below hb).rd HFS.out HSO.out).mono ?_
        rintro e wA ⟨rfl, hbA⟩
        have bA := hb.trans (hbA.mono hb.size)
        clear hb hbA
        go_wp2_with fail
        refine (implOk_yes _ T _ (ht10.below bA).rd HFT.out HBO.out).mono ?_
        rintro e wB ⟨rfl, hbB⟩
        have bB := bA.trans (hbB.mono bA.size)
        clear bA hbB
        go_wp2_with fail
        refine (HAG2.out _ _ (ht10.below bB).rd (hi10.below bB).rd).mono ?_
        rintro e wC ⟨vy, rfl, hyC, hbC⟩
        have bC := bB.trans (hbC.mono bB.size)
        clear bB hbC
        go_wp2_with fail
        refine (likeEnts_same _ _ T _ hyC.rd (ht10.below bC).rd).mono ?_
        rintro e wD ⟨rfl, nD, rfl⟩
        have bD := belowN (bw10.trans (bC.mono bw10.size)) nD
        clear bC hyC
        go_wp2
        go_ret
        exact ⟨rfl, bD⟩
  · skip
    have hf := Bool.eq_false_iff.2 htold
    obtain ⟨e1, e2⟩ := HT.out hf
    have hs0 : sn = 0 := by rw [HSN.out, e1]; rfl
    have ht0 : tn = 0 := by rw [HTN.out, e2]; rfl
    have hor : okL es = false ∨ (okL es = true ∧ 20 < qn) := by
      cases hok : okL es with
      | false => exact .inl rfl
      | true =>
        refine .inr ⟨rfl, ?_⟩
        unfold toldS at hf
        rw [hok, Bool.true_and, decide_eq_false_iff_not] at hf
        rw [HQN.out]; omega
    subst hs0
    subst ht0
    clear HT HSL HSH HAG htold hf e1 e2
    rcases hor with h | ⟨h, h20⟩
    · rw [h]
      go_wp2
      go_ret
      exact ⟨rfl, b8⟩
    · rw [h]
      go_wp2
      go_ret
      exact ⟨rfl, b8⟩
theorem own_fnSeens : ownKnob Try.prog.godebug = none := by kernel_rfl
theorem laidOut_fnSeens : laidOutB Try.prog = true := by kernel_rfl
set_option maxRecDepth 100000 in
theorem lifted_fnSeens (os : Os) (started : os.Started) (H : Type) (enc : TypeId × Value → H) :
    ReturnsInHanded {} Try.checked os 4 .any (Rows.fnSeensSpec.pre6 enc Try.prog Try.f4 Rows.fnSeensRow.domain false) (Rows.fnSeensSpec.post enc Try.prog Try.f4 false true false false) := by
  refine returnsInHanded_of_change (C := Try.checked) own_fnSeens started (by kernel_rfl) Try.func4
    (ChangeSpec.witness6 (enc := enc) (C := Try.checked) false ⟨#[], #[.slice none 0 0], []⟩ 8 (by kernel_rfl) (by kernel_rfl) (by kernel_rfl) (by kernel_rfl)) ?_
  intro W base args ds gs before hval0 hW hcnd _
  have hval : ∀ (j : Nat) t v, Try.f4.params[j]? = some t → args[j]? = some v → Value.okWide Try.prog W .any base t v := hval0
  have hW' := hW
  obtain ⟨p, q, hA0, hV, rfl, hfz, hnd⟩ := hW
  have hA : DataW.TrodAll enc Try.prog W 0 (fun _ => true) true Try.f4.params.toList args.toList ds p := hA0
  rw [Try.params4] at hA hval
  obtain ⟨v0, vs0, d0, ds0, p0, q0, hargs, rfl, rfl, h0, r0⟩ := trodAll_cons hA
  obtain ⟨rfl, rfl, rfl⟩ := trodAll_nil r0
  obtain rfl : args = #[v0] := by cases args; simp_all
  obtain ⟨rfl, rfl⟩ := trodVars_none hV
  obtain ⟨a0, len0, cap0, rfl⟩ := okWide_slice Try.underlying22 (hval 0 22 v0 rfl rfl)
  have k0 := h0
  have lt0 : ∀ x ∈ p0, x.block < W.heap.size := by obtain ⟨m, hm⟩ := k0; exact DataW.trod_lt m _ _ _ hm
  obtain ⟨bs0, hr0⟩ : ∃ bs, Rd W (.slice a0 len0 cap0) bs := by
    obtain ⟨fuel, hf⟩ := h0
    rcases open_ints Try.underlying22 Try.underlying5 (by kernel_rfl) hf with ⟨hcs, _⟩ | ⟨x, l, c, zs, hcs, _, hl, hm, hz, _, hcell, hwz⟩
    · simp [Value.cells] at hcs
      obtain ⟨rfl, rfl, rfl⟩ := hcs
      exact ⟨[], rd_nil W⟩
    · simp [Value.cells] at hcs
      obtain ⟨rfl, rfl, rfl⟩ := hcs
      exact rd_of hl hm (by simpa using hz) hcell hwz
  clear hA0 hval0
  refine (lawSeensF _ bs0 W hr0).mono fun e W' ⟨he, bel⟩ => ?_
  subst he
  exact ⟨_, rfl, _, _, _, [], _, [], hW', trodAll_mk1 (shut_bool Try.underlying4 _), (trodAll_cons_mk (Below.trod laidOut_fnSeens (by kernel_rfl) (of_decide_eq_true (by kernel_rfl)) k0 bel lt0) trodAll_mk0), rfl, bel.frame _, fun h => by cases h⟩
theorem over_fnSeens : Rows.fnSeensRow.holds Try.pinned (OpenSpec.ofChange Rows.fnSeensSpec) :=
  OpenClaim.holds_of_wide 4 Try.f4 rfl rfl rfl rfl rfl rfl rfl ⟨rfl, rfl, rfl, rfl, rfl⟩ rfl rfl rfl rfl rfl (by kernel_rfl) Try.func4 (by kernel_rfl)
    (of_decide_eq_true (by kernel_rfl)) (by unfold Func.isWrapper; first | (rw [if_pos (by decide +kernel)]; kernel_rfl) | (rw [if_neg (by decide +kernel)]; exact ⟨rfl, rfl⟩))
    (fun os started H enc _ => lifted_fnSeens os started H enc)
theorem fnSeens_holds : Rows.FnSeensSaid := over_fnSeens
#print axioms fnSeens_holds

end Go.Proofs.Ytihacdfchmobpaa
