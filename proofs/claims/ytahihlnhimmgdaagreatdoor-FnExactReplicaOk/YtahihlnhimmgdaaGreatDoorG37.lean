/- The contract of the program's ProofOk. The contract of the program's voter.proofOk. -/
import Derived.Test.YtahihlnhimmgdaaGreatDoorGatImp
import Derived.Test.YtahihlnhimmgdaaGreatDoorPrfSpec
import Derived.Test.YtahihlnhimmgdaaGreatDoorG34
-- UNF Gen
namespace Go.Proofs.YtahihlnhimmgdaaGreatDoor
open Go.RowKit
theorem fit_votesR {p : Prf} (h : FitPr p) : ∀ x ∈ votesR p, FitVo x := by
  intro x hx
  unfold votesR at hx
  split at hx
  · rename_i hl
    obtain ⟨i, hi, rfl⟩ := (votesL_mem p x).1 hx
    refine ⟨h.vw, h.nm, ?_, ?_⟩
    · show _ ≤ nI p.sv i ∧ nI p.sv i ≤ _
      rw [nI_eq hi]; exact h.sv _ (List.getElem_mem hi)
    · show _ ≤ nI p.tg i ∧ nI p.tg i ≤ _
      rw [nI_eq (by rw [← hl.1]; exact hi)]; exact h.tg _ (List.getElem_mem _)
  · cases hx
set_option maxHeartbeats 8000000 in
set_option maxRecDepth 100000 in
theorem implProofOk_any (X : PrX) (n : Int) (w : World) (hr : RdPr w X) (hf : FitPr X.p) (ht : Tab w) :
    Calls Tryz.prog 147 #[.agg #[.int .i64 X.p.vw, .int .i64 X.p.nm, X.vs, X.vt], .int .i64 n] w fun e w' => e = .returned (.bool (prfR X.p n)) ∧ Below w.heap.size w w' := by
  obtain ⟨p, vs, vt⟩ := X
  obtain ⟨hrs, hrt⟩ := hr
  simp only at hrs hrt hf ⊢
  obtain ⟨a1, c1, hv1, -⟩ := id hrs
  obtain ⟨a2, c2, hv2, -⟩ := id hrt
  obtain ⟨n1, hn1⟩ : ∃ n1, n1 = p.sv.length := ⟨_, rfl⟩
  obtain ⟨n2, hn2⟩ : ∃ n2, n2 = p.tg.length := ⟨_, rfl⟩
  have HFB : Hid ((decide (p.vw = 0) && (decide (p.nm = 0) && (decide (n1 = 0) && decide (n2 = 0)))) = frsB p) := by unfold Hid; rw [hn1, hn2]; rfl
  rw [← hn1] at hv1
  rw [← hn2] at hv2
  subst hv1 hv2
  have HT : Hid (Tab w) := ht
  have HRS : Hid (RdI w (.slice a1 n1 c1) p.sv) := hrs
  have X0 := bx_new w 26 #[.int .i64 p.vw, .int .i64 p.nm, .slice a1 n1 c1, .slice a2 n2 c2]
  have HB0 : Hid (Below w.heap.size w (w.alloc (.cells #[.int .i64 p.vw, .int .i64 p.nm, .slice a1 n1 c1, .slice a2 n2 c2] 26))) := below1 w _
  have HFR : Hid (∀ b, frsB p = b → ∀ W, Calls Tryz.prog 183 #[.agg #[.int .i64 p.vw, .int .i64 p.nm, .slice a1 n1 c1, .slice a2 n2 c2]] W fun e w' => e = .returned (.bool b) ∧ Below W.heap.size W w') := fun b h W => isFirst_any p.vw p.nm a1 a2 n1 c1 n2 c2 b (HFB.out.trans h) W
  have HQ : Hid (∀ z, quoR n = z → ∀ W, Calls Tryz.prog 163 #[.int .i64 n] W fun e w' => e = .returned (.int .i64 z) ∧ w' = W) := fun z hz W => implQuorumZ_any z n hz W
  have HVT : Hid (∀ W, Below w.heap.size w W → Calls Tryz.prog 184 #[.agg #[.int .i64 p.vw, .int .i64 p.nm, .slice a1 n1 c1, .slice a2 n2 c2]] W fun e w' => VotesP W p e w') := fun W hb => votes_at p a1 a2 n1 c1 n2 c2 W (hrs.below hb) (hrt.below hb) hn1 hn2
  have HGA : Hid (∀ u W, RdVo W u (votesR p) → Tab W → Calls Tryz.prog 174 #[u, .int .i64 n] W fun e w' => GatP W (gatR (votesR p) n) e w') := fun u W h t => implGathered_any u _ n W h (fit_votesR hf) t
  have HPG := prf_gat p n
  clear hrs hrt hf hn1 hn2 HFB ht
  obtain ⟨p0, p1, p2, p3⟩ := X0.c4
  cases hFr : frsB p with
  | true =>
    have HFf : Hid (frsB p = true) := hFr
    have RES : Hid (prfR p n = srvB n) := by unfold Hid; rw [HPG, hFr]; rfl
    clear hFr HPG X0
    cases hS : srvB n with
    | false =>
      have HQf : Hid (quoR n = -1) := quoR_no hS
      rw [hS] at RES
      clear hS
      go_enter Tryz.func147, Tryz.ntmps147
      go_wp2_with fail
      refine (HFR.out true HFf.out _).mono ?_
      rintro e w2 ⟨rfl, hb2⟩
      have bz := HB0.out.trans (hb2.mono HB0.out.size)
      clear hb2 p0 p1 p2 p3
      go_wp2_with fail
      refine (HQ.out _ HQf.out _).mono ?_
      rintro e w3 ⟨rfl, rfl⟩
      go_wp2
      go_ret
      exact ⟨ret_bool RES.out.symm, bz⟩
    | true =>
      have hq0 := (quoR_yes hS).1
      obtain ⟨q, hq⟩ : ∃ q, quoR n = q := ⟨_, rfl⟩
      rw [hq] at hq0
      have HQf : Hid (quoR n = q) := hq
      have hqn : (q != -1) = true := by simp; omega
      rw [hS] at RES
      clear hS hq
      go_enter Tryz.func147, Tryz.ntmps147
      go_wp2_with fail
      refine (HFR.out true HFf.out _).mono ?_
      rintro e w2 ⟨rfl, hb2⟩
      have bz := HB0.out.trans (hb2.mono HB0.out.size)
      clear hb2 p0 p1 p2 p3
      go_wp2_with fail
      refine (HQ.out _ HQf.out _).mono ?_
      rintro e w3 ⟨rfl, rfl⟩
      go_wp2
      go_ret
      exact ⟨ret_bool RES.out.symm, bz⟩
  | false =>
    have HFf : Hid (frsB p = false) := hFr
    have RES : Hid (prfR p n = match gatR (votesR p) n with | none => false | some q => decide (q.sv = p.sv)) := by unfold Hid; rw [HPG, hFr]; rfl
    obtain ⟨G, hG⟩ : ∃ G, G = gatR (votesR p) n := ⟨_, rfl⟩
    rw [← hG] at RES HGA
    clear hFr HPG hG
    go_enter Tryz.func147, Tryz.ntmps147
    go_wp2_with fail
    refine (HFR.out false HFf.out _).mono ?_
    rintro e w2 ⟨rfl, hb2⟩
    have X2 := X0.below hb2
    have b2 := HB0.out.trans (hb2.mono HB0.out.size)
    clear hb2 p0 p1 p2 p3 X0
    obtain ⟨p0, p1, p2, p3⟩ := X2.c4
    go_wp2_with fail
    refine (HVT.out _ b2).mono ?_
    rintro e w3 ⟨u, rfl, ou, hb3⟩
    have X3 := X2.below hb3
    have b3 := b2.trans (hb3.mono b2.size)
    obtain ⟨ua, uc, hu⟩ := ownSlX ou
    have OU : Hid (RdVo w3 u (votesR p)) := ou.rd
    generalize (votesR p).length = un at hu
    subst hu
    clear ou hb3 p0 p1 p2 p3 X2 b2
    go_wp2_with fail
    refine (HGA.out _ _ OU.out (HT.out.on b3)).mono ?_
    rintro e w4 ⟨Y, rfl, hY, oY, hb4⟩
    have X4 := X3.below hb4
    have b4 := b3.trans (hb4.mono b3.size)
    obtain ⟨d1, e1, d2, e2, hys, hyt⟩ := oY.slices
    obtain ⟨yp, ys, yt⟩ := Y
    simp only at hY hys hyt oY
    have HYY : Hid (yp = G.getD prfZ) := hY
    clear hY
    have HRY : Hid (RdI w4 ys yp.sv) := oY.sv.rd
    generalize yp.sv.length = l1 at hys
    generalize yp.tg.length = l2 at hyt
    subst hys hyt
    clear X3 b3 hb4 oY OU
    have Y5 := bx_new w4 26 #[.int .i64 yp.vw, .int .i64 yp.nm, .slice d1 l1 e1, .slice d2 l2 e2]
    have b5 := b4.alloc b4.size (.cells #[.int .i64 yp.vw, .int .i64 yp.nm, .slice d1 l1 e1, .slice d2 l2 e2] 26)
    have X5 := X4.below (below1 w4 (.cells #[.int .i64 yp.vw, .int .i64 yp.nm, .slice d1 l1 e1, .slice d2 l2 e2] 26))
    have HRY5 : Hid (RdI (w4.alloc (.cells #[.int .i64 yp.vw, .int .i64 yp.nm, .slice d1 l1 e1, .slice d2 l2 e2] 26)) (.slice d1 l1 e1) yp.sv) := HRY.out.below (below1 w4 _)
    have HRS5 : Hid (RdI (w4.alloc (.cells #[.int .i64 yp.vw, .int .i64 yp.nm, .slice d1 l1 e1, .slice d2 l2 e2] 26)) (.slice a1 n1 c1) p.sv) := HRS.out.below b5
    have HB5 : Hid (Below w.heap.size w (w4.alloc (.cells #[.int .i64 yp.vw, .int .i64 yp.nm, .slice d1 l1 e1, .slice d2 l2 e2] 26))) := b5
    obtain ⟨-, -, p2, -⟩ := X5.c4
    obtain ⟨-, -, y2, -⟩ := Y5.c4
    clear X4 X5 Y5 b4 b5
    cases G with
    | none =>
      clear p2 y2
      simp only [Option.isSome]
      go_wp2
      go_ret
      exact ⟨ret_bool RES.out.symm, HB5.out⟩
    | some q =>
      have HE : Hid (decide (yp.sv = p.sv) = prfR p n) := by unfold Hid; rw [RES.out, HYY.out]; rfl
      simp only [Option.isSome]
      clear HYY RES
      go_wp2_with fail
      refine (equalI_any (prfR p n) _ _ yp.sv p.sv HE.out _ HRY5.out HRS5.out).mono ?_
      rintro e w6 ⟨rfl, hb6⟩
      have b6 := HB5.out.trans (hb6.mono HB5.out.size)
      clear p2 y2 hb6 HRY5 HRS5
      go_wp2
      go_ret
      exact ⟨rfl, b6⟩
end Go.Proofs.YtahihlnhimmgdaaGreatDoor
-- UNF Gen
namespace Go.Proofs.YtahihlnhimmgdaaGreatDoor
open Go.RowKit
set_option maxHeartbeats 4000000 in
set_option maxRecDepth 100000 in
theorem proofOkV_any {w0 W : World} {g : Nat} {V : Vt} (P : PrX) (h : VtA w0 W g V) (hp : RdPr W P) (hf : FitPr P.p) (ht : Tab W) :
    Calls Tryz.prog 123 #[.pointer (some ⟨g, 0, none⟩), .agg #[.int .i64 P.p.vw, .int .i64 P.p.nm, P.vs, P.vt]] W fun e w' => e = .returned (.bool (prfR P.p V.X.n && knoB (bsOf V.X.bs) P.p)) ∧ Below W.heap.size W w' := by
  have hg := h.lt
  have hn : W.cell? ⟨g, 1, none⟩ = some (.int .i64 V.X.n) := h.box.c17.2.1
  obtain ⟨⟨pv, pn, ps, pt⟩, pvs, pvt⟩ := P
  obtain ⟨p, hpp⟩ : ∃ z, prfR ⟨pv, pn, ps, pt⟩ V.X.n = z := ⟨_, rfl⟩
  obtain ⟨k, hkk⟩ : ∃ z, knoB (bsOf V.X.bs) ⟨pv, pn, ps, pt⟩ = z := ⟨_, rfl⟩
  obtain ⟨n, hne⟩ : ∃ n, n = V.X.n := ⟨_, rfl⟩
  rw [← hne] at hn hpp
  simp only
  rw [hkk, ← hne, hpp]
  have HPO : Hid (∀ W', Below W.heap.size W W' → Calls Tryz.prog 147 #[.agg #[.int .i64 pv, .int .i64 pn, pvs, pvt], .int .i64 n] W' fun e w' => e = .returned (.bool p) ∧ Below W'.heap.size W' w') := fun W' hb => by rw [← hpp]; exact implProofOk_any ⟨⟨pv, pn, ps, pt⟩, pvs, pvt⟩ n W' (hp.below hb) hf (ht.on hb)
  have HKN : Hid (∀ W', Below W.heap.size W W' → Calls Tryz.prog 166 #[.pointer (some ⟨g, 0, none⟩), .agg #[.int .i64 pv, .int .i64 pn, pvs, pvt]] W' fun e w' => e = .returned (.bool k) ∧ Below W'.heap.size W' w') := fun W' hb => by rw [← hkk]; exact knowsV_any ⟨⟨pv, pn, ps, pt⟩, pvs, pvt⟩ (h.next hb) (hp.below hb) hf
  have t2 := bx_new W 26 #[.int .i64 pv, .int .i64 pn, pvs, pvt]
  have b2 := below1 W (.cells #[.int .i64 pv, .int .i64 pn, pvs, pvt] 26)
  clear hpp hkk hne h hp hf ht
  go_enter Tryz.func123, Tryz.ntmps123
  cases p with
  | false =>
    go_wp2_with fail
    generalize W.alloc (.cells #[.int .i64 pv, .int .i64 pn, pvs, pvt] 26) = W2 at t2 b2 ⊢
    refine wp_region_noPanic ?_
    refine wp_region_held_drew (S := fun w' => (w'.cell? ⟨W.heap.size, 0, none⟩ = some (.int .i64 pv) ∧ w'.cell? ⟨W.heap.size, 1, none⟩ = some (.int .i64 pn) ∧ w'.cell? ⟨W.heap.size, 2, none⟩ = some (pvs) ∧ w'.cell? ⟨W.heap.size, 3, none⟩ = some (pvt)) ∧ w'.cell? ⟨g, 1, none⟩ = some (.int .i64 n)) (by kernel_rfl) ⟨(t2.below (Below.refl _ _).drew).c4, (b2.drew.cell (p := ⟨g, 1, none⟩) hg).trans hn⟩ (fun h0 => ?_)
    refine tkG 0 5 h0 ?_
    try simp only [Act.put, List.setIfInBounds_toArray, List.set_cons_zero, List.set_cons_succ]
    refine tkG 1 6 h0 ?_
    try simp only [Act.put, List.setIfInBounds_toArray, List.set_cons_zero, List.set_cons_succ]
    refine tkG 2 7 h0 ?_
    try simp only [Act.put, List.setIfInBounds_toArray, List.set_cons_zero, List.set_cons_succ]
    refine tkG 3 8 h0 ?_
    try simp only [Act.put, List.setIfInBounds_toArray, List.set_cons_zero, List.set_cons_succ]
    refine tkG 4 9 h0 ?_
    try simp only [Act.put, List.setIfInBounds_toArray, List.set_cons_zero, List.set_cons_succ]
    refine tkG 5 10 h0 ?_
    try simp only [Act.put, List.setIfInBounds_toArray, List.set_cons_zero, List.set_cons_succ]
    refine wpAnyH_ready (rs := [6]) (by kernel_rfl) (by simp) ?_
    refine AllReadyH.cons rfl (fun K hK => ?_) AllReadyH.nil
    go_simp
    refine (HPO.out _ b2.drew).mono ?_
    rintro e w5 ⟨rfl, hb5⟩
    have b5 := b2.drew.trans (hb5.mono b2.drew.size)
    have t5 := (t2.below (Below.refl _ _).drew).below hb5
    refine hK.out _ _ (⟨t5.c4, (b5.cell (p := ⟨g, 1, none⟩) hg).trans hn⟩) (fun h1 => ?_)
    clear hK K
    try simp only [Act.put, List.setIfInBounds_toArray, List.set_cons_zero, List.set_cons_succ]
    clear h0
    refine tkG 7 12 h1 ?_
    try simp only [Act.put, List.setIfInBounds_toArray, List.set_cons_zero, List.set_cons_succ]
    refine tkS 8 13 h1 ?_
    try simp only [Act.put, List.setIfInBounds_toArray, List.set_cons_zero, List.set_cons_succ]
    refine tkS 9 14 h1 ?_
    try simp only [Act.put, List.setIfInBounds_toArray, List.set_cons_zero, List.set_cons_succ]
    refine tkS 10 15 h1 ?_
    try simp only [Act.put, List.setIfInBounds_toArray, List.set_cons_zero, List.set_cons_succ]
    refine tkG 11 16 h1 ?_
    try simp only [Act.put, List.setIfInBounds_toArray, List.set_cons_zero, List.set_cons_succ]
    refine tkG 12 4 h1 ?_
    try simp only [Act.put, List.setIfInBounds_toArray, List.set_cons_zero, List.set_cons_succ]
    refine wpAnyH_done (by kernel_rfl) ?_ _
    refine NoPanic.normal ?_
    go_wp2
    go_ret
    exact ⟨rfl, b5⟩
  | true =>
    go_wp2_with fail
    generalize W.alloc (.cells #[.int .i64 pv, .int .i64 pn, pvs, pvt] 26) = W2 at t2 b2 ⊢
    refine wp_region_noPanic ?_
    refine wp_region_held_drew (S := fun w' => (w'.cell? ⟨W.heap.size, 0, none⟩ = some (.int .i64 pv) ∧ w'.cell? ⟨W.heap.size, 1, none⟩ = some (.int .i64 pn) ∧ w'.cell? ⟨W.heap.size, 2, none⟩ = some (pvs) ∧ w'.cell? ⟨W.heap.size, 3, none⟩ = some (pvt)) ∧ w'.cell? ⟨g, 1, none⟩ = some (.int .i64 n)) (by kernel_rfl) ⟨(t2.below (Below.refl _ _).drew).c4, (b2.drew.cell (p := ⟨g, 1, none⟩) hg).trans hn⟩ (fun h0 => ?_)
    refine tkG 0 5 h0 ?_
    try simp only [Act.put, List.setIfInBounds_toArray, List.set_cons_zero, List.set_cons_succ]
    refine tkG 1 6 h0 ?_
    try simp only [Act.put, List.setIfInBounds_toArray, List.set_cons_zero, List.set_cons_succ]
    refine tkG 2 7 h0 ?_
    try simp only [Act.put, List.setIfInBounds_toArray, List.set_cons_zero, List.set_cons_succ]
    refine tkG 3 8 h0 ?_
    try simp only [Act.put, List.setIfInBounds_toArray, List.set_cons_zero, List.set_cons_succ]
    refine tkG 4 9 h0 ?_
    try simp only [Act.put, List.setIfInBounds_toArray, List.set_cons_zero, List.set_cons_succ]
    refine tkG 5 10 h0 ?_
    try simp only [Act.put, List.setIfInBounds_toArray, List.set_cons_zero, List.set_cons_succ]
    refine wpAnyH_ready (rs := [6]) (by kernel_rfl) (by simp) ?_
    refine AllReadyH.cons rfl (fun K hK => ?_) AllReadyH.nil
    go_simp
    refine (HPO.out _ b2.drew).mono ?_
    rintro e w5 ⟨rfl, hb5⟩
    have b5 := b2.drew.trans (hb5.mono b2.drew.size)
    have t5 := (t2.below (Below.refl _ _).drew).below hb5
    refine hK.out _ _ (⟨t5.c4, (b5.cell (p := ⟨g, 1, none⟩) hg).trans hn⟩) (fun h1 => ?_)
    clear hK K
    try simp only [Act.put, List.setIfInBounds_toArray, List.set_cons_zero, List.set_cons_succ]
    clear h0
    refine tkG 7 12 h1 ?_
    try simp only [Act.put, List.setIfInBounds_toArray, List.set_cons_zero, List.set_cons_succ]
    refine tkG 8 13 h1 ?_
    try simp only [Act.put, List.setIfInBounds_toArray, List.set_cons_zero, List.set_cons_succ]
    refine tkG 9 14 h1 ?_
    try simp only [Act.put, List.setIfInBounds_toArray, List.set_cons_zero, List.set_cons_succ]
    refine wpAnyH_ready (rs := [10]) (by kernel_rfl) (by simp) ?_
    refine AllReadyH.cons rfl (fun K hK => ?_) AllReadyH.nil
    go_simp
    refine (HKN.out _ b5).mono ?_
    rintro e w6 ⟨rfl, hb6⟩
    have b6 := b5.trans (hb6.mono b5.size)
    have t6 := t5.below hb6
    refine hK.out _ _ (⟨t6.c4, (b6.cell (p := ⟨g, 1, none⟩) hg).trans hn⟩) (fun h2 => ?_)
    clear hK K
    try simp only [Act.put, List.setIfInBounds_toArray, List.set_cons_zero, List.set_cons_succ]
    clear h1
    refine tkG 11 16 h2 ?_
    try simp only [Act.put, List.setIfInBounds_toArray, List.set_cons_zero, List.set_cons_succ]
    refine tkG 12 4 h2 ?_
    try simp only [Act.put, List.setIfInBounds_toArray, List.set_cons_zero, List.set_cons_succ]
    refine wpAnyH_done (by kernel_rfl) ?_ _
    refine NoPanic.normal ?_
    go_wp2
    go_ret
    exact ⟨rfl, b6⟩
end Go.Proofs.YtahihlnhimmgdaaGreatDoor
