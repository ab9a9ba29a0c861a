/- Whatever bank it is called with, laws.FnExactTotal returns true and its argument reads as before: both Totals tell the same, and what they are handed stays. No condition. -/
-- UNF Gen
import Derived.Test.YtmgapmhjkamigabRows
import Derived.Test.YtmgapmhjkamigabBnkOpen
import Derived.Test.YtmgapmhjkamigabBnkTot
import Derived.Test.YtmgapmhjkamigabBnkCp
import Derived.ProofKit
import Derived.OpenShut
import Derived.ShutString
import Derived.ChangeOld
namespace Go.Proofs.Ytmgapmhjkamigab
open Go.ChangeShapes Go.WideShapes Go.ChangeAt Go.RowKit
set_option maxHeartbeats 4000000 in
set_option maxRecDepth 100000 in
theorem lawTotal (X : BkX) (w : World) (hx : RdBk w X) :
    Calls Try.prog 4 #[.agg #[X.vm, X.vc]] w fun e w' => e = .returned (.bool true) ∧ Below w.heap.size w w' := by
  have t0 := bkAt_new w X 24
  have b0 := below1 w (.cells #[X.vm, X.vc] 24)
  have HSZ : Hid (Calls _ _ _ _ _) := szBank_any X _ (hx.below b0)
  obtain ⟨d0, d1⟩ := id t0
  go_enter Try.func4, Try.ntmps4
  go_wp2_with fail
  refine HSZ.out.mono ?_
  rintro e w1 ⟨hb1, z, rfl, hz⟩
  have t1 := t0.below hb1
  have b1 := b0.trans (hb1.mono b0.size)
  clear HSZ t0 b0 hb1 d0 d1
  rcases hz with hz | ⟨hz0, hsm⟩
  · subst hz
    go_wp2
    go_ret
    exact ⟨rfl, b1⟩
  have hsm2 : X.mon.length + X.cnt.length ≤ 1048576 := by unfold SmallBk at hsm; omega
  have HTO : Hid (∀ W, RdBk W X → Calls Try.prog 7 #[.agg #[X.vm, X.vc]] W fun e w' => ToBk W X.mon X.cnt e w') := fun W h => toBank_any X W h hsm2
  obtain ⟨ok, hok0⟩ : ∃ ok, ok = totR X.mon X.cnt := ⟨_, rfl⟩
  have HSP : Hid (∀ (Y : BkX) W, RdBk W Y → Y.mon = X.mon → Y.cnt = X.cnt → Calls Try.prog 13 #[.agg #[Y.vm, Y.vc]] W fun e w' => e = .returned (.int .i64 ok) ∧ Below W.heap.size W w') := fun Y W h h1 h2 => by rw [hok0, ← h1, ← h2]; exact specTotal_any Y W h
  have HIM : Hid (∀ (Y : BkX) W, RdBk W Y → Y.mon = X.mon → Y.cnt = X.cnt → Calls Try.prog 14 #[.agg #[Y.vm, Y.vc]] W fun e w' => e = .returned (.int .i64 ok) ∧ Below W.heap.size W w') := fun Y W h h1 h2 => by rw [hok0, ← h1, ← h2]; exact implTotal_any Y W h
  have hok : (ok != ok) = false := by simp
  obtain ⟨d0, d1⟩ := id t1
  clear hsm hsm2 hok0
  go_wp2_with fail
  refine (HTO.out _ (hx.below b1)).mono ?_
  rintro e w2 ⟨Y2, rfl, hs2, hl2, ho2, hb2⟩
  have t2 := t1.below hb2
  have b2 := b1.trans (hb2.mono b1.size)
  clear t1 hb2 d0 d1 b1
  go_wp2_with fail
  refine (HSP.out Y2 _ ho2.rd hs2 hl2).mono ?_
  rintro e w3 ⟨rfl, hb3⟩
  have t3 := t2.below hb3
  have b3 := b2.trans (hb3.mono b2.size)
  clear t2 hb3 ho2 hs2 hl2 b2
  obtain ⟨d0, d1⟩ := id t3
  go_wp2_with fail
  refine (HTO.out _ (hx.below b3)).mono ?_
  rintro e w4 ⟨Y4, rfl, hs4, hl4, ho4, hb4⟩
  have t4 := t3.below hb4
  have b4 := b3.trans (hb4.mono b3.size)
  obtain ⟨as4, cs4, v0⟩ := ownSl ho4.mon
  obtain ⟨al4, cl4, v1⟩ := ownSl ho4.cnt
  obtain ⟨vs4, vl4, secs4, late4⟩ := Y4
  simp only at v0 v1 hs4 hl4
  generalize secs4.length = sn at v0
  generalize late4.length = ln at v1
  subst v0
  subst v1
  clear t3 hb4 d0 d1 b3
  have x5 := bkAt_new w4 ⟨.slice as4 sn cs4, .slice al4 ln cl4, secs4, late4⟩ 28
  have bb5 := below1 w4 (.cells #[.slice as4 sn cs4, .slice al4 ln cl4] 28)
  simp only at x5
  have t5 := t4.below bb5
  have b5 := b4.trans (bb5.mono b4.size)
  have ho5 := ho4.below bb5
  obtain ⟨p0, p1⟩ := id x5
  simp only at p0 p1
  clear t4 b4 ho4 bb5
  go_wp2_with fail
  generalize w4.alloc (.cells #[.slice as4 sn cs4, .slice al4 ln cl4] 28) = W5 at x5 t5 b5 ho5 p0 p1 ⊢
  refine (HIM.out ⟨.slice as4 sn cs4, .slice al4 ln cl4, secs4, late4⟩ _ ho5.rd hs4 hl4).mono ?_
  rintro e w6 ⟨rfl, hb6⟩
  have x6 := x5.below hb6
  have t6 := t5.below hb6
  have b6 := b5.trans (hb6.mono b5.size)
  have ho6 := ho5.below hb6
  clear x5 t5 b5 ho5 p0 p1
  go_wp2_with fail
  refine wp_region_noPanic ?_
  refine wp_region_held_drew (S := fun w' => (w'.cell? ⟨w4.heap.size, 0, none⟩ = some (.slice as4 sn cs4) ∧ w'.cell? ⟨w4.heap.size, 1, none⟩ = some (.slice al4 ln cl4)) ∧ w'.cell? ⟨w.heap.size, 0, none⟩ = some X.vm ∧ w'.cell? ⟨w.heap.size, 1, none⟩ = some X.vc) (by kernel_rfl) ⟨x6, t6⟩ (fun hH => ?_)
  have qb := b6.drew
  have qo := ho6.below ((Below.refl _ w6).drew)
  clear x6 t6 b6 ho6
  revert qo
  revert qb
  revert hH
  generalize w6.drew = W7
  intro hH qb qo
  refine tkG 0 22 hH ?_
  try simp only [Act.put, List.setIfInBounds_toArray, List.set_cons_zero, List.set_cons_succ]
  refine tkG 1 23 hH ?_
  try simp only [Act.put, List.setIfInBounds_toArray, List.set_cons_zero, List.set_cons_succ]
  refine wpAnyH_ready (rs := [2]) (by kernel_rfl) (by simp) ?_
  refine AllReadyH.cons rfl (fun K hK => ?_) AllReadyH.nil
  go_simp
  refine (HTO.out _ (hx.below qb)).mono ?_
  rintro e w8 ⟨Y8, rfl, hs8, hl8, ho8, hb8⟩
  have hx8 : BkAt w8 w4.heap.size ⟨.slice as4 sn cs4, .slice al4 ln cl4, secs4, late4⟩ := BkAt.below (w := W7) hH.1 hb8
  have ht8 : BkAt w8 w.heap.size X := BkAt.below (w := W7) hH.2 hb8
  replace qb := qb.trans (hb8.mono qb.size)
  replace qo := qo.below hb8
  refine hK.out _ _ ⟨hx8, ht8⟩ (fun h8 => ?_)
  clear hK K hH hb8
  try simp only [Act.put, List.setIfInBounds_toArray, List.set_cons_zero, List.set_cons_succ]
  refine wpAnyH_ready (rs := [3]) (by kernel_rfl) (by simp) ?_
  refine AllReadyH.cons rfl (fun K hK => ?_) AllReadyH.nil
  go_simp
  refine (eqBank_same ⟨.slice as4 sn cs4, .slice al4 ln cl4, secs4, late4⟩ Y8 _ qo.rd ho8.rd (hs4.trans hs8.symm) (hl4.trans hl8.symm)).mono ?_
  rintro e w9 ⟨rfl, hb9⟩
  have qb9 := qb.trans (hb9.mono qb.size)
  refine hK.out _ _ ⟨hx8.below hb9, ht8.below hb9⟩ (fun h9 => ?_)
  clear hK K h8 hx8 ht8
  try simp only [Act.put, List.setIfInBounds_toArray, List.set_cons_zero, List.set_cons_succ]
  refine tkG 4 26 h9 ?_
  try simp only [Act.put, List.setIfInBounds_toArray, List.set_cons_zero, List.set_cons_succ]
  refine wpAnyH_done (by kernel_rfl) ?_ _
  refine NoPanic.normal ?_
  go_wp2
  go_ret
  exact ⟨rfl, qb9⟩
theorem own_fnExactTotal : ownKnob Try.prog.godebug = none := by kernel_rfl
theorem laidOut_fnExactTotal : laidOutB Try.prog = true := by kernel_rfl
set_option maxRecDepth 100000 in
theorem lifted_fnExactTotal (os : Os) (started : os.Started) (H : Type) (enc : TypeId × Value → H) :
    ReturnsInHanded {} Try.checked os 4 .any (Rows.fnExactTotalSpec.pre6 enc Try.prog Try.f4 Rows.fnExactTotalRow.domain false) (Rows.fnExactTotalSpec.post enc Try.prog Try.f4 false true false false) := by
  refine returnsInHanded_of_change (C := Try.checked) own_fnExactTotal started (by kernel_rfl) Try.func4
    (ChangeSpec.witness6 (enc := enc) (C := Try.checked) false ⟨#[], #[.agg #[.slice none 0 0, .slice none 0 0]], []⟩ 8 (by kernel_rfl) (by kernel_rfl) (by kernel_rfl) (by kernel_rfl)) ?_
  intro W base args ds gs before hval0 hW hcnd _
  have hval : ∀ (j : Nat) t v, Try.f4.params[j]? = some t → args[j]? = some v → Value.okWide Try.prog W .any base t v := hval0
  have hW' := hW
  obtain ⟨p, q, hA0, hV, rfl, hfz, hnd⟩ := hW
  have hA : DataW.TrodAll enc Try.prog W 0 (fun _ => true) true Try.f4.params.toList args.toList ds p := hA0
  rw [Try.params4] at hA hval
  obtain ⟨v0, vs0, d0, ds0, p0, q0, hargs, rfl, rfl, h0, r0⟩ := trodAll_cons hA
  obtain ⟨rfl, rfl, rfl⟩ := trodAll_nil r0
  obtain rfl : args = #[v0] := by cases args; simp_all
  obtain ⟨rfl, rfl⟩ := trodVars_none hV
  obtain ⟨c0, rfl, _⟩ := okWide_struct Try.underlying24 (hval 0 24 v0 rfl rfl)
  have k0 := h0
  have lt0 : ∀ x ∈ p0, x.block < W.heap.size := by obtain ⟨m, hm⟩ := k0; exact DataW.trod_lt m _ _ _ hm
  obtain ⟨X0, hc0, hx0⟩ : ∃ X : BkX, (Value.agg c0).cells.toList = [X.vm, X.vc] ∧ RdBk W X := by obtain ⟨m, hm⟩ := h0; exact open_bank hm
  obtain rfl : c0 = #[X0.vm, X0.vc] := by have h := congrArg List.toArray hc0; simp only [Value.cells, Array.toArray_toList] at h; exact h
  clear hA0 hval0
  refine (lawTotal X0 W hx0).mono fun e W' ⟨he, bel⟩ => ?_
  subst he
  exact ⟨_, rfl, _, _, _, [], _, [], hW', trodAll_mk1 (shut_bool Try.underlying4 _), (trodAll_cons_mk (Below.trod laidOut_fnExactTotal (by kernel_rfl) (of_decide_eq_true (by kernel_rfl)) k0 bel lt0) trodAll_mk0), rfl, bel.frame _, fun h => by cases h⟩
theorem over_fnExactTotal : Rows.fnExactTotalRow.holds Try.pinned (OpenSpec.ofChange Rows.fnExactTotalSpec) :=
  OpenClaim.holds_of_wide 4 Try.f4 rfl rfl rfl rfl rfl rfl rfl ⟨rfl, rfl, rfl, rfl, rfl⟩ rfl rfl rfl rfl rfl (by kernel_rfl) Try.func4 (by kernel_rfl)
    (of_decide_eq_true (by kernel_rfl)) (by unfold Func.isWrapper; first | (rw [if_pos (by decide +kernel)]; kernel_rfl) | (rw [if_neg (by decide +kernel)]; exact ⟨rfl, rfl⟩))
    (fun os started H enc _ => lifted_fnExactTotal os started H enc)
theorem fnExactTotal_holds : Rows.FnExactTotalSaid := over_fnExactTotal
#print axioms fnExactTotal_holds

end Go.Proofs.Ytmgapmhjkamigab
