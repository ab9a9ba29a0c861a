/- Whatever device and number it is called with, laws.FnExactLies returns true and its arguments read as before: both Lies tell the same, and what they are handed stays. No condition. -/
-- UNF Gen
import Derived.Test.YtofbfjkkiikelaaRows
import Derived.Test.YtofbfjkkiikelaaDevOpen
import Derived.Test.YtofbfjkkiikelaaDevSpe
import Derived.Test.YtofbfjkkiikelaaDevBar
import Derived.ProofKit
import Derived.OpenShut
import Derived.ShutString
import Derived.ChangeOld
namespace Go.Proofs.Ytofbfjkkiikelaa
open Go.ChangeShapes Go.WideShapes Go.ChangeAt Go.RowKit
set_option maxHeartbeats 4000000 in
set_option maxRecDepth 100000 in
theorem lawLies (X : DvX) (p : Int) (_ : (Lit.int .i64 p).wf = true) (w : World) (hx : RdDv w X) (hh : HeldDv X) :
    Calls Try.prog 7 #[.agg #[X.vs, X.vl], .int .i64 p] w fun e w' => e = .returned (.bool true) ∧ Below w.heap.size w w' := by
  have t0 := dvAt_new w X 46
  have b0 := below1 w (.cells #[X.vs, X.vl] 46)
  have HSZ : Hid (Calls _ _ _ _ _) := szDevice_any X _ (hx.below b0) hh
  obtain ⟨d0, d1⟩ := id t0
  go_enter Try.func7, Try.ntmps7
  go_wp2_with fail
  refine HSZ.out.mono ?_
  rintro e w1 ⟨hb1, z, rfl, hz⟩
  have t1 := t0.below hb1
  have b1 := b0.trans (hb1.mono b0.size)
  clear HSZ t0 b0 hb1 d0 d1
  rcases hz with hz | ⟨hz0, hsm⟩
  · subst hz
    go_wp2
    go_ret
    exact ⟨rfl, b1⟩
  have HTO : Hid (∀ W, RdDv W X → Calls Try.prog 27 #[.agg #[X.vs, X.vl]] W fun e w' => ToDv W X.secs X.late e w') := fun W h => toDevice_any X W h hsm
  obtain ⟨ok, hok0⟩ : ∃ ok, ok = liesL X.secs X.late p := ⟨_, rfl⟩
  have HSP : Hid (∀ (Y : DvX) W, RdDv W Y → Y.secs = X.secs → Y.late = X.late → Calls Try.prog 22 #[.agg #[Y.vs, Y.vl], .int .i64 p] W fun e w' => e = .returned (.string ok) ∧ Below W.heap.size W w') := fun Y W h h1 h2 => by rw [hok0, ← h1, ← h2]; exact specLies_any Y p W h
  have HIM : Hid (∀ (Y : DvX) W, RdDv W Y → Y.secs = X.secs → Y.late = X.late → Calls Try.prog 21 #[.agg #[Y.vs, Y.vl], .int .i64 p] W fun e w' => e = .returned (.string ok) ∧ Below W.heap.size W w') := fun Y W h h1 h2 => by rw [hok0, ← h1, ← h2]; exact implLies_any Y p W h
  obtain ⟨d0, d1⟩ := id t1
  clear hsm hh hok0
  go_wp2_with fail
  refine (HTO.out _ (hx.below b1)).mono ?_
  rintro e w2 ⟨Y2, rfl, hs2, hl2, ho2, hb2⟩
  have t2 := t1.below hb2
  have b2 := b1.trans (hb2.mono b1.size)
  clear t1 hb2 d0 d1 b1
  go_wp2_with fail
  refine (HSP.out Y2 _ ho2.rd hs2 hl2).mono ?_
  rintro e w3 ⟨rfl, hb3⟩
  have t3 := t2.below hb3
  have b3 := b2.trans (hb3.mono b2.size)
  clear t2 hb3 ho2 hs2 hl2 b2
  obtain ⟨d0, d1⟩ := id t3
  go_wp2_with fail
  refine (HTO.out _ (hx.below b3)).mono ?_
  rintro e w4 ⟨Y4, rfl, hs4, hl4, ho4, hb4⟩
  have t4 := t3.below hb4
  have b4 := b3.trans (hb4.mono b3.size)
  obtain ⟨as4, cs4, v0⟩ := own_slice ho4.secs
  obtain ⟨al4, cl4, v1⟩ := own_slice ho4.late
  obtain ⟨vs4, vl4, secs4, late4⟩ := Y4
  simp only at v0 v1 hs4 hl4
  generalize secs4.length = sn at v0
  generalize late4.length = ln at v1
  subst v0
  subst v1
  clear t3 hb4 d0 d1 b3
  have x5 := dvAt_new w4 ⟨.slice as4 sn cs4, .slice al4 ln cl4, secs4, late4⟩ 27
  have bb5 := below1 w4 (.cells #[.slice as4 sn cs4, .slice al4 ln cl4] 27)
  simp only at x5
  have t5 := t4.below bb5
  have b5 := b4.trans (bb5.mono b4.size)
  have ho5 := ho4.below bb5
  obtain ⟨p0, p1⟩ := id x5
  simp only at p0 p1
  clear t4 b4 ho4 bb5
  go_wp2_with fail
  generalize w4.alloc (.cells #[.slice as4 sn cs4, .slice al4 ln cl4] 27) = W5 at x5 t5 b5 ho5 p0 p1 ⊢
  refine (HIM.out ⟨.slice as4 sn cs4, .slice al4 ln cl4, secs4, late4⟩ _ ho5.rd hs4 hl4).mono ?_
  rintro e w6 ⟨rfl, hb6⟩
  have x6 := x5.below hb6
  have t6 := t5.below hb6
  have b6 := b5.trans (hb6.mono b5.size)
  have ho6 := ho5.below hb6
  clear x5 t5 b5 ho5 p0 p1
  go_wp2_with fail
  refine wp_region_noPanic ?_
  refine wp_region_held_drew (S := fun w' => (w'.cell? ⟨w4.heap.size, 0, none⟩ = some (.slice as4 sn cs4) ∧ w'.cell? ⟨w4.heap.size, 1, none⟩ = some (.slice al4 ln cl4)) ∧ w'.cell? ⟨w.heap.size, 0, none⟩ = some X.vs ∧ w'.cell? ⟨w.heap.size, 1, none⟩ = some X.vl) (by kernel_rfl) ⟨x6, t6⟩ (fun hH => ?_)
  have qb := b6.drew
  have qo := ho6.below ((Below.refl _ w6).drew)
  clear x6 t6 b6 ho6
  revert qo
  revert qb
  revert hH
  generalize w6.drew = W7
  intro hH qb qo
  refine tkG 0 26 hH ?_
  try simp only [Act.put, List.setIfInBounds_toArray, List.set_cons_zero, List.set_cons_succ]
  refine tkG 1 27 hH ?_
  try simp only [Act.put, List.setIfInBounds_toArray, List.set_cons_zero, List.set_cons_succ]
  refine wpAnyH_ready (rs := [2]) (by kernel_rfl) (by simp) ?_
  refine AllReadyH.cons rfl (fun K hK => ?_) AllReadyH.nil
  go_simp
  refine (HTO.out _ (hx.below qb)).mono ?_
  rintro e w8 ⟨Y8, rfl, hs8, hl8, ho8, hb8⟩
  have hx8 : DvAt w8 w4.heap.size ⟨.slice as4 sn cs4, .slice al4 ln cl4, secs4, late4⟩ := DvAt.below (w := W7) hH.1 hb8
  have ht8 : DvAt w8 w.heap.size X := DvAt.below (w := W7) hH.2 hb8
  replace qb := qb.trans (hb8.mono qb.size)
  replace qo := qo.below hb8
  refine hK.out _ _ ⟨hx8, ht8⟩ (fun h8 => ?_)
  clear hK K hH hb8
  try simp only [Act.put, List.setIfInBounds_toArray, List.set_cons_zero, List.set_cons_succ]
  refine wpAnyH_ready (rs := [3]) (by kernel_rfl) (by simp) ?_
  refine AllReadyH.cons rfl (fun K hK => ?_) AllReadyH.nil
  go_simp
  refine (eqDevice_same ⟨.slice as4 sn cs4, .slice al4 ln cl4, secs4, late4⟩ Y8 _ qo.rd ho8.rd (hs4.trans hs8.symm) (hl4.trans hl8.symm)).mono ?_
  rintro e w9 ⟨rfl, hb9⟩
  have qb9 := qb.trans (hb9.mono qb.size)
  refine hK.out _ _ ⟨hx8.below hb9, ht8.below hb9⟩ (fun h9 => ?_)
  clear hK K h8 hx8 ht8
  try simp only [Act.put, List.setIfInBounds_toArray, List.set_cons_zero, List.set_cons_succ]
  refine tkG 4 30 h9 ?_
  try simp only [Act.put, List.setIfInBounds_toArray, List.set_cons_zero, List.set_cons_succ]
  refine wpAnyH_done (by kernel_rfl) ?_ _
  refine NoPanic.normal ?_
  go_wp2
  go_ret
  exact ⟨rfl, qb9⟩
theorem own_fnExactLies : ownKnob Try.prog.godebug = none := by kernel_rfl
theorem laidOut_fnExactLies : laidOutB Try.prog = true := by kernel_rfl
set_option maxRecDepth 100000 in
theorem lifted_fnExactLies (os : Os) (started : os.Started) (H : Type) (enc : TypeId × Value → H) :
    ReturnsInHanded {} Try.checked os 7 .any (Rows.fnExactLiesSpec.pre6 enc Try.prog Try.f7 Rows.fnExactLiesRow.domain false) (Rows.fnExactLiesSpec.post enc Try.prog Try.f7 false true false false) := by
  refine returnsInHanded_of_change (C := Try.checked) own_fnExactLies started (by kernel_rfl) Try.func7
    (ChangeSpec.witness6 (enc := enc) (C := Try.checked) false ⟨#[], #[.agg #[.slice none 0 0, .slice none 0 0], .int .i64 0], []⟩ 8 (by kernel_rfl) (by kernel_rfl) (by kernel_rfl) (by kernel_rfl)) ?_
  intro W base args ds gs before hval0 hW hcnd _
  have hval : ∀ (j : Nat) t v, Try.f7.params[j]? = some t → args[j]? = some v → Value.okWide Try.prog W .any base t v := hval0
  have hW' := hW
  obtain ⟨p, q, hA0, hV, rfl, hfz, hnd⟩ := hW
  have hA : DataW.TrodAll enc Try.prog W 0 (fun _ => true) true Try.f7.params.toList args.toList ds p := hA0
  rw [Try.params7] at hA hval
  obtain ⟨v0, vs0, d0, ds0, p0, q0, hargs, rfl, rfl, h0, r0⟩ := trodAll_cons hA
  obtain ⟨v1, vs1, d1, ds1, p1, q1, rfl, rfl, rfl, h1, r1⟩ := trodAll_cons r0
  obtain ⟨rfl, rfl, rfl⟩ := trodAll_nil r1
  obtain rfl : args = #[v0, v1] := by cases args; simp_all
  obtain ⟨rfl, rfl⟩ := trodVars_none hV
  obtain ⟨c0, rfl, _⟩ := okWide_struct Try.underlying46 (hval 0 46 v0 rfl rfl)
  have k0 := h0
  have lt0 : ∀ x ∈ p0, x.block < W.heap.size := by obtain ⟨m, hm⟩ := k0; exact DataW.trod_lt m _ _ _ hm
  obtain ⟨X0, hc0, hx0, hh0⟩ : ∃ X : DvX, (Value.agg c0).cells.toList = [X.vs, X.vl] ∧ RdDv W X ∧ HeldDv X := by obtain ⟨m, hm⟩ := h0; exact open_device hm
  obtain rfl : c0 = #[X0.vs, X0.vl] := by have h := congrArg List.toArray hc0; simp only [Value.cells, Array.toArray_toList] at h; exact h
  obtain ⟨a1, rfl, rfl, rfl, w1⟩ := open_int Try.underlying2 (hval 1 2 v1 rfl rfl) h1
  clear hA0 hval0
  refine (lawLies X0 a1 w1 W hx0 hh0).mono fun e W' ⟨he, bel⟩ => ?_
  subst he
  exact ⟨_, rfl, _, _, _, [], _, [], hW', trodAll_mk1 (shut_bool Try.underlying4 _), (trodAll_cons_mk (Below.trod laidOut_fnExactLies (by kernel_rfl) (of_decide_eq_true (by kernel_rfl)) k0 bel lt0) (trodAll_cons_mk (shut_int Try.underlying2 w1) trodAll_mk0)), rfl, bel.frame _, fun h => by cases h⟩
theorem over_fnExactLies : Rows.fnExactLiesRow.holds Try.pinned (OpenSpec.ofChange Rows.fnExactLiesSpec) :=
  OpenClaim.holds_of_wide 7 Try.f7 rfl rfl rfl rfl rfl rfl rfl ⟨rfl, rfl, rfl, rfl, rfl⟩ rfl rfl rfl rfl rfl (by kernel_rfl) Try.func7 (by kernel_rfl)
    (of_decide_eq_true (by kernel_rfl)) (by unfold Func.isWrapper; first | (rw [if_pos (by decide +kernel)]; kernel_rfl) | (rw [if_neg (by decide +kernel)]; exact ⟨rfl, rfl⟩))
    (fun os started H enc _ => lifted_fnExactLies os started H enc)
theorem fnExactLies_holds : Rows.FnExactLiesSaid := over_fnExactLies
#print axioms fnExactLies_holds

end Go.Proofs.Ytofbfjkkiikelaa
