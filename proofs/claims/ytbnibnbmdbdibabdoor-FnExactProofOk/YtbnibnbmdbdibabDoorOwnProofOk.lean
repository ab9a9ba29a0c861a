/- Whatever proof and number it is called with, laws.FnExactProofOk returns true and its argument reads as before: both ProofOk tell the same. Condition: the three listed tables of the Go library hold what its text lays there (tied by the card). -/
-- UNF Gen
import Derived.Test.YtbnibnbmdbdibabDoorRows
import Derived.Test.YtbnibnbmdbdibabDoorCards
import Derived.Test.YtbnibnbmdbdibabDoorTie
import Derived.Test.YtbnibnbmdbdibabDoorPrfIok
import Derived.Test.YtbnibnbmdbdibabDoorPrfCp
import Derived.Test.YtbnibnbmdbdibabDoorLaid
import Derived.ProofKit
import Derived.OpenShut
import Derived.ShutString
import Derived.ChangeOld
import Derived.LaidMore
import Derived.SevenTiedAt
import Derived.Stop.Joined
namespace Go.Proofs.YtbnibnbmdbdibabDoor
open Go.ChangeShapes Go.WideShapes Go.ChangeAt Go.RowKit
set_option maxHeartbeats 4000000 in
set_option maxRecDepth 100000 in
theorem lawProofOk (X : PrX) (n : Int) (_ : (Lit.int .i64 n).wf = true) (w : World) (hr : RdPr w X) (hf : FitPr X.p) (ht : Tab w) :
    Calls Tryd.prog 3 #[.agg #[.int .i64 X.p.vw, .int .i64 X.p.nm, X.vs, X.vt], .int .i64 n] w fun e w' => e = .returned (.bool true) ∧ Below w.heap.size w w' := by
  have t0 := bx_new w 24 #[.int .i64 X.p.vw, .int .i64 X.p.nm, X.vs, X.vt]
  have b0 := below1 w (.cells #[.int .i64 X.p.vw, .int .i64 X.p.nm, X.vs, X.vt] 24)
  obtain ⟨ok, hok⟩ : ∃ ok, ok = prfR X.p n := ⟨_, rfl⟩
  have hne : (ok != ok) = false := by simp
  have HSP : Hid (∀ (Y : PrX) W, Y.p = X.p → RdPr W Y → Calls Tryd.prog 7 #[.agg #[.int .i64 X.p.vw, .int .i64 X.p.nm, Y.vs, Y.vt], .int .i64 n] W fun e w' => e = .returned (.bool ok) ∧ Below W.heap.size W w') := fun Y W hp h => by have := specProofOk_any Y n W h (by rw [hp]; exact hf); rw [hp] at this; rw [hok]; exact this
  have HIM : Hid (∀ (Y : PrX) W, Y.p = X.p → RdPr W Y → Tab W → Calls Tryd.prog 9 #[.agg #[.int .i64 X.p.vw, .int .i64 X.p.nm, Y.vs, Y.vt], .int .i64 n] W fun e w' => e = .returned (.bool ok) ∧ Below W.heap.size W w') := fun Y W hp h t => by have := implProofOk_any Y n W h (by rw [hp]; exact hf) t; rw [hp] at this; rw [hok]; exact this
  clear hok hf
  obtain ⟨q0, q1, q2, q3⟩ := t0.c4
  go_enter Tryd.func3, Tryd.ntmps3
  go_wp2_with fail
  refine (szProof_any X 1048576 _ (hr.below b0) (by omega) (by omega)).mono ?_
  rintro e w1 ⟨hb1, z, rfl, hz⟩
  have t1 := t0.below hb1
  have b1 := b0.trans (hb1.mono b0.size)
  clear t0 b0 hb1 q0 q1 q2 q3
  rcases hz with hz | ⟨hz0, hz1⟩
  · subst hz
    go_wp2
    go_ret
    exact ⟨rfl, b1⟩
  have HTO : Hid (∀ W, RdPr W X → Calls Tryd.prog 8 #[.agg #[.int .i64 X.p.vw, .int .i64 X.p.nm, X.vs, X.vt]] W fun e w' => ToPr W X.p e w') := fun W h => toProof_any X W h (by omega)
  obtain ⟨q0, q1, q2, q3⟩ := t1.c4
  go_wp2_with fail
  refine (HTO.out _ (hr.below b1)).mono ?_
  rintro e w2 ⟨Y1, rfl, hY1, oY1, hb2⟩
  have t2 := t1.below hb2
  have b2 := b1.trans (hb2.mono b1.size)
  clear t1 b1 hb2 q0 q1 q2 q3
  rw [hY1]
  obtain ⟨a1, c1, a2, c2, hs1, hs2⟩ := oY1.slices
  have HSP1 := HSP.out Y1 w2 hY1 oY1.rd
  rw [hs1, hs2] at HSP1 ⊢
  generalize Y1.p.sv.length = l1 at HSP1 ⊢
  generalize Y1.p.tg.length = l2 at HSP1 ⊢
  have HSP2 : Hid (Calls _ _ _ _ _) := HSP1
  clear HSP1 hs1 hs2 oY1 hY1
  go_wp2_with fail
  refine HSP2.out.mono ?_
  rintro e w3 ⟨rfl, hb3⟩
  have t3 := t2.below hb3
  have b3 := b2.trans (hb3.mono b2.size)
  clear t2 b2 hb3 HSP2
  obtain ⟨q0, q1, q2, q3⟩ := t3.c4
  go_wp2_with fail
  refine (HTO.out _ (hr.below b3)).mono ?_
  rintro e w4 ⟨Y2, rfl, hY2, oY2, hb4⟩
  have t4 := t3.below hb4
  have b4 := b3.trans (hb4.mono b3.size)
  clear t3 b3 hb4 q0 q1 q2 q3
  obtain ⟨yp, ys, yt⟩ := Y2
  simp only at hY2 oY2
  subst hY2
  obtain ⟨a3, c3, a4, c4, hs3, hs4⟩ := oY2.slices
  simp only at hs3 hs4 ⊢
  generalize X.p.sv.length = l3 at hs3
  generalize X.p.tg.length = l4 at hs4
  subst hs3 hs4
  have x5 := bx_new w4 27 #[.int .i64 X.p.vw, .int .i64 X.p.nm, (.slice a3 l3 c3), (.slice a4 l4 c4)]
  have t5 := t4.below (below1 w4 (.cells #[.int .i64 X.p.vw, .int .i64 X.p.nm, (.slice a3 l3 c3), (.slice a4 l4 c4)] 27))
  have b5 := b4.alloc b4.size (.cells #[.int .i64 X.p.vw, .int .i64 X.p.nm, (.slice a3 l3 c3), (.slice a4 l4 c4)] 27)
  have o5 := oY2.below (below1 w4 (.cells #[.int .i64 X.p.vw, .int .i64 X.p.nm, (.slice a3 l3 c3), (.slice a4 l4 c4)] 27))
  clear t4 oY2
  obtain ⟨q0, q1, q2, q3⟩ := x5.c4
  go_wp2_with fail
  refine (HIM.out ⟨X.p, .slice a3 l3 c3, .slice a4 l4 c4⟩ _ rfl o5.rd (ht.on b5)).mono ?_
  rintro e w7 ⟨rfl, hb7⟩
  have t7 := t5.below hb7
  have x7 := x5.below hb7
  have o7 := o5.below hb7
  have b7 := b5.trans (hb7.mono b5.size)
  obtain ⟨h7, hh7⟩ : ∃ h7, h7 = w4.heap.size := ⟨_, rfl⟩
  rw [← hh7] at x7
  clear t5 x5 o5 b5 hb7 q0 q1 q2 q3 b4
  rw [← hh7]
  clear hh7
  go_wp2_with fail
  refine wp_region_noPanic ?_
  refine wp_region_held_drew (S := fun w' => (w'.cell? ⟨w.heap.size, 0, none⟩ = some (.int .i64 X.p.vw) ∧ w'.cell? ⟨w.heap.size, 1, none⟩ = some (.int .i64 X.p.nm) ∧ w'.cell? ⟨w.heap.size, 2, none⟩ = some (X.vs) ∧ w'.cell? ⟨w.heap.size, 3, none⟩ = some (X.vt)) ∧ (w'.cell? ⟨h7, 0, none⟩ = some (.int .i64 X.p.vw) ∧ w'.cell? ⟨h7, 1, none⟩ = some (.int .i64 X.p.nm) ∧ w'.cell? ⟨h7, 2, none⟩ = some (.slice a3 l3 c3) ∧ w'.cell? ⟨h7, 3, none⟩ = some (.slice a4 l4 c4))) (by kernel_rfl) ⟨(t7.below (Below.refl _ _).drew).c4, (x7.below (Below.refl _ _).drew).c4⟩ (fun h0 => ?_)
  refine tkG 0 26 h0 ?_
  try simp only [Act.put, List.setIfInBounds_toArray, List.set_cons_zero, List.set_cons_succ]
  refine tkG 1 27 h0 ?_
  try simp only [Act.put, List.setIfInBounds_toArray, List.set_cons_zero, List.set_cons_succ]
  refine wpAnyH_ready (rs := [2]) (by kernel_rfl) (by simp) ?_
  refine AllReadyH.cons rfl (fun K hK => ?_) AllReadyH.nil
  go_simp
  refine (HTO.out _ (hr.below b7.drew)).mono ?_
  rintro e w8 ⟨Y8, rfl, hY8, oY8, hb8⟩
  have t8 := (t7.below (Below.refl _ _).drew).below hb8
  have x8 := (x7.below (Below.refl _ _).drew).below hb8
  have o8 := (o7.below (Below.refl _ _).drew).below hb8
  have b8 := b7.drew.trans (hb8.mono b7.drew.size)
  refine hK.out _ _ (⟨t8.c4, x8.c4⟩) (fun h1 => ?_)
  clear hK K
  try simp only [Act.put, List.setIfInBounds_toArray, List.set_cons_zero, List.set_cons_succ]
  clear h0
  refine wpAnyH_ready (rs := [3]) (by kernel_rfl) (by simp) ?_
  refine AllReadyH.cons rfl (fun K hK => ?_) AllReadyH.nil
  go_simp
  have HE8 := eqProof_same _ Y8 w8 o8.rd oY8.rd hY8.symm
  rw [hY8] at HE8
  refine HE8.mono ?_
  rintro e w9 ⟨rfl, hb9⟩
  have b9 := b8.trans (hb9.mono b8.size)
  refine hK.out _ _ (⟨(t8.below hb9).c4, (x8.below hb9).c4⟩) (fun h2 => ?_)
  clear hK K
  try simp only [Act.put, List.setIfInBounds_toArray, List.set_cons_zero, List.set_cons_succ]
  clear h1
  refine tkG 4 30 h2 ?_
  try simp only [Act.put, List.setIfInBounds_toArray, List.set_cons_zero, List.set_cons_succ]
  refine wpAnyH_done (by kernel_rfl) ?_ _
  refine NoPanic.normal ?_
  go_wp2
  go_ret
  exact ⟨rfl, b9⟩
theorem own_fnExactProofOk : ownKnob Tryd.prog.godebug = none := by kernel_rfl
theorem laidOut_fnExactProofOk : laidOutB Tryd.prog = true := by kernel_rfl
theorem door_fnExactProofOk (os : Os) (args : Array Value) : laidMetH Tryd.prog Rows.fnExactProofOkRow.laid ((World.doorLaid Tryd.prog 400 os).forCall (fun _ _ => 0) ⟨#[], args, []⟩).memory :=
  laidMetH_of_parts3 (fuel := 8) (laidMet_of_run' 8 (by kernel_rfl) (by kernel_rfl)) (by kernel_rfl) (by kernel_rfl)
set_option maxRecDepth 100000 in
theorem lifted_fnExactProofOk (os : Os) (started : os.Started) (H : Type) (enc : TypeId × Value → H) :
    ReturnsInHanded {} Tryd.checked os 3 .any (fun w args => (Rows.fnExactProofOkSpec.pre enc Tryd.prog Tryd.f3 [] false w args ∧ laidMetH Tryd.prog Rows.fnExactProofOkRow.laid w) ∧ sizedMet enc Tryd.prog Tryd.f3 (OpenSpec.ofChange Rows.fnExactProofOkSpec) false w args)
      (Rows.fnExactProofOkSpec.post enc Tryd.prog Tryd.f3 false true false false) := by
  refine returnsInHanded_of_change_and (C := Tryd.checked) (X := fun w _ => laidMetH Tryd.prog Rows.fnExactProofOkRow.laid w) (fun _ _ _ hh h => h.of_heap hh) own_fnExactProofOk started (by kernel_rfl) Tryd.func3
    (ChangeSpec.witness_shaped (enc := enc) (C := Tryd.checked) (os := os) (X := fun w _ => laidMetH Tryd.prog Rows.fnExactProofOkRow.laid w) false (World.doorLaid Tryd.prog 400 os) #[.agg #[.int .i64 0, .int .i64 0, .slice none 0 0, .slice none 0 0], .int .i64 0] 8 rfl (World.shaped_of_RefB (by kernel_rfl) (by kernel_rfl)) (by kernel_rfl) (by kernel_rfl) (by kernel_rfl) (door_fnExactProofOk os _)) ?_
  intro W base args ds gs before hval0 hW _ _ hL _
  have hval : ∀ (j : Nat) t v, Tryd.f3.params[j]? = some t → args[j]? = some v → Value.okWide Tryd.prog W .any base t v := hval0
  have hW' := hW
  obtain ⟨p, q, hA0, hV, rfl, hfz, hnd⟩ := hW
  have hA : DataW.TrodAll enc Tryd.prog W 0 (fun _ => true) true Tryd.f3.params.toList args.toList ds p := hA0
  rw [Tryd.params3] at hA hval
  obtain ⟨v0, vs0, d0, ds0, p0, q0, hargs, rfl, rfl, h0, r0⟩ := trodAll_cons hA
  obtain ⟨v1, vs1, d1, ds1, p1, q1, rfl, rfl, rfl, h1, r1⟩ := trodAll_cons r0
  obtain ⟨rfl, rfl, rfl⟩ := trodAll_nil r1
  obtain rfl : args = #[v0, v1] := by cases args; simp_all
  obtain ⟨rfl, rfl⟩ := trodVars_none hV
  obtain ⟨c0, rfl, _⟩ := okWide_struct Tryd.underlying24 (hval 0 24 v0 rfl rfl)
  have k0 := h0
  have lt0 : ∀ x ∈ p0, x.block < W.heap.size := by obtain ⟨m, hm⟩ := k0; exact DataW.trod_lt m _ _ _ hm
  obtain ⟨X0, hc0, hr0, hh0⟩ : ∃ X : PrX, (Value.agg c0).cells.toList = X.cs ∧ RdPr W X ∧ FitPr X.p := by obtain ⟨m, hm⟩ := h0; exact open_proof hm
  obtain rfl : c0 = #[.int .i64 X0.p.vw, .int .i64 X0.p.nm, X0.vs, X0.vt] := by have h := congrArg List.toArray hc0; simp only [Value.cells, Array.toArray_toList] at h; exact h
  obtain ⟨a1, rfl, rfl, rfl, w1⟩ := open_int Tryd.underlying2 (hval 1 2 v1 rfl rfl) h1
  have htab := tab_of_laid hL
  clear hA0 hval0
  refine (lawProofOk X0 a1 w1 W hr0 hh0 htab).mono fun e W' ⟨he, bel⟩ => ?_
  subst he
  exact ⟨_, rfl, _, _, _, [], _, [], hW', trodAll_mk1 (shut_bool Tryd.underlying4 _), (trodAll_cons_mk (Below.trod laidOut_fnExactProofOk (by kernel_rfl) (of_decide_eq_true (by kernel_rfl)) k0 bel lt0) (trodAll_cons_mk (shut_int Tryd.underlying2 w1) trodAll_mk0)), rfl, bel.frame _, fun h => by cases h⟩
theorem over_fnExactProofOk : Rows.fnExactProofOkRow.holds Tryd.pinned (OpenSpec.ofChange Rows.fnExactProofOkSpec) :=
  OpenClaim.holds_of_wide 3 Tryd.f3 rfl rfl rfl rfl rfl rfl rfl ⟨rfl, rfl, rfl, rfl, rfl⟩ rfl rfl rfl rfl rfl (by kernel_rfl) Tryd.func3 (by kernel_rfl)
    (of_decide_eq_true (by kernel_rfl)) (by unfold Func.isWrapper; first | (rw [if_pos (by decide +kernel)]; kernel_rfl) | (rw [if_neg (by decide +kernel)]; exact ⟨rfl, rfl⟩))
    (fun os started H enc _ => lifted_fnExactProofOk os started H enc)
theorem fnExactProofOk_holds : Rows.FnExactProofOkCardSaid :=
  Claim7.holds_tied_plain_at .later [] [.data, .data, .data] true Rows.fnExactProofOkCard.stood.harness Rows.fnExactProofOkCard.stood.looks
    over_fnExactProofOk (fun _ h => by cases h) (by kernel_rfl) (fun _ h => by cases h) fnExactProofOk_row_tie rfl ⟨rfl, rfl⟩ (by kernel_rfl) rfl
    (fun f fn hf hfn => by
      obtain rfl : f = 3 := Option.some.inj ((show Tryd.prog.funcNamed "loop.example/g00217/laws.FnExactProofOk" = some 3 by kernel_rfl).symm.trans hf) |>.symm
      obtain rfl : fn = Tryd.f3 := (Option.some.inj (Tryd.func3.symm.trans hfn)).symm
      exact ⟨by kernel_rfl, fun j t ht => by
        rw [Tryd.params3] at ht
        have hm : t ∈ [24, 2] := by simpa using Array.mem_of_getElem? ht
        have hall : ([24, 2].all fun u => !Tryd.prog.wantsStandIn u) = true := by kernel_rfl
        exact (show Tryd.prog.wantsStandIn t = false by simpa using List.all_eq_true.1 hall t hm)⟩)
    (by kernel_rfl)
#print axioms fnExactProofOk_holds

end Go.Proofs.YtbnibnbmdbdibabDoor
