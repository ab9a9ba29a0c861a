/- Whatever block and number it is called with, laws.FnExactBlockOk returns true and its argument reads as before: both BlockOk tell the same. Condition: the three listed tables of the Go library hold what its text lays there (tied by the card). -/
-- UNF Gen
import Derived.Test.YtckidhcknibceaaDoorRows
import Derived.Test.YtckidhcknibceaaDoorCards
import Derived.Test.YtckidhcknibceaaDoorTie
import Derived.Test.YtckidhcknibceaaDoorLaid
import Derived.Test.YtckidhcknibceaaDoorBlxIok
import Derived.Test.YtckidhcknibceaaDoorBlxEq
import Derived.ProofKit
import Derived.OpenShut
import Derived.ShutString
import Derived.ChangeOld
import Derived.LaidMore
import Derived.SevenTiedAt
import Derived.Stop.Joined
namespace Go.Proofs.YtckidhcknibceaaDoor
open Go.ChangeShapes Go.WideShapes Go.ChangeAt Go.RowKit
set_option maxHeartbeats 4000000 in
set_option maxRecDepth 100000 in
theorem lawBlockOk (X : BlX) (n : Int) (_ : (Lit.int .i64 n).wf = true) (w : World) (hr : RdBl w X) (hf : FitBl X.b) (ht : Tab w) :
    Calls Tryd.prog 5 #[.agg #[.int .i64 X.b.vw, .int .i64 X.b.pa, .int .i64 X.b.p.vw, .int .i64 X.b.p.nm, X.vs, X.vt, X.vm, .int .i64 X.b.sv], .int .i64 n] w fun e w' => e = .returned (.bool true) ∧ Below w.heap.size w w' := by
  have t0 := bx_new w 60 #[.int .i64 X.b.vw, .int .i64 X.b.pa, .int .i64 X.b.p.vw, .int .i64 X.b.p.nm, X.vs, X.vt, X.vm, .int .i64 X.b.sv]
  have b0 := below1 w (.cells #[.int .i64 X.b.vw, .int .i64 X.b.pa, .int .i64 X.b.p.vw, .int .i64 X.b.p.nm, X.vs, X.vt, X.vm, .int .i64 X.b.sv] 60)
  obtain ⟨r, hr'⟩ : ∃ r, r = blkR X.b n := ⟨_, rfl⟩
  have hne : (r != r) = false := by simp
  obtain ⟨q0, q1, q2, q3, q4, q5, q6, q7⟩ := t0.c8
  have HFM : Hid (∀ s ∈ X.b.mo, s.size ≤ maxLen) := hf.mo
  go_enter Tryd.func5, Tryd.ntmps5
  go_wp2_with fail
  refine (szBlock_any X 1048576 _ (hr.below b0) HFM.out (by omega) (by omega)).mono ?_
  rintro e w1 ⟨hb1, z, rfl, hz⟩
  have t1 := t0.below hb1
  have b1 := b0.trans (hb1.mono b0.size)
  clear t0 b0 hb1 q0 q1 q2 q3 q4 q5 q6 q7
  rcases hz with hz | ⟨hz0, hz1, hz2⟩
  · subst hz
    go_wp2
    go_ret
    exact ⟨rfl, b1⟩
  have HTO : Hid (∀ W, RdBl W X → Calls Tryd.prog 34 #[.agg #[.int .i64 X.b.vw, .int .i64 X.b.pa, .int .i64 X.b.p.vw, .int .i64 X.b.p.nm, X.vs, X.vt, X.vm, .int .i64 X.b.sv]] W fun e w' => ToBl W X.b e w') := fun W h => toBlock_any X W h (by omega)
  have HZS : Hid (∀ s ∈ X.b.mo, s.size ≤ 1048576) := hz2
  have HSP : Hid (∀ (Y : BlX) W, Y.b = X.b → RdBl W Y → Calls Tryd.prog 32 #[.agg #[.int .i64 X.b.vw, .int .i64 X.b.pa, .int .i64 X.b.p.vw, .int .i64 X.b.p.nm, Y.vs, Y.vt, Y.vm, .int .i64 X.b.sv], .int .i64 n] W fun e w' => e = .returned (.bool r) ∧ Below W.heap.size W w') := fun Y W hp h => by have := specBlockOk_any Y n W h (by rw [hp]; exact hf); rw [hp] at this; rw [hr']; exact this
  have HIM : Hid (∀ (Y : BlX) W, Y.b = X.b → RdBl W Y → Tab W → Calls Tryd.prog 31 #[.agg #[.int .i64 X.b.vw, .int .i64 X.b.pa, .int .i64 X.b.p.vw, .int .i64 X.b.p.nm, Y.vs, Y.vt, Y.vm, .int .i64 X.b.sv], .int .i64 n] W fun e w' => e = .returned (.bool r) ∧ Below W.heap.size W w') := fun Y W hp h t => by have := implBlockOk_any Y n W h (by rw [hp]; exact hf) t; rw [hp] at this; rw [hr']; exact this
  clear hr' hf hz1 hz2
  obtain ⟨q0, q1, q2, q3, q4, q5, q6, q7⟩ := t1.c8
  go_wp2_with fail
  refine (HTO.out _ (hr.below b1)).mono ?_
  rintro e w2 ⟨Y1, rfl, hY1, oY1, hb2⟩
  have t2 := t1.below hb2
  have b2 := b1.trans (hb2.mono b1.size)
  clear t1 b1 hb2 q0 q1 q2 q3 q4 q5 q6 q7
  obtain ⟨yb, ys, yt, ym⟩ := Y1
  simp only at hY1 oY1
  subst hY1
  obtain ⟨a1, c1, a2, c2, hs1, hs2⟩ := oY1.pr.slices
  obtain ⟨a3, c3, hs3⟩ := ownSlX oY1.mo
  simp only [BlX.pr] at hs1 hs2 hs3 ⊢
  have HRY : Hid (RdBl w2 ⟨X.b, ys, yt, ym⟩) := oY1.rd
  generalize X.b.p.sv.length = l1 at hs1
  generalize X.b.p.tg.length = l2 at hs2
  generalize X.b.mo.length = l3 at hs3
  subst hs1 hs2 hs3
  clear oY1
  go_wp2_with fail
  refine (HSP.out ⟨X.b, .slice a1 l1 c1, .slice a2 l2 c2, .slice a3 l3 c3⟩ _ rfl HRY.out).mono ?_
  rintro e w3 ⟨rfl, hb3⟩
  have t3 := t2.below hb3
  have b3 := b2.trans (hb3.mono b2.size)
  clear t2 b2 hb3 HSP HRY
  obtain ⟨q0, q1, q2, q3, q4, q5, q6, q7⟩ := t3.c8
  go_wp2_with fail
  refine (HTO.out _ (hr.below b3)).mono ?_
  rintro e w4 ⟨Y2, rfl, hY2, oY2, hb4⟩
  have t4 := t3.below hb4
  have b4 := b3.trans (hb4.mono b3.size)
  clear t3 b3 hb4 q0 q1 q2 q3 q4 q5 q6 q7
  obtain ⟨yb, ys, yt, ym⟩ := Y2
  simp only at hY2 oY2
  subst hY2
  obtain ⟨a4, c4, a5, c5, hs4, hs5⟩ := oY2.pr.slices
  obtain ⟨a6, c6, hs6⟩ := ownSlX oY2.mo
  simp only [BlX.pr] at hs4 hs5 hs6 ⊢
  generalize X.b.p.sv.length = l4 at hs4
  generalize X.b.p.tg.length = l5 at hs5
  generalize X.b.mo.length = l6 at hs6
  subst hs4 hs5 hs6
  have x5 := bx_new w4 47 #[.int .i64 X.b.vw, .int .i64 X.b.pa, .int .i64 X.b.p.vw, .int .i64 X.b.p.nm, .slice a4 l4 c4, .slice a5 l5 c5, .slice a6 l6 c6, .int .i64 X.b.sv]
  have t5 := t4.below (below1 w4 (.cells #[.int .i64 X.b.vw, .int .i64 X.b.pa, .int .i64 X.b.p.vw, .int .i64 X.b.p.nm, .slice a4 l4 c4, .slice a5 l5 c5, .slice a6 l6 c6, .int .i64 X.b.sv] 47))
  have b5 := b4.alloc b4.size (.cells #[.int .i64 X.b.vw, .int .i64 X.b.pa, .int .i64 X.b.p.vw, .int .i64 X.b.p.nm, .slice a4 l4 c4, .slice a5 l5 c5, .slice a6 l6 c6, .int .i64 X.b.sv] 47)
  have o5 := OwnBl.below oY2 (below1 w4 (.cells #[.int .i64 X.b.vw, .int .i64 X.b.pa, .int .i64 X.b.p.vw, .int .i64 X.b.p.nm, .slice a4 l4 c4, .slice a5 l5 c5, .slice a6 l6 c6, .int .i64 X.b.sv] 47))
  clear t4 oY2
  obtain ⟨q0, q1, q2, q3, q4, q5, q6, q7⟩ := x5.c8
  go_wp2_with fail
  refine (HIM.out ⟨X.b, .slice a4 l4 c4, .slice a5 l5 c5, .slice a6 l6 c6⟩ _ rfl o5.rd (ht.on b5)).mono ?_
  rintro e w7 ⟨rfl, hb7⟩
  have t7 := t5.below hb7
  have x7 := x5.below hb7
  have o7 := OwnBl.below o5 hb7
  have b7 := b5.trans (hb7.mono b5.size)
  obtain ⟨h7, hh7⟩ : ∃ h7, h7 = w4.heap.size := ⟨_, rfl⟩
  rw [← hh7] at x7
  clear t5 x5 o5 b5 hb7 q0 q1 q2 q3 q4 q5 q6 q7 b4
  rw [← hh7]
  clear hh7
  go_wp2_with fail
  refine wp_region_noPanic ?_
  refine wp_region_held_drew (S := fun w' => (w'.cell? ⟨w.heap.size, 0, none⟩ = some (.int .i64 X.b.vw) ∧ w'.cell? ⟨w.heap.size, 1, none⟩ = some (.int .i64 X.b.pa) ∧ w'.cell? ⟨w.heap.size, 2, none⟩ = some (.int .i64 X.b.p.vw) ∧ w'.cell? ⟨w.heap.size, 3, none⟩ = some (.int .i64 X.b.p.nm) ∧ w'.cell? ⟨w.heap.size, 4, none⟩ = some (X.vs) ∧ w'.cell? ⟨w.heap.size, 5, none⟩ = some (X.vt) ∧ w'.cell? ⟨w.heap.size, 6, none⟩ = some (X.vm) ∧ w'.cell? ⟨w.heap.size, 7, none⟩ = some (.int .i64 X.b.sv)) ∧ (w'.cell? ⟨h7, 0, none⟩ = some (.int .i64 X.b.vw) ∧ w'.cell? ⟨h7, 1, none⟩ = some (.int .i64 X.b.pa) ∧ w'.cell? ⟨h7, 2, none⟩ = some (.int .i64 X.b.p.vw) ∧ w'.cell? ⟨h7, 3, none⟩ = some (.int .i64 X.b.p.nm) ∧ w'.cell? ⟨h7, 4, none⟩ = some (.slice a4 l4 c4) ∧ w'.cell? ⟨h7, 5, none⟩ = some (.slice a5 l5 c5) ∧ w'.cell? ⟨h7, 6, none⟩ = some (.slice a6 l6 c6) ∧ w'.cell? ⟨h7, 7, none⟩ = some (.int .i64 X.b.sv))) (by kernel_rfl) ⟨(t7.below (Below.refl _ _).drew).c8, (x7.below (Below.refl _ _).drew).c8⟩ (fun h0 => ?_)
  refine tkG 0 26 h0 ?_
  try simp only [Act.put, List.setIfInBounds_toArray, List.set_cons_zero, List.set_cons_succ]
  refine tkG 1 27 h0 ?_
  try simp only [Act.put, List.setIfInBounds_toArray, List.set_cons_zero, List.set_cons_succ]
  refine wpAnyH_ready (rs := [2]) (by kernel_rfl) (by simp) ?_
  refine AllReadyH.cons rfl (fun K hK => ?_) AllReadyH.nil
  go_simp
  refine (HTO.out _ (hr.below b7.drew)).mono ?_
  rintro e w8 ⟨Y8, rfl, hY8, oY8, hb8⟩
  have t8 := (t7.below (Below.refl _ _).drew).below hb8
  have x8 := (x7.below (Below.refl _ _).drew).below hb8
  have o8 := (OwnBl.below o7 (Below.refl _ _).drew).below hb8
  have b8 := b7.drew.trans (hb8.mono b7.drew.size)
  refine hK.out _ _ (⟨t8.c8, x8.c8⟩) (fun h1 => ?_)
  clear hK K
  try simp only [Act.put, List.setIfInBounds_toArray, List.set_cons_zero, List.set_cons_succ]
  clear h0
  refine wpAnyH_ready (rs := [3]) (by kernel_rfl) (by simp) ?_
  refine AllReadyH.cons rfl (fun K hK => ?_) AllReadyH.nil
  go_simp
  have HE8 := eqBlock_same _ Y8 w8 o8.rd oY8.rd hY8.symm
  rw [hY8] at HE8
  refine HE8.mono ?_
  rintro e w9 ⟨rfl, hb9⟩
  have b9 := b8.trans (hb9.mono b8.size)
  refine hK.out _ _ (⟨(t8.below hb9).c8, (x8.below hb9).c8⟩) (fun h2 => ?_)
  clear hK K
  try simp only [Act.put, List.setIfInBounds_toArray, List.set_cons_zero, List.set_cons_succ]
  clear h1
  refine tkG 4 30 h2 ?_
  try simp only [Act.put, List.setIfInBounds_toArray, List.set_cons_zero, List.set_cons_succ]
  refine wpAnyH_done (by kernel_rfl) ?_ _
  refine NoPanic.normal ?_
  go_wp2
  go_ret
  exact ⟨rfl, b9⟩
theorem own_fnExactBlockOk : ownKnob Tryd.prog.godebug = none := by kernel_rfl
theorem laidOut_fnExactBlockOk : laidOutB Tryd.prog = true := by kernel_rfl
theorem door_fnExactBlockOk (os : Os) (args : Array Value) : laidMetH Tryd.prog Rows.fnExactBlockOkRow.laid ((World.doorLaid Tryd.prog 400 os).forCall (fun _ _ => 0) ⟨#[], args, []⟩).memory :=
  laidMetH_of_parts3 (fuel := 8) (laidMet_of_run' 8 (by kernel_rfl) (by kernel_rfl)) (by kernel_rfl) (by kernel_rfl)
set_option maxRecDepth 100000 in
theorem lifted_fnExactBlockOk (os : Os) (started : os.Started) (H : Type) (enc : TypeId × Value → H) :
    ReturnsInHanded {} Tryd.checked os 5 .any (fun w args => (Rows.fnExactBlockOkSpec.pre enc Tryd.prog Tryd.f5 [] false w args ∧ laidMetH Tryd.prog Rows.fnExactBlockOkRow.laid w) ∧ sizedMet enc Tryd.prog Tryd.f5 (OpenSpec.ofChange Rows.fnExactBlockOkSpec) false w args)
      (Rows.fnExactBlockOkSpec.post enc Tryd.prog Tryd.f5 false true false false) := by
  refine returnsInHanded_of_change_and (C := Tryd.checked) (X := fun w _ => laidMetH Tryd.prog Rows.fnExactBlockOkRow.laid w) (fun _ _ _ hh h => h.of_heap hh) own_fnExactBlockOk started (by kernel_rfl) Tryd.func5
    (ChangeSpec.witness_shaped (enc := enc) (C := Tryd.checked) (os := os) (X := fun w _ => laidMetH Tryd.prog Rows.fnExactBlockOkRow.laid w) false (World.doorLaid Tryd.prog 400 os) #[.agg #[.int .i64 0, .int .i64 0, .int .i64 0, .int .i64 0, .slice none 0 0, .slice none 0 0, .slice none 0 0, .int .i64 0], .int .i64 0] 8 rfl (World.shaped_of_RefB (by kernel_rfl) (by kernel_rfl)) (by kernel_rfl) (by kernel_rfl) (by kernel_rfl) (door_fnExactBlockOk os _)) ?_
  intro W base args ds gs before hval0 hW _ _ hL _
  have hval : ∀ (j : Nat) t v, Tryd.f5.params[j]? = some t → args[j]? = some v → Value.okWide Tryd.prog W .any base t v := hval0
  have hW' := hW
  obtain ⟨p, q, hA0, hV, rfl, hfz, hnd⟩ := hW
  have hA : DataW.TrodAll enc Tryd.prog W 0 (fun _ => true) true Tryd.f5.params.toList args.toList ds p := hA0
  rw [Tryd.params5] at hA hval
  obtain ⟨v0, vs0, d0, ds0, p0, q0, hargs, rfl, rfl, h0, r0⟩ := trodAll_cons hA
  obtain ⟨v1, vs1, d1, ds1, p1, q1, rfl, rfl, rfl, h1, r1⟩ := trodAll_cons r0
  obtain ⟨rfl, rfl, rfl⟩ := trodAll_nil r1
  obtain rfl : args = #[v0, v1] := by cases args; simp_all
  obtain ⟨rfl, rfl⟩ := trodVars_none hV
  obtain ⟨c0, rfl, _⟩ := okWide_struct Tryd.underlying60 (hval 0 60 v0 rfl rfl)
  have k0 := h0
  have lt0 : ∀ x ∈ p0, x.block < W.heap.size := by obtain ⟨m, hm⟩ := k0; exact DataW.trod_lt m _ _ _ hm
  obtain ⟨X0, hc0, hr0, hh0⟩ : ∃ X : BlX, (Value.agg c0).cells.toList = X.cs ∧ RdBl W X ∧ FitBl X.b := by obtain ⟨m, hm⟩ := h0; exact open_block hm
  obtain rfl : c0 = #[.int .i64 X0.b.vw, .int .i64 X0.b.pa, .int .i64 X0.b.p.vw, .int .i64 X0.b.p.nm, X0.vs, X0.vt, X0.vm, .int .i64 X0.b.sv] := by have h := congrArg List.toArray hc0; simp only [Value.cells, Array.toArray_toList] at h; exact h
  obtain ⟨a1, rfl, rfl, rfl, w1⟩ := open_int Tryd.underlying2 (hval 1 2 v1 rfl rfl) h1
  have htab := tab_of_laid hL
  clear hA0 hval0
  refine (lawBlockOk X0 a1 w1 W hr0 hh0 htab).mono fun e W' ⟨he, bel⟩ => ?_
  subst he
  exact ⟨_, rfl, _, _, _, [], _, [], hW', trodAll_mk1 (shut_bool Tryd.underlying4 _), (trodAll_cons_mk (Below.trod laidOut_fnExactBlockOk (by kernel_rfl) (of_decide_eq_true (by kernel_rfl)) k0 bel lt0) (trodAll_cons_mk (shut_int Tryd.underlying2 w1) trodAll_mk0)), rfl, bel.frame _, fun h => by cases h⟩
theorem over_fnExactBlockOk : Rows.fnExactBlockOkRow.holds Tryd.pinned (OpenSpec.ofChange Rows.fnExactBlockOkSpec) :=
  OpenClaim.holds_of_wide 5 Tryd.f5 rfl rfl rfl rfl rfl rfl rfl ⟨rfl, rfl, rfl, rfl, rfl⟩ rfl rfl rfl rfl rfl (by kernel_rfl) Tryd.func5 (by kernel_rfl)
    (of_decide_eq_true (by kernel_rfl)) (by unfold Func.isWrapper; first | (rw [if_pos (by decide +kernel)]; kernel_rfl) | (rw [if_neg (by decide +kernel)]; exact ⟨rfl, rfl⟩))
    (fun os started H enc _ => lifted_fnExactBlockOk os started H enc)
theorem fnExactBlockOk_holds : Rows.FnExactBlockOkCardSaid :=
  Claim7.holds_tied_plain_at .later [] [.data, .data, .data] true Rows.fnExactBlockOkCard.stood.harness Rows.fnExactBlockOkCard.stood.looks
    over_fnExactBlockOk (fun _ h => by cases h) (by kernel_rfl) (fun _ h => by cases h) fnExactBlockOk_row_tie rfl ⟨rfl, rfl⟩ (by kernel_rfl) rfl
    (fun f fn hf hfn => by
      obtain rfl : f = 5 := Option.some.inj ((show Tryd.prog.funcNamed "loop.example/g00217/laws.FnExactBlockOk" = some 5 by kernel_rfl).symm.trans hf) |>.symm
      obtain rfl : fn = Tryd.f5 := (Option.some.inj (Tryd.func5.symm.trans hfn)).symm
      exact ⟨by kernel_rfl, fun j t ht => by
        rw [Tryd.params5] at ht
        have hm : t ∈ [60, 2] := by simpa using Array.mem_of_getElem? ht
        have hall : ([60, 2].all fun u => !Tryd.prog.wantsStandIn u) = true := by kernel_rfl
        exact (show Tryd.prog.wantsStandIn t = false by simpa using List.all_eq_true.1 hall t hm)⟩)
    (by kernel_rfl)
#print axioms fnExactBlockOk_holds

end Go.Proofs.YtckidhcknibceaaDoor
