/- Whatever block it is called with, laws.FnExactName returns true and its argument reads as before: both Name tell the same. No condition. -/
-- UNF Gen
import Derived.Test.YtckidhcknibceaaRows
import Derived.Test.YtckidhcknibceaaBlxNam
import Derived.Test.YtckidhcknibceaaBlxEq
import Derived.ProofKit
import Derived.OpenShut
import Derived.ShutString
import Derived.ChangeOld
namespace Go.Proofs.Ytckidhcknibceaa
open Go.ChangeShapes Go.WideShapes Go.ChangeAt Go.RowKit
set_option maxHeartbeats 4000000 in
set_option maxRecDepth 100000 in
theorem lawName (X : BlX) (w : World) (hr : RdBl w X) (hf : FitBl X.b) :
    Calls Try.prog 5 #[.agg #[.int .i64 X.b.vw, .int .i64 X.b.pa, .int .i64 X.b.p.vw, .int .i64 X.b.p.nm, X.vs, X.vt, X.vm, .int .i64 X.b.sv]] w fun e w' => e = .returned (.bool true) ∧ Below w.heap.size w w' := by
  have t0 := bx_new w 27 #[.int .i64 X.b.vw, .int .i64 X.b.pa, .int .i64 X.b.p.vw, .int .i64 X.b.p.nm, X.vs, X.vt, X.vm, .int .i64 X.b.sv]
  have b0 := below1 w (.cells #[.int .i64 X.b.vw, .int .i64 X.b.pa, .int .i64 X.b.p.vw, .int .i64 X.b.p.nm, X.vs, X.vt, X.vm, .int .i64 X.b.sv] 27)
  obtain ⟨r, hr'⟩ : ∃ r, r = namZ X.b := ⟨_, rfl⟩
  have hne : (r != r) = false := by simp
  obtain ⟨q0, q1, q2, q3, q4, q5, q6, q7⟩ := t0.c8
  have HFM : Hid (∀ s ∈ X.b.mo, s.size ≤ maxLen) := hf.mo
  go_enter Try.func5, Try.ntmps5
  go_wp2_with fail
  refine (szBlock_any X 1048576 _ (hr.below b0) HFM.out (by omega) (by omega)).mono ?_
  rintro e w1 ⟨hb1, z, rfl, hz⟩
  have t1 := t0.below hb1
  have b1 := b0.trans (hb1.mono b0.size)
  clear t0 b0 hb1 q0 q1 q2 q3 q4 q5 q6 q7
  rcases hz with hz | ⟨hz0, hz1, hz2⟩
  · subst hz
    go_wp2
    go_ret
    exact ⟨rfl, b1⟩
  have HTO : Hid (∀ W, RdBl W X → Calls Try.prog 8 #[.agg #[.int .i64 X.b.vw, .int .i64 X.b.pa, .int .i64 X.b.p.vw, .int .i64 X.b.p.nm, X.vs, X.vt, X.vm, .int .i64 X.b.sv]] W fun e w' => ToBl W X.b e w') := fun W h => toBlock_any X W h (by omega)
  have HZS : Hid (∀ s ∈ X.b.mo, s.size ≤ 1048576) := hz2
  have HSP : Hid (∀ (Y : BlX) W, Y.b = X.b → RdBl W Y → Calls Try.prog 15 #[.agg #[.int .i64 X.b.vw, .int .i64 X.b.pa, .int .i64 X.b.p.vw, .int .i64 X.b.p.nm, Y.vs, Y.vt, Y.vm, .int .i64 X.b.sv]] W fun e w' => e = .returned (.int .i64 r) ∧ Below W.heap.size W w') := fun Y W hp h => by have := specName_any Y W h (by rw [hp]; exact HZS.out); rw [hp] at this; rw [hr']; exact this
  have HIM : Hid (∀ (Y : BlX) W, Y.b = X.b → RdBl W Y → Calls Try.prog 16 #[.agg #[.int .i64 X.b.vw, .int .i64 X.b.pa, .int .i64 X.b.p.vw, .int .i64 X.b.p.nm, Y.vs, Y.vt, Y.vm, .int .i64 X.b.sv]] W fun e w' => e = .returned (.int .i64 r) ∧ Below W.heap.size W w') := fun Y W hp h => by have := implName_any Y W h (by rw [hp]; exact HZS.out); rw [hp] at this; rw [hr']; exact this
  clear hr' hf hz1 hz2
  obtain ⟨q0, q1, q2, q3, q4, q5, q6, q7⟩ := t1.c8
  go_wp2_with fail
  refine (HTO.out _ (hr.below b1)).mono ?_
  rintro e w2 ⟨Y1, rfl, hY1, oY1, hb2⟩
  have t2 := t1.below hb2
  have b2 := b1.trans (hb2.mono b1.size)
  clear t1 b1 hb2 q0 q1 q2 q3 q4 q5 q6 q7
  obtain ⟨yb, ys, yt, ym⟩ := Y1
  simp only at hY1 oY1
  subst hY1
  obtain ⟨a1, c1, a2, c2, hs1, hs2⟩ := oY1.pr.slices
  obtain ⟨a3, c3, hs3⟩ := ownSlX oY1.mo
  simp only [BlX.pr] at hs1 hs2 hs3 ⊢
  have HRY : Hid (RdBl w2 ⟨X.b, ys, yt, ym⟩) := oY1.rd
  generalize X.b.p.sv.length = l1 at hs1
  generalize X.b.p.tg.length = l2 at hs2
  generalize X.b.mo.length = l3 at hs3
  subst hs1 hs2 hs3
  clear oY1
  go_wp2_with fail
  refine (HSP.out ⟨X.b, .slice a1 l1 c1, .slice a2 l2 c2, .slice a3 l3 c3⟩ _ rfl HRY.out).mono ?_
  rintro e w3 ⟨rfl, hb3⟩
  have t3 := t2.below hb3
  have b3 := b2.trans (hb3.mono b2.size)
  clear t2 b2 hb3 HSP HRY
  obtain ⟨q0, q1, q2, q3, q4, q5, q6, q7⟩ := t3.c8
  go_wp2_with fail
  refine (HTO.out _ (hr.below b3)).mono ?_
  rintro e w4 ⟨Y2, rfl, hY2, oY2, hb4⟩
  have t4 := t3.below hb4
  have b4 := b3.trans (hb4.mono b3.size)
  clear t3 b3 hb4 q0 q1 q2 q3 q4 q5 q6 q7
  obtain ⟨yb, ys, yt, ym⟩ := Y2
  simp only at hY2 oY2
  subst hY2
  obtain ⟨a4, c4, a5, c5, hs4, hs5⟩ := oY2.pr.slices
  obtain ⟨a6, c6, hs6⟩ := ownSlX oY2.mo
  simp only [BlX.pr] at hs4 hs5 hs6 ⊢
  generalize X.b.p.sv.length = l4 at hs4
  generalize X.b.p.tg.length = l5 at hs5
  generalize X.b.mo.length = l6 at hs6
  subst hs4 hs5 hs6
  have x5 := bx_new w4 32 #[.int .i64 X.b.vw, .int .i64 X.b.pa, .int .i64 X.b.p.vw, .int .i64 X.b.p.nm, .slice a4 l4 c4, .slice a5 l5 c5, .slice a6 l6 c6, .int .i64 X.b.sv]
  have t5 := t4.below (below1 w4 (.cells #[.int .i64 X.b.vw, .int .i64 X.b.pa, .int .i64 X.b.p.vw, .int .i64 X.b.p.nm, .slice a4 l4 c4, .slice a5 l5 c5, .slice a6 l6 c6, .int .i64 X.b.sv] 32))
  have b5 := b4.alloc b4.size (.cells #[.int .i64 X.b.vw, .int .i64 X.b.pa, .int .i64 X.b.p.vw, .int .i64 X.b.p.nm, .slice a4 l4 c4, .slice a5 l5 c5, .slice a6 l6 c6, .int .i64 X.b.sv] 32)
  have o5 := OwnBl.below oY2 (below1 w4 (.cells #[.int .i64 X.b.vw, .int .i64 X.b.pa, .int .i64 X.b.p.vw, .int .i64 X.b.p.nm, .slice a4 l4 c4, .slice a5 l5 c5, .slice a6 l6 c6, .int .i64 X.b.sv] 32))
  clear t4 oY2
  obtain ⟨q0, q1, q2, q3, q4, q5, q6, q7⟩ := x5.c8
  go_wp2_with fail
  refine (HIM.out ⟨X.b, .slice a4 l4 c4, .slice a5 l5 c5, .slice a6 l6 c6⟩ _ rfl o5.rd).mono ?_
  rintro e w7 ⟨rfl, hb7⟩
  have t7 := t5.below hb7
  have x7 := x5.below hb7
  have o7 := OwnBl.below o5 hb7
  have b7 := b5.trans (hb7.mono b5.size)
  obtain ⟨h7, hh7⟩ : ∃ h7, h7 = w4.heap.size := ⟨_, rfl⟩
  rw [← hh7] at x7
  clear t5 x5 o5 b5 hb7 q0 q1 q2 q3 q4 q5 q6 q7 b4
  rw [← hh7]
  clear hh7
  go_wp2_with fail
  refine wp_region_noPanic ?_
  refine wp_region_held_drew (S := fun w' => (w'.cell? ⟨w.heap.size, 0, none⟩ = some (.int .i64 X.b.vw) ∧ w'.cell? ⟨w.heap.size, 1, none⟩ = some (.int .i64 X.b.pa) ∧ w'.cell? ⟨w.heap.size, 2, none⟩ = some (.int .i64 X.b.p.vw) ∧ w'.cell? ⟨w.heap.size, 3, none⟩ = some (.int .i64 X.b.p.nm) ∧ w'.cell? ⟨w.heap.size, 4, none⟩ = some (X.vs) ∧ w'.cell? ⟨w.heap.size, 5, none⟩ = some (X.vt) ∧ w'.cell? ⟨w.heap.size, 6, none⟩ = some (X.vm) ∧ w'.cell? ⟨w.heap.size, 7, none⟩ = some (.int .i64 X.b.sv)) ∧ (w'.cell? ⟨h7, 0, none⟩ = some (.int .i64 X.b.vw) ∧ w'.cell? ⟨h7, 1, none⟩ = some (.int .i64 X.b.pa) ∧ w'.cell? ⟨h7, 2, none⟩ = some (.int .i64 X.b.p.vw) ∧ w'.cell? ⟨h7, 3, none⟩ = some (.int .i64 X.b.p.nm) ∧ w'.cell? ⟨h7, 4, none⟩ = some (.slice a4 l4 c4) ∧ w'.cell? ⟨h7, 5, none⟩ = some (.slice a5 l5 c5) ∧ w'.cell? ⟨h7, 6, none⟩ = some (.slice a6 l6 c6) ∧ w'.cell? ⟨h7, 7, none⟩ = some (.int .i64 X.b.sv))) (by kernel_rfl) ⟨(t7.below (Below.refl _ _).drew).c8, (x7.below (Below.refl _ _).drew).c8⟩ (fun h0 => ?_)
  refine tkG 0 22 h0 ?_
  try simp only [Act.put, List.setIfInBounds_toArray, List.set_cons_zero, List.set_cons_succ]
  refine tkG 1 23 h0 ?_
  try simp only [Act.put, List.setIfInBounds_toArray, List.set_cons_zero, List.set_cons_succ]
  refine wpAnyH_ready (rs := [2]) (by kernel_rfl) (by simp) ?_
  refine AllReadyH.cons rfl (fun K hK => ?_) AllReadyH.nil
  go_simp
  refine (HTO.out _ (hr.below b7.drew)).mono ?_
  rintro e w8 ⟨Y8, rfl, hY8, oY8, hb8⟩
  have t8 := (t7.below (Below.refl _ _).drew).below hb8
  have x8 := (x7.below (Below.refl _ _).drew).below hb8
  have o8 := (OwnBl.below o7 (Below.refl _ _).drew).below hb8
  have b8 := b7.drew.trans (hb8.mono b7.drew.size)
  refine hK.out _ _ (⟨t8.c8, x8.c8⟩) (fun h1 => ?_)
  clear hK K
  try simp only [Act.put, List.setIfInBounds_toArray, List.set_cons_zero, List.set_cons_succ]
  clear h0
  refine wpAnyH_ready (rs := [3]) (by kernel_rfl) (by simp) ?_
  refine AllReadyH.cons rfl (fun K hK => ?_) AllReadyH.nil
  go_simp
  have HE8 := eqBlock_same _ Y8 w8 o8.rd oY8.rd hY8.symm
  rw [hY8] at HE8
  refine HE8.mono ?_
  rintro e w9 ⟨rfl, hb9⟩
  have b9 := b8.trans (hb9.mono b8.size)
  refine hK.out _ _ (⟨(t8.below hb9).c8, (x8.below hb9).c8⟩) (fun h2 => ?_)
  clear hK K
  try simp only [Act.put, List.setIfInBounds_toArray, List.set_cons_zero, List.set_cons_succ]
  clear h1
  refine tkG 4 26 h2 ?_
  try simp only [Act.put, List.setIfInBounds_toArray, List.set_cons_zero, List.set_cons_succ]
  refine wpAnyH_done (by kernel_rfl) ?_ _
  refine NoPanic.normal ?_
  go_wp2
  go_ret
  exact ⟨rfl, b9⟩
theorem own_fnExactName : ownKnob Try.prog.godebug = none := by kernel_rfl
theorem laidOut_fnExactName : laidOutB Try.prog = true := by kernel_rfl
set_option maxRecDepth 100000 in
theorem lifted_fnExactName (os : Os) (started : os.Started) (H : Type) (enc : TypeId × Value → H) :
    ReturnsInHanded {} Try.checked os 5 .any (Rows.fnExactNameSpec.pre6 enc Try.prog Try.f5 Rows.fnExactNameRow.domain false) (Rows.fnExactNameSpec.post enc Try.prog Try.f5 false true false false) := by
  refine returnsInHanded_of_change (C := Try.checked) own_fnExactName started (by kernel_rfl) Try.func5
    (ChangeSpec.witness6 (enc := enc) (C := Try.checked) false ⟨#[], #[.agg #[.int .i64 0, .int .i64 0, .int .i64 0, .int .i64 0, .slice none 0 0, .slice none 0 0, .slice none 0 0, .int .i64 0]], []⟩ 8 (by kernel_rfl) (by kernel_rfl) (by kernel_rfl) (by kernel_rfl)) ?_
  intro W base args ds gs before hval0 hW hcnd _
  have hval : ∀ (j : Nat) t v, Try.f5.params[j]? = some t → args[j]? = some v → Value.okWide Try.prog W .any base t v := hval0
  have hW' := hW
  obtain ⟨p, q, hA0, hV, rfl, hfz, hnd⟩ := hW
  have hA : DataW.TrodAll enc Try.prog W 0 (fun _ => true) true Try.f5.params.toList args.toList ds p := hA0
  rw [Try.params5] at hA hval
  obtain ⟨v0, vs0, d0, ds0, p0, q0, hargs, rfl, rfl, h0, r0⟩ := trodAll_cons hA
  obtain ⟨rfl, rfl, rfl⟩ := trodAll_nil r0
  obtain rfl : args = #[v0] := by cases args; simp_all
  obtain ⟨rfl, rfl⟩ := trodVars_none hV
  obtain ⟨c0, rfl, _⟩ := okWide_struct Try.underlying27 (hval 0 27 v0 rfl rfl)
  have k0 := h0
  have lt0 : ∀ x ∈ p0, x.block < W.heap.size := by obtain ⟨m, hm⟩ := k0; exact DataW.trod_lt m _ _ _ hm
  obtain ⟨X0, hc0, hr0, hh0⟩ : ∃ X : BlX, (Value.agg c0).cells.toList = X.cs ∧ RdBl W X ∧ FitBl X.b := by obtain ⟨m, hm⟩ := h0; exact open_block hm
  obtain rfl : c0 = #[.int .i64 X0.b.vw, .int .i64 X0.b.pa, .int .i64 X0.b.p.vw, .int .i64 X0.b.p.nm, X0.vs, X0.vt, X0.vm, .int .i64 X0.b.sv] := by have h := congrArg List.toArray hc0; simp only [Value.cells, Array.toArray_toList] at h; exact h
  clear hA0 hval0
  refine (lawName X0 W hr0 hh0).mono fun e W' ⟨he, bel⟩ => ?_
  subst he
  exact ⟨_, rfl, _, _, _, [], _, [], hW', trodAll_mk1 (shut_bool Try.underlying4 _), (trodAll_cons_mk (Below.trod laidOut_fnExactName (by kernel_rfl) (of_decide_eq_true (by kernel_rfl)) k0 bel lt0) trodAll_mk0), rfl, bel.frame _, fun h => by cases h⟩
theorem over_fnExactName : Rows.fnExactNameRow.holds Try.pinned (OpenSpec.ofChange Rows.fnExactNameSpec) :=
  OpenClaim.holds_of_wide 5 Try.f5 rfl rfl rfl rfl rfl rfl rfl ⟨rfl, rfl, rfl, rfl, rfl⟩ rfl rfl rfl rfl rfl (by kernel_rfl) Try.func5 (by kernel_rfl)
    (of_decide_eq_true (by kernel_rfl)) (by unfold Func.isWrapper; first | (rw [if_pos (by decide +kernel)]; kernel_rfl) | (rw [if_neg (by decide +kernel)]; exact ⟨rfl, rfl⟩))
    (fun os started H enc _ => lifted_fnExactName os started H enc)
theorem fnExactName_holds : Rows.FnExactNameSaid := over_fnExactName
#print axioms fnExactName_holds

end Go.Proofs.Ytckidhcknibceaa
