/- Whatever move it is called with, laws.FnExactMoveOk returns true and its argument reads as before: both MoveOk tell the same. No condition. -/
import Derived.Test.YtmgapmhjkamigaaRows
import Derived.Test.YtmgapmhjkamigaaBnkOpen
import Derived.Test.YtmgapmhjkamigaaBnkOk
import Derived.Test.YtmgapmhjkamigaaMovCp
import Derived.ProofKit
import Derived.OpenShut
import Derived.ShutString
import Derived.ChangeOld
namespace Go.Proofs.Ytmgapmhjkamigaa
open Go.ChangeShapes Go.WideShapes Go.ChangeAt Go.RowKit
set_option maxHeartbeats 4000000 in
set_option maxRecDepth 100000 in
theorem lawMoveOk (m : Mov) (w : World) :
    Calls Try.prog 5 #[.agg #[.int .i64 m.fr, .int .i64 m.to', .int .i64 m.sum, .int .i64 m.cou]] w fun e w' => e = .returned (.bool true) ∧ Below w.heap.size w w' := by
  have t0 := boxMo_new w 35 (.int .i64 m.fr) (.int .i64 m.to') (.int .i64 m.sum) (.int .i64 m.cou)
  have b0 := below1 w (.cells #[.int .i64 m.fr, .int .i64 m.to', .int .i64 m.sum, .int .i64 m.cou] 35)
  have HTO : Hid (∀ W, Calls Try.prog 16 #[.agg #[.int .i64 m.fr, .int .i64 m.to', .int .i64 m.sum, .int .i64 m.cou]] W fun e w' => e = .returned (.agg #[.int .i64 m.fr, .int .i64 m.to', .int .i64 m.sum, .int .i64 m.cou]) ∧ Below W.heap.size W w') := fun W => toMove_any m W
  obtain ⟨ok, hok0⟩ : ∃ ok, ok = movOk m := ⟨_, rfl⟩
  have HSP : Hid (∀ W, Calls Try.prog 15 #[.agg #[.int .i64 m.fr, .int .i64 m.to', .int .i64 m.sum, .int .i64 m.cou]] W fun e w' => e = .returned (.bool ok) ∧ Below W.heap.size W w') := fun W => by rw [hok0]; exact specMoveOk_any m W
  have HIM : Hid (∀ W, Calls Try.prog 17 #[.agg #[.int .i64 m.fr, .int .i64 m.to', .int .i64 m.sum, .int .i64 m.cou]] W fun e w' => e = .returned (.bool ok) ∧ Below W.heap.size W w') := fun W => by rw [hok0]; exact implMoveOk_any m W
  have hok : (ok != ok) = false := by cases ok <;> rfl
  clear hok0
  obtain ⟨d0, d1, d2, d3⟩ := t0.facts
  go_enter Try.func5, Try.ntmps5
  go_wp2_with fail
  refine (HTO.out _).mono ?_
  rintro e w1 ⟨rfl, hb1⟩
  have t1 := t0.below hb1
  have b1 := b0.trans (hb1.mono b0.size)
  clear t0 b0 hb1 d0 d1 d2 d3
  go_wp2_with fail
  refine (HSP.out _).mono ?_
  rintro e w2 ⟨rfl, hb2⟩
  have t2 := t1.below hb2
  have b2 := b1.trans (hb2.mono b1.size)
  clear t1 b1 hb2
  obtain ⟨d0, d1, d2, d3⟩ := t2.facts
  go_wp2_with fail
  refine (HTO.out _).mono ?_
  rintro e w3 ⟨rfl, hb3⟩
  have b3 := b2.trans (hb3.mono b2.size)
  clear t2 b2 hb3 d0 d1 d2 d3
  go_wp2_with fail
  refine (HIM.out _).mono ?_
  rintro e w4 ⟨rfl, hb4⟩
  have b4 := b3.trans (hb4.mono b3.size)
  clear b3 hb4
  go_wp2
  go_ret
  exact ⟨rfl, b4⟩
theorem own_fnExactMoveOk : ownKnob Try.prog.godebug = none := by kernel_rfl
theorem laidOut_fnExactMoveOk : laidOutB Try.prog = true := by kernel_rfl
set_option maxRecDepth 100000 in
theorem lifted_fnExactMoveOk (os : Os) (started : os.Started) (H : Type) (enc : TypeId × Value → H) :
    ReturnsInHanded {} Try.checked os 5 .any (Rows.fnExactMoveOkSpec.pre6 enc Try.prog Try.f5 Rows.fnExactMoveOkRow.domain false) (Rows.fnExactMoveOkSpec.post enc Try.prog Try.f5 false true false false) := by
  refine returnsInHanded_of_change (C := Try.checked) own_fnExactMoveOk started (by kernel_rfl) Try.func5
    (ChangeSpec.witness6 (enc := enc) (C := Try.checked) false ⟨#[], #[.agg #[.int .i64 0, .int .i64 0, .int .i64 0, .int .i64 0]], []⟩ 8 (by kernel_rfl) (by kernel_rfl) (by kernel_rfl) (by kernel_rfl)) ?_
  intro W base args ds gs before hval0 hW hcnd _
  have hval : ∀ (j : Nat) t v, Try.f5.params[j]? = some t → args[j]? = some v → Value.okWide Try.prog W .any base t v := hval0
  have hW' := hW
  obtain ⟨p, q, hA0, hV, rfl, hfz, hnd⟩ := hW
  have hA : DataW.TrodAll enc Try.prog W 0 (fun _ => true) true Try.f5.params.toList args.toList ds p := hA0
  rw [Try.params5] at hA hval
  obtain ⟨v0, vs0, d0, ds0, p0, q0, hargs, rfl, rfl, h0, r0⟩ := trodAll_cons hA
  obtain ⟨rfl, rfl, rfl⟩ := trodAll_nil r0
  obtain rfl : args = #[v0] := by cases args; simp_all
  obtain ⟨rfl, rfl⟩ := trodVars_none hV
  obtain ⟨c0, rfl, _⟩ := okWide_struct Try.underlying35 (hval 0 35 v0 rfl rfl)
  have k0 := h0
  have lt0 : ∀ x ∈ p0, x.block < W.heap.size := by obtain ⟨m, hm⟩ := k0; exact DataW.trod_lt m _ _ _ hm
  obtain ⟨m0, hc0⟩ : ∃ m : Mov, (Value.agg c0).cells.toList = [.int .i64 m.fr, .int .i64 m.to', .int .i64 m.sum, .int .i64 m.cou] := by obtain ⟨m, hm⟩ := h0; exact open_move hm
  obtain rfl : c0 = #[.int .i64 m0.fr, .int .i64 m0.to', .int .i64 m0.sum, .int .i64 m0.cou] := by have h := congrArg List.toArray hc0; simp only [Value.cells, Array.toArray_toList] at h; exact h
  clear hA0 hval0
  refine (lawMoveOk m0 W).mono fun e W' ⟨he, bel⟩ => ?_
  subst he
  exact ⟨_, rfl, _, _, _, [], _, [], hW', trodAll_mk1 (shut_bool Try.underlying4 _), (trodAll_cons_mk (Below.trod laidOut_fnExactMoveOk (by kernel_rfl) (of_decide_eq_true (by kernel_rfl)) k0 bel lt0) trodAll_mk0), rfl, bel.frame _, fun h => by cases h⟩
theorem over_fnExactMoveOk : Rows.fnExactMoveOkRow.holds Try.pinned (OpenSpec.ofChange Rows.fnExactMoveOkSpec) :=
  OpenClaim.holds_of_wide 5 Try.f5 rfl rfl rfl rfl rfl rfl rfl ⟨rfl, rfl, rfl, rfl, rfl⟩ rfl rfl rfl rfl rfl (by kernel_rfl) Try.func5 (by kernel_rfl)
    (of_decide_eq_true (by kernel_rfl)) (by unfold Func.isWrapper; first | (rw [if_pos (by decide +kernel)]; kernel_rfl) | (rw [if_neg (by decide +kernel)]; exact ⟨rfl, rfl⟩))
    (fun os started H enc _ => lifted_fnExactMoveOk os started H enc)
theorem fnExactMoveOk_holds : Rows.FnExactMoveOkSaid := over_fnExactMoveOk
#print axioms fnExactMoveOk_holds

end Go.Proofs.Ytmgapmhjkamigaa
