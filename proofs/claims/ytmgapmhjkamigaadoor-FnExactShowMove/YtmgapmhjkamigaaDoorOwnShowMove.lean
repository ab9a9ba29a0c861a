/- Whatever move it is called with, laws.FnExactShowMove returns true and its argument reads as before: both ShowMoves show the same text. Condition: the three listed tables of the Go library hold what its text lays there (tied by the card). -/
import Derived.Test.YtmgapmhjkamigaaDoorRows
import Derived.Test.YtmgapmhjkamigaaDoorCards
import Derived.Test.YtmgapmhjkamigaaDoorTie
import Derived.Test.YtmgapmhjkamigaaDoorBnkOpen
import Derived.Test.YtmgapmhjkamigaaDoorMovCp
import Derived.Test.YtmgapmhjkamigaaDoorMovShw
import Derived.Test.YtmgapmhjkamigaaDoorLaid
import Derived.ProofKit
import Derived.OpenShut
import Derived.ShutString
import Derived.ChangeOld
import Derived.LaidMore
import Derived.SevenTiedAt
import Derived.Stop.Joined
namespace Go.Proofs.YtmgapmhjkamigaaDoor
open Go.ChangeShapes Go.WideShapes Go.ChangeAt Go.RowKit
set_option maxHeartbeats 4000000 in
set_option maxRecDepth 100000 in
theorem lawShowMove (m : Mov) (w : World) (ht : Tab w) :
    Calls Tryd.prog 5 #[.agg #[.int .i64 m.fr, .int .i64 m.to', .int .i64 m.sum, .int .i64 m.cou]] w fun e w' => e = .returned (.bool true) ∧ Below w.heap.size w w' := by
  have t0 := boxMo_new w 50 (.int .i64 m.fr) (.int .i64 m.to') (.int .i64 m.sum) (.int .i64 m.cou)
  have b0 := below1 w (.cells #[.int .i64 m.fr, .int .i64 m.to', .int .i64 m.sum, .int .i64 m.cou] 50)
  have HTO : Hid (∀ W, Calls Tryd.prog 30 #[.agg #[.int .i64 m.fr, .int .i64 m.to', .int .i64 m.sum, .int .i64 m.cou]] W fun e w' => e = .returned (.agg #[.int .i64 m.fr, .int .i64 m.to', .int .i64 m.sum, .int .i64 m.cou]) ∧ Below W.heap.size W w') := fun W => toMove_any m W
  obtain ⟨ok, hok0⟩ : ∃ ok, ok = shwS m := ⟨_, rfl⟩
  have HSP : Hid (∀ W, Calls Tryd.prog 28 #[.agg #[.int .i64 m.fr, .int .i64 m.to', .int .i64 m.sum, .int .i64 m.cou]] W fun e w' => e = .returned (.string ok) ∧ Below W.heap.size W w') := fun W => by rw [hok0]; exact specShowMove_any m W
  have HIM : Hid (∀ W, Tab W → Calls Tryd.prog 24 #[.agg #[.int .i64 m.fr, .int .i64 m.to', .int .i64 m.sum, .int .i64 m.cou]] W fun e w' => e = .returned (.string ok) ∧ Below W.heap.size W w') := fun W h => by rw [hok0]; exact implShowMove_any m W h
  clear hok0
  obtain ⟨d0, d1, d2, d3⟩ := t0.facts
  go_enter Tryd.func5, Tryd.ntmps5
  go_wp2_with fail
  refine (HTO.out _).mono ?_
  rintro e w1 ⟨rfl, hb1⟩
  have t1 := t0.below hb1
  have b1 := b0.trans (hb1.mono b0.size)
  clear t0 b0 hb1 d0 d1 d2 d3
  go_wp2_with fail
  refine (HSP.out _).mono ?_
  rintro e w2 ⟨rfl, hb2⟩
  have t2 := t1.below hb2
  have b2 := b1.trans (hb2.mono b1.size)
  clear t1 b1 hb2
  obtain ⟨d0, d1, d2, d3⟩ := t2.facts
  go_wp2_with fail
  refine (HTO.out _).mono ?_
  rintro e w3 ⟨rfl, hb3⟩
  have b3 := b2.trans (hb3.mono b2.size)
  clear t2 b2 hb3 d0 d1 d2 d3
  go_wp2_with fail
  refine (HIM.out _ (ht.on b3)).mono ?_
  rintro e w4 ⟨rfl, hb4⟩
  have b4 := b3.trans (hb4.mono b3.size)
  clear b3 hb4
  go_wp2
  go_ret
  exact ⟨rfl, b4⟩
theorem own_fnExactShowMove : ownKnob Tryd.prog.godebug = none := by kernel_rfl
theorem laidOut_fnExactShowMove : laidOutB Tryd.prog = true := by kernel_rfl
theorem door_fnExactShowMove (os : Os) (args : Array Value) : laidMetH Tryd.prog Rows.fnExactShowMoveRow.laid ((World.doorLaid Tryd.prog 400 os).forCall (fun _ _ => 0) ⟨#[], args, []⟩).memory :=
  laidMetH_of_parts3 (fuel := 8) (laidMet_of_run' 8 (by kernel_rfl) (by kernel_rfl)) (by kernel_rfl) (by kernel_rfl)
set_option maxRecDepth 100000 in
theorem lifted_fnExactShowMove (os : Os) (started : os.Started) (H : Type) (enc : TypeId × Value → H) :
    ReturnsInHanded {} Tryd.checked os 5 .any (fun w args => (Rows.fnExactShowMoveSpec.pre enc Tryd.prog Tryd.f5 [] false w args ∧ laidMetH Tryd.prog Rows.fnExactShowMoveRow.laid w) ∧ sizedMet enc Tryd.prog Tryd.f5 (OpenSpec.ofChange Rows.fnExactShowMoveSpec) false w args)
      (Rows.fnExactShowMoveSpec.post enc Tryd.prog Tryd.f5 false true false false) := by
  refine returnsInHanded_of_change_and (C := Tryd.checked) (X := fun w _ => laidMetH Tryd.prog Rows.fnExactShowMoveRow.laid w) (fun _ _ _ hh h => h.of_heap hh) own_fnExactShowMove started (by kernel_rfl) Tryd.func5
    (ChangeSpec.witness_shaped (enc := enc) (C := Tryd.checked) (os := os) (X := fun w _ => laidMetH Tryd.prog Rows.fnExactShowMoveRow.laid w) false (World.doorLaid Tryd.prog 400 os) #[.agg #[.int .i64 0, .int .i64 0, .int .i64 0, .int .i64 0]] 8 rfl (World.shaped_of_RefB (by kernel_rfl) (by kernel_rfl)) (by kernel_rfl) (by kernel_rfl) (by kernel_rfl) (door_fnExactShowMove os _)) ?_
  intro W base args ds gs before hval0 hW _ _ hL _
  have hval : ∀ (j : Nat) t v, Tryd.f5.params[j]? = some t → args[j]? = some v → Value.okWide Tryd.prog W .any base t v := hval0
  have hW' := hW
  obtain ⟨p, q, hA0, hV, rfl, hfz, hnd⟩ := hW
  have hA : DataW.TrodAll enc Tryd.prog W 0 (fun _ => true) true Tryd.f5.params.toList args.toList ds p := hA0
  rw [Tryd.params5] at hA hval
  obtain ⟨v0, vs0, d0, ds0, p0, q0, hargs, rfl, rfl, h0, r0⟩ := trodAll_cons hA
  obtain ⟨rfl, rfl, rfl⟩ := trodAll_nil r0
  obtain rfl : args = #[v0] := by cases args; simp_all
  obtain ⟨rfl, rfl⟩ := trodVars_none hV
  obtain ⟨c0, rfl, _⟩ := okWide_struct Tryd.underlying50 (hval 0 50 v0 rfl rfl)
  have k0 := h0
  have lt0 : ∀ x ∈ p0, x.block < W.heap.size := by obtain ⟨m, hm⟩ := k0; exact DataW.trod_lt m _ _ _ hm
  obtain ⟨m0, hc0⟩ : ∃ m : Mov, (Value.agg c0).cells.toList = [.int .i64 m.fr, .int .i64 m.to', .int .i64 m.sum, .int .i64 m.cou] := by obtain ⟨m, hm⟩ := h0; exact open_move hm
  obtain rfl : c0 = #[.int .i64 m0.fr, .int .i64 m0.to', .int .i64 m0.sum, .int .i64 m0.cou] := by have h := congrArg List.toArray hc0; simp only [Value.cells, Array.toArray_toList] at h; exact h
  have htab := tab_of_laid hL
  clear hA0 hval0
  refine (lawShowMove m0 W htab).mono fun e W' ⟨he, bel⟩ => ?_
  subst he
  exact ⟨_, rfl, _, _, _, [], _, [], hW', trodAll_mk1 (shut_bool Tryd.underlying4 _), (trodAll_cons_mk (Below.trod laidOut_fnExactShowMove (by kernel_rfl) (of_decide_eq_true (by kernel_rfl)) k0 bel lt0) trodAll_mk0), rfl, bel.frame _, fun h => by cases h⟩
theorem over_fnExactShowMove : Rows.fnExactShowMoveRow.holds Tryd.pinned (OpenSpec.ofChange Rows.fnExactShowMoveSpec) :=
  OpenClaim.holds_of_wide 5 Tryd.f5 rfl rfl rfl rfl rfl rfl rfl ⟨rfl, rfl, rfl, rfl, rfl⟩ rfl rfl rfl rfl rfl (by kernel_rfl) Tryd.func5 (by kernel_rfl)
    (of_decide_eq_true (by kernel_rfl)) (by unfold Func.isWrapper; first | (rw [if_pos (by decide +kernel)]; kernel_rfl) | (rw [if_neg (by decide +kernel)]; exact ⟨rfl, rfl⟩))
    (fun os started H enc _ => lifted_fnExactShowMove os started H enc)
theorem fnExactShowMove_holds : Rows.FnExactShowMoveCardSaid :=
  Claim7.holds_tied_plain_at .later [] [.data, .data, .data] true Rows.fnExactShowMoveCard.stood.harness Rows.fnExactShowMoveCard.stood.looks
    over_fnExactShowMove (fun _ h => by cases h) (by kernel_rfl) (fun _ h => by cases h) fnExactShowMove_row_tie rfl ⟨rfl, rfl⟩ (by kernel_rfl) rfl
    (fun f fn hf hfn => by
      obtain rfl : f = 5 := Option.some.inj ((show Tryd.prog.funcNamed "loop.example/g00217/laws.FnExactShowMove" = some 5 by kernel_rfl).symm.trans hf) |>.symm
      obtain rfl : fn = Tryd.f5 := (Option.some.inj (Tryd.func5.symm.trans hfn)).symm
      exact ⟨by kernel_rfl, fun j t ht => by
        rw [Tryd.params5] at ht
        have hm : t ∈ [50] := by simpa using Array.mem_of_getElem? ht
        have hall : ([50].all fun u => !Tryd.prog.wantsStandIn u) = true := by kernel_rfl
        exact (show Tryd.prog.wantsStandIn t = false by simpa using List.all_eq_true.1 hall t hm)⟩)
    (by kernel_rfl)
#print axioms fnExactShowMove_holds

end Go.Proofs.YtmgapmhjkamigaaDoor
