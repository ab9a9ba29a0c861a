/- Whatever numbers it is called with, laws.FnExactNewReplica returns true: both NewReplicas make the same Replica, whose lists are new. Condition: the three listed tables of the Go library hold what its text lays there (tied by the card). -/
import Derived.Test.YtckkiamaldfoiaaDoorRows
import Derived.Test.YtckkiamaldfoiaaDoorCards
import Derived.Test.YtckkiamaldfoiaaDoorTie
import Derived.Test.YtckkiamaldfoiaaDoorNrpNew
import Derived.Test.YtckkiamaldfoiaaDoorLaid
import Derived.ProofKit
import Derived.OpenShut
import Derived.ShutString
import Derived.ChangeOld
import Derived.LaidMore
import Derived.SevenTiedAt
import Derived.Stop.Joined
namespace Go.Proofs.YtckkiamaldfoiaaDoor
open Go.ChangeShapes Go.WideShapes Go.ChangeAt Go.RowKit
set_option maxHeartbeats 8000000 in
set_option maxRecDepth 100000 in
theorem newReplica_walk (x y z d n : Int) (b : Bool) (w : World)
    (HS : Hid (∀ W, Calls Tryd.prog 4 #[.int .i64 d, .int .i64 n] W fun e w' => e = .returned (.tuple #[.agg #[.int .i64 x, .int .i64 y, .int .i64 z, .int .i64 0, .int .i64 0, .int .i64 0, .int .i64 0, .int .i64 0, .slice none 0 0, .slice none 0 0, .slice none 0 0, .slice none 0 0, .slice none 0 0, .slice none 0 0], .bool b]) ∧ Below W.heap.size W w'))
    (HI : Hid (∀ W, Calls Tryd.prog 5 #[.int .i64 d, .int .i64 n] W fun e w' => e = .returned (.tuple #[.agg #[.int .i64 x, .int .i64 y, .int .i64 z, .int .i64 0, .int .i64 0, .int .i64 0, .int .i64 0, .int .i64 0, .slice none 0 0, .slice none 0 0, .slice none 0 0, .slice none 0 0, .slice none 0 0, .slice none 0 0], .bool b]) ∧ Below W.heap.size W w')) :
    Calls Tryd.prog 3 #[.int .i64 d, .int .i64 n] w fun e w' => e = .returned (.bool true) ∧ Below w.heap.size w w' := by
  have hbb : (b != b) = false := by cases b <;> rfl
  go_enter Tryd.func3, Tryd.ntmps3
  go_wp2_with fail
  refine (HS.out _).mono ?_
  rintro e w1 ⟨rfl, hb1⟩
  have Z1 := (hb1).alloc hb1.size (.cells #[.int .i64 x, .int .i64 y, .int .i64 z, .int .i64 0, .int .i64 0, .int .i64 0, .int .i64 0, .int .i64 0, .slice none 0 0, .slice none 0 0, .slice none 0 0, .slice none 0 0, .slice none 0 0, .slice none 0 0] 29)
  have X1 := bx_new w1 29 #[.int .i64 x, .int .i64 y, .int .i64 z, .int .i64 0, .int .i64 0, .int .i64 0, .int .i64 0, .int .i64 0, .slice none 0 0, .slice none 0 0, .slice none 0 0, .slice none 0 0, .slice none 0 0, .slice none 0 0]
  clear hb1
  go_wp2_with fail
  generalize w1.alloc (.cells #[.int .i64 x, .int .i64 y, .int .i64 z, .int .i64 0, .int .i64 0, .int .i64 0, .int .i64 0, .int .i64 0, .slice none 0 0, .slice none 0 0, .slice none 0 0, .slice none 0 0, .slice none 0 0, .slice none 0 0] 29) = v1 at Z1 X1 ⊢
  generalize w1.heap.size = p1 at X1 ⊢
  refine (HI.out _).mono ?_
  rintro e w2 ⟨rfl, hb2⟩
  have Z2 := Z1.trans (hb2.mono Z1.size)
  have Z3 := Z2.alloc Z2.size (.cells #[.int .i64 x, .int .i64 y, .int .i64 z, .int .i64 0, .int .i64 0, .int .i64 0, .int .i64 0, .int .i64 0, .slice none 0 0, .slice none 0 0, .slice none 0 0, .slice none 0 0, .slice none 0 0, .slice none 0 0] 29)
  have X2 := (X1.below hb2).below (below1 w2 (.cells #[.int .i64 x, .int .i64 y, .int .i64 z, .int .i64 0, .int .i64 0, .int .i64 0, .int .i64 0, .int .i64 0, .slice none 0 0, .slice none 0 0, .slice none 0 0, .slice none 0 0, .slice none 0 0, .slice none 0 0] 29))
  have Y2 := bx_new w2 29 #[.int .i64 x, .int .i64 y, .int .i64 z, .int .i64 0, .int .i64 0, .int .i64 0, .int .i64 0, .int .i64 0, .slice none 0 0, .slice none 0 0, .slice none 0 0, .slice none 0 0, .slice none 0 0, .slice none 0 0]
  clear hb2 Z1 Z2 X1
  have a0 := X2.cell 0 rfl
  have a1 := X2.cell 1 rfl
  have a2 := X2.cell 2 rfl
  have a3 := X2.cell 3 rfl
  have a4 := X2.cell 4 rfl
  have a5 := X2.cell 5 rfl
  have a6 := X2.cell 6 rfl
  have a7 := X2.cell 7 rfl
  have a8 := X2.cell 8 rfl
  have a9 := X2.cell 9 rfl
  have a10 := X2.cell 10 rfl
  have a11 := X2.cell 11 rfl
  have a12 := X2.cell 12 rfl
  have a13 := X2.cell 13 rfl
  go_wp2_with fail
  generalize w2.alloc (.cells #[.int .i64 x, .int .i64 y, .int .i64 z, .int .i64 0, .int .i64 0, .int .i64 0, .int .i64 0, .int .i64 0, .slice none 0 0, .slice none 0 0, .slice none 0 0, .slice none 0 0, .slice none 0 0, .slice none 0 0] 29) = v2 at Z3 X2 Y2 a0 a1 a2 a3 a4 a5 a6 a7 a8 a9 a10 a11 a12 a13 ⊢
  generalize w2.heap.size = p2 at Y2 ⊢
  refine (eqReplica_nil x y z _).mono ?_
  rintro e w3 ⟨rfl, hb3⟩
  have Z4 := Z3.trans (hb3.mono Z3.size)
  have X3 := X2.below hb3
  have Y3 := Y2.below hb3
  clear a0 a1 a2 a3 a4 a5 a6 a7 a8 a9 a10 a11 a12 a13
  clear hb3 Z3 X2 Y2
  have a0 := Y3.cell 0 rfl
  have a1 := Y3.cell 1 rfl
  have a2 := Y3.cell 2 rfl
  have a3 := Y3.cell 3 rfl
  have a4 := Y3.cell 4 rfl
  have a5 := Y3.cell 5 rfl
  have a6 := Y3.cell 6 rfl
  have a7 := Y3.cell 7 rfl
  have a8 := Y3.cell 8 rfl
  have a9 := Y3.cell 9 rfl
  have a10 := Y3.cell 10 rfl
  have a11 := Y3.cell 11 rfl
  have a12 := Y3.cell 12 rfl
  have a13 := Y3.cell 13 rfl
  go_wp2_with fail
  refine (markReplica_nil x y z _).mono ?_
  rintro e w4 ⟨rfl, hb4⟩
  have Z5 := Z4.trans (hb4.mono Z4.size)
  have X4 := X3.below hb4
  have Y4 := Y3.below hb4
  clear a0 a1 a2 a3 a4 a5 a6 a7 a8 a9 a10 a11 a12 a13
  clear hb4 Z4 X3 Y3
  have a0 := Y4.cell 0 rfl
  have a1 := Y4.cell 1 rfl
  have a2 := Y4.cell 2 rfl
  have a3 := Y4.cell 3 rfl
  have a4 := Y4.cell 4 rfl
  have a5 := Y4.cell 5 rfl
  have a6 := Y4.cell 6 rfl
  have a7 := Y4.cell 7 rfl
  have a8 := Y4.cell 8 rfl
  have a9 := Y4.cell 9 rfl
  have a10 := Y4.cell 10 rfl
  have a11 := Y4.cell 11 rfl
  have a12 := Y4.cell 12 rfl
  have a13 := Y4.cell 13 rfl
  go_wp2_with fail
  refine (heldReplica_nil x y z _).mono ?_
  rintro e w5 ⟨rfl, hb5⟩
  have Z6 := Z5.trans (hb5.mono Z5.size)
  have X5 := X4.below hb5
  have Y5 := Y4.below hb5
  clear a0 a1 a2 a3 a4 a5 a6 a7 a8 a9 a10 a11 a12 a13
  clear hb5 Z5 X4 Y4
  go_wp2_with fail
  refine (HI.out _).mono ?_
  rintro e w6 ⟨rfl, hb6⟩
  have Z7 := Z6.trans (hb6.mono Z6.size)
  have Z8 := Z7.alloc Z7.size (.cells #[.int .i64 x, .int .i64 y, .int .i64 z, .int .i64 0, .int .i64 0, .int .i64 0, .int .i64 0, .int .i64 0, .slice none 0 0, .slice none 0 0, .slice none 0 0, .slice none 0 0, .slice none 0 0, .slice none 0 0] 29)
  have X6 := (X5.below hb6).below (below1 w6 (.cells #[.int .i64 x, .int .i64 y, .int .i64 z, .int .i64 0, .int .i64 0, .int .i64 0, .int .i64 0, .int .i64 0, .slice none 0 0, .slice none 0 0, .slice none 0 0, .slice none 0 0, .slice none 0 0, .slice none 0 0] 29))
  have Y6 := (Y5.below hb6).below (below1 w6 (.cells #[.int .i64 x, .int .i64 y, .int .i64 z, .int .i64 0, .int .i64 0, .int .i64 0, .int .i64 0, .int .i64 0, .slice none 0 0, .slice none 0 0, .slice none 0 0, .slice none 0 0, .slice none 0 0, .slice none 0 0] 29))
  clear hb6 Z6 Z7 X5 Y5
  have a0 := X6.cell 0 rfl
  have a1 := X6.cell 1 rfl
  have a2 := X6.cell 2 rfl
  have a3 := X6.cell 3 rfl
  have a4 := X6.cell 4 rfl
  have a5 := X6.cell 5 rfl
  have a6 := X6.cell 6 rfl
  have a7 := X6.cell 7 rfl
  have a8 := X6.cell 8 rfl
  have a9 := X6.cell 9 rfl
  have a10 := X6.cell 10 rfl
  have a11 := X6.cell 11 rfl
  have a12 := X6.cell 12 rfl
  have a13 := X6.cell 13 rfl
  go_wp2_with fail
  generalize w6.alloc (.cells #[.int .i64 x, .int .i64 y, .int .i64 z, .int .i64 0, .int .i64 0, .int .i64 0, .int .i64 0, .int .i64 0, .slice none 0 0, .slice none 0 0, .slice none 0 0, .slice none 0 0, .slice none 0 0, .slice none 0 0] 29) = v6 at Z8 X6 Y6 a0 a1 a2 a3 a4 a5 a6 a7 a8 a9 a10 a11 a12 a13 ⊢
  refine (eqReplica_nil x y z _).mono ?_
  rintro e w7 ⟨rfl, hb7⟩
  have Z9 := Z8.trans (hb7.mono Z8.size)
  have Y7 := Y6.below hb7
  clear a0 a1 a2 a3 a4 a5 a6 a7 a8 a9 a10 a11 a12 a13
  clear hb7 Z8 X6 Y6
  have a0 := Y7.cell 0 rfl
  have a1 := Y7.cell 1 rfl
  have a2 := Y7.cell 2 rfl
  have a3 := Y7.cell 3 rfl
  have a4 := Y7.cell 4 rfl
  have a5 := Y7.cell 5 rfl
  have a6 := Y7.cell 6 rfl
  have a7 := Y7.cell 7 rfl
  have a8 := Y7.cell 8 rfl
  have a9 := Y7.cell 9 rfl
  have a10 := Y7.cell 10 rfl
  have a11 := Y7.cell 11 rfl
  have a12 := Y7.cell 12 rfl
  have a13 := Y7.cell 13 rfl
  go_wp2_with fail
  refine (heldReplica_nil x y z _).mono ?_
  rintro e w8 ⟨rfl, hb8⟩
  have Za := Z9.trans (hb8.mono Z9.size)
  clear a0 a1 a2 a3 a4 a5 a6 a7 a8 a9 a10 a11 a12 a13
  clear hb8 Z9 Y7
  go_wp2
  go_ret
  exact ⟨rfl, Za⟩
theorem lawNewReplica (d : Int) (hd : (Lit.int .i64 d).wf = true) (n : Int) (hn : (Lit.int .i64 n).wf = true) (w : World) (ht : Tab w) :
    Calls Tryd.prog 3 #[.int .i64 d, .int .i64 n] w fun e w' => e = .returned (.bool true) ∧ Below w.heap.size w w' := by
  cases h : nrB d n with
  | true => exact newReplica_walk d n 1 d n true w (fun W => specNew_yes d n h W) (fun W => implNew_yes d n h W)
  | false => exact newReplica_walk 0 0 0 d n false w (fun W => specNew_no d n h W) (fun W => implNew_no d n h W)
theorem own_fnExactNewReplica : ownKnob Tryd.prog.godebug = none := by kernel_rfl
theorem door_fnExactNewReplica (os : Os) (args : Array Value) : laidMetH Tryd.prog Rows.fnExactNewReplicaRow.laid ((World.doorLaid Tryd.prog 400 os).forCall (fun _ _ => 0) ⟨#[], args, []⟩).memory :=
  laidMetH_of_parts3 (fuel := 8) (laidMet_of_run' 8 (by kernel_rfl) (by kernel_rfl)) (by kernel_rfl) (by kernel_rfl)
set_option maxRecDepth 100000 in
theorem lifted_fnExactNewReplica (os : Os) (started : os.Started) (H : Type) (enc : TypeId × Value → H) :
    ReturnsInHanded {} Tryd.checked os 3 .any (fun w args => (Rows.fnExactNewReplicaSpec.pre enc Tryd.prog Tryd.f3 [] false w args ∧ laidMetH Tryd.prog Rows.fnExactNewReplicaRow.laid w) ∧ sizedMet enc Tryd.prog Tryd.f3 (OpenSpec.ofChange Rows.fnExactNewReplicaSpec) false w args)
      (Rows.fnExactNewReplicaSpec.post enc Tryd.prog Tryd.f3 false true false false) := by
  refine returnsInHanded_of_change_and (C := Tryd.checked) (X := fun w _ => laidMetH Tryd.prog Rows.fnExactNewReplicaRow.laid w) (fun _ _ _ hh h => h.of_heap hh) own_fnExactNewReplica started (by kernel_rfl) Tryd.func3
    (ChangeSpec.witness_shaped (enc := enc) (C := Tryd.checked) (os := os) (X := fun w _ => laidMetH Tryd.prog Rows.fnExactNewReplicaRow.laid w) false (World.doorLaid Tryd.prog 400 os) #[.int .i64 0, .int .i64 0] 8 rfl (World.shaped_of_RefB (by kernel_rfl) (by kernel_rfl)) (by kernel_rfl) (by kernel_rfl) (by kernel_rfl) (door_fnExactNewReplica os _)) ?_
  intro W base args ds gs before hval0 hW _ _ hL _
  have hval : ∀ (j : Nat) t v, Tryd.f3.params[j]? = some t → args[j]? = some v → Value.okWide Tryd.prog W .any base t v := hval0
  have hW' := hW
  obtain ⟨p, q, hA0, hV, rfl, hfz, hnd⟩ := hW
  have hA : DataW.TrodAll enc Tryd.prog W 0 (fun _ => true) true Tryd.f3.params.toList args.toList ds p := hA0
  rw [Tryd.params3] at hA hval
  obtain ⟨v0, vs0, d0, ds0, p0, q0, hargs, rfl, rfl, h0, r0⟩ := trodAll_cons hA
  obtain ⟨v1, vs1, d1, ds1, p1, q1, rfl, rfl, rfl, h1, r1⟩ := trodAll_cons r0
  obtain ⟨rfl, rfl, rfl⟩ := trodAll_nil r1
  obtain rfl : args = #[v0, v1] := by cases args; simp_all
  obtain ⟨rfl, rfl⟩ := trodVars_none hV
  obtain ⟨a0, rfl, rfl, rfl, w0⟩ := open_int Tryd.underlying2 (hval 0 2 v0 rfl rfl) h0
  obtain ⟨a1, rfl, rfl, rfl, w1⟩ := open_int Tryd.underlying2 (hval 1 2 v1 rfl rfl) h1
  have htab := tab_of_laid hL
  clear hA0 hval0
  refine (lawNewReplica a0 w0 a1 w1 W htab).mono fun e W' ⟨he, bel⟩ => ?_
  subst he
  exact ⟨_, rfl, _, _, _, [], _, [], hW', trodAll_mk1 (shut_bool Tryd.underlying4 _), (trodAll_cons_mk (shut_int Tryd.underlying2 w0) (trodAll_cons_mk (shut_int Tryd.underlying2 w1) trodAll_mk0)), rfl, bel.frame _, fun h => by cases h⟩
theorem over_fnExactNewReplica : Rows.fnExactNewReplicaRow.holds Tryd.pinned (OpenSpec.ofChange Rows.fnExactNewReplicaSpec) :=
  OpenClaim.holds_of_wide 3 Tryd.f3 rfl rfl rfl rfl rfl rfl rfl ⟨rfl, rfl, rfl, rfl, rfl⟩ rfl rfl rfl rfl rfl (by kernel_rfl) Tryd.func3 (by kernel_rfl)
    (of_decide_eq_true (by kernel_rfl)) (by unfold Func.isWrapper; first | (rw [if_pos (by decide +kernel)]; kernel_rfl) | (rw [if_neg (by decide +kernel)]; exact ⟨rfl, rfl⟩))
    (fun os started H enc _ => lifted_fnExactNewReplica os started H enc)
theorem fnExactNewReplica_holds : Rows.FnExactNewReplicaCardSaid :=
  Claim7.holds_tied_plain_at .later [] [.data, .data, .data] true Rows.fnExactNewReplicaCard.stood.harness Rows.fnExactNewReplicaCard.stood.looks
    over_fnExactNewReplica (fun _ h => by cases h) (by kernel_rfl) (fun _ h => by cases h) fnExactNewReplica_row_tie rfl ⟨rfl, rfl⟩ (by kernel_rfl) rfl
    (fun f fn hf hfn => by
      obtain rfl : f = 3 := Option.some.inj ((show Tryd.prog.funcNamed "loop.example/g00217/laws.FnExactNewReplica" = some 3 by kernel_rfl).symm.trans hf) |>.symm
      obtain rfl : fn = Tryd.f3 := (Option.some.inj (Tryd.func3.symm.trans hfn)).symm
      exact ⟨by kernel_rfl, fun j t ht => by
        rw [Tryd.params3] at ht
        have hm : t ∈ [2, 2] := by simpa using Array.mem_of_getElem? ht
        have hall : ([2, 2].all fun u => !Tryd.prog.wantsStandIn u) = true := by kernel_rfl
        exact (show Tryd.prog.wantsStandIn t = false by simpa using List.all_eq_true.1 hall t hm)⟩)
    (by kernel_rfl)
#print axioms fnExactNewReplica_holds

end Go.Proofs.YtckkiamaldfoiaaDoor
