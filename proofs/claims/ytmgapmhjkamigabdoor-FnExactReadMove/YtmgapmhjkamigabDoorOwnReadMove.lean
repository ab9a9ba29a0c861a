/- Whatever text it is called with, laws.FnExactReadMove returns true and its argument reads as before: both ReadMoves read the same move, or none. Condition: the listed tables and errors of the Go library hold what its text lays there (tied by the card). -/
import Derived.Test.YtmgapmhjkamigabDoorRows
import Derived.Test.YtmgapmhjkamigabDoorCards
import Derived.Test.YtmgapmhjkamigabDoorTie
import Derived.Test.YtmgapmhjkamigabDoorMovLaid
import Derived.ProofKit
import Derived.OpenShut
import Derived.ShutString
import Derived.ChangeOld
import Derived.LaidMore
import Derived.SevenTiedAt
import Derived.Stop.Joined
namespace Go.Proofs.YtmgapmhjkamigabDoor
open Go.ChangeShapes Go.WideShapes Go.ChangeAt Go.RowKit
open Go.ChangeMaps (open_string shut_string)
set_option maxHeartbeats 4000000 in
set_option maxRecDepth 100000 in
theorem eqMove_same (m : Mov) (w : World) :
    Calls Tryd.prog 7 #[.agg #[.int .i64 m.fr, .int .i64 m.to', .int .i64 m.sum, .int .i64 m.cou], .agg #[.int .i64 m.fr, .int .i64 m.to', .int .i64 m.sum, .int .i64 m.cou]] w fun e w' => e = .returned (.bool true) ∧ Below w.heap.size w w' := by
  have bb := below2 w (.cells #[.int .i64 m.fr, .int .i64 m.to', .int .i64 m.sum, .int .i64 m.cou] 23) (.cells #[.int .i64 m.fr, .int .i64 m.to', .int .i64 m.sum, .int .i64 m.cou] 23)
  have h0 : (m.fr != m.fr) = false := by simp
  have h1 : (m.to' != m.to') = false := by simp
  have h2 : (m.sum != m.sum) = false := by simp
  have h3 : (m.cou != m.cou) = false := by simp
  go_enter Tryd.func7, Tryd.ntmps7
  go_wp2
  go_ret
  exact ⟨rfl, bb⟩
set_option maxHeartbeats 4000000 in
set_option maxRecDepth 100000 in
theorem lawReadMove (s : ByteArray) (w1 : s.size ≤ maxLen) (w : World) (he : MEnv w) :
    Calls Tryd.prog 3 #[.string s] w fun e w' => e = .returned (.bool true) ∧ Below w.heap.size w w' := by
  unfold maxLen at w1
  by_cases hbig : 1048576 < s.size
  · go_enter Tryd.func3, Tryd.ntmps3
    go_wp2
    go_ret
    exact ⟨rfl, Below.refl _ _⟩
  have hle : s.size ≤ 1048576 := by omega
  obtain ⟨R, o, hR⟩ := rmr_ex s
  have HS : Hid (∀ W, Calls Tryd.prog 5 #[.string s] W fun e w' => e = .returned (.tuple #[.agg #[.int .i64 R.fr, .int .i64 R.to', .int .i64 R.sum, .int .i64 R.cou], .bool o]) ∧ Below W.heap.size W w') := fun W => specReadMove_any s R o W hle hR
  have HI : Hid (∀ W, MEnv W → Calls Tryd.prog 6 #[.string s] W fun e w' => e = .returned (.tuple #[.agg #[.int .i64 R.fr, .int .i64 R.to', .int .i64 R.sum, .int .i64 R.cou], .bool o]) ∧ Below W.heap.size W w') := fun W h => implReadMove_any s R o W hle hR h
  have HQ : Hid (∀ W, Calls Tryd.prog 7 #[.agg #[.int .i64 R.fr, .int .i64 R.to', .int .i64 R.sum, .int .i64 R.cou], .agg #[.int .i64 R.fr, .int .i64 R.to', .int .i64 R.sum, .int .i64 R.cou]] W fun e w' => e = .returned (.bool true) ∧ Below W.heap.size W w') := fun W => eqMove_same R W
  have ho : (o != o) = false := by cases o <;> rfl
  clear w1 hR
  go_enter Tryd.func3, Tryd.ntmps3
  go_wp2_with fail
  refine (HS.out _).mono ?_
  rintro e w1 ⟨rfl, hb1⟩
  have hb2 := below1 w1 (.cells #[.int .i64 R.fr, .int .i64 R.to', .int .i64 R.sum, .int .i64 R.cou] 23)
  have b2 := hb1.trans (hb2.mono hb1.size)
  have x2 := box4_new w1 23 R
  have he2 := he.on b2
  clear hb1 hb2
  go_wp2_with fail
  refine (HI.out _ he2).mono ?_
  rintro e w3 ⟨rfl, hb3⟩
  have x3 := x2.below hb3
  have b3 := b2.trans (hb3.mono b2.size)
  clear hb3 b2 x2 he2
  have hb4 := below1 w3 (.cells #[.int .i64 R.fr, .int .i64 R.to', .int .i64 R.sum, .int .i64 R.cou] 23)
  have x4 := x3.below hb4
  have y4 := box4_new w3 23 R
  have b4 := b3.trans (hb4.mono b3.size)
  clear hb4 b3
  obtain ⟨c0, c1, c2, c3⟩ := x3.facts
  obtain ⟨d0, d1, d2, d3⟩ := x4.facts
  obtain ⟨p0, p1, p2, p3⟩ := y4.facts
  clear x3 x4 y4
  go_wp2_with fail
  refine (HQ.out _).mono ?_
  rintro e w5 ⟨rfl, hb5⟩
  have b5 := b4.trans (hb5.mono b4.size)
  clear b4 hb5 d0 d1 d2 d3 p0 p1 p2 p3 c0 c1 c2 c3
  go_wp2
  go_ret
  exact ⟨rfl, b5⟩
theorem own_fnExactReadMove : ownKnob Tryd.prog.godebug = none := by kernel_rfl
theorem door_fnExactReadMove (os : Os) (args : Array Value) : laidMetH Tryd.prog Rows.fnExactReadMoveRow.laid ((World.laidAll Tryd.prog os Rows.fnExactReadMoveRow.laid).forCall (fun _ _ => 0) ⟨#[], args, []⟩).memory :=
  by rw [MakeChecks.laidMetH_plain _ _ _ (by kernel_rfl)]; exact laidMet_laidAll _ (by kernel_rfl) (by kernel_rfl)
set_option maxRecDepth 100000 in
theorem lifted_fnExactReadMove (os : Os) (started : os.Started) (H : Type) (enc : TypeId × Value → H) :
    ReturnsInHanded {} Tryd.checked os 3 .any (fun w args => (Rows.fnExactReadMoveSpec.pre enc Tryd.prog Tryd.f3 [] false w args ∧ laidMetH Tryd.prog Rows.fnExactReadMoveRow.laid w) ∧ sizedMet enc Tryd.prog Tryd.f3 (OpenSpec.ofChange Rows.fnExactReadMoveSpec) false w args)
      (Rows.fnExactReadMoveSpec.post enc Tryd.prog Tryd.f3 false true false false) := by
  refine returnsInHanded_of_change_shut (C := Tryd.checked) (X := fun w _ => laidMetH Tryd.prog Rows.fnExactReadMoveRow.laid w) (fun _ _ _ hh h => h.of_heap hh) own_fnExactReadMove started (by kernel_rfl) Tryd.func3
    (ChangeSpec.witness_shaped (enc := enc) (C := Tryd.checked) (os := os) (X := fun w _ => laidMetH Tryd.prog Rows.fnExactReadMoveRow.laid w) false (World.laidAll Tryd.prog os Rows.fnExactReadMoveRow.laid) #[.string ByteArray.empty] 8 (World.laidAll_os _ _ _) (World.shaped_of_ZipB (by kernel_rfl) (by kernel_rfl)) (by kernel_rfl) (by kernel_rfl) (by kernel_rfl) (door_fnExactReadMove os _)) ?_
  intro W base args ds gs before hval0 hW _ _ hL hSh _
  have hval : ∀ (j : Nat) t v, Tryd.f3.params[j]? = some t → args[j]? = some v → Value.okWide Tryd.prog W .any base t v := hval0
  have hW' := hW
  obtain ⟨p, q, hA0, hV, rfl, hfz, hnd⟩ := hW
  have hA : DataW.TrodAll enc Tryd.prog W 0 (fun _ => true) true Tryd.f3.params.toList args.toList ds p := hA0
  rw [Tryd.params3] at hA hval
  obtain ⟨v0, vs0, d0, ds0, p0, q0, hargs, rfl, rfl, h0, r0⟩ := trodAll_cons hA
  obtain ⟨rfl, rfl, rfl⟩ := trodAll_nil r0
  obtain rfl : args = #[v0] := by cases args; simp_all
  obtain ⟨rfl, rfl⟩ := trodVars_none hV
  obtain ⟨a0, rfl, rfl, rfl, w0⟩ := open_string Tryd.underlying9 (hval 0 9 v0 rfl rfl) h0
  have henv := menv_of_laid hL hSh
  clear hA0 hval0
  refine (lawReadMove a0 w0 W henv).mono fun e W' ⟨he, bel⟩ => ?_
  subst he
  exact ⟨_, rfl, _, _, _, [], _, [], hW', trodAll_mk1 (shut_bool Tryd.underlying4 _), (trodAll_cons_mk (shut_string Tryd.underlying9 w0) trodAll_mk0), rfl, bel.frame _, fun h => by cases h⟩
theorem over_fnExactReadMove : Rows.fnExactReadMoveRow.holds Tryd.pinned (OpenSpec.ofChange Rows.fnExactReadMoveSpec) :=
  OpenClaim.holds_of_wide 3 Tryd.f3 rfl rfl rfl rfl rfl rfl rfl ⟨rfl, rfl, rfl, rfl, rfl⟩ rfl rfl rfl rfl rfl (by kernel_rfl) Tryd.func3 (by kernel_rfl)
    (of_decide_eq_true (by kernel_rfl)) (by unfold Func.isWrapper; first | (rw [if_pos (by decide +kernel)]; kernel_rfl) | (rw [if_neg (by decide +kernel)]; exact ⟨rfl, rfl⟩))
    (fun os started H enc _ => lifted_fnExactReadMove os started H enc)
theorem fnExactReadMove_holds : Rows.FnExactReadMoveCardSaid :=
  Claim7.holds_tied_plain_at .later [] [.data, .data, .data, .data, .sentinel, .sentinel, .pinned] true Rows.fnExactReadMoveCard.stood.harness Rows.fnExactReadMoveCard.stood.looks
    over_fnExactReadMove (fun _ h => by cases h) (by kernel_rfl) (fun _ h => by cases h) fnExactReadMove_row_tie rfl ⟨rfl, rfl⟩ (by kernel_rfl) rfl
    (fun f fn hf hfn => by
      obtain rfl : f = 3 := Option.some.inj ((show Tryd.prog.funcNamed "loop.example/g00217/laws.FnExactReadMove" = some 3 by kernel_rfl).symm.trans hf) |>.symm
      obtain rfl : fn = Tryd.f3 := (Option.some.inj (Tryd.func3.symm.trans hfn)).symm
      exact ⟨by kernel_rfl, fun j t ht => by
        rw [Tryd.params3] at ht
        have hm : t ∈ [9] := by simpa using Array.mem_of_getElem? ht
        have hall : ([9].all fun u => !Tryd.prog.wantsStandIn u) = true := by kernel_rfl
        exact (show Tryd.prog.wantsStandIn t = false by simpa using List.all_eq_true.1 hall t hm)⟩)
    (by kernel_rfl)
#print axioms fnExactReadMove_holds

end Go.Proofs.YtmgapmhjkamigabDoor
