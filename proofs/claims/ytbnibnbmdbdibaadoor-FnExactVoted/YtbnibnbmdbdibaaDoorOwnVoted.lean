/- Whatever numbers it is called with, laws.FnExactVoted returns true: both Voteds tell the same. Condition: the three listed tables of the Go library hold what its text lays there (tied by the card). -/
import Derived.Test.YtbnibnbmdbdibaaDoorRows
import Derived.Test.YtbnibnbmdbdibaaDoorCards
import Derived.Test.YtbnibnbmdbdibaaDoorTie
import Derived.Test.YtbnibnbmdbdibaaDoorBlkImp
import Derived.Test.YtbnibnbmdbdibaaDoorVotCp
import Derived.Test.YtbnibnbmdbdibaaDoorLaid
import Derived.ProofKit
import Derived.OpenShut
import Derived.ShutString
import Derived.ChangeOld
import Derived.LaidMore
import Derived.SevenTiedAt
import Derived.Stop.Joined
namespace Go.Proofs.YtbnibnbmdbdibaaDoor
open Go.ChangeShapes Go.WideShapes Go.ChangeAt Go.RowKit
set_option maxHeartbeats 1000000 in
set_option maxRecDepth 100000 in
theorem lawVoted (s : Int) (hs : (Lit.int .i64 s).wf = true) (v : Int) (hv : (Lit.int .i64 v).wf = true) (n : Int) (hn : (Lit.int .i64 n).wf = true) (w : World) (ht : Tab w) :
    Calls Tryd.prog 5 #[.int .i64 s, .int .i64 v, .int .i64 n] w fun e w' => e = .returned (.bool true) ∧ Below w.heap.size w w' := by
  have HS : Hid (∀ W, Calls Tryd.prog 20 #[.int .i64 s, .int .i64 v, .int .i64 n] W fun e w' => e = .returned (.agg (VC (votR s v n))) ∧ Below W.heap.size W w') := fun W => specVoted_any s v n W (bounds_i64 hs).1 (bounds_i64 hs).2 (bounds_i64 hv).1 (bounds_i64 hv).2 (bounds_i64 hn).1 (bounds_i64 hn).2
  have HI : Hid (∀ W, Tab W → Calls Tryd.prog 13 #[.int .i64 s, .int .i64 v, .int .i64 n] W fun e w' => e = .returned (.agg (VC (votR s v n))) ∧ Below W.heap.size W w') := fun W t => implVoted_any s v n W (bounds_i64 hv).1 (bounds_i64 hv).2 (bounds_i64 hn).1 (bounds_i64 hn).2 t
  generalize votR s v n = y at HS HI
  have HE : Hid (∀ W, Calls Tryd.prog 34 #[.agg (VC y), .agg (VC y)] W fun e w' => e = .returned (.bool true) ∧ Below W.heap.size W w') := fun W => eqVote_same y W
  unfold VC at HS HI HE
  go_enter Tryd.func5, Tryd.ntmps5
  go_wp2_with fail
  refine (HS.out _).mono ?_
  rintro e w1 ⟨rfl, b1⟩
  go_wp2_with fail
  have b2 : Below w.heap.size w (w1.alloc (.cells #[.int .i64 y.vw, .int .i64 y.nm, .int .i64 y.sv, .int .i64 y.tg] 35)) := b1.alloc b1.size _
  have x1 : BoxV (w1.alloc (.cells #[.int .i64 y.vw, .int .i64 y.nm, .int .i64 y.sv, .int .i64 y.tg] 35)) w1.heap.size y := boxV_new w1 y
  refine (HI.out _ (ht.on b2)).mono ?_
  rintro e w2 ⟨rfl, hb2⟩
  have b3 := b2.trans (hb2.mono b2.size)
  have x2 := x1.below hb2
  have x3 := boxV_new w2 y
  have x4 := x2.below (below1 w2 (.cells (VC y) 35))
  have b4 : Below w.heap.size w (w2.alloc (.cells #[.int .i64 y.vw, .int .i64 y.nm, .int .i64 y.sv, .int .i64 y.tg] 35)) := b3.alloc b3.size _
  obtain ⟨p0, p1, p2, p3⟩ := x4.facts
  obtain ⟨q0, q1, q2, q3⟩ := x3.facts
  unfold VC at p0 p1 p2 p3 q0 q1 q2 q3
  clear b2 b3 x1 x2 x3 x4 hb2 b1
  go_wp2_with fail
  refine (HE.out _).mono ?_
  rintro e w3 ⟨rfl, hb3⟩
  have b5 := b4.trans (hb3.mono b4.size)
  go_wp2
  go_ret
  exact ⟨rfl, b5⟩
theorem own_fnExactVoted : ownKnob Tryd.prog.godebug = none := by kernel_rfl
theorem door_fnExactVoted (os : Os) (args : Array Value) : laidMetH Tryd.prog Rows.fnExactVotedRow.laid ((World.doorLaid Tryd.prog 400 os).forCall (fun _ _ => 0) ⟨#[], args, []⟩).memory :=
  laidMetH_of_parts3 (fuel := 8) (laidMet_of_run' 8 (by kernel_rfl) (by kernel_rfl)) (by kernel_rfl) (by kernel_rfl)
set_option maxRecDepth 100000 in
theorem lifted_fnExactVoted (os : Os) (started : os.Started) (H : Type) (enc : TypeId × Value → H) :
    ReturnsInHanded {} Tryd.checked os 5 .any (fun w args => (Rows.fnExactVotedSpec.pre enc Tryd.prog Tryd.f5 [] false w args ∧ laidMetH Tryd.prog Rows.fnExactVotedRow.laid w) ∧ sizedMet enc Tryd.prog Tryd.f5 (OpenSpec.ofChange Rows.fnExactVotedSpec) false w args)
      (Rows.fnExactVotedSpec.post enc Tryd.prog Tryd.f5 false true false false) := by
  refine returnsInHanded_of_change_and (C := Tryd.checked) (X := fun w _ => laidMetH Tryd.prog Rows.fnExactVotedRow.laid w) (fun _ _ _ hh h => h.of_heap hh) own_fnExactVoted started (by kernel_rfl) Tryd.func5
    (ChangeSpec.witness_shaped (enc := enc) (C := Tryd.checked) (os := os) (X := fun w _ => laidMetH Tryd.prog Rows.fnExactVotedRow.laid w) false (World.doorLaid Tryd.prog 400 os) #[.int .i64 0, .int .i64 0, .int .i64 0] 8 rfl (World.shaped_of_RefB (by kernel_rfl) (by kernel_rfl)) (by kernel_rfl) (by kernel_rfl) (by kernel_rfl) (door_fnExactVoted os _)) ?_
  intro W base args ds gs before hval0 hW _ _ hL _
  have hval : ∀ (j : Nat) t v, Tryd.f5.params[j]? = some t → args[j]? = some v → Value.okWide Tryd.prog W .any base t v := hval0
  have hW' := hW
  obtain ⟨p, q, hA0, hV, rfl, hfz, hnd⟩ := hW
  have hA : DataW.TrodAll enc Tryd.prog W 0 (fun _ => true) true Tryd.f5.params.toList args.toList ds p := hA0
  rw [Tryd.params5] at hA hval
  obtain ⟨v0, vs0, d0, ds0, p0, q0, hargs, rfl, rfl, h0, r0⟩ := trodAll_cons hA
  obtain ⟨v1, vs1, d1, ds1, p1, q1, rfl, rfl, rfl, h1, r1⟩ := trodAll_cons r0
  obtain ⟨v2, vs2, d2, ds2, p2, q2, rfl, rfl, rfl, h2, r2⟩ := trodAll_cons r1
  obtain ⟨rfl, rfl, rfl⟩ := trodAll_nil r2
  obtain rfl : args = #[v0, v1, v2] := by cases args; simp_all
  obtain ⟨rfl, rfl⟩ := trodVars_none hV
  obtain ⟨a0, rfl, rfl, rfl, w0⟩ := open_int Tryd.underlying2 (hval 0 2 v0 rfl rfl) h0
  obtain ⟨a1, rfl, rfl, rfl, w1⟩ := open_int Tryd.underlying2 (hval 1 2 v1 rfl rfl) h1
  obtain ⟨a2, rfl, rfl, rfl, w2⟩ := open_int Tryd.underlying2 (hval 2 2 v2 rfl rfl) h2
  have htab := tab_of_laid hL
  clear hA0 hval0
  refine (lawVoted a0 w0 a1 w1 a2 w2 W htab).mono fun e W' ⟨he, bel⟩ => ?_
  subst he
  exact ⟨_, rfl, _, _, _, [], _, [], hW', trodAll_mk1 (shut_bool Tryd.underlying4 _), (trodAll_cons_mk (shut_int Tryd.underlying2 w0) (trodAll_cons_mk (shut_int Tryd.underlying2 w1) (trodAll_cons_mk (shut_int Tryd.underlying2 w2) trodAll_mk0))), rfl, bel.frame _, fun h => by cases h⟩
theorem over_fnExactVoted : Rows.fnExactVotedRow.holds Tryd.pinned (OpenSpec.ofChange Rows.fnExactVotedSpec) :=
  OpenClaim.holds_of_wide 5 Tryd.f5 rfl rfl rfl rfl rfl rfl rfl ⟨rfl, rfl, rfl, rfl, rfl⟩ rfl rfl rfl rfl rfl (by kernel_rfl) Tryd.func5 (by kernel_rfl)
    (of_decide_eq_true (by kernel_rfl)) (by unfold Func.isWrapper; first | (rw [if_pos (by decide +kernel)]; kernel_rfl) | (rw [if_neg (by decide +kernel)]; exact ⟨rfl, rfl⟩))
    (fun os started H enc _ => lifted_fnExactVoted os started H enc)
theorem fnExactVoted_holds : Rows.FnExactVotedCardSaid :=
  Claim7.holds_tied_plain_at .later [] [.data, .data, .data] true Rows.fnExactVotedCard.stood.harness Rows.fnExactVotedCard.stood.looks
    over_fnExactVoted (fun _ h => by cases h) (by kernel_rfl) (fun _ h => by cases h) fnExactVoted_row_tie rfl ⟨rfl, rfl⟩ (by kernel_rfl) rfl
    (fun f fn hf hfn => by
      obtain rfl : f = 5 := Option.some.inj ((show Tryd.prog.funcNamed "loop.example/g00217/laws.FnExactVoted" = some 5 by kernel_rfl).symm.trans hf) |>.symm
      obtain rfl : fn = Tryd.f5 := (Option.some.inj (Tryd.func5.symm.trans hfn)).symm
      exact ⟨by kernel_rfl, fun j t ht => by
        rw [Tryd.params5] at ht
        have hm : t ∈ [2, 2, 2] := by simpa using Array.mem_of_getElem? ht
        have hall : ([2, 2, 2].all fun u => !Tryd.prog.wantsStandIn u) = true := by kernel_rfl
        exact (show Tryd.prog.wantsStandIn t = false by simpa using List.all_eq_true.1 hall t hm)⟩)
    (by kernel_rfl)
#print axioms fnExactVoted_holds

end Go.Proofs.YtbnibnbmdbdibaaDoor
