/- Whatever vote and number it is called with, laws.FnExactVoteOk returns true: both VoteOk tell the same. Condition: the three listed tables of the Go library hold what its text lays there (tied by the card). -/
import Derived.Test.YtbnibnbmdbdibaaDoorRows
import Derived.Test.YtbnibnbmdbdibaaDoorCards
import Derived.Test.YtbnibnbmdbdibaaDoorTie
import Derived.Test.YtbnibnbmdbdibaaDoorBlkVok
import Derived.Test.YtbnibnbmdbdibaaDoorVotCp
import Derived.Test.YtbnibnbmdbdibaaDoorVotMark
import Derived.Test.YtbnibnbmdbdibaaDoorLaid
import Derived.ProofKit
import Derived.OpenShut
import Derived.ShutString
import Derived.ChangeOld
import Derived.LaidMore
import Derived.SevenTiedAt
import Derived.Stop.Joined
namespace Go.Proofs.YtbnibnbmdbdibaaDoor
open Go.ChangeShapes Go.WideShapes Go.ChangeAt Go.RowKit
/-- A vote's box, of any type. -/
def BoxAny (w : World) (b : Nat) (t : TypeId) (x : Vot) : Prop := w.heap[b]? = some (.cells (VC x) t (0, 0))
theorem BoxAny.lt {w : World} {b : Nat} {t : TypeId} {x : Vot} (h : BoxAny w b t x) : b < w.heap.size := (Array.getElem?_eq_some_iff.1 h).1
theorem BoxAny.below {w w' : World} {b : Nat} {t : TypeId} {x : Vot} (h : BoxAny w b t x) (hb : Below w.heap.size w w') : BoxAny w' b t x := (hb.block b h.lt).trans h
theorem BoxAny.facts {w : World} {b : Nat} {t : TypeId} {x : Vot} (h : BoxAny w b t x) : w.cell? ⟨b, 0, none⟩ = some (.int .i64 x.vw) ∧ w.cell? ⟨b, 1, none⟩ = some (.int .i64 x.nm) ∧ w.cell? ⟨b, 2, none⟩ = some (.int .i64 x.sv) ∧ w.cell? ⟨b, 3, none⟩ = some (.int .i64 x.tg) := by
  unfold BoxAny VC at h
  refine ⟨?_, ?_, ?_, ?_⟩ <;> simp [World.cell?, h]
theorem boxAny_new (w : World) (t : TypeId) (x : Vot) : BoxAny (w.alloc (.cells (VC x) t)) w.heap.size t x := heap_alloc_new w _
set_option maxHeartbeats 4000000 in
set_option maxRecDepth 100000 in
theorem lawVoteOk (x : Vot) (n : Int) (_ : (Lit.int .i64 n).wf = true) (w : World) (hf : FitVo x) (ht : Tab w) :
    Calls Tryd.prog 6 #[.agg #[.int .i64 x.vw, .int .i64 x.nm, .int .i64 x.sv, .int .i64 x.tg], .int .i64 n] w fun e w' => e = .returned (.bool true) ∧ Below w.heap.size w w' := by
  have t0 := boxAny_new w 60 x
  have b0 := below1 w (.cells (VC x) 60)
  unfold VC at t0 b0
  have HTO : Hid (∀ W, Calls Tryd.prog 35 #[.agg #[.int .i64 x.vw, .int .i64 x.nm, .int .i64 x.sv, .int .i64 x.tg]] W fun e w' => e = .returned (.agg #[.int .i64 x.vw, .int .i64 x.nm, .int .i64 x.sv, .int .i64 x.tg]) ∧ Below W.heap.size W w') := fun W => toVote_any x W
  obtain ⟨ok, hok0⟩ : ∃ ok, ok = vokR x n := ⟨_, rfl⟩
  have HSP : Hid (∀ W, Calls Tryd.prog 19 #[.agg #[.int .i64 x.vw, .int .i64 x.nm, .int .i64 x.sv, .int .i64 x.tg], .int .i64 n] W fun e w' => e = .returned (.bool ok) ∧ Below W.heap.size W w') := fun W => by rw [hok0]; exact specVoteOk_any x n W hf
  have HIM : Hid (∀ W, Tab W → Calls Tryd.prog 18 #[.agg #[.int .i64 x.vw, .int .i64 x.nm, .int .i64 x.sv, .int .i64 x.tg], .int .i64 n] W fun e w' => e = .returned (.bool ok) ∧ Below W.heap.size W w') := fun W t => by rw [hok0]; exact implVoteOk_any x n W hf t
  have hok : (ok != ok) = false := by cases ok <;> rfl
  clear hok0 hf
  obtain ⟨d0, d1, d2, d3⟩ := t0.facts
  go_enter Tryd.func6, Tryd.ntmps6
  go_wp2_with fail
  refine (HTO.out _).mono ?_
  rintro e w1 ⟨rfl, hb1⟩
  have t1 := BoxAny.below t0 hb1
  have b1 := b0.trans (hb1.mono b0.size)
  clear t0 b0 hb1 d0 d1 d2 d3
  go_wp2_with fail
  refine (HSP.out _).mono ?_
  rintro e w2 ⟨rfl, hb2⟩
  have t2 := t1.below hb2
  have b2 := b1.trans (hb2.mono b1.size)
  clear t1 b1 hb2
  obtain ⟨d0, d1, d2, d3⟩ := t2.facts
  go_wp2_with fail
  refine (HTO.out _).mono ?_
  rintro e w3 ⟨rfl, hb3⟩
  have b3 := b2.trans (hb3.mono b2.size)
  clear t2 b2 hb3 d0 d1 d2 d3
  go_wp2_with fail
  refine (HIM.out _ (ht.on b3)).mono ?_
  rintro e w4 ⟨rfl, hb4⟩
  have b4 := b3.trans (hb4.mono b3.size)
  clear b3 hb4
  go_wp2
  go_ret
  exact ⟨rfl, b4⟩
theorem own_fnExactVoteOk : ownKnob Tryd.prog.godebug = none := by kernel_rfl
theorem laidOut_fnExactVoteOk : laidOutB Tryd.prog = true := by kernel_rfl
theorem door_fnExactVoteOk (os : Os) (args : Array Value) : laidMetH Tryd.prog Rows.fnExactVoteOkRow.laid ((World.doorLaid Tryd.prog 400 os).forCall (fun _ _ => 0) ⟨#[], args, []⟩).memory :=
  laidMetH_of_parts3 (fuel := 8) (laidMet_of_run' 8 (by kernel_rfl) (by kernel_rfl)) (by kernel_rfl) (by kernel_rfl)
set_option maxRecDepth 100000 in
theorem lifted_fnExactVoteOk (os : Os) (started : os.Started) (H : Type) (enc : TypeId × Value → H) :
    ReturnsInHanded {} Tryd.checked os 6 .any (fun w args => (Rows.fnExactVoteOkSpec.pre enc Tryd.prog Tryd.f6 [] false w args ∧ laidMetH Tryd.prog Rows.fnExactVoteOkRow.laid w) ∧ sizedMet enc Tryd.prog Tryd.f6 (OpenSpec.ofChange Rows.fnExactVoteOkSpec) false w args)
      (Rows.fnExactVoteOkSpec.post enc Tryd.prog Tryd.f6 false true false false) := by
  refine returnsInHanded_of_change_and (C := Tryd.checked) (X := fun w _ => laidMetH Tryd.prog Rows.fnExactVoteOkRow.laid w) (fun _ _ _ hh h => h.of_heap hh) own_fnExactVoteOk started (by kernel_rfl) Tryd.func6
    (ChangeSpec.witness_shaped (enc := enc) (C := Tryd.checked) (os := os) (X := fun w _ => laidMetH Tryd.prog Rows.fnExactVoteOkRow.laid w) false (World.doorLaid Tryd.prog 400 os) #[.agg #[.int .i64 0, .int .i64 0, .int .i64 0, .int .i64 0], .int .i64 0] 8 rfl (World.shaped_of_RefB (by kernel_rfl) (by kernel_rfl)) (by kernel_rfl) (by kernel_rfl) (by kernel_rfl) (door_fnExactVoteOk os _)) ?_
  intro W base args ds gs before hval0 hW _ _ hL _
  have hval : ∀ (j : Nat) t v, Tryd.f6.params[j]? = some t → args[j]? = some v → Value.okWide Tryd.prog W .any base t v := hval0
  have hW' := hW
  obtain ⟨p, q, hA0, hV, rfl, hfz, hnd⟩ := hW
  have hA : DataW.TrodAll enc Tryd.prog W 0 (fun _ => true) true Tryd.f6.params.toList args.toList ds p := hA0
  rw [Tryd.params6] at hA hval
  obtain ⟨v0, vs0, d0, ds0, p0, q0, hargs, rfl, rfl, h0, r0⟩ := trodAll_cons hA
  obtain ⟨v1, vs1, d1, ds1, p1, q1, rfl, rfl, rfl, h1, r1⟩ := trodAll_cons r0
  obtain ⟨rfl, rfl, rfl⟩ := trodAll_nil r1
  obtain rfl : args = #[v0, v1] := by cases args; simp_all
  obtain ⟨rfl, rfl⟩ := trodVars_none hV
  obtain ⟨c0, rfl, _⟩ := okWide_struct Tryd.underlying60 (hval 0 60 v0 rfl rfl)
  have k0 := h0
  have lt0 : ∀ x ∈ p0, x.block < W.heap.size := by obtain ⟨m, hm⟩ := k0; exact DataW.trod_lt m _ _ _ hm
  obtain ⟨x0, hc0, hh0⟩ : ∃ e, (Value.agg c0).cells.toList = VoC e ∧ FitVo e := by obtain ⟨m, hm⟩ := h0; exact open_vote hm
  obtain rfl : c0 = #[.int .i64 x0.vw, .int .i64 x0.nm, .int .i64 x0.sv, .int .i64 x0.tg] := by have h := congrArg List.toArray hc0; simp only [Value.cells, Array.toArray_toList] at h; exact h
  obtain ⟨a1, rfl, rfl, rfl, w1⟩ := open_int Tryd.underlying2 (hval 1 2 v1 rfl rfl) h1
  have htab := tab_of_laid hL
  clear hA0 hval0
  refine (lawVoteOk x0 a1 w1 W hh0 htab).mono fun e W' ⟨he, bel⟩ => ?_
  subst he
  exact ⟨_, rfl, _, _, _, [], _, [], hW', trodAll_mk1 (shut_bool Tryd.underlying4 _), (trodAll_cons_mk (Below.trod laidOut_fnExactVoteOk (by kernel_rfl) (of_decide_eq_true (by kernel_rfl)) k0 bel lt0) (trodAll_cons_mk (shut_int Tryd.underlying2 w1) trodAll_mk0)), rfl, bel.frame _, fun h => by cases h⟩
theorem over_fnExactVoteOk : Rows.fnExactVoteOkRow.holds Tryd.pinned (OpenSpec.ofChange Rows.fnExactVoteOkSpec) :=
  OpenClaim.holds_of_wide 6 Tryd.f6 rfl rfl rfl rfl rfl rfl rfl ⟨rfl, rfl, rfl, rfl, rfl⟩ rfl rfl rfl rfl rfl (by kernel_rfl) Tryd.func6 (by kernel_rfl)
    (of_decide_eq_true (by kernel_rfl)) (by unfold Func.isWrapper; first | (rw [if_pos (by decide +kernel)]; kernel_rfl) | (rw [if_neg (by decide +kernel)]; exact ⟨rfl, rfl⟩))
    (fun os started H enc _ => lifted_fnExactVoteOk os started H enc)
theorem fnExactVoteOk_holds : Rows.FnExactVoteOkCardSaid :=
  Claim7.holds_tied_plain_at .later [] [.data, .data, .data] true Rows.fnExactVoteOkCard.stood.harness Rows.fnExactVoteOkCard.stood.looks
    over_fnExactVoteOk (fun _ h => by cases h) (by kernel_rfl) (fun _ h => by cases h) fnExactVoteOk_row_tie rfl ⟨rfl, rfl⟩ (by kernel_rfl) rfl
    (fun f fn hf hfn => by
      obtain rfl : f = 6 := Option.some.inj ((show Tryd.prog.funcNamed "loop.example/g00217/laws.FnExactVoteOk" = some 6 by kernel_rfl).symm.trans hf) |>.symm
      obtain rfl : fn = Tryd.f6 := (Option.some.inj (Tryd.func6.symm.trans hfn)).symm
      exact ⟨by kernel_rfl, fun j t ht => by
        rw [Tryd.params6] at ht
        have hm : t ∈ [60, 2] := by simpa using Array.mem_of_getElem? ht
        have hall : ([60, 2].all fun u => !Tryd.prog.wantsStandIn u) = true := by kernel_rfl
        exact (show Tryd.prog.wantsStandIn t = false by simpa using List.all_eq_true.1 hall t hm)⟩)
    (by kernel_rfl)
#print axioms fnExactVoteOk_holds

end Go.Proofs.YtbnibnbmdbdibaaDoor
