/- Whatever Leafs it is called with, laws.FnExactPeak returns true and its argument reads as before: both Peaks make the same number. Condition: the three listed tables of the Go library hold what its text lays there (tied by the card). -/
import Derived.Test.YthmeikbfichkaaaDoorRows
import Derived.Test.YthmeikbfichkaaaDoorCards
import Derived.Test.YthmeikbfichkaaaDoorTie
import Derived.Test.YthmeikbfichkaaaDoorLefMark
import Derived.Test.YthmeikbfichkaaaDoorTriGrp
import Derived.Test.YthmeikbfichkaaaDoorLaid
import Derived.ProofKit
import Derived.OpenShut
import Derived.ShutString
import Derived.ChangeOld
import Derived.LaidMore
import Derived.SevenTiedAt
import Derived.Stop.Joined
namespace Go.Proofs.YthmeikbfichkaaaDoor
open Go.ChangeShapes Go.WideShapes Go.ChangeAt Go.RowKit
set_option maxHeartbeats 2000000 in
set_option maxRecDepth 100000 in
theorem lawPeak (v : Value) (es : List Lef) (w : World) (hr : RdL w v es) (ht : Tab w) :
    Calls Tryd.prog 6 #[v] w fun e w' => e = .returned (.bool true) ∧ Below w.heap.size w w' := by
  have HS : Hid (∀ u w', RdL w' u es → Calls Tryd.prog 18 #[u] w' fun e w'' => e = .returned (.int .i64 (if lefOk es = true then peakL es else -1)) ∧ Below w'.heap.size w' w'') := fun u w' h => specPeak_any u es w' h
  have HI : Hid (∀ u w', RdL w' u es → Tab w' → Calls Tryd.prog 17 #[u] w' fun e w'' => e = .returned (.int .i64 (if lefOk es = true then peakL es else -1)) ∧ Below w'.heap.size w' w'') := fun u w' h t => implPeak_any u es w' h t
  generalize (if lefOk es = true then peakL es else -1) = R at HS HI
  have hne : (R != R) = false := by simp
  go_enter Tryd.func6, Tryd.ntmps6
  go_wp2_with fail
  refine (szLefs_any _ es _ hr).mono ?_
  rintro e w1 ⟨hw1, z, rfl, hz⟩
  obtain rfl : w = w1 := hw1.symm
  clear hw1
  rcases hz with hz | ⟨hz0, hl⟩
  · subst hz
    go_wp2
    go_ret
    exact ⟨rfl, Below.refl _ _⟩
  go_wp2_with fail
  refine (toLefs_any _ es _ hr (by omega)).mono ?_
  rintro e w2 ⟨u2, rfl, ho2, b2⟩
  go_wp2_with fail
  refine (HS.out _ _ ho2.rd).mono ?_
  rintro e w3 ⟨rfl, hb3⟩
  have b3 := b2.trans (hb3.mono b2.size)
  clear hb3 b2 ho2
  go_wp2_with fail
  refine (toLefs_any _ es _ (hr.below b3) (by omega)).mono ?_
  rintro e w4 ⟨u4, rfl, ho4, hb4⟩
  have b4 := b3.trans (hb4.mono b3.size)
  clear hb4 b3
  go_wp2_with fail
  refine (HI.out _ _ ho4.rd (ht.on b4)).mono ?_
  rintro e w5 ⟨rfl, hb5⟩
  have b5 := b4.trans (hb5.mono b4.size)
  have ho5 := ho4.below hb5
  clear hb5 b4 ho4
  go_wp2_with fail
  refine (toLefs_any _ es _ (hr.below b5) (by omega)).mono ?_
  rintro e w6 ⟨u6, rfl, ho6, hb6⟩
  have b6 := b5.trans (hb6.mono b5.size)
  have ho7 := ho5.below hb6
  clear hb6 b5 ho5
  go_wp2_with fail
  refine (eqLefs_same _ _ es _ ho7.rd ho6.rd).mono ?_
  rintro e w7 ⟨rfl, hb7⟩
  have b7 := b6.trans (hb7.mono b6.size)
  clear hb7 b6 ho6 ho7
  go_wp2
  go_ret
  exact ⟨rfl, b7⟩
theorem own_fnExactPeak : ownKnob Tryd.prog.godebug = none := by kernel_rfl
theorem laidOut_fnExactPeak : laidOutB Tryd.prog = true := by kernel_rfl
theorem door_fnExactPeak (os : Os) (args : Array Value) : laidMetH Tryd.prog Rows.fnExactPeakRow.laid ((World.doorLaid Tryd.prog 400 os).forCall (fun _ _ => 0) ⟨#[], args, []⟩).memory :=
  laidMetH_of_parts3 (fuel := 8) (laidMet_of_run' 8 (by kernel_rfl) (by kernel_rfl)) (by kernel_rfl) (by kernel_rfl)
set_option maxRecDepth 100000 in
theorem lifted_fnExactPeak (os : Os) (started : os.Started) (H : Type) (enc : TypeId × Value → H) :
    ReturnsInHanded {} Tryd.checked os 6 .any (fun w args => (Rows.fnExactPeakSpec.pre enc Tryd.prog Tryd.f6 [] false w args ∧ laidMetH Tryd.prog Rows.fnExactPeakRow.laid w) ∧ sizedMet enc Tryd.prog Tryd.f6 (OpenSpec.ofChange Rows.fnExactPeakSpec) false w args)
      (Rows.fnExactPeakSpec.post enc Tryd.prog Tryd.f6 false true false false) := by
  refine returnsInHanded_of_change_and (C := Tryd.checked) (X := fun w _ => laidMetH Tryd.prog Rows.fnExactPeakRow.laid w) (fun _ _ _ hh h => h.of_heap hh) own_fnExactPeak started (by kernel_rfl) Tryd.func6
    (ChangeSpec.witness_shaped (enc := enc) (C := Tryd.checked) (os := os) (X := fun w _ => laidMetH Tryd.prog Rows.fnExactPeakRow.laid w) false (World.doorLaid Tryd.prog 400 os) #[.slice none 0 0] 8 rfl (World.shaped_of_RefB (by kernel_rfl) (by kernel_rfl)) (by kernel_rfl) (by kernel_rfl) (by kernel_rfl) (door_fnExactPeak os _)) ?_
  intro W base args ds gs before hval0 hW _ _ hL _
  have hval : ∀ (j : Nat) t v, Tryd.f6.params[j]? = some t → args[j]? = some v → Value.okWide Tryd.prog W .any base t v := hval0
  have hW' := hW
  obtain ⟨p, q, hA0, hV, rfl, hfz, hnd⟩ := hW
  have hA : DataW.TrodAll enc Tryd.prog W 0 (fun _ => true) true Tryd.f6.params.toList args.toList ds p := hA0
  rw [Tryd.params6] at hA hval
  obtain ⟨v0, vs0, d0, ds0, p0, q0, hargs, rfl, rfl, h0, r0⟩ := trodAll_cons hA
  obtain ⟨rfl, rfl, rfl⟩ := trodAll_nil r0
  obtain rfl : args = #[v0] := by cases args; simp_all
  obtain ⟨rfl, rfl⟩ := trodVars_none hV
  obtain ⟨a0, len0, cap0, rfl⟩ := okWide_slice Tryd.underlying48 (hval 0 48 v0 rfl rfl)
  have k0 := h0
  have lt0 : ∀ x ∈ p0, x.block < W.heap.size := by obtain ⟨m, hm⟩ := k0; exact DataW.trod_lt m _ _ _ hm
  obtain ⟨es0, hr0⟩ := open_lefs k0 ⟨a0, len0, cap0, rfl⟩
  have htab := tab_of_laid hL
  clear hA0 hval0
  refine (lawPeak _ es0 W hr0 htab).mono fun e W' ⟨he, bel⟩ => ?_
  subst he
  exact ⟨_, rfl, _, _, _, [], _, [], hW', trodAll_mk1 (shut_bool Tryd.underlying4 _), (trodAll_cons_mk (Below.trod laidOut_fnExactPeak (by kernel_rfl) (of_decide_eq_true (by kernel_rfl)) k0 bel lt0) trodAll_mk0), rfl, bel.frame _, fun h => by cases h⟩
theorem over_fnExactPeak : Rows.fnExactPeakRow.holds Tryd.pinned (OpenSpec.ofChange Rows.fnExactPeakSpec) :=
  OpenClaim.holds_of_wide 6 Tryd.f6 rfl rfl rfl rfl rfl rfl rfl ⟨rfl, rfl, rfl, rfl, rfl⟩ rfl rfl rfl rfl rfl (by kernel_rfl) Tryd.func6 (by kernel_rfl)
    (of_decide_eq_true (by kernel_rfl)) (by unfold Func.isWrapper; first | (rw [if_pos (by decide +kernel)]; kernel_rfl) | (rw [if_neg (by decide +kernel)]; exact ⟨rfl, rfl⟩))
    (fun os started H enc _ => lifted_fnExactPeak os started H enc)
theorem fnExactPeak_holds : Rows.FnExactPeakCardSaid :=
  Claim7.holds_tied_plain_at .later [] [.data, .data, .data] true Rows.fnExactPeakCard.stood.harness Rows.fnExactPeakCard.stood.looks
    over_fnExactPeak (fun _ h => by cases h) (by kernel_rfl) (fun _ h => by cases h) fnExactPeak_row_tie rfl ⟨rfl, rfl⟩ (by kernel_rfl) rfl
    (fun f fn hf hfn => by
      obtain rfl : f = 6 := Option.some.inj ((show Tryd.prog.funcNamed "loop.example/g00217/laws.FnExactPeak" = some 6 by kernel_rfl).symm.trans hf) |>.symm
      obtain rfl : fn = Tryd.f6 := (Option.some.inj (Tryd.func6.symm.trans hfn)).symm
      exact ⟨by kernel_rfl, fun j t ht => by
        rw [Tryd.params6] at ht
        have hm : t ∈ [48] := by simpa using Array.mem_of_getElem? ht
        have hall : ([48].all fun u => !Tryd.prog.wantsStandIn u) = true := by kernel_rfl
        exact (show Tryd.prog.wantsStandIn t = false by simpa using List.all_eq_true.1 hall t hm)⟩)
    (by kernel_rfl)
#print axioms fnExactPeak_holds

end Go.Proofs.YthmeikbfichkaaaDoor
