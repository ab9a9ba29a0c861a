/- Whatever disk it is called with, laws.FnExactRecords returns true and its argument reads as before: both Records tell the same texts and bytes, in memory of their own. Condition: the three listed tables of the Go library hold what its text lays there (tied by the card). -/
import Derived.Test.YthkckgjcecommaaDoorRows
import Derived.Test.YthkckgjcecommaaDoorCards
import Derived.Test.YthkckgjcecommaaDoorTie
import Derived.Test.YthkckgjcecommaaDoorRecAll
import Derived.Test.YthkckgjcecommaaDoorStrMark
import Derived.Test.YthkckgjcecommaaDoorLaid
import Derived.ProofKit
import Derived.OpenShut
import Derived.ShutString
import Derived.ChangeOld
import Derived.LaidMore
import Derived.SevenTiedAt
import Derived.Stop.Joined
namespace Go.Proofs.YthkckgjcecommaaDoor
open Go.ChangeShapes Go.WideShapes Go.ChangeAt Go.RowKit
open Go.ChangeMaps (open_string shut_string)
set_option maxHeartbeats 4000000 in
set_option maxRecDepth 100000 in
theorem lawRecords (d : ByteArray) (w0 : d.size ≤ maxLen) (w : World) (hT : Tab w) :
    Calls Tryd.prog 4 #[.string d] w fun e w' => e = .returned (.bool true) ∧ Below w.heap.size w w' := by
  unfold maxLen at w0
  by_cases hbig : 1048576 < d.size
  · go_enter Tryd.func4, Tryd.ntmps4
    go_wp2
    go_ret
    exact ⟨rfl, Below.refl _ _⟩
  have hle : d.size ≤ 1048576 := by omega
  obtain ⟨ts, n, hp⟩ := recs_ex _ d.data.toList (Nat.le_refl _)
  have hn : n ≤ 1048576 := by have := hp.2.1; rw [size_length] at this; omega
  have hts : ts.length ≤ 1048576 := by
    have := recs_len hp
    omega
  have HS : Hid (∀ W, Calls Tryd.prog 7 #[.string d] W fun e w' => RecsPost W ts n e w') := fun W => specRecords_any d ts n W hle hp
  have HI : Hid (∀ W, Tab W → Calls Tryd.prog 8 #[.string d] W fun e w' => RecsPost W ts n e w') := fun W h => implRecords_any d ts n W hle h hp
  have hnn : ((n : Int) != (n : Int)) = false := by simp
  have hq1 : ¬ 1 + (ts.length : Int) < 0 := by omega
  have hq2 : (1 + (ts.length : Int) != 1 + (ts.length : Int)) = false := by simp
  clear w0 hp hle
  go_enter Tryd.func4, Tryd.ntmps4
  go_wp2_with fail
  refine (HS.out _).mono ?_
  rintro e w1 ⟨vw, rfl, hw1, b1⟩
  have hT1 := hT.on b1
  go_wp2_with fail
  refine (HI.out _ hT1).mono ?_
  rintro e w2 ⟨vg, rfl, hg2, hb2⟩
  have b2 := b1.trans (hb2.mono b1.size)
  have hw2 := hw1.below hb2
  have lw : ∀ k, vw.ownBlock = some k → k < w1.heap.size := fun k hk => (World.ownsRow.lt hw1 k hk).2
  have lg : ∀ k, vg.ownBlock = some k → w1.heap.size ≤ k := fun k hk => (World.ownsRow.lt hg2 k hk).1
  have s1 := b1.size
  clear hw1 b1 hb2 hT1
  go_wp2_with fail
  refine (eqTexts_same _ _ ts _ hg2.rd hw2.rd).mono ?_
  rintro e w3 ⟨rfl, q3, rfl⟩
  replace hw2 := hw2.drewN q3
  replace hg2 := hg2.drewN q3
  replace b2 := below_drewN b2 q3
  go_wp2_with fail
  refine (smark_one vg ts _ _ (by omega) hg2).mono ?_
  rintro e w4 ⟨rfl, hg4, hm4⟩
  have hw4 : OwnS w4 _ vw ts := row_kept hw2 hm4 (fun k hk e => by have := lw k hk; have := lg k e; omega)
  have b4 : Below w.heap.size w w4 := b2.grown hm4 b2.size (fun k hk => by have := lg k hk; omega)
  have hT4 : Tab w4 := hT.on b4
  clear hw2 hg2 hm4 b2 hT
  go_wp2_with fail
  refine (sheld_one vg ts.length _ (by omega) hg4.rd).mono ?_
  rintro e w5 ⟨rfl, hb5⟩
  have b5 := b4.trans (hb5.mono b4.size)
  have hw5 := hw4.below hb5
  have hg5 := hg4.below hb5
  have hT5 := hT4.on hb5
  clear hw4 hg4 hb5 b4 hT4
  go_wp2_with fail
  refine (HI.out _ hT5).mono ?_
  rintro e w6 ⟨vh, rfl, hh6, hb6⟩
  have b6 := b5.trans (hb6.mono b5.size)
  have hw6 := hw5.below hb6
  have hg6 := hg5.below hb6
  clear hw5 hg5 hb6 b5 hT5
  go_wp2_with fail
  refine (eqTexts_same _ _ ts _ hh6.rd hw6.rd).mono ?_
  rintro e w7 ⟨rfl, q7, rfl⟩
  go_wp2_with fail
  refine (sheld_one vg ts.length _ (by omega) (hg6.rd.drewN q7)).mono ?_
  rintro e w8 ⟨rfl, hb8⟩
  have b8 := (below_drewN b6 q7).trans (hb8.mono (by simpa using b6.size))
  clear hw6 hg6 hb8 b6 hh6
  go_wp2
  go_ret
  exact ⟨rfl, b8⟩
theorem own_fnExactRecords : ownKnob Tryd.prog.godebug = none := by kernel_rfl
theorem door_fnExactRecords (os : Os) (args : Array Value) : laidMetH Tryd.prog Rows.fnExactRecordsRow.laid ((World.doorLaid Tryd.prog 400 os).forCall (fun _ _ => 0) ⟨#[], args, []⟩).memory :=
  laidMetH_of_parts3 (fuel := 8) (laidMet_of_run' 8 (by kernel_rfl) (by kernel_rfl)) (by kernel_rfl) (by kernel_rfl)
set_option maxRecDepth 100000 in
theorem lifted_fnExactRecords (os : Os) (started : os.Started) (H : Type) (enc : TypeId × Value → H) :
    ReturnsInHanded {} Tryd.checked os 4 .any (fun w args => (Rows.fnExactRecordsSpec.pre enc Tryd.prog Tryd.f4 [] false w args ∧ laidMetH Tryd.prog Rows.fnExactRecordsRow.laid w) ∧ sizedMet enc Tryd.prog Tryd.f4 (OpenSpec.ofChange Rows.fnExactRecordsSpec) false w args)
      (Rows.fnExactRecordsSpec.post enc Tryd.prog Tryd.f4 false true false false) := by
  refine returnsInHanded_of_change_and (C := Tryd.checked) (X := fun w _ => laidMetH Tryd.prog Rows.fnExactRecordsRow.laid w) (fun _ _ _ hh h => h.of_heap hh) own_fnExactRecords started (by kernel_rfl) Tryd.func4
    (ChangeSpec.witness_shaped (enc := enc) (C := Tryd.checked) (os := os) (X := fun w _ => laidMetH Tryd.prog Rows.fnExactRecordsRow.laid w) false (World.doorLaid Tryd.prog 400 os) #[.string ByteArray.empty] 8 rfl (World.shaped_of_RefB (by kernel_rfl) (by kernel_rfl)) (by kernel_rfl) (by kernel_rfl) (by kernel_rfl) (door_fnExactRecords os _)) ?_
  intro W base args ds gs before hval0 hW _ _ hL _
  have hval : ∀ (j : Nat) t v, Tryd.f4.params[j]? = some t → args[j]? = some v → Value.okWide Tryd.prog W .any base t v := hval0
  have hW' := hW
  obtain ⟨p, q, hA0, hV, rfl, hfz, hnd⟩ := hW
  have hA : DataW.TrodAll enc Tryd.prog W 0 (fun _ => true) true Tryd.f4.params.toList args.toList ds p := hA0
  rw [Tryd.params4] at hA hval
  obtain ⟨v0, vs0, d0, ds0, p0, q0, hargs, rfl, rfl, h0, r0⟩ := trodAll_cons hA
  obtain ⟨rfl, rfl, rfl⟩ := trodAll_nil r0
  obtain rfl : args = #[v0] := by cases args; simp_all
  obtain ⟨rfl, rfl⟩ := trodVars_none hV
  obtain ⟨a0, rfl, rfl, rfl, w0⟩ := open_string Tryd.underlying9 (hval 0 9 v0 rfl rfl) h0
  have htab := tab_of_laid hL
  clear hA0 hval0
  refine (lawRecords a0 w0 W htab).mono fun e W' ⟨he, bel⟩ => ?_
  subst he
  exact ⟨_, rfl, _, _, _, [], _, [], hW', trodAll_mk1 (shut_bool Tryd.underlying4 _), (trodAll_cons_mk (shut_string Tryd.underlying9 w0) trodAll_mk0), rfl, bel.frame _, fun h => by cases h⟩
theorem over_fnExactRecords : Rows.fnExactRecordsRow.holds Tryd.pinned (OpenSpec.ofChange Rows.fnExactRecordsSpec) :=
  OpenClaim.holds_of_wide 4 Tryd.f4 rfl rfl rfl rfl rfl rfl rfl ⟨rfl, rfl, rfl, rfl, rfl⟩ rfl rfl rfl rfl rfl (by kernel_rfl) Tryd.func4 (by kernel_rfl)
    (of_decide_eq_true (by kernel_rfl)) (by unfold Func.isWrapper; first | (rw [if_pos (by decide +kernel)]; kernel_rfl) | (rw [if_neg (by decide +kernel)]; exact ⟨rfl, rfl⟩))
    (fun os started H enc _ => lifted_fnExactRecords os started H enc)
theorem fnExactRecords_holds : Rows.FnExactRecordsCardSaid :=
  Claim7.holds_tied_plain_at .later [] [.data, .data, .data] true Rows.fnExactRecordsCard.stood.harness Rows.fnExactRecordsCard.stood.looks
    over_fnExactRecords (fun _ h => by cases h) (by kernel_rfl) (fun _ h => by cases h) fnExactRecords_row_tie rfl ⟨rfl, rfl⟩ (by kernel_rfl) rfl
    (fun f fn hf hfn => by
      obtain rfl : f = 4 := Option.some.inj ((show Tryd.prog.funcNamed "loop.example/g00217/laws.FnExactRecords" = some 4 by kernel_rfl).symm.trans hf) |>.symm
      obtain rfl : fn = Tryd.f4 := (Option.some.inj (Tryd.func4.symm.trans hfn)).symm
      exact ⟨by kernel_rfl, fun j t ht => by
        rw [Tryd.params4] at ht
        have hm : t ∈ [9] := by simpa using Array.mem_of_getElem? ht
        have hall : ([9].all fun u => !Tryd.prog.wantsStandIn u) = true := by kernel_rfl
        exact (show Tryd.prog.wantsStandIn t = false by simpa using List.all_eq_true.1 hall t hm)⟩)
    (by kernel_rfl)
#print axioms fnExactRecords_holds

end Go.Proofs.YthkckgjcecommaaDoor
