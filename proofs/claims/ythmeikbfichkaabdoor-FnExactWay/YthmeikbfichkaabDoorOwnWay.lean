/- Whatever Leafs and place it is called with, laws.FnExactWay returns true and its arguments read as before: both Ways tell the same numbers, in memory of their own, and what they are handed stays. Condition: the three listed tables of the Go library hold what its text lays there (tied by the card). -/
import Derived.Test.YthmeikbfichkaabDoorRows
import Derived.Test.YthmeikbfichkaabDoorCards
import Derived.Test.YthmeikbfichkaabDoorTie
import Derived.Test.YthmeikbfichkaabDoorLefMark
import Derived.Test.YthmeikbfichkaabDoorTriWay2
import Derived.Test.YthmeikbfichkaabDoorNumZ
import Derived.Test.YthmeikbfichkaabDoorLaid
import Derived.ProofKit
import Derived.OpenShut
import Derived.ShutString
import Derived.ChangeOld
import Derived.LaidMore
import Derived.SevenTiedAt
import Derived.Stop.Joined
namespace Go.Proofs.YthmeikbfichkaabDoor
open Go.ChangeShapes Go.WideShapes Go.ChangeAt Go.RowKit
theorem wayR_len (es : List Lef) (p : Int) : (wayR es p).length ≤ 8 := by
  unfold wayR
  split
  · rw [wayL_len]; omega
  · simp
set_option maxHeartbeats 8000000 in
set_option maxRecDepth 100000 in
theorem lawWay (v : Value) (es : List Lef) (p : Int) (_ : (Lit.int .i64 p).wf = true) (w : World) (hr0 : RdL w v es) (ht : Tab w) :
    Calls Tryd.prog 3 #[v, .int .i64 p] w fun e w' => e = .returned (.bool true) ∧ Below w.heap.size w w' := by
  go_enter Tryd.func3, Tryd.ntmps3
  go_wp2_with fail
  refine (szLefs_any _ es _ hr0).mono ?_
  rintro e w1 ⟨hw1, z, rfl, hz⟩
  obtain rfl : w = w1 := hw1.symm
  clear hw1
  rcases hz with hz | ⟨hz0, hl⟩
  · subst hz
    go_wp2
    go_ret
    exact ⟨rfl, Below.refl _ _⟩
  have hyl := wayR_len es p
  have HS : Hid (∀ u w', RdL w' u es → Tab w' → Calls Tryd.prog 7 #[u, .int .i64 p] w' fun e w'' => ∃ u, e = .returned u ∧ OwnI w'' w'.heap.size u (wayR es p) ∧ Below w'.heap.size w' w'') := fun u w' h _ => specWay_any u es p w' h
  have HI : Hid (∀ u w', RdL w' u es → Tab w' → Calls Tryd.prog 9 #[u, .int .i64 p] w' fun e w'' => ∃ u, e = .returned u ∧ OwnI w'' w'.heap.size u (wayR es p) ∧ Below w'.heap.size w' w'') := fun u w' h t => implWay_any u es p w' h t
  generalize wayR es p = ys at hyl HS HI
  have hq1 : ¬ 1 + (ys.length : Int) < 0 := by omega
  have hq2 : (1 + (ys.length : Int) != 1 + (ys.length : Int)) = false := by simp
  have hq3 : ¬ 1 + 2 * (es.length : Int) < 0 := by omega
  have b1 : Below w.heap.size w w := Below.refl _ _
  go_wp2_with fail
  refine (toLefs_any _ es _ (hr0.below b1) (by omega)).mono ?_
  rintro e w2 ⟨a0, rfl, ha02, hb2⟩
  have b2 := b1.trans (hb2.mono b1.size)
  have s2 := hb2.size
  have la0 : ∀ k, a0.ownBlock = some k → w.heap.size ≤ k ∧ k < w2.heap.size := fun k hk => World.ownsRow.lt ha02 k hk
  go_wp2_with fail
  refine (HS.out _ _ ha02.rd (ht.on b2)).mono ?_
  rintro e w3 ⟨vw, rfl, hvw3, hb3⟩
  have b3 := b2.trans (hb3.mono b2.size)
  have s3 := hb3.size
  have ha03 := ha02.below hb3
  have lvw : ∀ k, vw.ownBlock = some k → w2.heap.size ≤ k ∧ k < w3.heap.size := fun k hk => World.ownsRow.lt hvw3 k hk
  go_wp2_with fail
  refine (toLefs_any _ es _ (hr0.below b3) (by omega)).mono ?_
  rintro e w4 ⟨x0, rfl, hx04, hb4⟩
  have b4 := b3.trans (hb4.mono b3.size)
  have s4 := hb4.size
  have hvw4 := hvw3.below hb4
  have lx0 : ∀ k, x0.ownBlock = some k → w3.heap.size ≤ k ∧ k < w4.heap.size := fun k hk => World.ownsRow.lt hx04 k hk
  go_wp2_with fail
  refine (HI.out _ _ hx04.rd (ht.on b4)).mono ?_
  rintro e w5 ⟨vg, rfl, hvg5, hb5⟩
  have b5 := b4.trans (hb5.mono b4.size)
  have s5 := hb5.size
  have hvw5 := hvw4.below hb5
  have hx05 := hx04.below hb5
  have lvg : ∀ k, vg.ownBlock = some k → w4.heap.size ≤ k ∧ k < w5.heap.size := fun k hk => World.ownsRow.lt hvg5 k hk
  go_wp2_with fail
  refine (eqIntsZ _ _ ys _ hvg5.rd hvw5.rd).mono ?_
  rintro e w6 ⟨rfl, hb6⟩
  have b6 := b5.trans (hb6.mono b5.size)
  have s6 := hb6.size
  have hvw6 := hvw5.below hb6
  have hx06 := hx05.below hb6
  have hvg6 := hvg5.below hb6
  go_wp2_with fail
  refine (toLefs_any _ es _ (hr0.below b6) (by omega)).mono ?_
  rintro e w7 ⟨t0, rfl, ht07, hb7⟩
  have b7 := b6.trans (hb7.mono b6.size)
  have s7 := hb7.size
  have hvw7 := hvw6.below hb7
  have hx07 := hx06.below hb7
  have hvg7 := hvg6.below hb7
  have lt0 : ∀ k, t0.ownBlock = some k → w6.heap.size ≤ k ∧ k < w7.heap.size := fun k hk => World.ownsRow.lt ht07 k hk
  go_wp2_with fail
  refine (eqLefs_same _ _ es _ hx07.rd ht07.rd).mono ?_
  rintro e w8 ⟨rfl, hb8⟩
  have b8 := b7.trans (hb8.mono b7.size)
  have s8 := hb8.size
  have hvw8 := hvw7.below hb8
  have hx08 := hx07.below hb8
  have hvg8 := hvg7.below hb8
  have ht08 := ht07.below hb8
  go_wp2_with fail
  refine (lmarkZ x0 es _ (1) _ _ (by omega) (by omega) hx08).mono ?_
  rintro e w9 ⟨rfl, -, hb9⟩
  have b9 : Below w.heap.size w w9 := b8.grown hb9 b8.size (fun k hk => by have := lx0 k hk; omega)
  have s9 := hb9.size
  have hvw9 : OwnI w9 _ vw ys := row_kept hvw8 hb9 (fun k hk e => by have := lvw k hk; have := lx0 k e; omega)
  have hvg9 : OwnI w9 _ vg ys := row_kept hvg8 hb9 (fun k hk e => by have := lvg k hk; have := lx0 k e; omega)
  go_wp2_with fail
  refine (eqIntsZ _ _ ys _ hvg9.rd hvw9.rd).mono ?_
  rintro e w10 ⟨rfl, hb10⟩
  have b10 := b9.trans (hb10.mono b9.size)
  have s10 := hb10.size
  have hvw10 := hvw9.below hb10
  have hvg10 := hvg9.below hb10
  go_wp2_with fail
  refine (imarkZ vg ys _ 1 _ _ (by omega) (by omega) hvg10).mono ?_
  rintro e w11 ⟨rfl, hvg11, hb11⟩
  have b11 : Below w.heap.size w w11 := b10.grown hb11 b10.size (fun k hk => by have := lvg k hk; omega)
  have s11 := hb11.size
  have hvw11 : OwnI w11 _ vw ys := row_kept hvw10 hb11 (fun k hk e => by have := lvw k hk; have := lvg k e; omega)
  go_wp2_with fail
  refine (iheldZ vg ys.length 1 _ _ (by omega) (by omega) hvg11.rd).mono ?_
  rintro e w12 ⟨rfl, hb12⟩
  have b12 := b11.trans (hb12.mono b11.size)
  have s12 := hb12.size
  have hvw12 := hvw11.below hb12
  have hvg12 := hvg11.below hb12
  go_wp2_with fail
  refine (toLefs_any _ es _ (hr0.below b12) (by omega)).mono ?_
  rintro e w13 ⟨c0, rfl, hc013, hb13⟩
  have b13 := b12.trans (hb13.mono b12.size)
  have s13 := hb13.size
  have hvw13 := hvw12.below hb13
  have hvg13 := hvg12.below hb13
  have lc0 : ∀ k, c0.ownBlock = some k → w12.heap.size ≤ k ∧ k < w13.heap.size := fun k hk => World.ownsRow.lt hc013 k hk
  go_wp2_with fail
  refine (HI.out _ _ hc013.rd (ht.on b13)).mono ?_
  rintro e w14 ⟨vh, rfl, hvh14, hb14⟩
  have b14 := b13.trans (hb14.mono b13.size)
  have s14 := hb14.size
  have hvw14 := hvw13.below hb14
  have hvg14 := hvg13.below hb14
  have hc014 := hc013.below hb14
  have lvh : ∀ k, vh.ownBlock = some k → w13.heap.size ≤ k ∧ k < w14.heap.size := fun k hk => World.ownsRow.lt hvh14 k hk
  go_wp2_with fail
  refine (eqIntsZ _ _ ys _ hvh14.rd hvw14.rd).mono ?_
  rintro e w15 ⟨rfl, hb15⟩
  have b15 := b14.trans (hb15.mono b14.size)
  have s15 := hb15.size
  have hvw15 := hvw14.below hb15
  have hvg15 := hvg14.below hb15
  have hc015 := hc014.below hb15
  have hvh15 := hvh14.below hb15
  go_wp2_with fail
  refine (iheldZ vg ys.length 1 _ _ (by omega) (by omega) hvg15.rd).mono ?_
  rintro e w16 ⟨rfl, hb16⟩
  have b16 := b15.trans (hb16.mono b15.size)
  have s16 := hb16.size
  have hvw16 := hvw15.below hb16
  have hvg16 := hvg15.below hb16
  have hc016 := hc015.below hb16
  have hvh16 := hvh15.below hb16
  go_wp2
  go_ret
  exact ⟨rfl, b16⟩
theorem own_fnExactWay : ownKnob Tryd.prog.godebug = none := by kernel_rfl
theorem laidOut_fnExactWay : laidOutB Tryd.prog = true := by kernel_rfl
theorem door_fnExactWay (os : Os) (args : Array Value) : laidMetH Tryd.prog Rows.fnExactWayRow.laid ((World.doorLaid Tryd.prog 400 os).forCall (fun _ _ => 0) ⟨#[], args, []⟩).memory :=
  laidMetH_of_parts3 (fuel := 8) (laidMet_of_run' 8 (by kernel_rfl) (by kernel_rfl)) (by kernel_rfl) (by kernel_rfl)
set_option maxRecDepth 100000 in
theorem lifted_fnExactWay (os : Os) (started : os.Started) (H : Type) (enc : TypeId × Value → H) :
    ReturnsInHanded {} Tryd.checked os 3 .any (fun w args => (Rows.fnExactWaySpec.pre enc Tryd.prog Tryd.f3 [] false w args ∧ laidMetH Tryd.prog Rows.fnExactWayRow.laid w) ∧ sizedMet enc Tryd.prog Tryd.f3 (OpenSpec.ofChange Rows.fnExactWaySpec) false w args)
      (Rows.fnExactWaySpec.post enc Tryd.prog Tryd.f3 false true false false) := by
  refine returnsInHanded_of_change_and (C := Tryd.checked) (X := fun w _ => laidMetH Tryd.prog Rows.fnExactWayRow.laid w) (fun _ _ _ hh h => h.of_heap hh) own_fnExactWay started (by kernel_rfl) Tryd.func3
    (ChangeSpec.witness_shaped (enc := enc) (C := Tryd.checked) (os := os) (X := fun w _ => laidMetH Tryd.prog Rows.fnExactWayRow.laid w) false (World.doorLaid Tryd.prog 400 os) #[.slice none 0 0, .int .i64 0] 8 rfl (World.shaped_of_RefB (by kernel_rfl) (by kernel_rfl)) (by kernel_rfl) (by kernel_rfl) (by kernel_rfl) (door_fnExactWay os _)) ?_
  intro W base args ds gs before hval0 hW _ _ hL _
  have hval : ∀ (j : Nat) t v, Tryd.f3.params[j]? = some t → args[j]? = some v → Value.okWide Tryd.prog W .any base t v := hval0
  have hW' := hW
  obtain ⟨p, q, hA0, hV, rfl, hfz, hnd⟩ := hW
  have hA : DataW.TrodAll enc Tryd.prog W 0 (fun _ => true) true Tryd.f3.params.toList args.toList ds p := hA0
  rw [Tryd.params3] at hA hval
  obtain ⟨v0, vs0, d0, ds0, p0, q0, hargs, rfl, rfl, h0, r0⟩ := trodAll_cons hA
  obtain ⟨v1, vs1, d1, ds1, p1, q1, rfl, rfl, rfl, h1, r1⟩ := trodAll_cons r0
  obtain ⟨rfl, rfl, rfl⟩ := trodAll_nil r1
  obtain rfl : args = #[v0, v1] := by cases args; simp_all
  obtain ⟨rfl, rfl⟩ := trodVars_none hV
  obtain ⟨a0, len0, cap0, rfl⟩ := okWide_slice Tryd.underlying22 (hval 0 22 v0 rfl rfl)
  have k0 := h0
  have lt0 : ∀ x ∈ p0, x.block < W.heap.size := by obtain ⟨m, hm⟩ := k0; exact DataW.trod_lt m _ _ _ hm
  obtain ⟨es0, hr0⟩ := open_lefs k0 ⟨a0, len0, cap0, rfl⟩
  obtain ⟨a1, rfl, rfl, rfl, w1⟩ := open_int Tryd.underlying2 (hval 1 2 v1 rfl rfl) h1
  have htab := tab_of_laid hL
  clear hA0 hval0
  refine (lawWay _ es0 a1 w1 W hr0 htab).mono fun e W' ⟨he, bel⟩ => ?_
  subst he
  exact ⟨_, rfl, _, _, _, [], _, [], hW', trodAll_mk1 (shut_bool Tryd.underlying4 _), (trodAll_cons_mk (Below.trod laidOut_fnExactWay (by kernel_rfl) (of_decide_eq_true (by kernel_rfl)) k0 bel lt0) (trodAll_cons_mk (shut_int Tryd.underlying2 w1) trodAll_mk0)), rfl, bel.frame _, fun h => by cases h⟩
theorem over_fnExactWay : Rows.fnExactWayRow.holds Tryd.pinned (OpenSpec.ofChange Rows.fnExactWaySpec) :=
  OpenClaim.holds_of_wide 3 Tryd.f3 rfl rfl rfl rfl rfl rfl rfl ⟨rfl, rfl, rfl, rfl, rfl⟩ rfl rfl rfl rfl rfl (by kernel_rfl) Tryd.func3 (by kernel_rfl)
    (of_decide_eq_true (by kernel_rfl)) (by unfold Func.isWrapper; first | (rw [if_pos (by decide +kernel)]; kernel_rfl) | (rw [if_neg (by decide +kernel)]; exact ⟨rfl, rfl⟩))
    (fun os started H enc _ => lifted_fnExactWay os started H enc)
theorem fnExactWay_holds : Rows.FnExactWayCardSaid :=
  Claim7.holds_tied_plain_at .later [] [.data, .data, .data] true Rows.fnExactWayCard.stood.harness Rows.fnExactWayCard.stood.looks
    over_fnExactWay (fun _ h => by cases h) (by kernel_rfl) (fun _ h => by cases h) fnExactWay_row_tie rfl ⟨rfl, rfl⟩ (by kernel_rfl) rfl
    (fun f fn hf hfn => by
      obtain rfl : f = 3 := Option.some.inj ((show Tryd.prog.funcNamed "loop.example/g00217/laws.FnExactWay" = some 3 by kernel_rfl).symm.trans hf) |>.symm
      obtain rfl : fn = Tryd.f3 := (Option.some.inj (Tryd.func3.symm.trans hfn)).symm
      exact ⟨by kernel_rfl, fun j t ht => by
        rw [Tryd.params3] at ht
        have hm : t ∈ [22, 2] := by simpa using Array.mem_of_getElem? ht
        have hall : ([22, 2].all fun u => !Tryd.prog.wantsStandIn u) = true := by kernel_rfl
        exact (show Tryd.prog.wantsStandIn t = false by simpa using List.all_eq_true.1 hall t hm)⟩)
    (by kernel_rfl)
#print axioms fnExactWay_holds

end Go.Proofs.YthmeikbfichkaabDoor
