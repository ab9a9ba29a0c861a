/- Whatever place, values and ways it is called with, laws.FnExactParted returns true and its arguments read as before: both Parted tell the same numbers, in memory of their own, and what they are handed stays. Condition: the three listed tables of the Go library hold what its text lays there (tied by the card). -/
import Derived.Test.YtmfopbkhlekhkaaDoorRows
import Derived.Test.YtmfopbkhlekhkaaDoorCards
import Derived.Test.YtmfopbkhlekhkaaDoorTie
import Derived.Test.YtmfopbkhlekhkaaDoorTriPrt3
import Derived.Test.YtmfopbkhlekhkaaDoorTriOpn
import Derived.Test.YtmfopbkhlekhkaaDoorNumZ
import Derived.Test.YtmfopbkhlekhkaaDoorLaid
import Derived.ProofKit
import Derived.OpenShut
import Derived.ShutString
import Derived.ChangeOld
import Derived.LaidMore
import Derived.SevenTiedAt
import Derived.Stop.Joined
namespace Go.Proofs.YtmfopbkhlekhkaaDoor
open Go.ChangeShapes Go.WideShapes Go.ChangeAt Go.RowKit
set_option maxHeartbeats 8000000 in
set_option maxRecDepth 100000 in
theorem lawParted (p : Int) (_ : (Lit.int .i64 p).wf = true) (v : Int) (_ : (Lit.int .i64 v).wf = true) (vw : Value) (ws : List Int) (o : Int) (_ : (Lit.int .i64 o).wf = true) (vu : Value) (us : List Int) (w : World) (hr0 : RdI w vw ws) (hi : ∀ j, I64 (ws.getD j 0)) (hr1 : RdI w vu us) (hj : ∀ j, I64 (us.getD j 0)) (ht : Tab w) :
    Calls Tryd.prog 6 #[.int .i64 p, .int .i64 v, vw, .int .i64 o, vu] w fun e w' => e = .returned (.bool true) ∧ Below w.heap.size w w' := by
  have hyl := ptdR_len p v ws o us
  obtain ⟨ys, hys⟩ : ∃ ys, ys = ptdR p v ws o us := ⟨_, rfl⟩
  obtain ⟨ok, hok⟩ : ∃ ok, ok = ptdB p v ws o us := ⟨_, rfl⟩
  have HS : Hid (∀ u1 u2 w', RdI w' u1 ws → RdI w' u2 us → Tab w' → Calls Tryd.prog 27 #[.int .i64 p, .int .i64 v, u1, .int .i64 o, u2] w' fun e w'' => ∃ u, e = .returned (.tuple #[u, .bool ok]) ∧ OwnI w'' w'.heap.size u ys ∧ Below w'.heap.size w' w'') := fun u1 u2 w' h1 h2 _ => by rw [hys, hok]; exact specParted_any p v o u1 u2 ws us w' h1 h2 hi hj
  have HI : Hid (∀ u1 u2 w', RdI w' u1 ws → RdI w' u2 us → Tab w' → Calls Tryd.prog 25 #[.int .i64 p, .int .i64 v, u1, .int .i64 o, u2] w' fun e w'' => ∃ u, e = .returned (.tuple #[u, .bool ok]) ∧ OwnI w'' w'.heap.size u ys ∧ Below w'.heap.size w' w'') := fun u1 u2 w' h1 h2 t => by rw [hys, hok]; exact implParted_any p v o u1 u2 ws us w' h1 h2 hi hj t
  rw [← hys] at hyl
  clear hys hok hi hj
  have hne : (ok != ok) = false := by simp
  have hq1 : ¬ 1 + (ys.length : Int) < 0 := by omega
  have hq2 : (1 + (ys.length : Int) != 1 + (ys.length : Int)) = false := by simp
  have hq3 : ¬ 1 + (ws.length : Int) + (us.length : Int) < 0 := by omega
  obtain ⟨a, c, hvw, hc1, hc2, -⟩ := id hr0
  obtain ⟨a2, c2, hvu, hd1, hd2, -⟩ := id hr1
  unfold maxLen at hc2 hd2
  subst hvw
  subst hvu
  by_cases hb1 : 1048576 < ws.length
  · go_enter Tryd.func6, Tryd.ntmps6
    go_wp2
    go_ret
    exact ⟨rfl, Below.refl _ _⟩
  by_cases hb2 : 1048576 < us.length
  · go_enter Tryd.func6, Tryd.ntmps6
    go_wp2
    go_ret
    exact ⟨rfl, Below.refl _ _⟩
  go_enter Tryd.func6, Tryd.ntmps6
  have b1 : Below w.heap.size w w := Below.refl _ _
  go_wp2_with fail
  refine (toInts_any _ ws _ (hr0.below b1) (by omega)).mono ?_
  rintro e w2 ⟨a0, rfl, ha02, hb2⟩
  have b2 := b1.trans (hb2.mono b1.size)
  have s2 := hb2.size
  have la0 : ∀ k, a0.ownBlock = some k → w.heap.size ≤ k ∧ k < w2.heap.size := fun k hk => World.ownsRow.lt ha02 k hk
  go_wp2_with fail
  refine (toInts_any _ us _ (hr1.below b2) (by omega)).mono ?_
  rintro e w3 ⟨a1, rfl, ha13, hb3⟩
  have b3 := b2.trans (hb3.mono b2.size)
  have s3 := hb3.size
  have ha03 := ha02.below hb3
  have la1 : ∀ k, a1.ownBlock = some k → w2.heap.size ≤ k ∧ k < w3.heap.size := fun k hk => World.ownsRow.lt ha13 k hk
  go_wp2_with fail
  refine (HS.out _ _ _ ha03.rd ha13.rd (ht.on b3)).mono ?_
  rintro e w4 ⟨vw, rfl, hvw4, hb4⟩
  have b4 := b3.trans (hb4.mono b3.size)
  have s4 := hb4.size
  have ha04 := ha03.below hb4
  have ha14 := ha13.below hb4
  have lvw : ∀ k, vw.ownBlock = some k → w3.heap.size ≤ k ∧ k < w4.heap.size := fun k hk => World.ownsRow.lt hvw4 k hk
  go_wp2_with fail
  refine (toInts_any _ ws _ (hr0.below b4) (by omega)).mono ?_
  rintro e w5 ⟨x0, rfl, hx05, hb5⟩
  have b5 := b4.trans (hb5.mono b4.size)
  have s5 := hb5.size
  have hvw5 := hvw4.below hb5
  have lx0 : ∀ k, x0.ownBlock = some k → w4.heap.size ≤ k ∧ k < w5.heap.size := fun k hk => World.ownsRow.lt hx05 k hk
  go_wp2_with fail
  refine (toInts_any _ us _ (hr1.below b5) (by omega)).mono ?_
  rintro e w6 ⟨x1, rfl, hx16, hb6⟩
  have b6 := b5.trans (hb6.mono b5.size)
  have s6 := hb6.size
  have hvw6 := hvw5.below hb6
  have hx06 := hx05.below hb6
  have lx1 : ∀ k, x1.ownBlock = some k → w5.heap.size ≤ k ∧ k < w6.heap.size := fun k hk => World.ownsRow.lt hx16 k hk
  go_wp2_with fail
  refine (HI.out _ _ _ hx06.rd hx16.rd (ht.on b6)).mono ?_
  rintro e w7 ⟨vg, rfl, hvg7, hb7⟩
  have b7 := b6.trans (hb7.mono b6.size)
  have s7 := hb7.size
  have hvw7 := hvw6.below hb7
  have hx07 := hx06.below hb7
  have hx17 := hx16.below hb7
  have lvg : ∀ k, vg.ownBlock = some k → w6.heap.size ≤ k ∧ k < w7.heap.size := fun k hk => World.ownsRow.lt hvg7 k hk
  go_wp2_with fail
  refine (eqIntsZ _ _ ys _ hvg7.rd hvw7.rd).mono ?_
  rintro e w8 ⟨rfl, hb8⟩
  have b8 := b7.trans (hb8.mono b7.size)
  have s8 := hb8.size
  have hvw8 := hvw7.below hb8
  have hx08 := hx07.below hb8
  have hx18 := hx17.below hb8
  have hvg8 := hvg7.below hb8
  go_wp2_with fail
  refine (toInts_any _ ws _ (hr0.below b8) (by omega)).mono ?_
  rintro e w9 ⟨t0, rfl, ht09, hb9⟩
  have b9 := b8.trans (hb9.mono b8.size)
  have s9 := hb9.size
  have hvw9 := hvw8.below hb9
  have hx09 := hx08.below hb9
  have hx19 := hx18.below hb9
  have hvg9 := hvg8.below hb9
  have lt0 : ∀ k, t0.ownBlock = some k → w8.heap.size ≤ k ∧ k < w9.heap.size := fun k hk => World.ownsRow.lt ht09 k hk
  go_wp2_with fail
  refine (eqIntsZ _ _ ws _ hx09.rd ht09.rd).mono ?_
  rintro e w10 ⟨rfl, hb10⟩
  have b10 := b9.trans (hb10.mono b9.size)
  have s10 := hb10.size
  have hvw10 := hvw9.below hb10
  have hx010 := hx09.below hb10
  have hx110 := hx19.below hb10
  have hvg10 := hvg9.below hb10
  have ht010 := ht09.below hb10
  go_wp2_with fail
  refine (toInts_any _ us _ (hr1.below b10) (by omega)).mono ?_
  rintro e w11 ⟨t1, rfl, ht111, hb11⟩
  have b11 := b10.trans (hb11.mono b10.size)
  have s11 := hb11.size
  have hvw11 := hvw10.below hb11
  have hx011 := hx010.below hb11
  have hx111 := hx110.below hb11
  have hvg11 := hvg10.below hb11
  have lt1 : ∀ k, t1.ownBlock = some k → w10.heap.size ≤ k ∧ k < w11.heap.size := fun k hk => World.ownsRow.lt ht111 k hk
  go_wp2_with fail
  refine (eqIntsZ _ _ us _ hx111.rd ht111.rd).mono ?_
  rintro e w12 ⟨rfl, hb12⟩
  have b12 := b11.trans (hb12.mono b11.size)
  have s12 := hb12.size
  have hvw12 := hvw11.below hb12
  have hx012 := hx011.below hb12
  have hx112 := hx111.below hb12
  have hvg12 := hvg11.below hb12
  have ht112 := ht111.below hb12
  go_wp2_with fail
  refine (imarkZ x0 ws _ (1) _ _ (by omega) (by omega) hx012).mono ?_
  rintro e w13 ⟨rfl, -, hb13⟩
  have b13 : Below w.heap.size w w13 := b12.grown hb13 b12.size (fun k hk => by have := lx0 k hk; omega)
  have s13 := hb13.size
  have hvw13 : OwnI w13 _ vw ys := row_kept hvw12 hb13 (fun k hk e => by have := lvw k hk; have := lx0 k e; omega)
  have hx113 : OwnI w13 _ x1 us := row_kept hx112 hb13 (fun k hk e => by have := lx1 k hk; have := lx0 k e; omega)
  have hvg13 : OwnI w13 _ vg ys := row_kept hvg12 hb13 (fun k hk e => by have := lvg k hk; have := lx0 k e; omega)
  go_wp2_with fail
  refine (imarkZ x1 us _ (1 + 1 * ws.length) _ _ (by omega) (by omega) hx113).mono ?_
  rintro e w14 ⟨rfl, -, hb14⟩
  have b14 : Below w.heap.size w w14 := b13.grown hb14 b13.size (fun k hk => by have := lx1 k hk; omega)
  have s14 := hb14.size
  have hvw14 : OwnI w14 _ vw ys := row_kept hvw13 hb14 (fun k hk e => by have := lvw k hk; have := lx1 k e; omega)
  have hvg14 : OwnI w14 _ vg ys := row_kept hvg13 hb14 (fun k hk e => by have := lvg k hk; have := lx1 k e; omega)
  go_wp2_with fail
  refine (eqIntsZ _ _ ys _ hvg14.rd hvw14.rd).mono ?_
  rintro e w15 ⟨rfl, hb15⟩
  have b15 := b14.trans (hb15.mono b14.size)
  have s15 := hb15.size
  have hvw15 := hvw14.below hb15
  have hvg15 := hvg14.below hb15
  go_wp2_with fail
  refine (imarkZ vg ys _ 1 _ _ (by omega) (by omega) hvg15).mono ?_
  rintro e w16 ⟨rfl, hvg16, hb16⟩
  have b16 : Below w.heap.size w w16 := b15.grown hb16 b15.size (fun k hk => by have := lvg k hk; omega)
  have s16 := hb16.size
  have hvw16 : OwnI w16 _ vw ys := row_kept hvw15 hb16 (fun k hk e => by have := lvw k hk; have := lvg k e; omega)
  go_wp2_with fail
  refine (iheldZ vg ys.length 1 _ _ (by omega) (by omega) hvg16.rd).mono ?_
  rintro e w17 ⟨rfl, hb17⟩
  have b17 := b16.trans (hb17.mono b16.size)
  have s17 := hb17.size
  have hvw17 := hvw16.below hb17
  have hvg17 := hvg16.below hb17
  go_wp2_with fail
  refine (toInts_any _ ws _ (hr0.below b17) (by omega)).mono ?_
  rintro e w18 ⟨c0, rfl, hc018, hb18⟩
  have b18 := b17.trans (hb18.mono b17.size)
  have s18 := hb18.size
  have hvw18 := hvw17.below hb18
  have hvg18 := hvg17.below hb18
  have lc0 : ∀ k, c0.ownBlock = some k → w17.heap.size ≤ k ∧ k < w18.heap.size := fun k hk => World.ownsRow.lt hc018 k hk
  go_wp2_with fail
  refine (toInts_any _ us _ (hr1.below b18) (by omega)).mono ?_
  rintro e w19 ⟨c1, rfl, hc119, hb19⟩
  have b19 := b18.trans (hb19.mono b18.size)
  have s19 := hb19.size
  have hvw19 := hvw18.below hb19
  have hvg19 := hvg18.below hb19
  have hc019 := hc018.below hb19
  have lc1 : ∀ k, c1.ownBlock = some k → w18.heap.size ≤ k ∧ k < w19.heap.size := fun k hk => World.ownsRow.lt hc119 k hk
  go_wp2_with fail
  refine (HI.out _ _ _ hc019.rd hc119.rd (ht.on b19)).mono ?_
  rintro e w20 ⟨vh, rfl, hvh20, hb20⟩
  have b20 := b19.trans (hb20.mono b19.size)
  have s20 := hb20.size
  have hvw20 := hvw19.below hb20
  have hvg20 := hvg19.below hb20
  have hc020 := hc019.below hb20
  have hc120 := hc119.below hb20
  have lvh : ∀ k, vh.ownBlock = some k → w19.heap.size ≤ k ∧ k < w20.heap.size := fun k hk => World.ownsRow.lt hvh20 k hk
  go_wp2_with fail
  refine (eqIntsZ _ _ ys _ hvh20.rd hvw20.rd).mono ?_
  rintro e w21 ⟨rfl, hb21⟩
  have b21 := b20.trans (hb21.mono b20.size)
  have s21 := hb21.size
  have hvw21 := hvw20.below hb21
  have hvg21 := hvg20.below hb21
  have hc021 := hc020.below hb21
  have hc121 := hc120.below hb21
  have hvh21 := hvh20.below hb21
  go_wp2_with fail
  refine (iheldZ vg ys.length 1 _ _ (by omega) (by omega) hvg21.rd).mono ?_
  rintro e w22 ⟨rfl, hb22⟩
  have b22 := b21.trans (hb22.mono b21.size)
  have s22 := hb22.size
  have hvw22 := hvw21.below hb22
  have hvg22 := hvg21.below hb22
  have hc022 := hc021.below hb22
  have hc122 := hc121.below hb22
  have hvh22 := hvh21.below hb22
  go_wp2
  go_ret
  exact ⟨rfl, b22⟩
theorem own_fnExactParted : ownKnob Tryd.prog.godebug = none := by kernel_rfl
theorem laidOut_fnExactParted : laidOutB Tryd.prog = true := by kernel_rfl
theorem door_fnExactParted (os : Os) (args : Array Value) : laidMetH Tryd.prog Rows.fnExactPartedRow.laid ((World.doorLaid Tryd.prog 400 os).forCall (fun _ _ => 0) ⟨#[], args, []⟩).memory :=
  laidMetH_of_parts3 (fuel := 8) (laidMet_of_run' 8 (by kernel_rfl) (by kernel_rfl)) (by kernel_rfl) (by kernel_rfl)
set_option maxRecDepth 100000 in
theorem lifted_fnExactParted (os : Os) (started : os.Started) (H : Type) (enc : TypeId × Value → H) :
    ReturnsInHanded {} Tryd.checked os 6 .any (fun w args => (Rows.fnExactPartedSpec.pre enc Tryd.prog Tryd.f6 [] false w args ∧ laidMetH Tryd.prog Rows.fnExactPartedRow.laid w) ∧ sizedMet enc Tryd.prog Tryd.f6 (OpenSpec.ofChange Rows.fnExactPartedSpec) false w args)
      (Rows.fnExactPartedSpec.post enc Tryd.prog Tryd.f6 false true false false) := by
  refine returnsInHanded_of_change_and (C := Tryd.checked) (X := fun w _ => laidMetH Tryd.prog Rows.fnExactPartedRow.laid w) (fun _ _ _ hh h => h.of_heap hh) own_fnExactParted started (by kernel_rfl) Tryd.func6
    (ChangeSpec.witness_shaped (enc := enc) (C := Tryd.checked) (os := os) (X := fun w _ => laidMetH Tryd.prog Rows.fnExactPartedRow.laid w) false (World.doorLaid Tryd.prog 400 os) #[.int .i64 0, .int .i64 0, .slice none 0 0, .int .i64 0, .slice none 0 0] 8 rfl (World.shaped_of_RefB (by kernel_rfl) (by kernel_rfl)) (by kernel_rfl) (by kernel_rfl) (by kernel_rfl) (door_fnExactParted os _)) ?_
  intro W base args ds gs before hval0 hW _ _ hL _
  have hval : ∀ (j : Nat) t v, Tryd.f6.params[j]? = some t → args[j]? = some v → Value.okWide Tryd.prog W .any base t v := hval0
  have hW' := hW
  obtain ⟨p, q, hA0, hV, rfl, hfz, hnd⟩ := hW
  have hA : DataW.TrodAll enc Tryd.prog W 0 (fun _ => true) true Tryd.f6.params.toList args.toList ds p := hA0
  rw [Tryd.params6] at hA hval
  obtain ⟨v0, vs0, d0, ds0, p0, q0, hargs, rfl, rfl, h0, r0⟩ := trodAll_cons hA
  obtain ⟨v1, vs1, d1, ds1, p1, q1, rfl, rfl, rfl, h1, r1⟩ := trodAll_cons r0
  obtain ⟨v2, vs2, d2, ds2, p2, q2, rfl, rfl, rfl, h2, r2⟩ := trodAll_cons r1
  obtain ⟨v3, vs3, d3, ds3, p3, q3, rfl, rfl, rfl, h3, r3⟩ := trodAll_cons r2
  obtain ⟨v4, vs4, d4, ds4, p4, q4, rfl, rfl, rfl, h4, r4⟩ := trodAll_cons r3
  obtain ⟨rfl, rfl, rfl⟩ := trodAll_nil r4
  obtain rfl : args = #[v0, v1, v2, v3, v4] := by cases args; simp_all
  obtain ⟨rfl, rfl⟩ := trodVars_none hV
  obtain ⟨a0, rfl, rfl, rfl, w0⟩ := open_int Tryd.underlying2 (hval 0 2 v0 rfl rfl) h0
  obtain ⟨a1, rfl, rfl, rfl, w1⟩ := open_int Tryd.underlying2 (hval 1 2 v1 rfl rfl) h1
  obtain ⟨a2, len2, cap2, rfl⟩ := okWide_slice Tryd.underlying28 (hval 2 28 v2 rfl rfl)
  have k2 := h2
  have lt2 : ∀ x ∈ p2, x.block < W.heap.size := by obtain ⟨m, hm⟩ := k2; exact DataW.trod_lt m _ _ _ hm
  obtain ⟨ns2, hr2, hh2⟩ := open_intsB k2 ⟨a2, len2, cap2, rfl⟩
  obtain ⟨a3, rfl, rfl, rfl, w3⟩ := open_int Tryd.underlying2 (hval 3 2 v3 rfl rfl) h3
  obtain ⟨a4, len4, cap4, rfl⟩ := okWide_slice Tryd.underlying28 (hval 4 28 v4 rfl rfl)
  have k4 := h4
  have lt4 : ∀ x ∈ p4, x.block < W.heap.size := by obtain ⟨m, hm⟩ := k4; exact DataW.trod_lt m _ _ _ hm
  obtain ⟨ns4, hr4, hh4⟩ := open_intsB k4 ⟨a4, len4, cap4, rfl⟩
  have htab := tab_of_laid hL
  clear hA0 hval0
  refine (lawParted a0 w0 a1 w1 _ ns2 a3 w3 _ ns4 W hr2 hh2 hr4 hh4 htab).mono fun e W' ⟨he, bel⟩ => ?_
  subst he
  exact ⟨_, rfl, _, _, _, [], _, [], hW', trodAll_mk1 (shut_bool Tryd.underlying4 _), (trodAll_cons_mk (shut_int Tryd.underlying2 w0) (trodAll_cons_mk (shut_int Tryd.underlying2 w1) (trodAll_cons_mk (Below.trod laidOut_fnExactParted (by kernel_rfl) (of_decide_eq_true (by kernel_rfl)) k2 bel lt2) (trodAll_cons_mk (shut_int Tryd.underlying2 w3) (trodAll_cons_mk (Below.trod laidOut_fnExactParted (by kernel_rfl) (of_decide_eq_true (by kernel_rfl)) k4 bel lt4) trodAll_mk0))))), rfl, bel.frame _, fun h => by cases h⟩
theorem over_fnExactParted : Rows.fnExactPartedRow.holds Tryd.pinned (OpenSpec.ofChange Rows.fnExactPartedSpec) :=
  OpenClaim.holds_of_wide 6 Tryd.f6 rfl rfl rfl rfl rfl rfl rfl ⟨rfl, rfl, rfl, rfl, rfl⟩ rfl rfl rfl rfl rfl (by kernel_rfl) Tryd.func6 (by kernel_rfl)
    (of_decide_eq_true (by kernel_rfl)) (by unfold Func.isWrapper; first | (rw [if_pos (by decide +kernel)]; kernel_rfl) | (rw [if_neg (by decide +kernel)]; exact ⟨rfl, rfl⟩))
    (fun os started H enc _ => lifted_fnExactParted os started H enc)
theorem fnExactParted_holds : Rows.FnExactPartedCardSaid :=
  Claim7.holds_tied_plain_at .later [] [.data, .data, .data] true Rows.fnExactPartedCard.stood.harness Rows.fnExactPartedCard.stood.looks
    over_fnExactParted (fun _ h => by cases h) (by kernel_rfl) (fun _ h => by cases h) fnExactParted_row_tie rfl ⟨rfl, rfl⟩ (by kernel_rfl) rfl
    (fun f fn hf hfn => by
      obtain rfl : f = 6 := Option.some.inj ((show Tryd.prog.funcNamed "loop.example/g00217/laws.FnExactParted" = some 6 by kernel_rfl).symm.trans hf) |>.symm
      obtain rfl : fn = Tryd.f6 := (Option.some.inj (Tryd.func6.symm.trans hfn)).symm
      exact ⟨by kernel_rfl, fun j t ht => by
        rw [Tryd.params6] at ht
        have hm : t ∈ [2, 2, 28, 2, 28] := by simpa using Array.mem_of_getElem? ht
        have hall : ([2, 2, 28, 2, 28].all fun u => !Tryd.prog.wantsStandIn u) = true := by kernel_rfl
        exact (show Tryd.prog.wantsStandIn t = false by simpa using List.all_eq_true.1 hall t hm)⟩)
    (by kernel_rfl)
#print axioms fnExactParted_holds

end Go.Proofs.YtmfopbkhlekhkaaDoor
