/- Whatever Offers and number it is called with, laws.FnExactChosen returns true and its arguments read as before: both Chosen tell the same texts, in memory of their own, and what they are handed stays. No condition. -/
-- UNF Gen
import Derived.Test.YteohiicaiilicaaRows
import Derived.Test.YteohiicaiilicaaOffMark
import Derived.Test.YteohiicaiilicaaOffSpk
import Derived.ProofKit
import Derived.OpenShut
import Derived.ShutString
import Derived.ChangeOld
namespace Go.Proofs.Yteohiicaiilicaa
open Go.ChangeShapes Go.WideShapes Go.ChangeAt Go.RowKit
theorem smarkZ (v : Value) (bs : List ByteArray) (base k : Nat) (z : Int) (w : World) (hz : z = (k : Int)) (hk : 0 < k ∧ k + bs.length ≤ 4194304) (hown : OwnS w base v bs) :
    Calls Try.prog 31 #[v, .int .i64 z] w fun e w' => e = .returned (.int .i64 (z + (bs.length : Int))) ∧ OwnS w' base v (smarks k bs.length) ∧ w.grownBy w' v.ownBlock := by
  subst hz
  have h := smark_any v bs base k w hk.1 hk.2 hown
  rwa [show ((k + bs.length : Nat) : Int) = (k : Int) + (bs.length : Int) by omega] at h
theorem sheldZ (v : Value) (n k : Nat) (z : Int) (w : World) (hz : z = (k : Int)) (hk : 0 < k ∧ k + n ≤ 4194304) (hr : RdS w v (smarks k n)) :
    Calls Try.prog 32 #[v, .int .i64 z] w fun e w' => e = .returned (.int .i64 (z + (n : Int))) ∧ Below w.heap.size w w' := by
  subst hz
  have h := sheld_any v n k w hk.1 hk.2 hr
  rwa [show ((k + n : Nat) : Int) = (k : Int) + (n : Int) by omega] at h
theorem eqTxtZ (va vb : Value) (bs : List ByteArray) (w : World) (ha : RdS w va bs) (hb : RdS w vb bs) :
    Calls Try.prog 30 #[va, vb] w fun e w' => e = .returned (.bool true) ∧ Below w.heap.size w w' :=
  (eqTexts_same va vb bs w ha hb).mono fun e w' ⟨a, q, b⟩ => ⟨a, by rw [b]; exact below_drewN (Below.refl _ _) q⟩
theorem choR_len (es : List Off) (nn : Int) : (choR es nn).length ≤ 50 := by
  unfold choR
  split
  · rename_i h
    have h1 := (poolOk_iff.1 h).1
    rw [chL_len]
    omega
  · simp
set_option maxHeartbeats 8000000 in
set_option maxRecDepth 100000 in
theorem lawChosen (v : Value) (es : List Off) (nn : Int) (hnn : (Lit.int .i64 nn).wf = true) (w : World) (hr0 : RdO w v es) (hh : ∀ e ∈ es, e.text.size ≤ maxLen) :
    Calls Try.prog 7 #[v, .int .i64 nn] w fun e w' => e = .returned (.bool true) ∧ Below w.heap.size w w' := by
  have hyl := choR_len es nn
  obtain ⟨n0, n1⟩ := bounds_i64 hnn
  obtain ⟨ys, hys⟩ : ∃ ys, ys = choR es nn := ⟨_, rfl⟩
  have HS : Hid (∀ u w', RdO w' u es → Calls Try.prog 20 #[u, .int .i64 nn] w' fun e w'' => ∃ u, e = .returned u ∧ OwnS w'' w'.heap.size u ys ∧ Below w'.heap.size w' w'') := fun u w' h => by rw [hys]; exact specChosen_any u es nn w' h hh (by omega) (by omega)
  have HI : Hid (∀ u w', RdO w' u es → Calls Try.prog 14 #[u, .int .i64 nn] w' fun e w'' => ∃ u, e = .returned u ∧ OwnS w'' w'.heap.size u ys ∧ Below w'.heap.size w' w'') := fun u w' h => by rw [hys]; exact implChosen_any u es nn w' h hh
  rw [← hys] at hyl
  clear hys n0 n1 hnn
  have hq1 : ¬ 1 + (ys.length : Int) < 0 := by omega
  have hq2 : (1 + (ys.length : Int) != 1 + (ys.length : Int)) = false := by simp
  have hq3 : ¬ 1 + 2 * (es.length : Int) < 0 := by omega
  go_enter Try.func7, Try.ntmps7
  go_wp2_with fail
  refine (szOffs_at _ es 1048576 _ hr0 hh (by omega) (by omega)).mono ?_
  rintro e w1 ⟨b1, z, rfl, hz⟩
  rcases hz with hz | ⟨hz0, hl⟩
  · subst hz
    go_wp2
    go_ret
    exact ⟨rfl, b1⟩
  have s1 := b1.size
  clear hh
  go_wp2_with fail
  refine (toOffs_any _ es _ (hr0.below b1) (by omega)).mono ?_
  rintro e w2 ⟨a0, rfl, ha02, hb2⟩
  have b2 := b1.trans (hb2.mono b1.size)
  have s2 := hb2.size
  have la0 : ∀ k, a0.ownBlock = some k → w1.heap.size ≤ k ∧ k < w2.heap.size := fun k hk => World.ownsRow.lt ha02 k hk
  go_wp2_with fail
  refine (HS.out _ _ ha02.rd).mono ?_
  rintro e w3 ⟨vw, rfl, hvw3, hb3⟩
  have b3 := b2.trans (hb3.mono b2.size)
  have s3 := hb3.size
  have ha03 := ha02.below hb3
  have lvw : ∀ k, vw.ownBlock = some k → w2.heap.size ≤ k ∧ k < w3.heap.size := fun k hk => World.ownsRow.lt hvw3 k hk
  go_wp2_with fail
  refine (toOffs_any _ es _ (hr0.below b3) (by omega)).mono ?_
  rintro e w4 ⟨x0, rfl, hx04, hb4⟩
  have b4 := b3.trans (hb4.mono b3.size)
  have s4 := hb4.size
  have hvw4 := hvw3.below hb4
  have lx0 : ∀ k, x0.ownBlock = some k → w3.heap.size ≤ k ∧ k < w4.heap.size := fun k hk => World.ownsRow.lt hx04 k hk
  go_wp2_with fail
  refine (HI.out _ _ hx04.rd).mono ?_
  rintro e w5 ⟨vg, rfl, hvg5, hb5⟩
  have b5 := b4.trans (hb5.mono b4.size)
  have s5 := hb5.size
  have hvw5 := hvw4.below hb5
  have hx05 := hx04.below hb5
  have lvg : ∀ k, vg.ownBlock = some k → w4.heap.size ≤ k ∧ k < w5.heap.size := fun k hk => World.ownsRow.lt hvg5 k hk
  go_wp2_with fail
  refine (eqTxtZ _ _ ys _ hvg5.rd hvw5.rd).mono ?_
  rintro e w6 ⟨rfl, hb6⟩
  have b6 := b5.trans (hb6.mono b5.size)
  have s6 := hb6.size
  have hvw6 := hvw5.below hb6
  have hx06 := hx05.below hb6
  have hvg6 := hvg5.below hb6
  go_wp2_with fail
  refine (toOffs_any _ es _ (hr0.below b6) (by omega)).mono ?_
  rintro e w7 ⟨t0, rfl, ht07, hb7⟩
  have b7 := b6.trans (hb7.mono b6.size)
  have s7 := hb7.size
  have hvw7 := hvw6.below hb7
  have hx07 := hx06.below hb7
  have hvg7 := hvg6.below hb7
  have lt0 : ∀ k, t0.ownBlock = some k → w6.heap.size ≤ k ∧ k < w7.heap.size := fun k hk => World.ownsRow.lt ht07 k hk
  go_wp2_with fail
  refine (eqOffs_same _ _ es _ hx07.rd ht07.rd).mono ?_
  rintro e w8 ⟨rfl, hb8⟩
  have b8 := b7.trans (hb8.mono b7.size)
  have s8 := hb8.size
  have hvw8 := hvw7.below hb8
  have hx08 := hx07.below hb8
  have hvg8 := hvg7.below hb8
  have ht08 := ht07.below hb8
  go_wp2_with fail
  refine (omarkZ x0 es _ (1) _ _ (by omega) (by omega) hx08).mono ?_
  rintro e w9 ⟨rfl, -, hb9⟩
  have b9 : Below w.heap.size w w9 := b8.grown hb9 b8.size (fun k hk => by have := lx0 k hk; omega)
  have s9 := hb9.size
  have hvw9 : OwnS w9 _ vw ys := row_kept hvw8 hb9 (fun k hk e => by have := lvw k hk; have := lx0 k e; omega)
  have hvg9 : OwnS w9 _ vg ys := row_kept hvg8 hb9 (fun k hk e => by have := lvg k hk; have := lx0 k e; omega)
  go_wp2_with fail
  refine (eqTxtZ _ _ ys _ hvg9.rd hvw9.rd).mono ?_
  rintro e w10 ⟨rfl, hb10⟩
  have b10 := b9.trans (hb10.mono b9.size)
  have s10 := hb10.size
  have hvw10 := hvw9.below hb10
  have hvg10 := hvg9.below hb10
  go_wp2_with fail
  refine (smarkZ vg ys _ 1 _ _ (by omega) (by omega) hvg10).mono ?_
  rintro e w11 ⟨rfl, hvg11, hb11⟩
  have b11 : Below w.heap.size w w11 := b10.grown hb11 b10.size (fun k hk => by have := lvg k hk; omega)
  have s11 := hb11.size
  have hvw11 : OwnS w11 _ vw ys := row_kept hvw10 hb11 (fun k hk e => by have := lvw k hk; have := lvg k e; omega)
  go_wp2_with fail
  refine (sheldZ vg ys.length 1 _ _ (by omega) (by omega) hvg11.rd).mono ?_
  rintro e w12 ⟨rfl, hb12⟩
  have b12 := b11.trans (hb12.mono b11.size)
  have s12 := hb12.size
  have hvw12 := hvw11.below hb12
  have hvg12 := hvg11.below hb12
  go_wp2_with fail
  refine (toOffs_any _ es _ (hr0.below b12) (by omega)).mono ?_
  rintro e w13 ⟨c0, rfl, hc013, hb13⟩
  have b13 := b12.trans (hb13.mono b12.size)
  have s13 := hb13.size
  have hvw13 := hvw12.below hb13
  have hvg13 := hvg12.below hb13
  have lc0 : ∀ k, c0.ownBlock = some k → w12.heap.size ≤ k ∧ k < w13.heap.size := fun k hk => World.ownsRow.lt hc013 k hk
  go_wp2_with fail
  refine (HI.out _ _ hc013.rd).mono ?_
  rintro e w14 ⟨vh, rfl, hvh14, hb14⟩
  have b14 := b13.trans (hb14.mono b13.size)
  have s14 := hb14.size
  have hvw14 := hvw13.below hb14
  have hvg14 := hvg13.below hb14
  have hc014 := hc013.below hb14
  have lvh : ∀ k, vh.ownBlock = some k → w13.heap.size ≤ k ∧ k < w14.heap.size := fun k hk => World.ownsRow.lt hvh14 k hk
  go_wp2_with fail
  refine (eqTxtZ _ _ ys _ hvh14.rd hvw14.rd).mono ?_
  rintro e w15 ⟨rfl, hb15⟩
  have b15 := b14.trans (hb15.mono b14.size)
  have s15 := hb15.size
  have hvw15 := hvw14.below hb15
  have hvg15 := hvg14.below hb15
  have hc015 := hc014.below hb15
  have hvh15 := hvh14.below hb15
  go_wp2_with fail
  refine (sheldZ vg ys.length 1 _ _ (by omega) (by omega) hvg15.rd).mono ?_
  rintro e w16 ⟨rfl, hb16⟩
  have b16 := b15.trans (hb16.mono b15.size)
  have s16 := hb16.size
  have hvw16 := hvw15.below hb16
  have hvg16 := hvg15.below hb16
  have hc016 := hc015.below hb16
  have hvh16 := hvh15.below hb16
  go_wp2
  go_ret
  exact ⟨rfl, b16⟩
theorem own_fnExactChosen : ownKnob Try.prog.godebug = none := by kernel_rfl
theorem laidOut_fnExactChosen : laidOutB Try.prog = true := by kernel_rfl
set_option maxRecDepth 100000 in
theorem lifted_fnExactChosen (os : Os) (started : os.Started) (H : Type) (enc : TypeId × Value → H) :
    ReturnsInHanded {} Try.checked os 7 .any (Rows.fnExactChosenSpec.pre6 enc Try.prog Try.f7 Rows.fnExactChosenRow.domain false) (Rows.fnExactChosenSpec.post enc Try.prog Try.f7 false true false false) := by
  refine returnsInHanded_of_change (C := Try.checked) own_fnExactChosen started (by kernel_rfl) Try.func7
    (ChangeSpec.witness6 (enc := enc) (C := Try.checked) false ⟨#[], #[.slice none 0 0, .int .i64 0], []⟩ 8 (by kernel_rfl) (by kernel_rfl) (by kernel_rfl) (by kernel_rfl)) ?_
  intro W base args ds gs before hval0 hW hcnd _
  have hval : ∀ (j : Nat) t v, Try.f7.params[j]? = some t → args[j]? = some v → Value.okWide Try.prog W .any base t v := hval0
  have hW' := hW
  obtain ⟨p, q, hA0, hV, rfl, hfz, hnd⟩ := hW
  have hA : DataW.TrodAll enc Try.prog W 0 (fun _ => true) true Try.f7.params.toList args.toList ds p := hA0
  rw [Try.params7] at hA hval
  obtain ⟨v0, vs0, d0, ds0, p0, q0, hargs, rfl, rfl, h0, r0⟩ := trodAll_cons hA
  obtain ⟨v1, vs1, d1, ds1, p1, q1, rfl, rfl, rfl, h1, r1⟩ := trodAll_cons r0
  obtain ⟨rfl, rfl, rfl⟩ := trodAll_nil r1
  obtain rfl : args = #[v0, v1] := by cases args; simp_all
  obtain ⟨rfl, rfl⟩ := trodVars_none hV
  obtain ⟨a0, len0, cap0, rfl⟩ := okWide_slice Try.underlying41 (hval 0 41 v0 rfl rfl)
  have k0 := h0
  have lt0 : ∀ x ∈ p0, x.block < W.heap.size := by obtain ⟨m, hm⟩ := k0; exact DataW.trod_lt m _ _ _ hm
  obtain ⟨es0, hr0, hh0⟩ := open_offs k0 ⟨a0, len0, cap0, rfl⟩
  obtain ⟨a1, rfl, rfl, rfl, w1⟩ := open_int Try.underlying2 (hval 1 2 v1 rfl rfl) h1
  clear hA0 hval0
  refine (lawChosen _ es0 a1 w1 W hr0 hh0).mono fun e W' ⟨he, bel⟩ => ?_
  subst he
  exact ⟨_, rfl, _, _, _, [], _, [], hW', trodAll_mk1 (shut_bool Try.underlying4 _), (trodAll_cons_mk (Below.trod laidOut_fnExactChosen (by kernel_rfl) (of_decide_eq_true (by kernel_rfl)) k0 bel lt0) (trodAll_cons_mk (shut_int Try.underlying2 w1) trodAll_mk0)), rfl, bel.frame _, fun h => by cases h⟩
theorem over_fnExactChosen : Rows.fnExactChosenRow.holds Try.pinned (OpenSpec.ofChange Rows.fnExactChosenSpec) :=
  OpenClaim.holds_of_wide 7 Try.f7 rfl rfl rfl rfl rfl rfl rfl ⟨rfl, rfl, rfl, rfl, rfl⟩ rfl rfl rfl rfl rfl (by kernel_rfl) Try.func7 (by kernel_rfl)
    (of_decide_eq_true (by kernel_rfl)) (by unfold Func.isWrapper; first | (rw [if_pos (by decide +kernel)]; kernel_rfl) | (rw [if_neg (by decide +kernel)]; exact ⟨rfl, rfl⟩))
    (fun os started H enc _ => lifted_fnExactChosen os started H enc)
theorem fnExactChosen_holds : Rows.FnExactChosenSaid := over_fnExactChosen
#print axioms fnExactChosen_holds

end Go.Proofs.Yteohiicaiilicaa
