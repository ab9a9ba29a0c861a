/- Whatever Offers it is called with, laws.FnExactPoolOk returns true and its argument reads as before: both PoolOk tell the same. No condition. -/
import Derived.Test.YteohiicaiilicaaRows
import Derived.Test.YteohiicaiilicaaOffMark
import Derived.Test.YteohiicaiilicaaOffLess
import Derived.ProofKit
import Derived.OpenShut
import Derived.ShutString
import Derived.ChangeOld
namespace Go.Proofs.Yteohiicaiilicaa
open Go.ChangeShapes Go.WideShapes Go.ChangeAt Go.RowKit
set_option maxHeartbeats 2000000 in
set_option maxRecDepth 100000 in
theorem lawPoolOk (v : Value) (es : List Off) (w : World) (hr : RdO w v es) (hh : ∀ e ∈ es, e.text.size ≤ maxLen) :
    Calls Try.prog 4 #[v] w fun e w' => e = .returned (.bool true) ∧ Below w.heap.size w w' := by
  go_enter Try.func4, Try.ntmps4
  go_wp2_with fail
  refine (szOffs_at _ es 1048576 _ hr hh (by omega) (by omega)).mono ?_
  rintro e w1 ⟨b1, z, rfl, hz⟩
  rcases hz with hz | ⟨hz0, hl⟩
  · subst hz
    go_wp2
    go_ret
    exact ⟨rfl, b1⟩
  obtain ⟨ok, hok⟩ : ∃ ok, ok = poolOk es := ⟨_, rfl⟩
  have hne : (ok != ok) = false := by simp
  have HS : Hid (∀ u w', RdO w' u es → Calls Try.prog 18 #[u] w' fun e w'' => e = .returned (.bool ok) ∧ Below w'.heap.size w' w'') := fun u w' h => by rw [hok]; exact specPoolOk_any u es w' h hh
  have HI : Hid (∀ u w', RdO w' u es → Calls Try.prog 17 #[u] w' fun e w'' => e = .returned (.bool ok) ∧ Below w'.heap.size w' w'') := fun u w' h => by rw [hok]; exact implPoolOk_any u es w' h hh
  clear hok hh
  go_wp2_with fail
  refine (toOffs_any _ es _ (hr.below b1) (by omega)).mono ?_
  rintro e w2 ⟨u2, rfl, ho2, hb2⟩
  have b2 := b1.trans (hb2.mono b1.size)
  clear hb2 b1
  go_wp2_with fail
  refine (HS.out _ _ ho2.rd).mono ?_
  rintro e w3 ⟨rfl, hb3⟩
  have b3 := b2.trans (hb3.mono b2.size)
  clear hb3 b2 ho2
  go_wp2_with fail
  refine (toOffs_any _ es _ (hr.below b3) (by omega)).mono ?_
  rintro e w4 ⟨u4, rfl, ho4, hb4⟩
  have b4 := b3.trans (hb4.mono b3.size)
  clear hb4 b3
  go_wp2_with fail
  refine (HI.out _ _ ho4.rd).mono ?_
  rintro e w5 ⟨rfl, hb5⟩
  have b5 := b4.trans (hb5.mono b4.size)
  have ho5 := ho4.below hb5
  clear hb5 b4 ho4
  go_wp2_with fail
  refine (toOffs_any _ es _ (hr.below b5) (by omega)).mono ?_
  rintro e w6 ⟨u6, rfl, ho6, hb6⟩
  have b6 := b5.trans (hb6.mono b5.size)
  have ho7 := ho5.below hb6
  clear hb6 b5 ho5
  go_wp2_with fail
  refine (eqOffs_same _ _ es _ ho7.rd ho6.rd).mono ?_
  rintro e w7 ⟨rfl, hb7⟩
  have b7 := b6.trans (hb7.mono b6.size)
  clear hb7 b6 ho6 ho7
  go_wp2
  go_ret
  exact ⟨rfl, b7⟩
theorem own_fnExactPoolOk : ownKnob Try.prog.godebug = none := by kernel_rfl
theorem laidOut_fnExactPoolOk : laidOutB Try.prog = true := by kernel_rfl
set_option maxRecDepth 100000 in
theorem lifted_fnExactPoolOk (os : Os) (started : os.Started) (H : Type) (enc : TypeId × Value → H) :
    ReturnsInHanded {} Try.checked os 4 .any (Rows.fnExactPoolOkSpec.pre6 enc Try.prog Try.f4 Rows.fnExactPoolOkRow.domain false) (Rows.fnExactPoolOkSpec.post enc Try.prog Try.f4 false true false false) := by
  refine returnsInHanded_of_change (C := Try.checked) own_fnExactPoolOk started (by kernel_rfl) Try.func4
    (ChangeSpec.witness6 (enc := enc) (C := Try.checked) false ⟨#[], #[.slice none 0 0], []⟩ 8 (by kernel_rfl) (by kernel_rfl) (by kernel_rfl) (by kernel_rfl)) ?_
  intro W base args ds gs before hval0 hW hcnd _
  have hval : ∀ (j : Nat) t v, Try.f4.params[j]? = some t → args[j]? = some v → Value.okWide Try.prog W .any base t v := hval0
  have hW' := hW
  obtain ⟨p, q, hA0, hV, rfl, hfz, hnd⟩ := hW
  have hA : DataW.TrodAll enc Try.prog W 0 (fun _ => true) true Try.f4.params.toList args.toList ds p := hA0
  rw [Try.params4] at hA hval
  obtain ⟨v0, vs0, d0, ds0, p0, q0, hargs, rfl, rfl, h0, r0⟩ := trodAll_cons hA
  obtain ⟨rfl, rfl, rfl⟩ := trodAll_nil r0
  obtain rfl : args = #[v0] := by cases args; simp_all
  obtain ⟨rfl, rfl⟩ := trodVars_none hV
  obtain ⟨a0, len0, cap0, rfl⟩ := okWide_slice Try.underlying41 (hval 0 41 v0 rfl rfl)
  have k0 := h0
  have lt0 : ∀ x ∈ p0, x.block < W.heap.size := by obtain ⟨m, hm⟩ := k0; exact DataW.trod_lt m _ _ _ hm
  obtain ⟨es0, hr0, hh0⟩ := open_offs k0 ⟨a0, len0, cap0, rfl⟩
  clear hA0 hval0
  refine (lawPoolOk _ es0 W hr0 hh0).mono fun e W' ⟨he, bel⟩ => ?_
  subst he
  exact ⟨_, rfl, _, _, _, [], _, [], hW', trodAll_mk1 (shut_bool Try.underlying4 _), (trodAll_cons_mk (Below.trod laidOut_fnExactPoolOk (by kernel_rfl) (of_decide_eq_true (by kernel_rfl)) k0 bel lt0) trodAll_mk0), rfl, bel.frame _, fun h => by cases h⟩
theorem over_fnExactPoolOk : Rows.fnExactPoolOkRow.holds Try.pinned (OpenSpec.ofChange Rows.fnExactPoolOkSpec) :=
  OpenClaim.holds_of_wide 4 Try.f4 rfl rfl rfl rfl rfl rfl rfl ⟨rfl, rfl, rfl, rfl, rfl⟩ rfl rfl rfl rfl rfl (by kernel_rfl) Try.func4 (by kernel_rfl)
    (of_decide_eq_true (by kernel_rfl)) (by unfold Func.isWrapper; first | (rw [if_pos (by decide +kernel)]; kernel_rfl) | (rw [if_neg (by decide +kernel)]; exact ⟨rfl, rfl⟩))
    (fun os started H enc _ => lifted_fnExactPoolOk os started H enc)
theorem fnExactPoolOk_holds : Rows.FnExactPoolOkSaid := over_fnExactPoolOk
#print axioms fnExactPoolOk_holds

end Go.Proofs.Yteohiicaiilicaa
