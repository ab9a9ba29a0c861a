/- Whatever list of writes it is called with, laws.FnExactBatch returns true and its argument reads as before: both Batches make the same text, and what they are handed stays. No condition. -/
import Derived.Test.YthkckgjcecommaaRows
import Derived.Test.YthkckgjcecommaaBat
import Derived.Test.YthkckgjcecommaaWriOpen
import Derived.ProofKit
import Derived.OpenShut
import Derived.ShutString
import Derived.ChangeOld
namespace Go.Proofs.Ythkckgjcecommaa
open Go.ChangeShapes Go.WideShapes Go.ChangeAt Go.RowKit
open Go.ChangeMaps (open_string shut_string)
set_option maxHeartbeats 4000000 in
set_option maxRecDepth 100000 in
theorem lawBatch (v : Value) (xs : List Wri) (w : World) (hr : RdW w v xs) (hh : ∀ x ∈ xs, x.key.size ≤ maxLen ∧ x.val.size ≤ maxLen) :
    Calls Try.prog 3 #[v] w fun e w' => e = .returned (.bool true) ∧ Below w.heap.size w w' := by
  have HZ : Hid (Calls _ _ _ _ _) := szWris_any v xs w hr hh
  obtain ⟨a, cap, hv, hl, hm, _⟩ := id hr
  unfold maxLen at hm
  subst hv
  clear hh
  go_enter Try.func3, Try.ntmps3
  go_wp2_with fail
  refine HZ.out.mono ?_
  rintro e w0 ⟨b0, z, rfl, hz⟩
  clear HZ
  rcases hz with hz | ⟨hz0, hz1, hlen, hsz⟩
  · subst hz
    go_wp2
    go_ret
    exact ⟨rfl, b0⟩
  have hfit : ∀ x ∈ xs, FitsW x := fun x hx => ⟨by have := (hsz x hx).1; omega, by have := (hsz x hx).2; omega⟩
  have HS : Hid (∀ u W, RdW W u xs → Calls Try.prog 6 #[u] W fun e w' => e = .returned (.string (batS xs)) ∧ Below W.heap.size W w') := fun u W h => specBatch_any u xs W h hfit
  have HI : Hid (∀ u W, RdW W u xs → Calls Try.prog 8 #[u] W fun e w' => e = .returned (.string (batS xs)) ∧ Below W.heap.size W w') := fun u W h => implBatch_any u xs W h hfit
  have HT : Hid (∀ W, RdW W (.slice a xs.length cap) xs → Calls Try.prog 7 #[.slice a xs.length cap] W fun e w' => ∃ u, e = .returned u ∧ OwnW w' W.heap.size u xs ∧ Below W.heap.size W w') := fun W h => toWris_any _ xs W h (by omega)
  generalize batS xs = R at HS HI
  have hne : (!R.toList == R.toList) = false := by simp
  clear hsz hfit
  go_wp2_with fail
  refine (HT.out _ (hr.below b0)).mono ?_
  rintro e w1 ⟨u1, rfl, ho1, hb1⟩
  have b1 := b0.trans (hb1.mono b0.size)
  clear hb1 b0
  go_wp2_with fail
  refine (HS.out _ _ ho1.rd).mono ?_
  rintro e w2 ⟨rfl, hb2⟩
  have b2 := b1.trans (hb2.mono b1.size)
  clear hb2 b1 ho1 HS
  go_wp2_with fail
  refine (HT.out _ (hr.below b2)).mono ?_
  rintro e w3 ⟨u3, rfl, ho3, hb3⟩
  have b3 := b2.trans (hb3.mono b2.size)
  clear hb3 b2
  go_wp2_with fail
  refine (HI.out _ _ ho3.rd).mono ?_
  rintro e w4 ⟨rfl, hb4⟩
  have b4 := b3.trans (hb4.mono b3.size)
  have ho4 := ho3.below hb4
  clear hb4 b3 ho3 HI
  go_wp2_with fail
  refine (HT.out _ (hr.below b4)).mono ?_
  rintro e w5 ⟨u5, rfl, ho5, hb5⟩
  have b5 := b4.trans (hb5.mono b4.size)
  have hx5 := ho4.below hb5
  clear hb5 b4 ho4 HT
  go_wp2_with fail
  refine (eqWris_same _ _ xs _ hx5.rd ho5.rd).mono ?_
  rintro e w6 ⟨rfl, hb6⟩
  have b6 := b5.trans (hb6.mono b5.size)
  clear hb6 b5 hx5 ho5
  go_wp2
  go_ret
  exact ⟨rfl, b6⟩
theorem own_fnExactBatch : ownKnob Try.prog.godebug = none := by kernel_rfl
theorem laidOut_fnExactBatch : laidOutB Try.prog = true := by kernel_rfl
set_option maxRecDepth 100000 in
theorem lifted_fnExactBatch (os : Os) (started : os.Started) (H : Type) (enc : TypeId × Value → H) :
    ReturnsInHanded {} Try.checked os 3 .any (Rows.fnExactBatchSpec.pre6 enc Try.prog Try.f3 Rows.fnExactBatchRow.domain false) (Rows.fnExactBatchSpec.post enc Try.prog Try.f3 false true false false) := by
  refine returnsInHanded_of_change (C := Try.checked) own_fnExactBatch started (by kernel_rfl) Try.func3
    (ChangeSpec.witness6 (enc := enc) (C := Try.checked) false ⟨#[], #[.slice none 0 0], []⟩ 8 (by kernel_rfl) (by kernel_rfl) (by kernel_rfl) (by kernel_rfl)) ?_
  intro W base args ds gs before hval0 hW hcnd _
  have hval : ∀ (j : Nat) t v, Try.f3.params[j]? = some t → args[j]? = some v → Value.okWide Try.prog W .any base t v := hval0
  have hW' := hW
  obtain ⟨p, q, hA0, hV, rfl, hfz, hnd⟩ := hW
  have hA : DataW.TrodAll enc Try.prog W 0 (fun _ => true) true Try.f3.params.toList args.toList ds p := hA0
  rw [Try.params3] at hA hval
  obtain ⟨v0, vs0, d0, ds0, p0, q0, hargs, rfl, rfl, h0, r0⟩ := trodAll_cons hA
  obtain ⟨rfl, rfl, rfl⟩ := trodAll_nil r0
  obtain rfl : args = #[v0] := by cases args; simp_all
  obtain ⟨rfl, rfl⟩ := trodVars_none hV
  obtain ⟨a0, len0, cap0, rfl⟩ := okWide_slice Try.underlying22 (hval 0 22 v0 rfl rfl)
  have k0 := h0
  have lt0 : ∀ x ∈ p0, x.block < W.heap.size := by obtain ⟨m, hm⟩ := k0; exact DataW.trod_lt m _ _ _ hm
  obtain ⟨es0, hr0, hh0⟩ := open_wris k0 ⟨a0, len0, cap0, rfl⟩
  clear hA0 hval0
  refine (lawBatch _ es0 W hr0 hh0).mono fun e W' ⟨he, bel⟩ => ?_
  subst he
  exact ⟨_, rfl, _, _, _, [], _, [], hW', trodAll_mk1 (shut_bool Try.underlying4 _), (trodAll_cons_mk (Below.trod laidOut_fnExactBatch (by kernel_rfl) (of_decide_eq_true (by kernel_rfl)) k0 bel lt0) trodAll_mk0), rfl, bel.frame _, fun h => by cases h⟩
theorem over_fnExactBatch : Rows.fnExactBatchRow.holds Try.pinned (OpenSpec.ofChange Rows.fnExactBatchSpec) :=
  OpenClaim.holds_of_wide 3 Try.f3 rfl rfl rfl rfl rfl rfl rfl ⟨rfl, rfl, rfl, rfl, rfl⟩ rfl rfl rfl rfl rfl (by kernel_rfl) Try.func3 (by kernel_rfl)
    (of_decide_eq_true (by kernel_rfl)) (by unfold Func.isWrapper; first | (rw [if_pos (by decide +kernel)]; kernel_rfl) | (rw [if_neg (by decide +kernel)]; exact ⟨rfl, rfl⟩))
    (fun os started H enc _ => lifted_fnExactBatch os started H enc)
theorem fnExactBatch_holds : Rows.FnExactBatchSaid := over_fnExactBatch
#print axioms fnExactBatch_holds

end Go.Proofs.Ythkckgjcecommaa
