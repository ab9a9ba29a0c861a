/- Whatever entries it is called with, laws.FnExactEntriesOk returns true and its argument reads as before: both EntriesOk tell the same. No condition. -/
import Derived.Test.YtmcdfbaifidnaaaRows
import Derived.Test.YtmcdfbaifidnaaaEntCp
import Derived.Test.YtmcdfbaifidnaaaEntOpen
import Derived.Test.YtmcdfbaifidnaaaEntImplOk
import Derived.ProofKit
import Derived.OpenShut
import Derived.ShutString
import Derived.ChangeOld
namespace Go.Proofs.Ytmcdfbaifidnaaa
open Go.ChangeShapes Go.WideShapes Go.ChangeAt Go.RowKit
theorem heldSz {es : List Ent} (h : ∀ e ∈ es, Held e) : ∀ x ∈ es, x.key.size ≤ maxLen ∧ x.val.size ≤ maxLen := fun x hx => ⟨(h x hx).1, (h x hx).2.1⟩
theorem heldFits {es : List Ent} (h : ∀ e ∈ es, Held e) (h2 : ∀ x ∈ es, x.key.size ≤ 1048576 ∧ x.val.size ≤ 1048576) : ∀ e ∈ es, Fits e := fun e he =>
  ⟨by have := (h2 e he).1; omega, by have := (h2 e he).2; omega, (h e he).2.2.1, (h e he).2.2.2⟩
set_option maxHeartbeats 2000000 in
set_option maxRecDepth 100000 in
theorem lawEntriesOk (v : Value) (es : List Ent) (w : World) (hr : RdE w v es) (hh : ∀ e ∈ es, Held e) :
    Calls Try.prog 5 #[v] w fun e w' => e = .returned (.bool true) ∧ Below w.heap.size w w' := by
  go_enter Try.func5, Try.ntmps5
  go_wp2_with fail
  refine (szEnts_any _ es _ hr (heldSz hh)).mono ?_
  rintro e w1 ⟨hb1, z, rfl, hz⟩
  rcases hz with hz | ⟨hz0, hz1, hl, hsz⟩
  · subst hz
    go_wp2
    go_ret
    exact ⟨rfl, hb1⟩
  have HF : Hid (∀ e ∈ es, Fits e) := heldFits hh hsz
  obtain ⟨ok, hok⟩ : ∃ ok, ok = okL es := ⟨_, rfl⟩
  have hne : (ok != ok) = false := by simp
  have HS : Hid (∀ u w', RdE w' u es → Calls Try.prog 17 #[u] w' fun e w'' => e = .returned (.bool ok) ∧ Below w'.heap.size w' w'') := fun u w' h => by rw [hok]; exact specEntriesOk_any u es w' h HF.out
  have HI : Hid (∀ u w', RdE w' u es → Calls Try.prog 16 #[u] w' fun e w'' => e = .returned (.bool ok) ∧ Below w'.heap.size w' w'') := fun u w' h => by rw [hok]; exact implEntriesOk_any u es w' h HF.out
  clear hok hsz hh
  go_wp2_with fail
  refine (toEnts_any _ es _ (hr.below hb1) (by omega)).mono ?_
  rintro e w2 ⟨u2, rfl, ho2, hb2⟩
  have b2 := hb1.trans (hb2.mono hb1.size)
  clear hb1 hb2
  go_wp2_with fail
  refine (HS.out _ _ ho2.rd).mono ?_
  rintro e w3 ⟨rfl, hb3⟩
  have b3 := b2.trans (hb3.mono b2.size)
  clear hb3 b2 ho2
  go_wp2_with fail
  refine (toEnts_any _ es _ (hr.below b3) (by omega)).mono ?_
  rintro e w4 ⟨u4, rfl, ho4, hb4⟩
  have b4 := b3.trans (hb4.mono b3.size)
  clear hb4 b3
  go_wp2_with fail
  refine (HI.out _ _ ho4.rd).mono ?_
  rintro e w5 ⟨rfl, hb5⟩
  have b5 := b4.trans (hb5.mono b4.size)
  have ho5 := ho4.below hb5
  clear hb5 b4 ho4
  go_wp2_with fail
  refine (toEnts_any _ es _ (hr.below b5) (by omega)).mono ?_
  rintro e w6 ⟨u6, rfl, ho6, hb6⟩
  have b6 := b5.trans (hb6.mono b5.size)
  have ho7 := ho5.below hb6
  clear hb6 b5 ho5
  go_wp2_with fail
  refine (eqEnts_same _ _ es _ ho7.rd ho6.rd).mono ?_
  rintro e w7 ⟨rfl, hb7⟩
  have b7 := b6.trans (hb7.mono b6.size)
  clear hb7 b6 ho6 ho7
  go_wp2
  go_ret
  exact ⟨rfl, b7⟩
theorem own_fnExactEntriesOk : ownKnob Try.prog.godebug = none := by kernel_rfl
theorem laidOut_fnExactEntriesOk : laidOutB Try.prog = true := by kernel_rfl
set_option maxRecDepth 100000 in
theorem lifted_fnExactEntriesOk (os : Os) (started : os.Started) (H : Type) (enc : TypeId × Value → H) :
    ReturnsInHanded {} Try.checked os 5 .any (Rows.fnExactEntriesOkSpec.pre6 enc Try.prog Try.f5 Rows.fnExactEntriesOkRow.domain false) (Rows.fnExactEntriesOkSpec.post enc Try.prog Try.f5 false true false false) := by
  refine returnsInHanded_of_change (C := Try.checked) own_fnExactEntriesOk started (by kernel_rfl) Try.func5
    (ChangeSpec.witness6 (enc := enc) (C := Try.checked) false ⟨#[], #[.slice none 0 0], []⟩ 8 (by kernel_rfl) (by kernel_rfl) (by kernel_rfl) (by kernel_rfl)) ?_
  intro W base args ds gs before hval0 hW hcnd _
  have hval : ∀ (j : Nat) t v, Try.f5.params[j]? = some t → args[j]? = some v → Value.okWide Try.prog W .any base t v := hval0
  have hW' := hW
  obtain ⟨p, q, hA0, hV, rfl, hfz, hnd⟩ := hW
  have hA : DataW.TrodAll enc Try.prog W 0 (fun _ => true) true Try.f5.params.toList args.toList ds p := hA0
  rw [Try.params5] at hA hval
  obtain ⟨v0, vs0, d0, ds0, p0, q0, hargs, rfl, rfl, h0, r0⟩ := trodAll_cons hA
  obtain ⟨rfl, rfl, rfl⟩ := trodAll_nil r0
  obtain rfl : args = #[v0] := by cases args; simp_all
  obtain ⟨rfl, rfl⟩ := trodVars_none hV
  obtain ⟨a0, len0, cap0, rfl⟩ := okWide_slice Try.underlying40 (hval 0 40 v0 rfl rfl)
  have k0 := h0
  have lt0 : ∀ x ∈ p0, x.block < W.heap.size := by obtain ⟨m, hm⟩ := k0; exact DataW.trod_lt m _ _ _ hm
  obtain ⟨es0, hr0, hh0⟩ := open_ents k0 ⟨a0, len0, cap0, rfl⟩
  clear hA0 hval0
  refine (lawEntriesOk _ es0 W hr0 hh0).mono fun e W' ⟨he, bel⟩ => ?_
  subst he
  exact ⟨_, rfl, _, _, _, [], _, [], hW', trodAll_mk1 (shut_bool Try.underlying4 _), (trodAll_cons_mk (Below.trod laidOut_fnExactEntriesOk (by kernel_rfl) (of_decide_eq_true (by kernel_rfl)) k0 bel lt0) trodAll_mk0), rfl, bel.frame _, fun h => by cases h⟩
theorem over_fnExactEntriesOk : Rows.fnExactEntriesOkRow.holds Try.pinned (OpenSpec.ofChange Rows.fnExactEntriesOkSpec) :=
  OpenClaim.holds_of_wide 5 Try.f5 rfl rfl rfl rfl rfl rfl rfl ⟨rfl, rfl, rfl, rfl, rfl⟩ rfl rfl rfl rfl rfl (by kernel_rfl) Try.func5 (by kernel_rfl)
    (of_decide_eq_true (by kernel_rfl)) (by unfold Func.isWrapper; first | (rw [if_pos (by decide +kernel)]; kernel_rfl) | (rw [if_neg (by decide +kernel)]; exact ⟨rfl, rfl⟩))
    (fun os started H enc _ => lifted_fnExactEntriesOk os started H enc)
theorem fnExactEntriesOk_holds : Rows.FnExactEntriesOkSaid := over_fnExactEntriesOk
#print axioms fnExactEntriesOk_holds

end Go.Proofs.Ytmcdfbaifidnaaa
