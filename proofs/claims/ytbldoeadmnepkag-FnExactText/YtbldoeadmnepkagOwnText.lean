/- Whatever text it is called with, laws.FnExactText returns true and its argument reads as before: both Texts make the same bytes, in memory of their own. No condition. -/
import Derived.Test.YtbldoeadmnepkagRows
import Derived.Test.YtbldoeadmnepkagText
import Derived.Test.YtbldoeadmnepkagHelp
import Derived.ProofKit
import Derived.OpenShut
import Derived.ShutString
import Derived.ChangeOld
namespace Go.Proofs.Ytbldoeadmnepkag
open Go.ChangeShapes Go.WideShapes Go.ChangeAt Go.RowKit
open Go.ChangeMaps (open_string shut_string)

set_option maxHeartbeats 1000000 in
set_option maxRecDepth 100000 in
theorem lawText (a0 : ByteArray) (w0 : a0.size ≤ maxLen) (w : World) :
    Calls Try.prog 5 #[.string a0] w fun e w' => e = .returned (.bool true) ∧ Below w.heap.size w w' := by
  unfold maxLen at w0
  by_cases hbig : 1048576 < a0.size
  · go_enter Try.func5, Try.ntmps5
    go_wp2
    go_ret
    exact ⟨rfl, Below.refl _ _⟩
  have hL := textOf_len a0
  generalize hbs : textOf a0 = bs at hL
  have Hbs : Hid (textOf a0 = bs) := hbs
  clear hbs
  go_enter Try.func5, Try.ntmps5
  go_wp2_with fail
  refine (specText_any _ _ (by omega)).mono ?_
  rw [Hbs.out]
  rintro e w1 ⟨v1, rfl, ho1, hb1⟩
  go_wp2_with fail
  refine (implText_any _ _ (by omega)).mono ?_
  rw [Hbs.out]
  rintro e w2 ⟨v2, rfl, ho2, hb2⟩
  have ho12 := ho1.below hb2
  go_wp2_with fail
  refine (eqBytes_same _ _ bs _ ho2.rd ho12.rd).mono ?_
  rintro e w3 ⟨rfl, q3, rfl⟩
  have ho3 := ho2.drewN q3
  have hlt1 := own_lt ho1
  go_wp2_with fail
  refine (mark_one v2 bs _ _ (by omega) ho3).mono ?_
  rintro e w4 ⟨rfl, ho4, hg4⟩
  have ho14 := own_other (ho12.drewN q3) hlt1 ho3 hg4
  have hb4 := below_marked (below_drewN (hb1.trans (hb2.mono hb1.size)) q3) ho3 hb1.size hg4 (Nat.le_trans hb1.size hb2.size)
  clear ho1 ho2 ho12 ho3 hg4 hb1 hb2 hlt1
  have hq1 : ¬ 1 + (bs.length : Int) < 0 := by omega
  have hq2 : (1 + (bs.length : Int) != 1 + (bs.length : Int)) = false := by simp
  go_wp2_with fail
  refine (held_one v2 bs.length _ (by omega) ho4.rd).mono ?_
  rintro e w5 ⟨rfl, rfl⟩
  go_wp2_with fail
  refine (implText_any _ _ (by omega)).mono ?_
  rw [Hbs.out]
  rintro e w6 ⟨v6, rfl, ho6, hb6⟩
  have ho16 := ho14.below hb6
  have ho46 := ho4.below hb6
  have hb06 := hb4.trans (hb6.mono hb4.size)
  clear ho14 ho4 hb4 hb6
  go_wp2_with fail
  refine (eqBytes_same _ _ bs _ ho6.rd ho16.rd).mono ?_
  rintro e w7 ⟨rfl, q7, rfl⟩
  go_wp2_with fail
  refine (held_one v2 bs.length _ (by omega) (ho46.rd.drewN q7)).mono ?_
  rintro e w8 ⟨rfl, rfl⟩
  go_wp2
  go_ret
  exact ⟨rfl, below_drewN hb06 q7⟩

theorem own_fnExactText : ownKnob Try.prog.godebug = none := by kernel_rfl
set_option maxRecDepth 100000 in
theorem lifted_fnExactText (os : Os) (started : os.Started) (H : Type) (enc : TypeId × Value → H) :
    ReturnsInHanded {} Try.checked os 5 .any (Rows.fnExactTextSpec.pre6 enc Try.prog Try.f5 Rows.fnExactTextRow.domain false) (Rows.fnExactTextSpec.post enc Try.prog Try.f5 false true false false) := by
  refine returnsInHanded_of_change (C := Try.checked) own_fnExactText started (by kernel_rfl) Try.func5
    (ChangeSpec.witness6 (enc := enc) (C := Try.checked) false ⟨#[], #[.string ByteArray.empty], []⟩ 8 (by kernel_rfl) (by kernel_rfl) (by kernel_rfl) (by kernel_rfl)) ?_
  intro W base args ds gs before hval0 hW hcnd _
  have hval : ∀ (j : Nat) t v, Try.f5.params[j]? = some t → args[j]? = some v → Value.okWide Try.prog W .any base t v := hval0
  have hW' := hW
  obtain ⟨p, q, hA0, hV, rfl, hfz, hnd⟩ := hW
  have hA : DataW.TrodAll enc Try.prog W 0 (fun _ => true) true Try.f5.params.toList args.toList ds p := hA0
  rw [Try.params5] at hA hval
  obtain ⟨v0, vs0, d0, ds0, p0, q0, hargs, rfl, rfl, h0, r0⟩ := trodAll_cons hA
  obtain ⟨rfl, rfl, rfl⟩ := trodAll_nil r0
  obtain rfl : args = #[v0] := by cases args; simp_all
  obtain ⟨rfl, rfl⟩ := trodVars_none hV
  obtain ⟨a0, rfl, rfl, rfl, w0⟩ := open_string Try.underlying9 (hval 0 9 v0 rfl rfl) h0
  clear hA0 hval0
  refine (lawText a0 w0 W).mono fun e W' ⟨he, bel⟩ => ?_
  subst he
  exact ⟨_, rfl, _, _, _, [], _, [], hW', trodAll_mk1 (shut_bool Try.underlying4 _), (trodAll_cons_mk (shut_string Try.underlying9 w0) trodAll_mk0), rfl, bel.frame _, fun h => by cases h⟩
theorem over_fnExactText : Rows.fnExactTextRow.holds Try.pinned (OpenSpec.ofChange Rows.fnExactTextSpec) :=
  OpenClaim.holds_of_wide 5 Try.f5 rfl rfl rfl rfl rfl rfl rfl ⟨rfl, rfl, rfl, rfl, rfl⟩ rfl rfl rfl rfl rfl (by kernel_rfl) Try.func5 (by kernel_rfl)
    (of_decide_eq_true (by kernel_rfl)) (by unfold Func.isWrapper; first | (rw [if_pos (by decide +kernel)]; kernel_rfl) | (rw [if_neg (by decide +kernel)]; exact ⟨rfl, rfl⟩))
    (fun os started H enc _ => lifted_fnExactText os started H enc)
theorem fnExactText_holds : Rows.FnExactTextSaid := over_fnExactText
#print axioms fnExactText_holds

end Go.Proofs.Ytbldoeadmnepkag
