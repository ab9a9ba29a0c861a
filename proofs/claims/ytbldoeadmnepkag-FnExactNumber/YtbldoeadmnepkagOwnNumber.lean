/- Whatever number it is called with, laws.FnExactNumber returns true and its argument reads as before: both Numbers make the same bytes, in memory of their own. No condition. -/
import Derived.Test.YtbldoeadmnepkagRows
import Derived.Test.YtbldoeadmnepkagNum
import Derived.Test.YtbldoeadmnepkagHelp
import Derived.ProofKit
import Derived.OpenShut
import Derived.ShutString
import Derived.ChangeOld
namespace Go.Proofs.Ytbldoeadmnepkag
open Go.ChangeShapes Go.WideShapes Go.ChangeAt Go.RowKit

theorem num_len (n : Int) : (num n).length ≤ 9 := by
  unfold num
  split
  · exact enc_len9 _ (by omega)
  · simp

set_option maxHeartbeats 1000000 in
set_option maxRecDepth 100000 in
theorem lawNumber (a0 : Int) (w : World) :
    Calls Try.prog 3 #[.int .i64 a0] w fun e w' => e = .returned (.bool true) ∧ Below w.heap.size w w' := by
  have hL := num_len a0
  generalize hbs : num a0 = bs at hL
  have Hbs : Hid (num a0 = bs) := hbs
  clear hbs
  go_enter Try.func3, Try.ntmps3
  go_wp2_with fail
  refine (specNumber_any _ _).mono ?_
  rw [Hbs.out]
  rintro e w1 ⟨v1, rfl, ho1, hb1⟩
  go_wp2_with fail
  refine (implNumber_any _ _).mono ?_
  rw [Hbs.out]
  rintro e w2 ⟨v2, rfl, ho2, hb2⟩
  have ho12 := ho1.below hb2
  go_wp2_with fail
  refine (eqBytes_same _ _ bs _ ho2.rd ho12.rd).mono ?_
  rintro e w3 ⟨rfl, q3, rfl⟩
  have ho3 := ho2.drewN q3
  have hlt1 := own_lt ho1
  go_wp2_with fail
  refine (mark_one v2 bs _ _ (by omega) ho3).mono ?_
  rintro e w4 ⟨rfl, ho4, hg4⟩
  have ho14 := own_other (ho12.drewN q3) hlt1 ho3 hg4
  have hb4 := below_marked (below_drewN (hb1.trans (hb2.mono hb1.size)) q3) ho3 hb1.size hg4 (Nat.le_trans hb1.size hb2.size)
  clear ho1 ho2 ho12 ho3 hg4 hb1 hb2 hlt1
  have hq1 : ¬ 1 + (bs.length : Int) < 0 := by omega
  have hq2 : (1 + (bs.length : Int) != 1 + (bs.length : Int)) = false := by simp
  go_wp2_with fail
  refine (held_one v2 bs.length _ (by omega) ho4.rd).mono ?_
  rintro e w5 ⟨rfl, rfl⟩
  go_wp2_with fail
  refine (implNumber_any _ _).mono ?_
  rw [Hbs.out]
  rintro e w6 ⟨v6, rfl, ho6, hb6⟩
  have ho16 := ho14.below hb6
  have ho46 := ho4.below hb6
  have hb06 := hb4.trans (hb6.mono hb4.size)
  clear ho14 ho4 hb4 hb6
  go_wp2_with fail
  refine (eqBytes_same _ _ bs _ ho6.rd ho16.rd).mono ?_
  rintro e w7 ⟨rfl, q7, rfl⟩
  go_wp2_with fail
  refine (held_one v2 bs.length _ (by omega) (ho46.rd.drewN q7)).mono ?_
  rintro e w8 ⟨rfl, rfl⟩
  go_wp2
  go_ret
  exact ⟨rfl, below_drewN hb06 q7⟩

theorem own_fnExactNumber : ownKnob Try.prog.godebug = none := by kernel_rfl
set_option maxRecDepth 100000 in
theorem lifted_fnExactNumber (os : Os) (started : os.Started) (H : Type) (enc : TypeId × Value → H) :
    ReturnsInHanded {} Try.checked os 3 .any (Rows.fnExactNumberSpec.pre6 enc Try.prog Try.f3 Rows.fnExactNumberRow.domain false) (Rows.fnExactNumberSpec.post enc Try.prog Try.f3 false true false false) := by
  refine returnsInHanded_of_change (C := Try.checked) own_fnExactNumber started (by kernel_rfl) Try.func3
    (ChangeSpec.witness6 (enc := enc) (C := Try.checked) false ⟨#[], #[.int .i64 0], []⟩ 8 (by kernel_rfl) (by kernel_rfl) (by kernel_rfl) (by kernel_rfl)) ?_
  intro W base args ds gs before hval0 hW hcnd _
  have hval : ∀ (j : Nat) t v, Try.f3.params[j]? = some t → args[j]? = some v → Value.okWide Try.prog W .any base t v := hval0
  have hW' := hW
  obtain ⟨p, q, hA0, hV, rfl, hfz, hnd⟩ := hW
  have hA : DataW.TrodAll enc Try.prog W 0 (fun _ => true) true Try.f3.params.toList args.toList ds p := hA0
  rw [Try.params3] at hA hval
  obtain ⟨v0, vs0, d0, ds0, p0, q0, hargs, rfl, rfl, h0, r0⟩ := trodAll_cons hA
  obtain ⟨rfl, rfl, rfl⟩ := trodAll_nil r0
  obtain rfl : args = #[v0] := by cases args; simp_all
  obtain ⟨rfl, rfl⟩ := trodVars_none hV
  obtain ⟨a0, rfl, rfl, rfl, w0⟩ := open_int Try.underlying2 (hval 0 2 v0 rfl rfl) h0
  clear hA0 hval0
  refine (lawNumber a0 W).mono fun e W' ⟨he, bel⟩ => ?_
  subst he
  exact ⟨_, rfl, _, _, _, [], _, [], hW', trodAll_mk1 (shut_bool Try.underlying4 _), (trodAll_cons_mk (shut_int Try.underlying2 w0) trodAll_mk0), rfl, bel.frame _, fun h => by cases h⟩
theorem over_fnExactNumber : Rows.fnExactNumberRow.holds Try.pinned (OpenSpec.ofChange Rows.fnExactNumberSpec) :=
  OpenClaim.holds_of_wide 3 Try.f3 rfl rfl rfl rfl rfl rfl rfl ⟨rfl, rfl, rfl, rfl, rfl⟩ rfl rfl rfl rfl rfl (by kernel_rfl) Try.func3 (by kernel_rfl)
    (of_decide_eq_true (by kernel_rfl)) (by unfold Func.isWrapper; first | (rw [if_pos (by decide +kernel)]; kernel_rfl) | (rw [if_neg (by decide +kernel)]; exact ⟨rfl, rfl⟩))
    (fun os started H enc _ => lifted_fnExactNumber os started H enc)
theorem fnExactNumber_holds : Rows.FnExactNumberSaid := over_fnExactNumber
#print axioms fnExactNumber_holds

end Go.Proofs.Ytbldoeadmnepkag
