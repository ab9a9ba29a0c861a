/- Whatever text it is called with, laws.FnExactReadBatch returns true and its argument reads as before: both ReadBatches read the same writes, in memory of their own. No condition. -/
import Derived.Test.YthkckgjcecommaaRows
import Derived.Test.YthkckgjcecommaaBatRd
import Derived.Test.YthkckgjcecommaaWriHeld
import Derived.ProofKit
import Derived.OpenShut
import Derived.ShutString
import Derived.ChangeOld
namespace Go.Proofs.Ythkckgjcecommaa
open Go.ChangeShapes Go.WideShapes Go.ChangeAt Go.RowKit
open Go.ChangeMaps (open_string shut_string)
set_option maxHeartbeats 4000000 in
set_option maxRecDepth 100000 in
theorem lawReadBatch (s : ByteArray) (w0 : s.size ≤ maxLen) (w : World) :
    Calls Try.prog 4 #[.string s] w fun e w' => e = .returned (.bool true) ∧ Below w.heap.size w w' := by
  unfold maxLen at w0
  by_cases hbig : 1048576 < s.size
  · go_enter Try.func4, Try.ntmps4
    go_wp2
    go_ret
    exact ⟨rfl, Below.refl _ _⟩
  have hle : s.size ≤ 1048576 := by omega
  obtain ⟨⟨ys, ok⟩, hF⟩ := rb_ex s
  have hyl : ys.length ≤ 20 := (rb_small hF).1
  have HS : Hid (∀ W, Calls Try.prog 10 #[.string s] W fun e w' => BatPost W (ys, ok) e w') := fun W => specReadBatch_any s _ W hle hF
  have HI : Hid (∀ W, Calls Try.prog 11 #[.string s] W fun e w' => BatPost W (ys, ok) e w') := fun W => implReadBatch_any s _ W hle hF
  have hok : (ok != ok) = false := by cases ok <;> rfl
  have hq1 : ¬ 1 + 3 * (ys.length : Int) < 0 := by omega
  have hq2 : (1 + 3 * (ys.length : Int) != 1 + 3 * (ys.length : Int)) = false := by simp
  clear w0 hF hle
  go_enter Try.func4, Try.ntmps4
  go_wp2_with fail
  refine (HS.out _).mono ?_
  rintro e w1 ⟨vw, rfl, hw1, b1⟩
  go_wp2_with fail
  refine (HI.out _).mono ?_
  rintro e w2 ⟨vg, rfl, hg2, hb2⟩
  have b2 := b1.trans (hb2.mono b1.size)
  have hw2 := hw1.below hb2
  have lw : ∀ k, vw.ownBlock = some k → k < w1.heap.size := fun k hk => (World.ownsRow.lt hw1 k hk).2
  have lg : ∀ k, vg.ownBlock = some k → w1.heap.size ≤ k := fun k hk => (World.ownsRow.lt hg2 k hk).1
  have s1 := b1.size
  simp only at hw2 hg2
  clear hw1 b1 hb2
  go_wp2_with fail
  refine (eqWris_same _ _ ys _ hg2.rd hw2.rd).mono ?_
  rintro e w3 ⟨rfl, hb3⟩
  have b3 := b2.trans (hb3.mono b2.size)
  have hw3 := hw2.below hb3
  have hg3 := hg2.below hb3
  clear hw2 hg2 hb3 b2
  go_wp2_with fail
  refine (wmark_one vg ys _ _ (by omega) hg3).mono ?_
  rintro e w4 ⟨rfl, hg4, hm4⟩
  have hw4 : OwnW w4 _ vw ys := row_kept hw3 hm4 (fun k hk e => by have := lw k hk; have := lg k e; omega)
  have b4 : Below w.heap.size w w4 := b3.grown hm4 b3.size (fun k hk => by have := lg k hk; omega)
  clear hw3 hg3 hm4 b3
  go_wp2_with fail
  refine (wheld_one vg ys.length _ (by omega) hg4.rd).mono ?_
  rintro e w5 ⟨rfl, hb5⟩
  have b5 := b4.trans (hb5.mono b4.size)
  have hw5 := hw4.below hb5
  have hg5 := hg4.below hb5
  clear hw4 hg4 hb5 b4
  go_wp2_with fail
  refine (HI.out _).mono ?_
  rintro e w6 ⟨vh, rfl, hh6, hb6⟩
  have b6 := b5.trans (hb6.mono b5.size)
  have hw6 := hw5.below hb6
  have hg6 := hg5.below hb6
  simp only at hh6
  clear hw5 hg5 hb6 b5
  go_wp2_with fail
  refine (eqWris_same _ _ ys _ hh6.rd hw6.rd).mono ?_
  rintro e w7 ⟨rfl, hb7⟩
  have b7 := b6.trans (hb7.mono b6.size)
  have hg7 := hg6.below hb7
  clear hw6 hg6 hh6 hb7 b6
  go_wp2_with fail
  refine (wheld_one vg ys.length _ (by omega) hg7.rd).mono ?_
  rintro e w8 ⟨rfl, hb8⟩
  have b8 := b7.trans (hb8.mono b7.size)
  clear hg7 hb8 b7
  go_wp2
  go_ret
  exact ⟨rfl, b8⟩
theorem own_fnExactReadBatch : ownKnob Try.prog.godebug = none := by kernel_rfl
set_option maxRecDepth 100000 in
theorem lifted_fnExactReadBatch (os : Os) (started : os.Started) (H : Type) (enc : TypeId × Value → H) :
    ReturnsInHanded {} Try.checked os 4 .any (Rows.fnExactReadBatchSpec.pre6 enc Try.prog Try.f4 Rows.fnExactReadBatchRow.domain false) (Rows.fnExactReadBatchSpec.post enc Try.prog Try.f4 false true false false) := by
  refine returnsInHanded_of_change (C := Try.checked) own_fnExactReadBatch started (by kernel_rfl) Try.func4
    (ChangeSpec.witness6 (enc := enc) (C := Try.checked) false ⟨#[], #[.string ByteArray.empty], []⟩ 8 (by kernel_rfl) (by kernel_rfl) (by kernel_rfl) (by kernel_rfl)) ?_
  intro W base args ds gs before hval0 hW hcnd _
  have hval : ∀ (j : Nat) t v, Try.f4.params[j]? = some t → args[j]? = some v → Value.okWide Try.prog W .any base t v := hval0
  have hW' := hW
  obtain ⟨p, q, hA0, hV, rfl, hfz, hnd⟩ := hW
  have hA : DataW.TrodAll enc Try.prog W 0 (fun _ => true) true Try.f4.params.toList args.toList ds p := hA0
  rw [Try.params4] at hA hval
  obtain ⟨v0, vs0, d0, ds0, p0, q0, hargs, rfl, rfl, h0, r0⟩ := trodAll_cons hA
  obtain ⟨rfl, rfl, rfl⟩ := trodAll_nil r0
  obtain rfl : args = #[v0] := by cases args; simp_all
  obtain ⟨rfl, rfl⟩ := trodVars_none hV
  obtain ⟨a0, rfl, rfl, rfl, w0⟩ := open_string Try.underlying9 (hval 0 9 v0 rfl rfl) h0
  clear hA0 hval0
  refine (lawReadBatch a0 w0 W).mono fun e W' ⟨he, bel⟩ => ?_
  subst he
  exact ⟨_, rfl, _, _, _, [], _, [], hW', trodAll_mk1 (shut_bool Try.underlying4 _), (trodAll_cons_mk (shut_string Try.underlying9 w0) trodAll_mk0), rfl, bel.frame _, fun h => by cases h⟩
theorem over_fnExactReadBatch : Rows.fnExactReadBatchRow.holds Try.pinned (OpenSpec.ofChange Rows.fnExactReadBatchSpec) :=
  OpenClaim.holds_of_wide 4 Try.f4 rfl rfl rfl rfl rfl rfl rfl ⟨rfl, rfl, rfl, rfl, rfl⟩ rfl rfl rfl rfl rfl (by kernel_rfl) Try.func4 (by kernel_rfl)
    (of_decide_eq_true (by kernel_rfl)) (by unfold Func.isWrapper; first | (rw [if_pos (by decide +kernel)]; kernel_rfl) | (rw [if_neg (by decide +kernel)]; exact ⟨rfl, rfl⟩))
    (fun os started H enc _ => lifted_fnExactReadBatch os started H enc)
theorem fnExactReadBatch_holds : Rows.FnExactReadBatchSaid := over_fnExactReadBatch
#print axioms fnExactReadBatch_holds

end Go.Proofs.Ythkckgjcecommaa
