/- laws.FnExactNewBank returns true: both NewBanks tell the same, and what the program's tells is memory of its own. No condition. -/
import Derived.Test.YtmgapmhjkamigaaRows
import Derived.Test.YtmgapmhjkamigaaBnkNew
import Derived.Test.YtmgapmhjkamigaaBnkLaw
import Derived.ProofKit
import Derived.OpenShut
import Derived.ShutString
import Derived.ChangeOld
namespace Go.Proofs.Ytmgapmhjkamigaa
open Go.ChangeShapes Go.WideShapes Go.ChangeAt Go.RowKit
set_option maxHeartbeats 4000000 in
set_option maxRecDepth 100000 in
theorem lawNewBank (w : World) : Calls Try.prog 4 #[] w fun e w' => e = .returned (.bool true) ∧ Below w.heap.size w w' := by
  have nl : 1 + (newM.length + newC.length) ≤ 4194304 := by decide
  have HS : Hid (∀ W, Calls Try.prog 11 #[] W fun e w' => ToBk W newM newC e w') := fun W => specNewBank_any W
  have HI : Hid (∀ W, Calls Try.prog 12 #[] W fun e w' => ToBk W newM newC e w') := fun W => implNewBank_any W
  generalize newM = ms at nl HS HI
  generalize newC = cs at nl HS HI
  go_enter Try.func4, Try.ntmps4
  go_wp2_with fail
  refine (HS.out _).mono ?_
  intro e w1 h1
  obtain ⟨za, zn, zc, zd, zm, ze, rfl, oZ, hb1⟩ := h1.open
  have LZ : Hid (∀ k ∈ bkB ⟨.slice za zn zc, .slice zd zm ze, ms, cs⟩, k < w1.heap.size) := fun k hk => (oZ.bound hk).2
  have Q : QB w (w1.alloc (.cells #[.slice za zn zc, .slice zd zm ze] 27)) none none [⟨w1.heap.size, w.heap.size, ⟨.slice za zn zc, .slice zd zm ze, ms, cs⟩⟩] := QB.put (Y := ⟨.slice za zn zc, .slice zd zm ze, ms, cs⟩) (QB.on ⟨hb1, (fun _ h => by cases h), (fun _ _ h => by cases h), (fun i h => by cases h), (fun i h => by cases h)⟩ (below1 _ _)) (boxBk_new _ _ _) (oZ.below (below1 _ _))
  clear h1 hb1 oZ
  go_wp2_with fail
  have s1 : w1.heap.size < (w1.alloc (.cells #[.slice za zn zc, .slice zd zm ze] 27)).heap.size := by simp
  generalize w1.alloc (.cells #[.slice za zn zc, .slice zd zm ze] 27) = W1 at Q s1 ⊢
  refine (HI.out _).mono ?_
  intro e w2 h2
  obtain ⟨ga, gn, gc, gd, gm, ge, rfl, oG, hb2⟩ := h2.open
  have LG : Hid (∀ k ∈ bkB ⟨.slice ga gn gc, .slice gd gm ge, ms, cs⟩, W1.heap.size ≤ k) := fun k hk => (oG.bound hk).1
  have lw2 := hb2.size
  have s0 := Q.bel.size
  replace Q := QB.put (Y := ⟨.slice ga gn gc, .slice gd gm ge, ms, cs⟩) ((Q.on hb2).on (below1 w2 (.cells #[.slice ga gn gc, .slice gd gm ge] 27))) (boxBk_new _ _ _) (oG.below (below1 _ _))
  obtain ⟨p0, p1, -, -⟩ := (Q.bx ⟨w2.heap.size, W1.heap.size, ⟨.slice ga gn gc, .slice gd gm ge, ms, cs⟩⟩ (by simp)).facts
  obtain ⟨q0, q1, -, -⟩ := (Q.bx ⟨w1.heap.size, w.heap.size, ⟨.slice za zn zc, .slice zd zm ze, ms, cs⟩⟩ (by simp)).facts
  simp only at p0 p1 q0 q1
  clear h2 hb2 oG
  go_wp2_with fail
  generalize w2.alloc (.cells #[.slice ga gn gc, .slice gd gm ge] 27) = W2 at Q p0 p1 q0 q1 ⊢
  refine (eqBank_same ⟨.slice ga gn gc, .slice gd gm ge, ms, cs⟩ ⟨.slice za zn zc, .slice zd zm ze, ms, cs⟩ _ (Q.ow ⟨w2.heap.size, W1.heap.size, ⟨.slice ga gn gc, .slice gd gm ge, ms, cs⟩⟩ (by simp)).rd (Q.ow ⟨w1.heap.size, w.heap.size, ⟨.slice za zn zc, .slice zd zm ze, ms, cs⟩⟩ (by simp)).rd rfl rfl).mono ?_
  rintro e w3 ⟨rfl, hb3⟩
  replace Q := Q.on hb3
  clear p0 p1 q0 q1 hb3
  obtain ⟨mm, hmm⟩ : ∃ mm, mm = 1 + cntBk ⟨.slice ga gn gc, .slice gd gm ge, ms, cs⟩ := ⟨_, rfl⟩
  have hm0 : ¬ ((mm : Int) < 0) := by omega
  have hm1 : ((mm : Int) != (mm : Int)) = false := by simp
  have HMG : Hid (∀ W lo, OwnBk W lo ⟨.slice ga gn gc, .slice gd gm ge, ms, cs⟩ → Calls Try.prog 13 #[.agg #[.slice ga gn gc, .slice gd gm ge], .int .i64 1] W fun e w' => e = .returned (.int .i64 (mm : Int)) ∧ OwnBk w' lo (mkBk 1 ⟨.slice ga gn gc, .slice gd gm ge, ms, cs⟩) ∧ Touch (bkB ⟨.slice ga gn gc, .slice gd gm ge, ms, cs⟩) W w') := fun W lo ho => by
    have := markBank_any ⟨.slice ga gn gc, .slice gd gm ge, ms, cs⟩ lo 1 W ho nl
    unfold MarkBk at this
    rw [← hmm] at this
    exact this
  have HHG : Hid (∀ W, RdBk W (mkBk 1 ⟨.slice ga gn gc, .slice gd gm ge, ms, cs⟩) → Calls Try.prog 14 #[.agg #[.slice ga gn gc, .slice gd gm ge], .int .i64 1] W fun e w' => e = .returned (.int .i64 (mm : Int)) ∧ Below W.heap.size W w') := fun W h => by
    have := heldBank_any ⟨.slice ga gn gc, .slice gd gm ge, ms, cs⟩ 1 W h nl
    rw [← hmm] at this
    exact this
  clear hmm
  obtain ⟨p0, p1, -, -⟩ := (Q.bx ⟨w2.heap.size, W1.heap.size, ⟨.slice ga gn gc, .slice gd gm ge, ms, cs⟩⟩ (by simp)).facts
  simp only at p0 p1
  go_wp2_with fail
  have bxG := Q.bx ⟨w2.heap.size, W1.heap.size, ⟨.slice ga gn gc, .slice gd gm ge, ms, cs⟩⟩ (by simp)
  have owG := Q.ow ⟨w2.heap.size, W1.heap.size, ⟨.slice ga gn gc, .slice gd gm ge, ms, cs⟩⟩ (by simp)
  refine (HMG.out _ _ owG).mono ?_
  rintro e w4 ⟨rfl, om, hto⟩
  have bxG4 : BoxBk w4 w2.heap.size (.slice ga gn gc) (.slice gd gm ge) := bxG.of_block (hto.block _ bxG.lt (bxG.out owG))
  have bZ := Q.bx ⟨w1.heap.size, w.heap.size, ⟨.slice za zn zc, .slice zd zm ze, ms, cs⟩⟩ (by simp)
  replace Q := Q.drop
  replace Q := Q.touch hto (fun k hk => by have := LG.out k hk; have := s0; omega) (fun _ h => by cases h) (fun _ _ h => by cases h) (fun i hi => by obtain rfl := List.mem_singleton.1 hi; exact bZ.out owG) (fun i hi k hk e => by obtain rfl := List.mem_singleton.1 hi; have := LZ.out k hk; have := LG.out k e; omega)
  replace Q := QB.put (Y := mkBk 1 ⟨.slice ga gn gc, .slice gd gm ge, ms, cs⟩) Q bxG4 om
  clear p0 p1 bxG owG om hto bxG4 bZ
  obtain ⟨p0, p1, -, -⟩ := (Q.bx ⟨w2.heap.size, W1.heap.size, mkBk 1 ⟨.slice ga gn gc, .slice gd gm ge, ms, cs⟩⟩ (by simp)).facts
  simp only [mkBk] at p0 p1
  go_wp2_with fail
  refine (HHG.out _ (Q.ow ⟨w2.heap.size, W1.heap.size, mkBk 1 ⟨.slice ga gn gc, .slice gd gm ge, ms, cs⟩⟩ (by simp)).rd).mono ?_
  rintro e w5 ⟨rfl, hb5⟩
  replace Q := Q.on hb5
  clear p0 p1 hb5
  go_wp2_with fail
  refine (HI.out _).mono ?_
  intro e w6 h6
  obtain ⟨ha, hn, hc, hd, hm, he, rfl, oH, hb6⟩ := h6.open
  replace Q := QB.put (Y := ⟨.slice ha hn hc, .slice hd hm he, ms, cs⟩) ((Q.on hb6).on (below1 w6 (.cells #[.slice ha hn hc, .slice hd hm he] 27))) (boxBk_new _ _ _) (oH.below (below1 _ _))
  obtain ⟨p0, p1, -, -⟩ := (Q.bx ⟨w6.heap.size, w5.heap.size, ⟨.slice ha hn hc, .slice hd hm he, ms, cs⟩⟩ (by simp)).facts
  obtain ⟨q0, q1, -, -⟩ := (Q.bx ⟨w1.heap.size, w.heap.size, ⟨.slice za zn zc, .slice zd zm ze, ms, cs⟩⟩ (by simp)).facts
  simp only at p0 p1 q0 q1
  clear h6 hb6 oH
  go_wp2_with fail
  generalize w6.alloc (.cells #[.slice ha hn hc, .slice hd hm he] 27) = W6 at Q p0 p1 q0 q1 ⊢
  refine (eqBank_same ⟨.slice ha hn hc, .slice hd hm he, ms, cs⟩ ⟨.slice za zn zc, .slice zd zm ze, ms, cs⟩ _ (Q.ow ⟨w6.heap.size, w5.heap.size, ⟨.slice ha hn hc, .slice hd hm he, ms, cs⟩⟩ (by simp)).rd (Q.ow ⟨w1.heap.size, w.heap.size, ⟨.slice za zn zc, .slice zd zm ze, ms, cs⟩⟩ (by simp)).rd rfl rfl).mono ?_
  rintro e w7 ⟨rfl, hb7⟩
  replace Q := Q.on hb7
  clear p0 p1 q0 q1 hb7
  obtain ⟨p0, p1, -, -⟩ := (Q.bx ⟨w2.heap.size, W1.heap.size, mkBk 1 ⟨.slice ga gn gc, .slice gd gm ge, ms, cs⟩⟩ (by simp)).facts
  simp only [mkBk] at p0 p1
  go_wp2_with fail
  refine (HHG.out _ (Q.ow ⟨w2.heap.size, W1.heap.size, mkBk 1 ⟨.slice ga gn gc, .slice gd gm ge, ms, cs⟩⟩ (by simp)).rd).mono ?_
  rintro e w8 ⟨rfl, hb8⟩
  replace Q := Q.on hb8
  clear p0 p1 hb8
  go_wp2
  go_ret
  exact ⟨rfl, Q.bel⟩
theorem own_fnExactNewBank : ownKnob Try.prog.godebug = none := by kernel_rfl
set_option maxRecDepth 100000 in
theorem lifted_fnExactNewBank (os : Os) (started : os.Started) (H : Type) (enc : TypeId × Value → H) :
    ReturnsInHanded {} Try.checked os 4 .any (Rows.fnExactNewBankSpec.pre6 enc Try.prog Try.f4 Rows.fnExactNewBankRow.domain false) (Rows.fnExactNewBankSpec.post enc Try.prog Try.f4 false true false false) := by
  refine returnsInHanded_of_change (C := Try.checked) own_fnExactNewBank started (by kernel_rfl) Try.func4
    (ChangeSpec.witness6 (enc := enc) (C := Try.checked) false ⟨#[], #[], []⟩ 8 (by kernel_rfl) (by kernel_rfl) (by kernel_rfl) (by kernel_rfl)) ?_
  intro W base args ds gs before hval0 hW hcnd _
  have hval : ∀ (j : Nat) t v, Try.f4.params[j]? = some t → args[j]? = some v → Value.okWide Try.prog W .any base t v := hval0
  have hW' := hW
  obtain ⟨p, q, hA0, hV, rfl, hfz, hnd⟩ := hW
  have hA : DataW.TrodAll enc Try.prog W 0 (fun _ => true) true Try.f4.params.toList args.toList ds p := hA0
  rw [Try.params4] at hA hval
  obtain ⟨hargs, rfl, rfl⟩ := trodAll_nil hA
  obtain rfl : args = #[] := by cases args; simp_all
  obtain ⟨rfl, rfl⟩ := trodVars_none hV
  clear hA0 hval0
  refine (lawNewBank W).mono fun e W' ⟨he, bel⟩ => ?_
  subst he
  exact ⟨_, rfl, _, _, _, [], _, [], hW', trodAll_mk1 (shut_bool Try.underlying4 _), trodAll_mk0, rfl, bel.frame _, fun h => by cases h⟩
theorem over_fnExactNewBank : Rows.fnExactNewBankRow.holds Try.pinned (OpenSpec.ofChange Rows.fnExactNewBankSpec) :=
  OpenClaim.holds_of_wide 4 Try.f4 rfl rfl rfl rfl rfl rfl rfl ⟨rfl, rfl, rfl, rfl, rfl⟩ rfl rfl rfl rfl rfl (by kernel_rfl) Try.func4 (by kernel_rfl)
    (of_decide_eq_true (by kernel_rfl)) (by unfold Func.isWrapper; first | (rw [if_pos (by decide +kernel)]; kernel_rfl) | (rw [if_neg (by decide +kernel)]; exact ⟨rfl, rfl⟩))
    (fun os started H enc _ => lifted_fnExactNewBank os started H enc)
theorem fnExactNewBank_holds : Rows.FnExactNewBankSaid := over_fnExactNewBank
#print axioms fnExactNewBank_holds

end Go.Proofs.Ytmgapmhjkamigaa
