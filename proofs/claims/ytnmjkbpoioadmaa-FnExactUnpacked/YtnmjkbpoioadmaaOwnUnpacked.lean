/- Whatever bytes it is called with, laws.FnExactUnpacked returns true and its argument reads as before: both Unpacked tell the same, in memory of their own, and what they are handed stays. No condition. -/
import Derived.Test.YtnmjkbpoioadmaaRows
import Derived.Test.YtnmjkbpoioadmaaEntMark
import Derived.Test.YtnmjkbpoioadmaaHelp
import Derived.Test.YtnmjkbpoioadmaaCp
import Derived.Test.YtnmjkbpoioadmaaPackRead
import Derived.ProofKit
import Derived.OpenShut
import Derived.ShutString
import Derived.ChangeOld
namespace Go.Proofs.Ytnmjkbpoioadmaa
open Go.ChangeShapes Go.WideShapes Go.ChangeAt Go.RowKit
theorem unpI_len (bs : List UInt8) : (unpI bs).1.length ≤ 300 := by
  cases h : unpI bs with
  | mk es ok =>
    cases ok with
    | true => exact okL_len (unpI_back h).1
    | false => rw [unpI_no h]; exact Nat.zero_le _
set_option maxHeartbeats 2000000 in
set_option maxRecDepth 100000 in
theorem lawUnpacked (v : Value) (bs : List UInt8) (w : World) (hr : Rd w v bs) :
    Calls Try.prog 7 #[v] w fun e w' => e = .returned (.bool true) ∧ Below w.heap.size w w' := by
  obtain ⟨a, cap, hv, hl, hm, _⟩ := id hr
  unfold maxLen at hm
  subst hv
  by_cases hbig : 1048576 < bs.length
  · clear hr
    go_enter Try.func7, Try.ntmps7
    go_wp2
    go_ret
    exact ⟨rfl, Below.refl _ _⟩
  have hfl := unpI_len bs
  have HS : Hid (∀ u w', Rd w' u bs → Calls Try.prog 23 #[u] w' fun e w'' => UnpPost w' (unpI bs) e w'') := fun u w' h => by rw [← unp_same]; exact specUnpacked_any u bs w' h
  have HI : Hid (∀ u w', Rd w' u bs → Calls Try.prog 21 #[u] w' fun e w'' => UnpPost w' (unpI bs) e w'') := fun u w' h => implUnpacked_any u bs w' h
  generalize unpI bs = F at hfl HS HI
  obtain ⟨ys, ok⟩ := F
  simp only at hfl
  have hok : (ok != ok) = false := by cases ok <;> rfl
  have hq1 : ¬ 1 + 4 * (ys.length : Int) < 0 := by omega
  have hq2 : (1 + 4 * (ys.length : Int) != 1 + 4 * (ys.length : Int)) = false := by simp
  have hq3 : ¬ 1 + (bs.length : Int) < 0 := by omega
  go_enter Try.func7, Try.ntmps7
  go_wp2_with fail
  refine (toBytes_any _ bs _ hr (by omega)).mono ?_
  rintro e w1 ⟨u1, rfl, ho1, hb1⟩
  go_wp2_with fail
  refine (HS.out _ _ ho1.rd).mono ?_
  rintro e w2 ⟨vw, rfl, hw2, hb2⟩
  have b2 := hb1.trans (hb2.mono hb1.size)
  clear ho1
  go_wp2_with fail
  refine (toBytes_any _ bs _ (hr.below b2) (by omega)).mono ?_
  rintro e w3 ⟨x0, rfl, hx3, hb3⟩
  have b3 := b2.trans (hb3.mono b2.size)
  have hw3 := hw2.below hb3
  have lw : ∀ k, vw.ownBlock = some k → k < w2.heap.size := ownE_lt hw2
  have lx : ∀ k, x0.ownBlock = some k → w2.heap.size ≤ k ∧ k < w3.heap.size := fun k hk => World.ownsRow.lt hx3 k hk
  clear hw2
  go_wp2_with fail
  refine (HI.out _ _ hx3.rd).mono ?_
  rintro e w4 ⟨vg, rfl, hg4, hb4⟩
  have b4 := b3.trans (hb4.mono b3.size)
  have hw4 := hw3.below hb4
  have hx4 := hx3.below hb4
  have lg : ∀ k, vg.ownBlock = some k → w3.heap.size ≤ k := fun k hk => (World.ownsRow.lt hg4 k hk).1
  have s23 := hb3.size
  have s02 := b2.size
  clear hw3 hx3 hb1 hb2 hb3 hb4 b2 b3
  go_wp2_with fail
  refine (eqEnts_same _ _ ys _ hg4.rd hw4.rd).mono ?_
  rintro e w5 ⟨rfl, hb5⟩
  have b5 := b4.trans (hb5.mono b4.size)
  have hw5 := hw4.below hb5
  have hx5 := hx4.below hb5
  have hg5 := hg4.below hb5
  clear hw4 hx4 hg4 hb5 b4
  go_wp2_with fail
  refine (toBytes_any _ bs _ (hr.below b5) (by omega)).mono ?_
  rintro e w6 ⟨u6, rfl, ho6, hb6⟩
  have b6 := b5.trans (hb6.mono b5.size)
  have hw6 := hw5.below hb6
  have hx6 := hx5.below hb6
  have hg6 := hg5.below hb6
  clear hw5 hx5 hg5 hb6 b5
  go_wp2_with fail
  refine (eqBytes_same _ _ bs _ hx6.rd ho6.rd).mono ?_
  rintro e w7 ⟨rfl, q7, rfl⟩
  clear ho6
  go_wp2_with fail
  refine (mark_one x0 bs _ _ (by omega) (hx6.drewN q7)).mono ?_
  rintro e w8 ⟨rfl, _, hm8⟩
  have hw8 : OwnE w8 _ vw ys := row_kept (hw6.drewN q7) hm8 (fun k hk e => by have := lw k hk; have := (lx k e).1; omega)
  have hg8 : OwnE w8 _ vg ys := row_kept (hg6.drewN q7) hm8 (fun k hk e => by have := lg k hk; have := (lx k e).2; omega)
  have b8 : Below w.heap.size w w8 := (below_drewN b6 q7).grown hm8 (by simpa using b6.size) (fun k hk => by have := (lx k hk).1; omega)
  clear hw6 hg6 hx6 hm8 b6
  go_wp2_with fail
  refine (eqEnts_same _ _ ys _ hg8.rd hw8.rd).mono ?_
  rintro e w9 ⟨rfl, hb9⟩
  have b9 := b8.trans (hb9.mono b8.size)
  have hw9 := hw8.below hb9
  have hg9 := hg8.below hb9
  clear hw8 hg8 hb9 b8
  go_wp2_with fail
  refine (emark_one vg ys _ _ (by omega) hg9).mono ?_
  rintro e w10 ⟨rfl, hg10, hm10⟩
  have hw10 : OwnE w10 _ vw ys := row_kept hw9 hm10 (fun k hk e => by have := lw k hk; have := lg k e; omega)
  have b10 : Below w.heap.size w w10 := b9.grown hm10 b9.size (fun k hk => by have := lg k hk; omega)
  clear hw9 hg9 hm10 b9
  go_wp2_with fail
  refine (eheld_one vg ys.length _ (by omega) hg10.rd).mono ?_
  rintro e w11 ⟨rfl, hb11⟩
  have b11 := b10.trans (hb11.mono b10.size)
  have hw11 := hw10.below hb11
  have hg11 := hg10.below hb11
  clear hw10 hg10 hb11 b10
  go_wp2_with fail
  refine (toBytes_any _ bs _ (hr.below b11) (by omega)).mono ?_
  rintro e w12 ⟨u12, rfl, ho12, hb12⟩
  have b12 := b11.trans (hb12.mono b11.size)
  have hw12 := hw11.below hb12
  have hg12 := hg11.below hb12
  clear hw11 hg11 hb12 b11
  go_wp2_with fail
  refine (HI.out _ _ ho12.rd).mono ?_
  rintro e w13 ⟨vh, rfl, hh13, hb13⟩
  have b13 := b12.trans (hb13.mono b12.size)
  have hw13 := hw12.below hb13
  have hg13 := hg12.below hb13
  clear hw12 hg12 hb13 b12 ho12
  go_wp2_with fail
  refine (eqEnts_same _ _ ys _ hh13.rd hw13.rd).mono ?_
  rintro e w14 ⟨rfl, hb14⟩
  have b14 := b13.trans (hb14.mono b13.size)
  have hg14 := hg13.below hb14
  clear hw13 hg13 hh13 hb14 b13
  go_wp2_with fail
  refine (eheld_one vg ys.length _ (by omega) hg14.rd).mono ?_
  rintro e w15 ⟨rfl, hb15⟩
  have b15 := b14.trans (hb15.mono b14.size)
  clear hg14 hb15 b14
  go_wp2
  go_ret
  exact ⟨rfl, b15⟩
theorem own_fnExactUnpacked : ownKnob Try.prog.godebug = none := by kernel_rfl
theorem laidOut_fnExactUnpacked : laidOutB Try.prog = true := by kernel_rfl
set_option maxRecDepth 100000 in
theorem lifted_fnExactUnpacked (os : Os) (started : os.Started) (H : Type) (enc : TypeId × Value → H) :
    ReturnsInHanded {} Try.checked os 7 .any (Rows.fnExactUnpackedSpec.pre6 enc Try.prog Try.f7 Rows.fnExactUnpackedRow.domain false) (Rows.fnExactUnpackedSpec.post enc Try.prog Try.f7 false true false false) := by
  refine returnsInHanded_of_change (C := Try.checked) own_fnExactUnpacked started (by kernel_rfl) Try.func7
    (ChangeSpec.witness6 (enc := enc) (C := Try.checked) false ⟨#[], #[.slice none 0 0], []⟩ 8 (by kernel_rfl) (by kernel_rfl) (by kernel_rfl) (by kernel_rfl)) ?_
  intro W base args ds gs before hval0 hW hcnd _
  have hval : ∀ (j : Nat) t v, Try.f7.params[j]? = some t → args[j]? = some v → Value.okWide Try.prog W .any base t v := hval0
  have hW' := hW
  obtain ⟨p, q, hA0, hV, rfl, hfz, hnd⟩ := hW
  have hA : DataW.TrodAll enc Try.prog W 0 (fun _ => true) true Try.f7.params.toList args.toList ds p := hA0
  rw [Try.params7] at hA hval
  obtain ⟨v0, vs0, d0, ds0, p0, q0, hargs, rfl, rfl, h0, r0⟩ := trodAll_cons hA
  obtain ⟨rfl, rfl, rfl⟩ := trodAll_nil r0
  obtain rfl : args = #[v0] := by cases args; simp_all
  obtain ⟨rfl, rfl⟩ := trodVars_none hV
  obtain ⟨a0, len0, cap0, rfl⟩ := okWide_slice Try.underlying22 (hval 0 22 v0 rfl rfl)
  have k0 := h0
  have lt0 : ∀ x ∈ p0, x.block < W.heap.size := by obtain ⟨m, hm⟩ := k0; exact DataW.trod_lt m _ _ _ hm
  obtain ⟨bs0, hr0⟩ : ∃ bs, Rd W (.slice a0 len0 cap0) bs := by
    obtain ⟨fuel, hf⟩ := h0
    rcases open_ints Try.underlying22 Try.underlying5 (by kernel_rfl) hf with ⟨hcs, _⟩ | ⟨x, l, c, zs, hcs, _, hl, hm, hz, _, hcell, hwz⟩
    · simp [Value.cells] at hcs
      obtain ⟨rfl, rfl, rfl⟩ := hcs
      exact ⟨[], rd_nil W⟩
    · simp [Value.cells] at hcs
      obtain ⟨rfl, rfl, rfl⟩ := hcs
      exact rd_of hl hm (by simpa using hz) hcell hwz
  clear hA0 hval0
  refine (lawUnpacked _ bs0 W hr0).mono fun e W' ⟨he, bel⟩ => ?_
  subst he
  exact ⟨_, rfl, _, _, _, [], _, [], hW', trodAll_mk1 (shut_bool Try.underlying4 _), (trodAll_cons_mk (Below.trod laidOut_fnExactUnpacked (by kernel_rfl) (of_decide_eq_true (by kernel_rfl)) k0 bel lt0) trodAll_mk0), rfl, bel.frame _, fun h => by cases h⟩
theorem over_fnExactUnpacked : Rows.fnExactUnpackedRow.holds Try.pinned (OpenSpec.ofChange Rows.fnExactUnpackedSpec) :=
  OpenClaim.holds_of_wide 7 Try.f7 rfl rfl rfl rfl rfl rfl rfl ⟨rfl, rfl, rfl, rfl, rfl⟩ rfl rfl rfl rfl rfl (by kernel_rfl) Try.func7 (by kernel_rfl)
    (of_decide_eq_true (by kernel_rfl)) (by unfold Func.isWrapper; first | (rw [if_pos (by decide +kernel)]; kernel_rfl) | (rw [if_neg (by decide +kernel)]; exact ⟨rfl, rfl⟩))
    (fun os started H enc _ => lifted_fnExactUnpacked os started H enc)
theorem fnExactUnpacked_holds : Rows.FnExactUnpackedSaid := over_fnExactUnpacked
#print axioms fnExactUnpacked_holds

end Go.Proofs.Ytnmjkbpoioadmaa
