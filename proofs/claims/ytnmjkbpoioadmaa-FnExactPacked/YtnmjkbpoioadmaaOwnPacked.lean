/- Whatever entries it is called with, laws.FnExactPacked returns true and its argument reads as before: both Packed make the same bytes, in memory of their own, and what they are handed stays. No condition. -/
import Derived.Test.YtnmjkbpoioadmaaRows
import Derived.Test.YtnmjkbpoioadmaaEntMark
import Derived.Test.YtnmjkbpoioadmaaEntOpen
import Derived.Test.YtnmjkbpoioadmaaHelp
import Derived.Test.YtnmjkbpoioadmaaPackImpl
import Derived.ProofKit
import Derived.OpenShut
import Derived.ShutString
import Derived.ChangeOld
namespace Go.Proofs.Ytnmjkbpoioadmaa
open Go.ChangeShapes Go.WideShapes Go.ChangeAt Go.RowKit
theorem heldSzK {es : List Ent} (h : ∀ e ∈ es, Held e) : ∀ x ∈ es, x.key.size ≤ maxLen ∧ x.val.size ≤ maxLen := fun x hx => ⟨(h x hx).1, (h x hx).2.1⟩
theorem heldFitsK {es : List Ent} (h : ∀ e ∈ es, Held e) (h2 : ∀ x ∈ es, x.key.size ≤ 1048576 ∧ x.val.size ≤ 1048576) : ∀ e ∈ es, Fits e := fun e he =>
  ⟨by have := (h2 e he).1; omega, by have := (h2 e he).2; omega, (h e he).2.2.1, (h e he).2.2.2⟩
set_option maxHeartbeats 2000000 in
set_option maxRecDepth 100000 in
theorem lawPacked (v : Value) (es : List Ent) (w : World) (hr : RdE w v es) (hh : ∀ e ∈ es, Held e) :
    Calls Try.prog 6 #[v] w fun e w' => e = .returned (.bool true) ∧ Below w.heap.size w w' := by
  go_enter Try.func6, Try.ntmps6
  go_wp2_with fail
  refine (szEnts_any _ es _ hr (heldSzK hh)).mono ?_
  rintro e w0 ⟨b0, z, rfl, hz⟩
  rcases hz with hz | ⟨hz0, hz1, hl, hsz⟩
  · subst hz
    go_wp2
    go_ret
    exact ⟨rfl, b0⟩
  have HF : Hid (∀ e ∈ es, Fits e) := heldFitsK hh hsz
  have hyl := packL_len es
  have HS : Hid (∀ u w', RdE w' u es → Calls Try.prog 24 #[u] w' fun e w'' => ∃ t, e = .returned t ∧ Own w'' w'.heap.size t (packL es) ∧ Below w'.heap.size w' w'') := fun u w' h => specPacked_any u es w' h HF.out
  have HI : Hid (∀ u w', RdE w' u es → Calls Try.prog 19 #[u] w' fun e w'' => ∃ t, e = .returned t ∧ Own w'' w'.heap.size t (packL es) ∧ Below w'.heap.size w' w'') := fun u w' h => implPacked_any u es w' h HF.out
  generalize packL es = ys at hyl HS HI
  clear hsz hh
  have hq1 : ¬ 1 + (ys.length : Int) < 0 := by omega
  have hq2 : (1 + (ys.length : Int) != 1 + (ys.length : Int)) = false := by simp
  have hq3 : ¬ 1 + 4 * (es.length : Int) < 0 := by omega
  go_wp2_with fail
  refine (toEnts_any _ es _ (hr.below b0) (by omega)).mono ?_
  rintro e w1 ⟨u1, rfl, ho1, hb1⟩
  have b1 := b0.trans (hb1.mono b0.size)
  clear b0
  go_wp2_with fail
  refine (HS.out _ _ ho1.rd).mono ?_
  rintro e w2 ⟨vw, rfl, hw2, hb2⟩
  have b2 := b1.trans (hb2.mono b1.size)
  clear ho1 b1 hb1 hb2
  go_wp2_with fail
  refine (toEnts_any _ es _ (hr.below b2) (by omega)).mono ?_
  rintro e w3 ⟨x0, rfl, hx3, hb3⟩
  have b3 := b2.trans (hb3.mono b2.size)
  have hw3 := hw2.below hb3
  have lw : ∀ k, vw.ownBlock = some k → k < w2.heap.size := own_blk hw2
  have lx : ∀ k, x0.ownBlock = some k → w2.heap.size ≤ k ∧ k < w3.heap.size := fun k hk => World.ownsRow.lt hx3 k hk
  clear hw2
  go_wp2_with fail
  refine (HI.out _ _ hx3.rd).mono ?_
  rintro e w4 ⟨vg, rfl, hg4, hb4⟩
  have b4 := b3.trans (hb4.mono b3.size)
  have hw4 := hw3.below hb4
  have hx4 := hx3.below hb4
  have lg : ∀ k, vg.ownBlock = some k → w3.heap.size ≤ k := fun k hk => (World.ownsRow.lt hg4 k hk).1
  have s23 := hb3.size
  have s02 := b2.size
  clear hw3 hx3 hb3 hb4 b2 b3
  go_wp2_with fail
  refine (eqBytes_same _ _ ys _ hg4.rd hw4.rd).mono ?_
  rintro e w5 ⟨rfl, q5, rfl⟩
  have b5 := below_drewN b4 q5
  have hw5 := hw4.drewN q5
  have hx5 := hx4.drewN q5
  have hg5 := hg4.drewN q5
  clear hw4 hx4 hg4 b4
  go_wp2_with fail
  refine (toEnts_any _ es _ (hr.below b5) (by omega)).mono ?_
  rintro e w6 ⟨u6, rfl, ho6, hb6⟩
  have b6 := b5.trans (hb6.mono b5.size)
  have hw6 := hw5.below hb6
  have hx6 := hx5.below hb6
  have hg6 := hg5.below hb6
  clear hw5 hx5 hg5 hb6 b5
  go_wp2_with fail
  refine (eqEnts_same _ _ es _ hx6.rd ho6.rd).mono ?_
  rintro e w7 ⟨rfl, hb7⟩
  have b7 := b6.trans (hb7.mono b6.size)
  have hw7 := hw6.below hb7
  have hx7 := hx6.below hb7
  have hg7 := hg6.below hb7
  clear ho6 hw6 hx6 hg6 hb7 b6
  go_wp2_with fail
  refine (emark_one x0 es _ _ (by omega) hx7).mono ?_
  rintro e w8 ⟨rfl, _, hm8⟩
  have hw8 : Own w8 _ vw ys := row_kept hw7 hm8 (fun k hk e => by have := lw k hk; have := (lx k e).1; omega)
  have hg8 : Own w8 _ vg ys := row_kept hg7 hm8 (fun k hk e => by have := lg k hk; have := (lx k e).2; omega)
  have b8 : Below w.heap.size w w8 := b7.grown hm8 b7.size (fun k hk => by have := (lx k hk).1; omega)
  clear hw7 hg7 hx7 hm8 b7
  go_wp2_with fail
  refine (eqBytes_same _ _ ys _ hg8.rd hw8.rd).mono ?_
  rintro e w9 ⟨rfl, q9, rfl⟩
  have b9 := below_drewN b8 q9
  have hw9 := hw8.drewN q9
  have hg9 := hg8.drewN q9
  clear hw8 hg8 b8
  go_wp2_with fail
  refine (mark_one vg ys _ _ (by omega) hg9).mono ?_
  rintro e w10 ⟨rfl, hg10, hm10⟩
  have hw10 : Own w10 _ vw ys := row_kept hw9 hm10 (fun k hk e => by have := lw k hk; have := lg k e; omega)
  have b10 : Below w.heap.size w w10 := b9.grown hm10 b9.size (fun k hk => by have := lg k hk; omega)
  clear hw9 hg9 hm10 b9
  go_wp2_with fail
  refine (held_one vg ys.length _ (by omega) hg10.rd).mono ?_
  rintro e w11 ⟨rfl, rfl⟩
  go_wp2_with fail
  refine (toEnts_any _ es _ (hr.below b10) (by omega)).mono ?_
  rintro e w12 ⟨u12, rfl, ho12, hb12⟩
  have b12 := b10.trans (hb12.mono b10.size)
  have hw12 := hw10.below hb12
  have hg12 := hg10.below hb12
  clear hw10 hg10 hb12 b10
  go_wp2_with fail
  refine (HI.out _ _ ho12.rd).mono ?_
  rintro e w13 ⟨vh, rfl, hh13, hb13⟩
  have b13 := b12.trans (hb13.mono b12.size)
  have hw13 := hw12.below hb13
  have hg13 := hg12.below hb13
  clear hw12 hg12 hb13 b12 ho12
  go_wp2_with fail
  refine (eqBytes_same _ _ ys _ hh13.rd hw13.rd).mono ?_
  rintro e w14 ⟨rfl, q14, rfl⟩
  go_wp2_with fail
  refine (held_one vg ys.length _ (by omega) (hg13.rd.drewN q14)).mono ?_
  rintro e w15 ⟨rfl, rfl⟩
  clear hw13 hg13 hh13
  go_wp2
  go_ret
  exact ⟨rfl, below_drewN b13 q14⟩
theorem own_fnExactPacked : ownKnob Try.prog.godebug = none := by kernel_rfl
theorem laidOut_fnExactPacked : laidOutB Try.prog = true := by kernel_rfl
set_option maxRecDepth 100000 in
theorem lifted_fnExactPacked (os : Os) (started : os.Started) (H : Type) (enc : TypeId × Value → H) :
    ReturnsInHanded {} Try.checked os 6 .any (Rows.fnExactPackedSpec.pre6 enc Try.prog Try.f6 Rows.fnExactPackedRow.domain false) (Rows.fnExactPackedSpec.post enc Try.prog Try.f6 false true false false) := by
  refine returnsInHanded_of_change (C := Try.checked) own_fnExactPacked started (by kernel_rfl) Try.func6
    (ChangeSpec.witness6 (enc := enc) (C := Try.checked) false ⟨#[], #[.slice none 0 0], []⟩ 8 (by kernel_rfl) (by kernel_rfl) (by kernel_rfl) (by kernel_rfl)) ?_
  intro W base args ds gs before hval0 hW hcnd _
  have hval : ∀ (j : Nat) t v, Try.f6.params[j]? = some t → args[j]? = some v → Value.okWide Try.prog W .any base t v := hval0
  have hW' := hW
  obtain ⟨p, q, hA0, hV, rfl, hfz, hnd⟩ := hW
  have hA : DataW.TrodAll enc Try.prog W 0 (fun _ => true) true Try.f6.params.toList args.toList ds p := hA0
  rw [Try.params6] at hA hval
  obtain ⟨v0, vs0, d0, ds0, p0, q0, hargs, rfl, rfl, h0, r0⟩ := trodAll_cons hA
  obtain ⟨rfl, rfl, rfl⟩ := trodAll_nil r0
  obtain rfl : args = #[v0] := by cases args; simp_all
  obtain ⟨rfl, rfl⟩ := trodVars_none hV
  obtain ⟨a0, len0, cap0, rfl⟩ := okWide_slice Try.underlying46 (hval 0 46 v0 rfl rfl)
  have k0 := h0
  have lt0 : ∀ x ∈ p0, x.block < W.heap.size := by obtain ⟨m, hm⟩ := k0; exact DataW.trod_lt m _ _ _ hm
  obtain ⟨es0, hr0, hh0⟩ := open_ents k0 ⟨a0, len0, cap0, rfl⟩
  clear hA0 hval0
  refine (lawPacked _ es0 W hr0 hh0).mono fun e W' ⟨he, bel⟩ => ?_
  subst he
  exact ⟨_, rfl, _, _, _, [], _, [], hW', trodAll_mk1 (shut_bool Try.underlying4 _), (trodAll_cons_mk (Below.trod laidOut_fnExactPacked (by kernel_rfl) (of_decide_eq_true (by kernel_rfl)) k0 bel lt0) trodAll_mk0), rfl, bel.frame _, fun h => by cases h⟩
theorem over_fnExactPacked : Rows.fnExactPackedRow.holds Try.pinned (OpenSpec.ofChange Rows.fnExactPackedSpec) :=
  OpenClaim.holds_of_wide 6 Try.f6 rfl rfl rfl rfl rfl rfl rfl ⟨rfl, rfl, rfl, rfl, rfl⟩ rfl rfl rfl rfl rfl (by kernel_rfl) Try.func6 (by kernel_rfl)
    (of_decide_eq_true (by kernel_rfl)) (by unfold Func.isWrapper; first | (rw [if_pos (by decide +kernel)]; kernel_rfl) | (rw [if_neg (by decide +kernel)]; exact ⟨rfl, rfl⟩))
    (fun os started H enc _ => lifted_fnExactPacked os started H enc)
theorem fnExactPacked_holds : Rows.FnExactPackedSaid := over_fnExactPacked
#print axioms fnExactPacked_holds

end Go.Proofs.Ytnmjkbpoioadmaa
