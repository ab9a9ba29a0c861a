/- Whatever list of texts it is called with, laws.FnExactTexts returns true and its argument reads as before: both Texts make the same bytes, in memory of their own, and what they are handed stays. No condition. -/
import Derived.Test.YtbldoeadmnepkagRows
import Derived.Test.YtbldoeadmnepkagHelp
import Derived.Test.YtbldoeadmnepkagStrHelp
import Derived.Test.YtbldoeadmnepkagStrCp
import Derived.Test.YtbldoeadmnepkagTexts
import Derived.SliceStrings
import Derived.ProofKit
import Derived.OpenShut
import Derived.ShutString
import Derived.ChangeOld
namespace Go.Proofs.Ytbldoeadmnepkag
open Go.ChangeShapes Go.WideShapes Go.ChangeAt Go.RowKit

set_option maxHeartbeats 2000000 in
set_option maxRecDepth 100000 in
theorem lawTexts (v : Value) (ss : List ByteArray) (w : World) (hr : RdS w v ss) (hsz : ∀ s ∈ ss, s.size ≤ maxLen) :
    Calls Try.prog 7 #[v] w fun e w' => e = .returned (.bool true) ∧ Below w.heap.size w w' := by
  have HZ : Hid (Calls _ _ _ _ _) := sz_any v ss w hr hsz
  obtain ⟨a, cap, hv, hl, hm, _⟩ := id hr
  unfold maxLen at hm
  subst hv
  clear hsz
  go_enter Try.func7, Try.ntmps7
  go_wp2_with fail
  refine HZ.out.mono ?_
  rintro e wz ⟨rfl, x, rfl, hx⟩
  clear HZ
  rcases hx with hx | ⟨hx, hsl, hss⟩
  · clear hr
    go_wp2
    go_ret
    exact ⟨rfl, Below.refl _ _⟩
  have hfl := textsOf_len ss
  have HS : Hid (∀ u w', RdS w' u ss → Calls Try.prog 22 #[u] w' fun e w'' => ∃ t, e = .returned t ∧ Own w'' w'.heap.size t (textsOf ss) ∧ Below w'.heap.size w' w'') := fun u w' h => specTexts_any u ss w' h hss
  have HI : Hid (∀ u w', RdS w' u ss → Calls Try.prog 24 #[u] w' fun e w'' => ∃ t, e = .returned t ∧ Own w'' w'.heap.size t (textsOf ss) ∧ Below w'.heap.size w' w'') := fun u w' h => implTexts_any u ss w' h hss
  generalize textsOf ss = bs at hfl HS HI
  clear hss
  have hq1 : ¬ 1 + (bs.length : Int) < 0 := by omega
  have hq2 : (1 + (bs.length : Int) != 1 + (bs.length : Int)) = false := by simp
  have hq3 : ¬ 1 + (ss.length : Int) < 0 := by omega
  go_wp2_with fail
  refine (toTexts_any _ ss _ hr (by omega)).mono ?_
  rintro e w1 ⟨u1, rfl, ho1, hb1⟩
  go_wp2_with fail
  refine (HS.out _ _ ho1.rd).mono ?_
  rintro e w2 ⟨vw, rfl, hw2, hb2⟩
  have b2 := hb1.trans (hb2.mono hb1.size)
  clear ho1
  go_wp2_with fail
  refine (toTexts_any _ ss _ (hr.below b2) (by omega)).mono ?_
  rintro e w3 ⟨x0, rfl, hx3, hb3⟩
  have b3 := b2.trans (hb3.mono b2.size)
  have hw3 := hw2.below hb3
  have lw : ∀ k, vw.ownBlock = some k → k < w2.heap.size := own_lt hw2
  have lx : ∀ k, x0.ownBlock = some k → w2.heap.size ≤ k ∧ k < w3.heap.size := fun k hk => World.ownsRow.lt hx3 k hk
  clear hw2
  go_wp2_with fail
  refine (HI.out _ _ hx3.rd).mono ?_
  rintro e w4 ⟨vg, rfl, hg4, hb4⟩
  have b4 := b3.trans (hb4.mono b3.size)
  have hw4 := hw3.below hb4
  have hx4 := hx3.below hb4
  have lg : ∀ k, vg.ownBlock = some k → w3.heap.size ≤ k := fun k hk => (World.ownsRow.lt hg4 k hk).1
  have s23 := hb3.size
  have s02 := b2.size
  clear hw3 hx3 hb1 hb2 hb3 hb4 b2 b3
  go_wp2_with fail
  refine (eqBytes_same _ _ bs _ hg4.rd hw4.rd).mono ?_
  rintro e w5 ⟨rfl, q5, rfl⟩
  go_wp2_with fail
  refine (toTexts_any _ ss _ (hr.below (below_drewN b4 q5)) (by omega)).mono ?_
  rintro e w6 ⟨u6, rfl, ho6, hb6⟩
  have b6 := (below_drewN b4 q5).trans (hb6.mono (by simpa using b4.size))
  have hw6 := (hw4.drewN q5).below hb6
  have hx6 := (hx4.drewN q5).below hb6
  have hg6 := (hg4.drewN q5).below hb6
  clear hw4 hx4 hg4 hb6 b4
  go_wp2_with fail
  refine (eqTexts_same _ _ ss _ hx6.rd ho6.rd).mono ?_
  rintro e w7 ⟨rfl, q7, rfl⟩
  clear ho6
  go_wp2_with fail
  refine (smark_one x0 ss _ _ (by omega) (hx6.drewN q7)).mono ?_
  rintro e w8 ⟨rfl, _, hm8⟩
  have hw8 : Own w8 _ vw bs := row_kept (hw6.drewN q7) hm8 (fun k hk e => by have := lw k hk; have := (lx k e).1; omega)
  have hg8 : Own w8 _ vg bs := row_kept (hg6.drewN q7) hm8 (fun k hk e => by have := lg k hk; have := (lx k e).2; omega)
  have b8 : Below wz.heap.size wz w8 := (below_drewN b6 q7).grown hm8 (by simpa using b6.size) (fun k hk => by have := (lx k hk).1; omega)
  clear hw6 hg6 hx6 hm8 b6
  go_wp2_with fail
  refine (eqBytes_same _ _ bs _ hg8.rd hw8.rd).mono ?_
  rintro e w9 ⟨rfl, q9, rfl⟩
  go_wp2_with fail
  refine (mark_one vg bs _ _ (by omega) (hg8.drewN q9)).mono ?_
  rintro e w10 ⟨rfl, hg10, hm10⟩
  have hw10 : Own w10 _ vw bs := row_kept (hw8.drewN q9) hm10 (fun k hk e => by have := lw k hk; have := lg k e; omega)
  have b10 : Below wz.heap.size wz w10 := (below_drewN b8 q9).grown hm10 (by simpa using b8.size) (fun k hk => by have := lg k hk; omega)
  clear hw8 hg8 hm10 b8
  go_wp2_with fail
  refine (held_one vg bs.length _ (by omega) hg10.rd).mono ?_
  rintro e w11 ⟨rfl, rfl⟩
  go_wp2_with fail
  refine (toTexts_any _ ss _ (hr.below b10) (by omega)).mono ?_
  rintro e w12 ⟨u12, rfl, ho12, hb12⟩
  have b12 := b10.trans (hb12.mono b10.size)
  have hw12 := hw10.below hb12
  have hg12 := hg10.below hb12
  clear hw10 hg10 hb12 b10
  go_wp2_with fail
  refine (HI.out _ _ ho12.rd).mono ?_
  rintro e w13 ⟨vh, rfl, hh13, hb13⟩
  have b13 := b12.trans (hb13.mono b12.size)
  have hw13 := hw12.below hb13
  have hg13 := hg12.below hb13
  clear hw12 hg12 hb13 b12 ho12
  go_wp2_with fail
  refine (eqBytes_same _ _ bs _ hh13.rd hw13.rd).mono ?_
  rintro e w14 ⟨rfl, q14, rfl⟩
  go_wp2_with fail
  refine (held_one vg bs.length _ (by omega) (hg13.rd.drewN q14)).mono ?_
  rintro e w15 ⟨rfl, rfl⟩
  clear hw13 hg13 hh13
  go_wp2
  go_ret
  exact ⟨rfl, below_drewN b13 q14⟩
theorem own_fnExactTexts : ownKnob Try.prog.godebug = none := by kernel_rfl
theorem laidOut_fnExactTexts : laidOutB Try.prog = true := by kernel_rfl
set_option maxRecDepth 100000 in
theorem lifted_fnExactTexts (os : Os) (started : os.Started) (H : Type) (enc : TypeId × Value → H) :
    ReturnsInHanded {} Try.checked os 7 .any (Rows.fnExactTextsSpec.pre6 enc Try.prog Try.f7 Rows.fnExactTextsRow.domain false) (Rows.fnExactTextsSpec.post enc Try.prog Try.f7 false true false false) := by
  refine returnsInHanded_of_change (C := Try.checked) own_fnExactTexts started (by kernel_rfl) Try.func7
    (ChangeSpec.witness6 (enc := enc) (C := Try.checked) false ⟨#[], #[.slice none 0 0], []⟩ 8 (by kernel_rfl) (by kernel_rfl) (by kernel_rfl) (by kernel_rfl)) ?_
  intro W base args ds gs before hval0 hW hcnd _
  have hval : ∀ (j : Nat) t v, Try.f7.params[j]? = some t → args[j]? = some v → Value.okWide Try.prog W .any base t v := hval0
  have hW' := hW
  obtain ⟨p, q, hA0, hV, rfl, hfz, hnd⟩ := hW
  have hA : DataW.TrodAll enc Try.prog W 0 (fun _ => true) true Try.f7.params.toList args.toList ds p := hA0
  rw [Try.params7] at hA hval
  obtain ⟨v0, vs0, d0, ds0, p0, q0, hargs, rfl, rfl, h0, r0⟩ := trodAll_cons hA
  obtain ⟨rfl, rfl, rfl⟩ := trodAll_nil r0
  obtain rfl : args = #[v0] := by cases args; simp_all
  obtain ⟨rfl, rfl⟩ := trodVars_none hV
  obtain ⟨a0, len0, cap0, rfl⟩ := okWide_slice Try.underlying35 (hval 0 35 v0 rfl rfl)
  have k0 := h0
  have lt0 : ∀ x ∈ p0, x.block < W.heap.size := by obtain ⟨m, hm⟩ := k0; exact DataW.trod_lt m _ _ _ hm
  obtain ⟨ss, hr, hsz⟩ : ∃ ss, RdS W (.slice a0 len0 cap0) ss ∧ ∀ s ∈ ss, s.size ≤ maxLen := by
    obtain ⟨fuel, hf⟩ := h0
    rcases open_strings Try.underlying35 Try.underlying9 (by kernel_rfl) hf with ⟨hcs, _⟩ | ⟨x, l, c, zs, hcs, _, hl, hm, hz, _, hcell, hwz⟩
    · simp [Value.cells] at hcs
      obtain ⟨rfl, rfl, rfl⟩ := hcs
      exact ⟨[], rdS_nil W, fun s hs => by cases hs⟩
    · simp [Value.cells] at hcs
      obtain ⟨rfl, rfl, rfl⟩ := hcs
      exact rdS_of hl hm (by simpa using hz) hcell hwz
  clear hA0 hval0
  refine (lawTexts _ ss W hr hsz).mono fun e W' ⟨he, bel⟩ => ?_
  subst he
  exact ⟨_, rfl, _, _, _, [], _, [], hW', trodAll_mk1 (shut_bool Try.underlying4 _), (trodAll_cons_mk (Below.trod laidOut_fnExactTexts (by kernel_rfl) (of_decide_eq_true (by kernel_rfl)) k0 bel lt0) trodAll_mk0), rfl, bel.frame _, fun h => by cases h⟩
theorem over_fnExactTexts : Rows.fnExactTextsRow.holds Try.pinned (OpenSpec.ofChange Rows.fnExactTextsSpec) :=
  OpenClaim.holds_of_wide 7 Try.f7 rfl rfl rfl rfl rfl rfl rfl ⟨rfl, rfl, rfl, rfl, rfl⟩ rfl rfl rfl rfl rfl (by kernel_rfl) Try.func7 (by kernel_rfl)
    (of_decide_eq_true (by kernel_rfl)) (by unfold Func.isWrapper; first | (rw [if_pos (by decide +kernel)]; kernel_rfl) | (rw [if_neg (by decide +kernel)]; exact ⟨rfl, rfl⟩))
    (fun os started H enc _ => lifted_fnExactTexts os started H enc)
theorem fnExactTexts_holds : Rows.FnExactTextsSaid := over_fnExactTexts
#print axioms fnExactTexts_holds

end Go.Proofs.Ytbldoeadmnepkag
