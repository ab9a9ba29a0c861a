/- Whatever entries and numbers it is called with, laws.FnExactBottom returns true and its arguments read as before: both Bottom tell the same, in memory of their own, and what they are handed stays. No condition. -/
import Derived.Test.YtihacdfchmobpaaRows
import Derived.Test.YtihacdfchmobpaaMrgAid
import Derived.Test.YtihacdfchmobpaaMrgImpl3
import Derived.ProofKit
import Derived.OpenShut
import Derived.ShutString
import Derived.ChangeOld
namespace Go.Proofs.Ytihacdfchmobpaa
open Go.ChangeShapes Go.WideShapes Go.ChangeAt Go.RowKit
theorem bottomR_len (es : List Ent) (qs : List Int) : (bottomR es qs).length ≤ 300 := by
  rw [bottomR_eq]
  exact Nat.le_trans (bot_len _) (okL_len (seensR_ok es qs))
set_option maxHeartbeats 4000000 in
set_option maxRecDepth 100000 in
theorem lawBottom (v : Value) (es : List Ent) (vq : Value) (qs : List Int) (w : World) (hr : RdE w v es) (hh : ∀ e ∈ es, Held e) (hq : RdI w vq qs) :
    Calls Try.prog 7 #[v, vq] w fun e w' => e = .returned (.bool true) ∧ Below w.heap.size w w' := by
  obtain ⟨aq, cq, hvq, hlq, hmq, _⟩ := id hq
  obtain ⟨mm, hmm⟩ : ∃ mm, mm = qs.length := ⟨_, rfl⟩
  have HMM : Hid (mm = qs.length) := hmm
  rw [← hmm] at hvq hlq
  subst hvq
  unfold maxLen at hmq
  clear hmm
  by_cases hbig : 1048576 < mm
  · go_enter Try.func7, Try.ntmps7
    go_wp2
    go_ret
    exact ⟨rfl, Below.refl _ _⟩
  go_enter Try.func7, Try.ntmps7
  go_wp2_with fail
  refine (szEnts_any _ es _ hr (heldSzM hh)).mono ?_
  rintro e w0 ⟨b0, z, rfl, hz⟩
  rcases hz with hz | ⟨hz0, hz1, hl, hsz⟩
  · subst hz
    go_wp2
    go_ret
    exact ⟨rfl, b0⟩
  have HF : Hid (∀ e ∈ es, Fits e) := heldFitsM hh hsz
  have hyl := bottomR_len es qs
  have HS : Hid (∀ u uq w', RdE w' u es → RdI w' uq qs → Calls Try.prog 19 #[u, uq] w' fun e w'' => RowPost w' (bottomR es qs) e w'') := fun u uq w' h h2 => specBottom_any u uq es qs w' h h2 HF.out
  have HI : Hid (∀ u uq w', RdE w' u es → RdI w' uq qs → Calls Try.prog 17 #[u, uq] w' fun e w'' => RowPost w' (bottomR es qs) e w'') := fun u uq w' h h2 => implBottom_any u uq es qs w' h h2 HF.out
  generalize bottomR es qs = ys at hyl HS HI
  clear hsz hh
  have hq1 : ¬ 1 + 4 * (ys.length : Int) < 0 := by omega
  have hq2 : (1 + 4 * (ys.length : Int) != 1 + 4 * (ys.length : Int)) = false := by simp
  obtain ⟨kk, hkk⟩ : ∃ kk : Nat, kk = 1 + 4 * es.length + qs.length := ⟨_, rfl⟩
  have HKK : Hid (1 + 4 * es.length + qs.length = kk) := hkk.symm
  clear hkk
  have hq3 : ¬ (kk : Int) < 0 := by omega
  have hmq2 : qs.length ≤ 1048576 := by rw [← HMM.out]; omega
  have HMQ : Hid (qs.length ≤ 1048576) := hmq2
  clear hmq2
  go_wp2_with fail
  refine (toEnts_any _ es _ (hr.below b0) (by omega)).mono ?_
  rintro e w1 ⟨u1, rfl, ho1, hb1⟩
  have b1 := b0.trans (hb1.mono b0.size)
  clear b0
  go_wp2_with fail
  refine (toInts_any _ qs _ (hq.below b1) (by have := HMQ.out; omega)).mono ?_
  rintro e w1' ⟨u1', rfl, hi1, hb1'⟩
  have b1' := b1.trans (hb1'.mono b1.size)
  have ho1' := ho1.below hb1'
  clear b1 ho1
  go_wp2_with fail
  refine (HS.out _ _ _ ho1'.rd hi1.rd).mono ?_
  rintro e w2 ⟨vw, rfl, hw2, hb2⟩
  have b2 := b1'.trans (hb2.mono b1'.size)
  clear ho1' hi1 b1' hb1 hb1' hb2
  go_wp2_with fail
  refine (toEnts_any _ es _ (hr.below b2) (by omega)).mono ?_
  rintro e w3 ⟨x0, rfl, hx3, hb3⟩
  have b3 := b2.trans (hb3.mono b2.size)
  have hw3 := hw2.below hb3
  have lw : ∀ k, vw.ownBlock = some k → k < w2.heap.size := ownE_lt hw2
  have lx : ∀ k, x0.ownBlock = some k → w2.heap.size ≤ k ∧ k < w3.heap.size := fun k hk => World.ownsRow.lt hx3 k hk
  have s23 := hb3.size
  clear hw2 hb3
  go_wp2_with fail
  refine (toInts_any _ qs _ (hq.below b3) (by have := HMQ.out; omega)).mono ?_
  rintro e wq ⟨x1, rfl, hqx, hbq⟩
  have bq := b3.trans (hbq.mono b3.size)
  have hwq := hw3.below hbq
  have hxq := hx3.below hbq
  have li : ∀ k, x1.ownBlock = some k → w3.heap.size ≤ k ∧ k < wq.heap.size := fun k hk => World.ownsRow.lt hqx k hk
  have s3q := hbq.size
  have s02 := b2.size
  clear hw3 hx3 b2 b3 hbq
  go_wp2_with fail
  refine (HI.out _ _ _ hxq.rd hqx.rd).mono ?_
  rintro e w4 ⟨vg, rfl, hg4, hb4⟩
  have b4 := bq.trans (hb4.mono bq.size)
  have hw4 := hwq.below hb4
  have hx4 := hxq.below hb4
  have hi4 := hqx.below hb4
  have lg : ∀ k, vg.ownBlock = some k → wq.heap.size ≤ k := fun k hk => (World.ownsRow.lt hg4 k hk).1
  clear hwq hxq hqx hb4 bq
  go_wp2_with fail
  refine (eqEnts_same _ _ ys _ hg4.rd hw4.rd).mono ?_
  rintro e w5 ⟨rfl, hb5⟩
  have b5 := b4.trans (hb5.mono b4.size)
  have hw5 := hw4.below hb5
  have hx5 := hx4.below hb5
  have hi5 := hi4.below hb5
  have hg5 := hg4.below hb5
  clear hw4 hx4 hg4 hi4 hb5 b4
  go_wp2_with fail
  refine (toEnts_any _ es _ (hr.below b5) (by omega)).mono ?_
  rintro e w6 ⟨u6, rfl, ho6, hb6⟩
  have b6 := b5.trans (hb6.mono b5.size)
  have hw6 := hw5.below hb6
  have hx6 := hx5.below hb6
  have hi6 := hi5.below hb6
  have hg6 := hg5.below hb6
  clear hw5 hx5 hg5 hi5 hb6 b5
  go_wp2_with fail
  refine (eqEnts_same _ _ es _ hx6.rd ho6.rd).mono ?_
  rintro e w7 ⟨rfl, hb7⟩
  have b7 := b6.trans (hb7.mono b6.size)
  have hw7 := hw6.below hb7
  have hx7 := hx6.below hb7
  have hi7 := hi6.below hb7
  have hg7 := hg6.below hb7
  clear ho6 hw6 hx6 hg6 hi6 hb7 b6
  go_wp2_with fail
  refine (toInts_any _ qs _ (hq.below b7) (by have := HMQ.out; omega)).mono ?_
  rintro e w7a ⟨u7a, rfl, ho7a, hb7a⟩
  have b7a := b7.trans (hb7a.mono b7.size)
  have hw7a := hw7.below hb7a
  have hx7a := hx7.below hb7a
  have hi7a := hi7.below hb7a
  have hg7a := hg7.below hb7a
  clear hw7 hx7 hg7 hi7 hb7a b7
  go_wp2_with fail
  refine (eqInts_same _ _ qs _ hi7a.rd ho7a.rd).mono ?_
  rintro e w7b ⟨rfl, n7, rfl⟩
  have b7b := belowN b7a n7
  have hw7b := hw7a.drewN n7
  have hx7b := hx7a.drewN n7
  have hi7b := hi7a.drewN n7
  have hg7b := hg7a.drewN n7
  generalize w7a.drewN n7 = W7 at b7b hw7b hx7b hi7b hg7b ⊢
  clear ho7a hw7a hx7a hg7a hi7a b7a
  go_wp2_with fail
  refine (emark_one x0 es _ _ (by omega) hx7b).mono ?_
  rintro e w8 ⟨rfl, _, hm8⟩
  have hw8 : OwnE w8 _ vw ys := row_kept hw7b hm8 (fun k hk e => by have := lw k hk; have := (lx k e).1; omega)
  have hg8 : OwnE w8 _ vg ys := row_kept hg7b hm8 (fun k hk e => by have := lg k hk; have := (lx k e).2; omega)
  have hi8 : OwnI w8 _ x1 qs := row_kept hi7b hm8 (fun k hk e => by have := (li k hk).1; have := (lx k e).2; omega)
  have b8 : Below w.heap.size w w8 := b7b.grown hm8 b7b.size (fun k hk => by have := (lx k hk).1; omega)
  clear hw7b hg7b hx7b hi7b hm8 b7b
  go_wp2_with fail
  refine (imark_at x1 qs _ (1 + 4 * es.length) _ _ (by omega) (by have := HMQ.out; omega) hi8).mono ?_
  rintro e w8a ⟨rfl, _, hm8a⟩
  rw [HKK.out]
  have hw8a : OwnE w8a _ vw ys := row_kept hw8 hm8a (fun k hk e => by have := lw k hk; have := (li k e).1; omega)
  have hg8a : OwnE w8a _ vg ys := row_kept hg8 hm8a (fun k hk e => by have := lg k hk; have := (li k e).2; omega)
  have b8a : Below w.heap.size w w8a := b8.grown hm8a b8.size (fun k hk => by have := (li k hk).1; omega)
  clear hw8 hg8 hi8 hm8a b8
  go_wp2_with fail
  refine (eqEnts_same _ _ ys _ hg8a.rd hw8a.rd).mono ?_
  rintro e w9 ⟨rfl, hb9⟩
  have b9 := b8a.trans (hb9.mono b8a.size)
  have hw9 := hw8a.below hb9
  have hg9 := hg8a.below hb9
  clear hw8a hg8a hb9 b8a
  go_wp2_with fail
  refine (emark_one vg ys _ _ (by omega) hg9).mono ?_
  rintro e w10 ⟨rfl, hg10, hm10⟩
  have hw10 : OwnE w10 _ vw ys := row_kept hw9 hm10 (fun k hk e => by have := lw k hk; have := lg k e; omega)
  have b10 : Below w.heap.size w w10 := b9.grown hm10 b9.size (fun k hk => by have := lg k hk; omega)
  clear hw9 hg9 hm10 b9
  go_wp2_with fail
  refine (eheld_one vg ys.length _ (by omega) hg10.rd).mono ?_
  rintro e w11 ⟨rfl, hb11⟩
  have b11 := b10.trans (hb11.mono b10.size)
  have hw11 := hw10.below hb11
  have hg11 := hg10.below hb11
  clear hw10 hg10 hb11 b10
  go_wp2_with fail
  refine (toEnts_any _ es _ (hr.below b11) (by omega)).mono ?_
  rintro e w12 ⟨u12, rfl, ho12, hb12⟩
  have b12 := b11.trans (hb12.mono b11.size)
  have hw12 := hw11.below hb12
  have hg12 := hg11.below hb12
  clear hw11 hg11 hb12 b11
  go_wp2_with fail
  refine (toInts_any _ qs _ (hq.below b12) (by have := HMQ.out; omega)).mono ?_
  rintro e w12a ⟨u12a, rfl, ho12a, hb12a⟩
  have b12a := b12.trans (hb12a.mono b12.size)
  have hw12a := hw12.below hb12a
  have hg12a := hg12.below hb12a
  have ho12b := ho12.below hb12a
  clear hw12 hg12 hb12a b12 ho12
  go_wp2_with fail
  refine (HI.out _ _ _ ho12b.rd ho12a.rd).mono ?_
  rintro e w13 ⟨vh, rfl, hh13, hb13⟩
  have b13 := b12a.trans (hb13.mono b12a.size)
  have hw13 := hw12a.below hb13
  have hg13 := hg12a.below hb13
  clear hw12a hg12a hb13 b12a ho12a ho12b
  go_wp2_with fail
  refine (eqEnts_same _ _ ys _ hh13.rd hw13.rd).mono ?_
  rintro e w14 ⟨rfl, hb14⟩
  have b14 := b13.trans (hb14.mono b13.size)
  have hg14 := hg13.below hb14
  clear hw13 hg13 hh13 hb14 b13
  go_wp2_with fail
  refine (eheld_one vg ys.length _ (by omega) hg14.rd).mono ?_
  rintro e w15 ⟨rfl, hb15⟩
  have b15 := b14.trans (hb15.mono b14.size)
  clear hg14 hb15 b14
  go_wp2
  go_ret
  exact ⟨rfl, b15⟩
theorem own_fnExactBottom : ownKnob Try.prog.godebug = none := by kernel_rfl
theorem laidOut_fnExactBottom : laidOutB Try.prog = true := by kernel_rfl
set_option maxRecDepth 100000 in
theorem lifted_fnExactBottom (os : Os) (started : os.Started) (H : Type) (enc : TypeId × Value → H) :
    ReturnsInHanded {} Try.checked os 7 .any (Rows.fnExactBottomSpec.pre6 enc Try.prog Try.f7 Rows.fnExactBottomRow.domain false) (Rows.fnExactBottomSpec.post enc Try.prog Try.f7 false true false false) := by
  refine returnsInHanded_of_change (C := Try.checked) own_fnExactBottom started (by kernel_rfl) Try.func7
    (ChangeSpec.witness6 (enc := enc) (C := Try.checked) false ⟨#[], #[.slice none 0 0, .slice none 0 0], []⟩ 8 (by kernel_rfl) (by kernel_rfl) (by kernel_rfl) (by kernel_rfl)) ?_
  intro W base args ds gs before hval0 hW hcnd _
  have hval : ∀ (j : Nat) t v, Try.f7.params[j]? = some t → args[j]? = some v → Value.okWide Try.prog W .any base t v := hval0
  have hW' := hW
  obtain ⟨p, q, hA0, hV, rfl, hfz, hnd⟩ := hW
  have hA : DataW.TrodAll enc Try.prog W 0 (fun _ => true) true Try.f7.params.toList args.toList ds p := hA0
  rw [Try.params7] at hA hval
  obtain ⟨v0, vs0, d0, ds0, p0, q0, hargs, rfl, rfl, h0, r0⟩ := trodAll_cons hA
  obtain ⟨v1, vs1, d1, ds1, p1, q1, rfl, rfl, rfl, h1, r1⟩ := trodAll_cons r0
  obtain ⟨rfl, rfl, rfl⟩ := trodAll_nil r1
  obtain rfl : args = #[v0, v1] := by cases args; simp_all
  obtain ⟨rfl, rfl⟩ := trodVars_none hV
  obtain ⟨a0, len0, cap0, rfl⟩ := okWide_slice Try.underlying47 (hval 0 47 v0 rfl rfl)
  have k0 := h0
  have lt0 : ∀ x ∈ p0, x.block < W.heap.size := by obtain ⟨m, hm⟩ := k0; exact DataW.trod_lt m _ _ _ hm
  obtain ⟨es0, hr0, hh0⟩ := open_ents k0 ⟨a0, len0, cap0, rfl⟩
  obtain ⟨a1, len1, cap1, rfl⟩ := okWide_slice Try.underlying35 (hval 1 35 v1 rfl rfl)
  have k1 := h1
  have lt1 : ∀ x ∈ p1, x.block < W.heap.size := by obtain ⟨m, hm⟩ := k1; exact DataW.trod_lt m _ _ _ hm
  obtain ⟨ns1, hr1⟩ := open_intsM k1 ⟨a1, len1, cap1, rfl⟩
  clear hA0 hval0
  refine (lawBottom _ es0 _ ns1 W hr0 hh0 hr1).mono fun e W' ⟨he, bel⟩ => ?_
  subst he
  exact ⟨_, rfl, _, _, _, [], _, [], hW', trodAll_mk1 (shut_bool Try.underlying4 _), (trodAll_cons_mk (Below.trod laidOut_fnExactBottom (by kernel_rfl) (of_decide_eq_true (by kernel_rfl)) k0 bel lt0) (trodAll_cons_mk (Below.trod laidOut_fnExactBottom (by kernel_rfl) (of_decide_eq_true (by kernel_rfl)) k1 bel lt1) trodAll_mk0)), rfl, bel.frame _, fun h => by cases h⟩
theorem over_fnExactBottom : Rows.fnExactBottomRow.holds Try.pinned (OpenSpec.ofChange Rows.fnExactBottomSpec) :=
  OpenClaim.holds_of_wide 7 Try.f7 rfl rfl rfl rfl rfl rfl rfl ⟨rfl, rfl, rfl, rfl, rfl⟩ rfl rfl rfl rfl rfl (by kernel_rfl) Try.func7 (by kernel_rfl)
    (of_decide_eq_true (by kernel_rfl)) (by unfold Func.isWrapper; first | (rw [if_pos (by decide +kernel)]; kernel_rfl) | (rw [if_neg (by decide +kernel)]; exact ⟨rfl, rfl⟩))
    (fun os started H enc _ => lifted_fnExactBottom os started H enc)
theorem fnExactBottom_holds : Rows.FnExactBottomSaid := over_fnExactBottom
#print axioms fnExactBottom_holds

end Go.Proofs.Ytihacdfchmobpaa
