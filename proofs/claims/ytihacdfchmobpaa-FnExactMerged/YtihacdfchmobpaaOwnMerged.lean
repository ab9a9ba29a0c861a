/- Whatever slices of entries it is called with, laws.FnExactMerged returns true and its argument reads as before: both Merged tell the same, in memory of their own, and what they are handed stays. No condition. -/
import Derived.Test.YtihacdfchmobpaaRows
import Derived.Test.YtihacdfchmobpaaMrgOpen
import Derived.ProofKit
import Derived.OpenShut
import Derived.ShutString
import Derived.ChangeOld
namespace Go.Proofs.Ytihacdfchmobpaa
open Go.ChangeShapes Go.WideShapes Go.ChangeAt Go.RowKit
theorem lsum_mem {ls : List (List Ent)} {l : List Ent} (h : l ∈ ls) : l.length ≤ lsum ls := by
  induction ls with
  | nil => cases h
  | cons a r ih =>
    simp only [lsum, List.map_cons, List.sum_cons] at ih ⊢
    rcases List.mem_cons.1 h with e | e
    · subst e; omega
    · have := ih e; omega
theorem mergedR_len (ls : List (List Ent)) : (mergedR ls).1.length ≤ 300 := by
  unfold mergedR
  split
  · rename_i h
    simp only [mergedOk, Bool.and_eq_true, decide_eq_true_eq] at h
    exact h.2
  · simp
set_option maxHeartbeats 4000000 in
set_option maxRecDepth 100000 in
theorem lawMerged (v : Value) (ps : List (Value × List Ent)) (w : World) (hr : Lists w v ps) (hh : ∀ p ∈ ps, ∀ e ∈ p.2, Held e) :
    Calls Try.prog 5 #[v] w fun e w' => e = .returned (.bool true) ∧ Below w.heap.size w w' := by
  go_enter Try.func5, Try.ntmps5
  go_wp2_with fail
  refine (szLL_any _ ps _ hr (fun p hp x hx => ⟨(hh p hp x hx).1, (hh p hp x hx).2.1⟩)).mono ?_
  rintro e w0 ⟨b0, z, rfl, hz⟩
  rcases hz with hz | ⟨hz0, hz1, hlen, hsum, hsz⟩
  · subst hz
    go_wp2
    go_ret
    exact ⟨rfl, b0⟩
  obtain ⟨ls, hls⟩ : ∃ ls, ls = ps.map (·.2) := ⟨_, rfl⟩
  rw [← hls] at hlen hsum hsz
  have HFL : Hid (∀ l ∈ ls, ∀ e ∈ l, Fits e) := fun l hl e he => by
    have h1 := hsz l hl e he
    have hl2 := hl
    rw [hls] at hl2
    obtain ⟨p, hp', rfl⟩ := List.mem_map.1 hl2
    have h2 := hh p hp' e he
    exact ⟨by have := h1.1; omega, by have := h1.2; omega, h2.2.2.1, h2.2.2.2⟩
  have HLN : Hid (ps.length ≤ 1048576) := by unfold Hid; rw [hls, List.length_map] at hlen; exact hlen
  have HLP : Hid (∀ p ∈ ps, p.2.length ≤ 1048576) := fun p hp' => by
    have := lsum_mem (ls := ls) (l := p.2) (by rw [hls]; exact List.mem_map_of_mem hp')
    omega
  have HTO : Hid (∀ W, Below w.heap.size w W → Calls Try.prog 24 #[v] W fun e w' => ∃ u us, e = .returned u ∧ us.map (·.2) = ls ∧ OwnLL w' W.heap.size (W.heap.size + 1) w'.heap.size u us ∧ Below W.heap.size W w') := fun W hb => by
    rw [hls]; exact toLL_any v ps W (hr.below hb) HLN.out HLP.out
  have hyl := mergedR_len ls
  have HS : Hid (∀ u us w', Pieces w' u us → us.map (·.2) = ls → Calls Try.prog 11 #[u] w' fun e w'' => MergedPost w' ls e w'') := fun u us w' h he => by
    have := specMerged_any u us w' h (fun p hp' => HFL.out p.2 (by rw [← he]; exact List.mem_map_of_mem hp'))
    rw [he] at this; exact this
  have HI : Hid (∀ u us w', Pieces w' u us → us.map (·.2) = ls → Calls Try.prog 10 #[u] w' fun e w'' => MergedPost w' ls e w'') := fun u us w' h he => by
    have := implMerged_any u us w' h (fun p hp' => HFL.out p.2 (by rw [← he]; exact List.mem_map_of_mem hp'))
    rw [he] at this; exact this
  unfold MergedPost at HS HI
  generalize (mergedR ls).1 = ys at hyl HS HI
  generalize (mergedR ls).2 = ok at HS HI
  have HSUM : Hid (lsum ls ≤ 1048576) := hsum
  clear hsz hh hlen hsum hls HLN HLP HFL
  have hqb : (ok != ok) = false := by simp
  have hq1 : ¬ 1 + 4 * (ys.length : Int) < 0 := by omega
  have hq2 : (1 + 4 * (ys.length : Int) != 1 + 4 * (ys.length : Int)) = false := by simp
  obtain ⟨ms, hms⟩ : ∃ ms : Nat, ms = lsum ls := ⟨_, rfl⟩
  have HMS : Hid (lsum ls = ms) := hms.symm
  have hq3 : ¬ 1 + 4 * (ms : Int) < 0 := by omega
  clear hms
  go_wp2_with fail
  refine (HTO.out _ b0).mono ?_
  rintro e w1 ⟨u1, us1, rfl, he1, ho1, hb1⟩
  have b1 := b0.trans (hb1.mono b0.size)
  clear b0 hb1
  go_wp2_with fail
  refine (HS.out _ us1 _ ho1.pieces he1).mono ?_
  rintro e w2 ⟨vw, rfl, hw2, hb2⟩
  have b2 := b1.trans (hb2.mono b1.size)
  clear ho1 b1 hb2 he1
  go_wp2_with fail
  refine (HTO.out _ b2).mono ?_
  rintro e w3 ⟨x0, xs, rfl, hxe, hx3, hb3⟩
  have b3 := b2.trans (hb3.mono b2.size)
  have hw3 := hw2.below hb3
  have lw : ∀ k, vw.ownBlock = some k → k < w2.heap.size := ownE_lt hw2
  have s23 := hb3.size
  have s02 := b2.size
  clear hw2 hb3 b2
  go_wp2_with fail
  refine (HI.out _ xs _ hx3.pieces hxe).mono ?_
  rintro e w4 ⟨vg, rfl, hg4, hb4⟩
  have b4 := b3.trans (hb4.mono b3.size)
  have hw4 := hw3.below hb4
  have hx4 := hx3.below hb4
  have lg : ∀ k, vg.ownBlock = some k → w3.heap.size ≤ k := fun k hk => (World.ownsRow.lt hg4 k hk).1
  clear hw3 hx3 hb4 b3
  go_wp2_with fail
  refine (eqEnts_same _ _ ys _ hg4.rd hw4.rd).mono ?_
  rintro e w5 ⟨rfl, hb5⟩
  have b5 := b4.trans (hb5.mono b4.size)
  have hw5 := hw4.below hb5
  have hx5 := hx4.below hb5
  have hg5 := hg4.below hb5
  clear hw4 hx4 hg4 hb5 b4
  go_wp2_with fail
  refine (HTO.out _ b5).mono ?_
  rintro e w6 ⟨u6, us6, rfl, he6, ho6, hb6⟩
  have b6 := b5.trans (hb6.mono b5.size)
  have hw6 := hw5.below hb6
  have hx6 := hx5.below hb6
  have hg6 := hg5.below hb6
  clear hw5 hx5 hg5 hb6 b5
  go_wp2_with fail
  refine (eqLL_same _ _ xs us6 _ hx6.pieces ho6.pieces (by rw [hxe, he6])).mono ?_
  rintro e w7 ⟨rfl, hb7⟩
  have b7 := b6.trans (hb7.mono b6.size)
  have hw7 := hw6.below hb7
  have hx7 := hx6.below hb7
  have hg7 := hg6.below hb7
  have HMK : Hid (Calls _ _ _ _ _) := markLL_any x0 xs w7 _ _ _ hx7 (by rw [hxe]; exact HSUM.out)
  rw [hxe, HMS.out] at HMK
  clear ho6 hw6 hx6 hg6 hb7 b6 he6 hx7
  go_wp2_with fail
  refine HMK.out.mono ?_
  rintro e w8 ⟨rfl, hm8⟩
  have hw8 : OwnE w8 _ vw ys := hm8.ownE hw7 (fun k hk => by have := lw k hk; omega)
  have hg8 : OwnE w8 _ vg ys := hm8.ownE hg7 (fun k hk => by have := lg k hk; omega)
  have b8 : Below w.heap.size w w8 := hm8.below b7 (by omega) b7.size
  clear hw7 hg7 hm8 b7 HMK
  go_wp2_with fail
  refine (eqEnts_same _ _ ys _ hg8.rd hw8.rd).mono ?_
  rintro e w9 ⟨rfl, hb9⟩
  have b9 := b8.trans (hb9.mono b8.size)
  have hw9 := hw8.below hb9
  have hg9 := hg8.below hb9
  clear hw8 hg8 hb9 b8
  go_wp2_with fail
  refine (emark_one vg ys _ _ (by omega) hg9).mono ?_
  rintro e w10 ⟨rfl, hg10, hm10⟩
  have hw10 : OwnE w10 _ vw ys := row_kept hw9 hm10 (fun k hk e => by have := lw k hk; have := lg k e; omega)
  have b10 : Below w.heap.size w w10 := b9.grown hm10 b9.size (fun k hk => by have := lg k hk; omega)
  clear hw9 hg9 hm10 b9
  go_wp2_with fail
  refine (eheld_one vg ys.length _ (by omega) hg10.rd).mono ?_
  rintro e w11 ⟨rfl, hb11⟩
  have b11 := b10.trans (hb11.mono b10.size)
  have hw11 := hw10.below hb11
  have hg11 := hg10.below hb11
  clear hw10 hg10 hb11 b10
  go_wp2_with fail
  refine (HTO.out _ b11).mono ?_
  rintro e w12 ⟨u12, us12, rfl, he12, ho12, hb12⟩
  have b12 := b11.trans (hb12.mono b11.size)
  have hw12 := hw11.below hb12
  have hg12 := hg11.below hb12
  clear hw11 hg11 hb12 b11
  go_wp2_with fail
  refine (HI.out _ us12 _ ho12.pieces he12).mono ?_
  rintro e w13 ⟨vh, rfl, hh13, hb13⟩
  have b13 := b12.trans (hb13.mono b12.size)
  have hw13 := hw12.below hb13
  have hg13 := hg12.below hb13
  clear hw12 hg12 hb13 b12 ho12 he12
  go_wp2_with fail
  refine (eqEnts_same _ _ ys _ hh13.rd hw13.rd).mono ?_
  rintro e w14 ⟨rfl, hb14⟩
  have b14 := b13.trans (hb14.mono b13.size)
  have hg14 := hg13.below hb14
  clear hw13 hg13 hh13 hb14 b13
  go_wp2_with fail
  refine (eheld_one vg ys.length _ (by omega) hg14.rd).mono ?_
  rintro e w15 ⟨rfl, hb15⟩
  have b15 := b14.trans (hb15.mono b14.size)
  clear hg14 hb15 b14
  go_wp2
  go_ret
  exact ⟨rfl, b15⟩
theorem own_fnExactMerged : ownKnob Try.prog.godebug = none := by kernel_rfl
theorem laidOut_fnExactMerged : laidOutB Try.prog = true := by kernel_rfl
set_option maxRecDepth 100000 in
theorem lifted_fnExactMerged (os : Os) (started : os.Started) (H : Type) (enc : TypeId × Value → H) :
    ReturnsInHanded {} Try.checked os 5 .any (Rows.fnExactMergedSpec.pre6 enc Try.prog Try.f5 Rows.fnExactMergedRow.domain false) (Rows.fnExactMergedSpec.post enc Try.prog Try.f5 false true false false) := by
  refine returnsInHanded_of_change (C := Try.checked) own_fnExactMerged started (by kernel_rfl) Try.func5
    (ChangeSpec.witness6 (enc := enc) (C := Try.checked) false ⟨#[], #[.slice none 0 0], []⟩ 8 (by kernel_rfl) (by kernel_rfl) (by kernel_rfl) (by kernel_rfl)) ?_
  intro W base args ds gs before hval0 hW hcnd _
  have hval : ∀ (j : Nat) t v, Try.f5.params[j]? = some t → args[j]? = some v → Value.okWide Try.prog W .any base t v := hval0
  have hW' := hW
  obtain ⟨p, q, hA0, hV, rfl, hfz, hnd⟩ := hW
  have hA : DataW.TrodAll enc Try.prog W 0 (fun _ => true) true Try.f5.params.toList args.toList ds p := hA0
  rw [Try.params5] at hA hval
  obtain ⟨v0, vs0, d0, ds0, p0, q0, hargs, rfl, rfl, h0, r0⟩ := trodAll_cons hA
  obtain ⟨rfl, rfl, rfl⟩ := trodAll_nil r0
  obtain rfl : args = #[v0] := by cases args; simp_all
  obtain ⟨rfl, rfl⟩ := trodVars_none hV
  obtain ⟨a0, len0, cap0, rfl⟩ := okWide_slice Try.underlying40 (hval 0 40 v0 rfl rfl)
  have k0 := h0
  have lt0 : ∀ x ∈ p0, x.block < W.heap.size := by obtain ⟨m, hm⟩ := k0; exact DataW.trod_lt m _ _ _ hm
  obtain ⟨ps0, hr0, hh0⟩ := open_lists k0 ⟨a0, len0, cap0, rfl⟩
  clear hA0 hval0
  refine (lawMerged _ ps0 W hr0 hh0).mono fun e W' ⟨he, bel⟩ => ?_
  subst he
  exact ⟨_, rfl, _, _, _, [], _, [], hW', trodAll_mk1 (shut_bool Try.underlying4 _), (trodAll_cons_mk (Below.trod laidOut_fnExactMerged (by kernel_rfl) (of_decide_eq_true (by kernel_rfl)) k0 bel lt0) trodAll_mk0), rfl, bel.frame _, fun h => by cases h⟩
theorem over_fnExactMerged : Rows.fnExactMergedRow.holds Try.pinned (OpenSpec.ofChange Rows.fnExactMergedSpec) :=
  OpenClaim.holds_of_wide 5 Try.f5 rfl rfl rfl rfl rfl rfl rfl ⟨rfl, rfl, rfl, rfl, rfl⟩ rfl rfl rfl rfl rfl (by kernel_rfl) Try.func5 (by kernel_rfl)
    (of_decide_eq_true (by kernel_rfl)) (by unfold Func.isWrapper; first | (rw [if_pos (by decide +kernel)]; kernel_rfl) | (rw [if_neg (by decide +kernel)]; exact ⟨rfl, rfl⟩))
    (fun os started H enc _ => lifted_fnExactMerged os started H enc)
theorem fnExactMerged_holds : Rows.FnExactMergedSaid := over_fnExactMerged
#print axioms fnExactMerged_holds

end Go.Proofs.Ytihacdfchmobpaa
