/- Whatever tree it is called with, laws.FnExactTreeOk returns true and its argument reads as before: both TreeOk tell the same, and what they are handed stays. No condition. -/
import Derived.Test.YtjnhhdnfncfedaaRows
import Derived.Test.YtjnhhdnfncfedaaG42
import Derived.Test.YtjnhhdnfncfedaaG53
import Derived.ProofKit
import Derived.OpenShut
import Derived.ShutString
import Derived.ChangeOld
namespace Go.Proofs.Ytjnhhdnfncfedaa
open Go.ChangeShapes Go.WideShapes Go.ChangeAt Go.RowKit
set_option maxHeartbeats 4000000 in
set_option maxRecDepth 100000 in
theorem lawTreeOk (X : TrX) (w : World) (hx : RdTr w X) (hh : HeldTr X) :
    Calls Try.prog 3 #[.agg #[X.vm, X.vy, X.vo, .int .i64 X.seq, X.vs]] w fun e w' => e = .returned (.bool true) ∧ Below w.heap.size w w' := by
  have t0 := treAt_new w X 26
  have b0 := below1 w (.cells #[X.vm, X.vy, X.vo, .int .i64 X.seq, X.vs] 26)
  have HSZ : Hid (Calls _ _ _ _ _) := szTree_any X _ (hx.below b0) hh
  have HFT : Hid (SmallTr X → FitTr X) := fun h => h.fit hh
  obtain ⟨d0, d1, d2, d3, d4⟩ := id t0
  go_enter Try.func3, Try.ntmps3
  go_wp2_with fail
  refine HSZ.out.mono ?_
  rintro e w1 ⟨hb1, z, rfl, hz⟩
  have t1 := t0.below hb1
  have b1 := b0.trans (hb1.mono b0.size)
  clear HSZ t0 b0 hb1 d0 d1 d2 d3 d4
  rcases hz with hz | ⟨hz0, hsm⟩
  · go_wp2
    go_ret
    exact ⟨rfl, b1⟩
  have HTO : Hid (∀ W, RdTr W X → Calls Try.prog 6 #[.agg #[X.vm, X.vy, X.vo, .int .i64 X.seq, X.vs]] W fun e w' => ToTr W X e w') := fun W h => toTree_any X W h hsm
  have HSP : Hid (∀ Y W, RdTr W Y → Y.tre = X.tre → FitTr Y → Calls Try.prog 5 #[.agg #[Y.vm, Y.vy, Y.vo, .int .i64 Y.seq, Y.vs]] W fun e w' => e = .returned (.bool (treeOk X.tre)) ∧ Below W.heap.size W w') := fun Y W h he hf => by rw [← he]; exact specTreeOk_any Y W h hf
  have HIM : Hid (∀ Y W, RdTr W Y → Y.tre = X.tre → FitTr Y → Calls Try.prog 7 #[.agg #[Y.vm, Y.vy, Y.vo, .int .i64 Y.seq, Y.vs]] W fun e w' => e = .returned (.bool (treeOk X.tre)) ∧ Below W.heap.size W w') := fun Y W h he hf => by rw [← he]; exact implTreeOk_any Y W h hf
  have HF : Hid (∀ Y : TrX, Y.tre = X.tre → FitTr Y) := fun Y he => fit_same he (HFT.out hsm)
  generalize treeOk X.tre = ok at HSP HIM
  have hok : (ok != ok) = false := by cases ok <;> rfl
  obtain ⟨d0, d1, d2, d3, d4⟩ := id t1
  clear hsm HFT hh
  go_wp2_with fail
  refine (HTO.out _ (hx.below b1)).mono ?_
  rintro e w2 ⟨Y2, rfl, he2, ho2, hb2⟩
  have t2 := t1.below hb2
  have b2 := b1.trans (hb2.mono b1.size)
  have f2 := HF.out Y2 he2
  clear t1 hb2 d0 d1 d2 d3 d4 b1
  go_wp2_with fail
  refine (HSP.out Y2 _ ho2.rd he2 f2).mono ?_
  rintro e w3 ⟨rfl, hb3⟩
  have t3 := t2.below hb3
  have b3 := b2.trans (hb3.mono b2.size)
  clear t2 hb3 ho2 he2 f2 b2
  obtain ⟨d0, d1, d2, d3, d4⟩ := id t3
  go_wp2_with fail
  refine (HTO.out _ (hx.below b3)).mono ?_
  rintro e w4 ⟨Y4, rfl, he4, ho4, hb4⟩
  have t4 := t3.below hb4
  have b4 := b3.trans (hb4.mono b3.size)
  have f4 := HF.out Y4 he4
  obtain ⟨am, ay, ao, an, mn, yn, on, nn, cm, cy, co, cn, v0, v1, v2, v3⟩ := ho4.rd.slices
  obtain ⟨vm4, vy4, vo4, vs4, mem4, ys4, os4, seq4, snaps4⟩ := Y4
  simp only at v0 v1 v2 v3
  subst v0
  subst v1
  subst v2
  subst v3
  clear t3 hb4 d0 d1 d2 d3 d4 b3
  have x5 := treAt_new w4 ⟨.slice am mn cm, .slice ay yn cy, .slice ao on co, .slice an nn cn, mem4, ys4, os4, seq4, snaps4⟩ 32
  have bb5 := below1 w4 (.cells #[.slice am mn cm, .slice ay yn cy, .slice ao on co, .int .i64 seq4, .slice an nn cn] 32)
  simp only at x5
  have t5 := t4.below bb5
  have b5 := b4.trans (bb5.mono b4.size)
  have ho5 := ho4.below bb5
  obtain ⟨p0, p1, p2, p3, p4⟩ := id x5
  simp only at p0 p1 p2 p3 p4
  clear t4 b4 ho4 bb5
  go_wp2_with fail
  generalize w4.alloc (.cells #[.slice am mn cm, .slice ay yn cy, .slice ao on co, .int .i64 seq4, .slice an nn cn] 32) = W5 at x5 t5 b5 ho5 p0 p1 p2 p3 p4 ⊢
  refine (HIM.out ⟨.slice am mn cm, .slice ay yn cy, .slice ao on co, .slice an nn cn, mem4, ys4, os4, seq4, snaps4⟩ _ ho5.rd he4 f4).mono ?_
  rintro e w6 ⟨rfl, hb6⟩
  have x6 := x5.below hb6
  have t6 := t5.below hb6
  have b6 := b5.trans (hb6.mono b5.size)
  have ho6 := ho5.below hb6
  clear x5 t5 b5 ho5 p0 p1 p2 p3 p4
  go_wp2_with fail
  refine wp_region_noPanic ?_
  refine wp_region_held_drew (S := fun w' => (w'.cell? ⟨w4.heap.size, 0, none⟩ = some (.slice am mn cm) ∧ w'.cell? ⟨w4.heap.size, 1, none⟩ = some (.slice ay yn cy) ∧ w'.cell? ⟨w4.heap.size, 2, none⟩ = some (.slice ao on co) ∧ w'.cell? ⟨w4.heap.size, 3, none⟩ = some (.int .i64 seq4) ∧ w'.cell? ⟨w4.heap.size, 4, none⟩ = some (.slice an nn cn)) ∧ w'.cell? ⟨w.heap.size, 0, none⟩ = some X.vm ∧ w'.cell? ⟨w.heap.size, 1, none⟩ = some X.vy ∧ w'.cell? ⟨w.heap.size, 2, none⟩ = some X.vo ∧ w'.cell? ⟨w.heap.size, 3, none⟩ = some (.int .i64 X.seq) ∧ w'.cell? ⟨w.heap.size, 4, none⟩ = some X.vs) (by kernel_rfl) ⟨x6, t6⟩ (fun hH => ?_)
  have qb := b6.drew
  have qo := ho6.below ((Below.refl _ w6).drew)
  clear x6 t6 b6 ho6
  revert qo
  revert qb
  revert hH
  generalize w6.drew = W7
  intro hH qb qo
  refine takeH (i := 0) (d := 22) (v := ?_) rfl rfl (by kernel_rfl) (by kernel_rfl) (by kernel_rfl) (fun _ _ _ h => h) (Or.inl ⟨by kernel_rfl, ?_⟩) hH ?_
  rotate_left 1
  · intro w hS; (try dsimp only [EntAt, Nat.zero_add] at hS); go_simp; (try with_reducible rfl)
  try simp only [Act.put, List.setIfInBounds_toArray, List.set_cons_zero, List.set_cons_succ]
  refine takeH (i := 1) (d := 23) (v := ?_) rfl rfl (by kernel_rfl) (by kernel_rfl) (by kernel_rfl) (fun _ _ _ h => h) (Or.inl ⟨by kernel_rfl, ?_⟩) hH ?_
  rotate_left 1
  · intro w hS; (try dsimp only [EntAt, Nat.zero_add] at hS); go_simp; (try with_reducible rfl)
  try simp only [Act.put, List.setIfInBounds_toArray, List.set_cons_zero, List.set_cons_succ]
  refine wpAnyH_ready (rs := [2]) (by kernel_rfl) (by simp) ?_
  refine AllReadyH.cons rfl (fun K hK => ?_) AllReadyH.nil
  go_simp
  refine (HTO.out _ (hx.below qb)).mono ?_
  rintro e w8 ⟨Y8, rfl, he8, ho8, hb8⟩
  have hx8 : TreAt w8 w4.heap.size ⟨.slice am mn cm, .slice ay yn cy, .slice ao on co, .slice an nn cn, mem4, ys4, os4, seq4, snaps4⟩ := TreAt.below (w := W7) hH.1 hb8
  have ht8 : TreAt w8 w.heap.size X := TreAt.below (w := W7) hH.2 hb8
  replace qb := qb.trans (hb8.mono qb.size)
  replace qo := qo.below hb8
  refine hK.out _ _ ⟨hx8, ht8⟩ (fun h8 => ?_)
  clear hK K hH hb8
  try simp only [Act.put, List.setIfInBounds_toArray, List.set_cons_zero, List.set_cons_succ]
  refine wpAnyH_ready (rs := [3]) (by kernel_rfl) (by simp) ?_
  refine AllReadyH.cons rfl (fun K hK => ?_) AllReadyH.nil
  go_simp
  refine (eqTree_same ⟨.slice am mn cm, .slice ay yn cy, .slice ao on co, .slice an nn cn, mem4, ys4, os4, seq4, snaps4⟩ Y8 _ qo.rd ho8.rd (by rw [he4, he8])).mono ?_
  rintro e w9 ⟨rfl, hb9⟩
  have qb9 := qb.trans (hb9.mono qb.size)
  refine hK.out _ _ ⟨hx8.below hb9, ht8.below hb9⟩ (fun h9 => ?_)
  clear hK K h8 hx8 ht8
  try simp only [Act.put, List.setIfInBounds_toArray, List.set_cons_zero, List.set_cons_succ]
  refine takeH (i := 4) (d := 26) (v := ?_) rfl rfl (by kernel_rfl) (by kernel_rfl) (by kernel_rfl) (fun _ _ _ h => h) (Or.inl ⟨by kernel_rfl, ?_⟩) h9 ?_
  rotate_left 1
  · intro w hS; (try dsimp only [EntAt, Nat.zero_add] at hS); go_simp; (try with_reducible rfl)
  try simp only [Act.put, List.setIfInBounds_toArray, List.set_cons_zero, List.set_cons_succ]
  refine wpAnyH_done (by kernel_rfl) ?_ _
  refine NoPanic.normal ?_
  go_wp2
  go_ret
  exact ⟨rfl, qb9⟩
theorem own_fnExactTreeOk : ownKnob Try.prog.godebug = none := by kernel_rfl
theorem laidOut_fnExactTreeOk : laidOutB Try.prog = true := by kernel_rfl
set_option maxRecDepth 100000 in
theorem lifted_fnExactTreeOk (os : Os) (started : os.Started) (H : Type) (enc : TypeId × Value → H) :
    ReturnsInHanded {} Try.checked os 3 .any (Rows.fnExactTreeOkSpec.pre6 enc Try.prog Try.f3 Rows.fnExactTreeOkRow.domain false) (Rows.fnExactTreeOkSpec.post enc Try.prog Try.f3 false true false false) := by
  refine returnsInHanded_of_change (C := Try.checked) own_fnExactTreeOk started (by kernel_rfl) Try.func3
    (ChangeSpec.witness6 (enc := enc) (C := Try.checked) false ⟨#[], #[.agg #[.slice none 0 0, .slice none 0 0, .slice none 0 0, .int .i64 0, .slice none 0 0]], []⟩ 8 (by kernel_rfl) (by kernel_rfl) (by kernel_rfl) (by kernel_rfl)) ?_
  intro W base args ds gs before hval0 hW hcnd _
  have hval : ∀ (j : Nat) t v, Try.f3.params[j]? = some t → args[j]? = some v → Value.okWide Try.prog W .any base t v := hval0
  have hW' := hW
  obtain ⟨p, q, hA0, hV, rfl, hfz, hnd⟩ := hW
  have hA : DataW.TrodAll enc Try.prog W 0 (fun _ => true) true Try.f3.params.toList args.toList ds p := hA0
  rw [Try.params3] at hA hval
  obtain ⟨v0, vs0, d0, ds0, p0, q0, hargs, rfl, rfl, h0, r0⟩ := trodAll_cons hA
  obtain ⟨rfl, rfl, rfl⟩ := trodAll_nil r0
  obtain rfl : args = #[v0] := by cases args; simp_all
  obtain ⟨rfl, rfl⟩ := trodVars_none hV
  obtain ⟨c0, rfl, _⟩ := okWide_struct Try.underlying26 (hval 0 26 v0 rfl rfl)
  have k0 := h0
  have lt0 : ∀ x ∈ p0, x.block < W.heap.size := by obtain ⟨m, hm⟩ := k0; exact DataW.trod_lt m _ _ _ hm
  obtain ⟨X0, hc0, hx0, hh0⟩ : ∃ X : TrX, (Value.agg c0).cells.toList = [X.vm, X.vy, X.vo, .int .i64 X.seq, X.vs] ∧ RdTr W X ∧ HeldTr X := by obtain ⟨m, hm⟩ := h0; exact open_tree hm
  obtain rfl : c0 = #[X0.vm, X0.vy, X0.vo, .int .i64 X0.seq, X0.vs] := by have h := congrArg List.toArray hc0; simp only [Value.cells, Array.toArray_toList] at h; exact h
  clear hA0 hval0
  refine (lawTreeOk X0 W hx0 hh0).mono fun e W' ⟨he, bel⟩ => ?_
  subst he
  exact ⟨_, rfl, _, _, _, [], _, [], hW', trodAll_mk1 (shut_bool Try.underlying4 _), (trodAll_cons_mk (Below.trod laidOut_fnExactTreeOk (by kernel_rfl) (of_decide_eq_true (by kernel_rfl)) k0 bel lt0) trodAll_mk0), rfl, bel.frame _, fun h => by cases h⟩
theorem over_fnExactTreeOk : Rows.fnExactTreeOkRow.holds Try.pinned (OpenSpec.ofChange Rows.fnExactTreeOkSpec) :=
  OpenClaim.holds_of_wide 3 Try.f3 rfl rfl rfl rfl rfl rfl rfl ⟨rfl, rfl, rfl, rfl, rfl⟩ rfl rfl rfl rfl rfl (by kernel_rfl) Try.func3 (by kernel_rfl)
    (of_decide_eq_true (by kernel_rfl)) (by unfold Func.isWrapper; first | (rw [if_pos (by decide +kernel)]; kernel_rfl) | (rw [if_neg (by decide +kernel)]; exact ⟨rfl, rfl⟩))
    (fun os started H enc _ => lifted_fnExactTreeOk os started H enc)
theorem fnExactTreeOk_holds : Rows.FnExactTreeOkSaid := over_fnExactTreeOk
#print axioms fnExactTreeOk_holds

end Go.Proofs.Ytjnhhdnfncfedaa
