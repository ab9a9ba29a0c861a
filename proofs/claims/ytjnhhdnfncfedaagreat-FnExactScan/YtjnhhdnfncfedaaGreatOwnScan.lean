/- Whatever tree, keys and number it is called with, laws.FnExactScan returns true and its arguments read as before: both Scan tell the same, in memory of their own, and what they are handed stays. No condition. -/
import Derived.Test.YtjnhhdnfncfedaaGreatRows
import Derived.Test.YtjnhhdnfncfedaaGreatG43
import Derived.Test.YtjnhhdnfncfedaaGreatTreImpl2
import Derived.ProofKit
import Derived.OpenShut
import Derived.ShutString
import Derived.ChangeOld
namespace Go.Proofs.YtjnhhdnfncfedaaGreat
open Go.ChangeShapes Go.WideShapes Go.ChangeAt Go.RowKit
open Go.ChangeMaps (open_string shut_string)
theorem scanT_len {T : Tre} {a b : ByteArray} {q : Int} : (scanT T a b q).length ≤ 300 := by
  unfold scanT
  split
  · rename_i h
    have h1 := shTo_le (mergedL (lsT T)) q
    have h2 := List.length_filter_le (inR a b) (shTo (mergedL (lsT T)) q (mergedL (lsT T)).length)
    unfold scanL
    omega
  · exact Nat.zero_le _
set_option maxHeartbeats 4000000 in
set_option maxRecDepth 100000 in
theorem lawScan (X : TrX) (fr : ByteArray) (hfr : fr.size ≤ maxLen) (up : ByteArray) (hup : up.size ≤ maxLen) (q : Int) (_ : (Lit.int .i64 q).wf = true) (w : World) (hx : RdTr w X) (hh : HeldTr X) :
    Calls Tryz.prog 4 #[.agg #[X.vm, X.vy, X.vo, .int .i64 X.seq, X.vs], .string fr, .string up, .int .i64 q] w fun e w' => e = .returned (.bool true) ∧ Below w.heap.size w w' := by
  have t0 := treAt_new w X 26
  have b0 := below1 w (.cells #[X.vm, X.vy, X.vo, .int .i64 X.seq, X.vs] 26)
  have HSZ : Hid (Calls _ _ _ _ _) := szTree_any X _ (hx.below b0) hh
  have HFT : Hid (SmallTr X → FitTr X) := fun h => h.fit hh
  obtain ⟨d0, d1, d2, d3, d4⟩ := id t0
  unfold maxLen at hfr hup
  by_cases hkb : 1048576 < fr.size
  · clear HSZ
    go_enter Tryz.func4, Tryz.ntmps4
    go_wp2
    go_ret
    exact ⟨rfl, b0⟩
  by_cases hkc : 1048576 < up.size
  · clear HSZ
    go_enter Tryz.func4, Tryz.ntmps4
    go_wp2
    go_ret
    exact ⟨rfl, b0⟩
  go_enter Tryz.func4, Tryz.ntmps4
  go_wp2_with fail
  refine HSZ.out.mono ?_
  rintro e w1 ⟨hb1, z, rfl, hz⟩
  have t1 := t0.below hb1
  have b1 := b0.trans (hb1.mono b0.size)
  clear HSZ t0 b0 hb1 d0 d1 d2 d3 d4
  rcases hz with hz | ⟨hz0, hsm⟩
  · go_wp2
    go_ret
    exact ⟨rfl, b1⟩
  have HTO : Hid (∀ W, RdTr W X → Calls Tryz.prog 9 #[.agg #[X.vm, X.vy, X.vo, .int .i64 X.seq, X.vs]] W fun e w' => ToTr W X e w') := fun W h => toTree_any X W h hsm
  have HSP : Hid (∀ Y W, RdTr W Y → Y.tre = X.tre → FitTr Y → Calls Tryz.prog 12 #[.agg #[Y.vm, Y.vy, Y.vo, .int .i64 Y.seq, Y.vs], .string fr, .string up, .int .i64 q] W fun e w' => RowPost W (scanT X.tre fr up q) e w') := fun Y W h he hf => by rw [← he]; exact specScan_any Y fr up q W h hf
  have HIM : Hid (∀ Y W, RdTr W Y → Y.tre = X.tre → FitTr Y → Calls Tryz.prog 13 #[.agg #[Y.vm, Y.vy, Y.vo, .int .i64 Y.seq, Y.vs], .string fr, .string up, .int .i64 q] W fun e w' => RowPost W (scanT X.tre fr up q) e w') := fun Y W h he hf => by rw [← he]; exact implScan_any Y fr up q W h hf
  have HF : Hid (∀ Y : TrX, Y.tre = X.tre → FitTr Y) := fun Y he => fit_same he (HFT.out hsm)
  have HRM : Hid (∀ Y : TrX, Y.tre = X.tre → Room 1 Y) := fun Y he => (small_same he hsm).room
  have hyl : (scanT X.tre fr up q).length ≤ 300 := scanT_len
  generalize scanT X.tre fr up q = ys at HSP HIM hyl
  have hq1 : ¬ 1 + 4 * (ys.length : Int) < 0 := by omega
  have hq2 : (1 + 4 * (ys.length : Int) != 1 + 4 * (ys.length : Int)) = false := by simp
  obtain ⟨d0, d1, d2, d3, d4⟩ := id t1
  clear hsm HFT hh
  go_wp2_with fail
  refine (HTO.out _ (hx.below b1)).mono ?_
  rintro e w2 ⟨Y2, rfl, he2, ho2, hb2⟩
  have t2 := t1.below hb2
  have b2 := b1.trans (hb2.mono b1.size)
  have f2 := HF.out Y2 he2
  clear t1 hb2 d0 d1 d2 d3 d4 b1
  go_wp2_with fail
  refine (HSP.out Y2 _ ho2.rd he2 f2).mono ?_
  rintro e w3 ⟨vw, rfl, hw3, hb3⟩
  have t3 := t2.below hb3
  have b3 := b2.trans (hb3.mono b2.size)
  clear t2 hb3 ho2 he2 f2 b2
  obtain ⟨d0, d1, d2, d3, d4⟩ := id t3
  go_wp2_with fail
  refine (HTO.out _ (hx.below b3)).mono ?_
  rintro e w4 ⟨Y4, rfl, he4, ho4, hb4⟩
  have t4 := t3.below hb4
  have b4 := b3.trans (hb4.mono b3.size)
  have f4 := HF.out Y4 he4
  have rm4 : Hid (Room 1 Y4) := HRM.out Y4 he4
  have UB : Hid (∀ k ∈ trB Y4, w3.heap.size ≤ k ∧ k < w4.heap.size) := fun k hk => ho4.bound hk
  have hw4 := hw3.below hb4
  have lw : ∀ k, vw.ownBlock = some k → k < w3.heap.size := ownE_lt hw3
  have s3 := b3.size
  have s3b := t3.lt
  have s34 := hb4.size
  obtain ⟨am, ay, ao, an, mn, yn, on, nn, cm, cy, co, cn, v0, v1, v2, v3⟩ := ho4.rd.slices
  obtain ⟨vm4, vy4, vo4, vs4, mem4, ys4, os4, seq4, snaps4⟩ := Y4
  simp only at v0 v1 v2 v3
  subst v0
  subst v1
  subst v2
  subst v3
  clear t3 hb4 d0 d1 d2 d3 d4 b3 hw3
  have x5 := treAt_new w4 ⟨.slice am mn cm, .slice ay yn cy, .slice ao on co, .slice an nn cn, mem4, ys4, os4, seq4, snaps4⟩ 33
  have bb5 := below1 w4 (.cells #[.slice am mn cm, .slice ay yn cy, .slice ao on co, .int .i64 seq4, .slice an nn cn] 33)
  simp only at x5
  have t5 := t4.below bb5
  have b5 := b4.trans (bb5.mono b4.size)
  have ho5 := ho4.below bb5
  have hw5 := hw4.below bb5
  have s45 := bb5.size
  obtain ⟨p0, p1, p2, p3, p4⟩ := id x5
  simp only at p0 p1 p2 p3 p4
  clear t4 b4 ho4 bb5 hw4
  go_wp2_with fail
  generalize w4.alloc (.cells #[.slice am mn cm, .slice ay yn cy, .slice ao on co, .int .i64 seq4, .slice an nn cn] 33) = W5 at x5 t5 b5 ho5 hw5 s45 p0 p1 p2 p3 p4 ⊢
  refine (HIM.out ⟨.slice am mn cm, .slice ay yn cy, .slice ao on co, .slice an nn cn, mem4, ys4, os4, seq4, snaps4⟩ _ ho5.rd he4 f4).mono ?_
  rintro e wg ⟨vg, rfl, hg6, hb6⟩
  have x6 := x5.below hb6
  have t6 := t5.below hb6
  have b6 := b5.trans (hb6.mono b5.size)
  have ho6 := ho5.below hb6
  have hw6 := hw5.below hb6
  have lg : ∀ k, vg.ownBlock = some k → w4.heap.size ≤ k := fun k hk => Nat.le_trans s45 (World.ownsRow.lt hg6 k hk).1
  clear x5 t5 b5 ho5 hw5 hb6 p0 p1 p2 p3 p4
  go_wp2_with fail
  refine (eqEnts_same _ _ ys _ hg6.rd hw6.rd).mono ?_
  rintro e w6 ⟨rfl, hbq⟩
  replace x6 := x6.below hbq
  replace t6 := t6.below hbq
  replace b6 := b6.trans (hbq.mono b6.size)
  replace ho6 := ho6.below hbq
  replace hw6 := hw6.below hbq
  replace hg6 := hg6.below hbq
  clear hbq
  go_wp2_with fail
  refine wp_region_noPanic ?_
  refine wp_region_held_drew (S := fun w' => (w'.cell? ⟨w4.heap.size, 0, none⟩ = some (.slice am mn cm) ∧ w'.cell? ⟨w4.heap.size, 1, none⟩ = some (.slice ay yn cy) ∧ w'.cell? ⟨w4.heap.size, 2, none⟩ = some (.slice ao on co) ∧ w'.cell? ⟨w4.heap.size, 3, none⟩ = some (.int .i64 seq4) ∧ w'.cell? ⟨w4.heap.size, 4, none⟩ = some (.slice an nn cn)) ∧ w'.cell? ⟨w.heap.size, 0, none⟩ = some X.vm ∧ w'.cell? ⟨w.heap.size, 1, none⟩ = some X.vy ∧ w'.cell? ⟨w.heap.size, 2, none⟩ = some X.vo ∧ w'.cell? ⟨w.heap.size, 3, none⟩ = some (.int .i64 X.seq) ∧ w'.cell? ⟨w.heap.size, 4, none⟩ = some X.vs) (by kernel_rfl) ⟨x6, t6⟩ (fun hH => ?_)
  have qb := b6.drew
  have qo := ho6.below ((Below.refl _ w6).drew)
  have qw := hw6.below ((Below.refl _ w6).drew)
  have qg := hg6.below ((Below.refl _ w6).drew)
  clear x6 t6 b6 ho6 hw6 hg6
  revert qg
  revert qw
  revert qo
  revert qb
  revert hH
  generalize w6.drew = W7
  intro hH qb qo qw qg
  refine tkA 0 45 hH ?_
  try simp only [Act.put, List.setIfInBounds_toArray, List.set_cons_zero, List.set_cons_succ]
  refine tkA 1 46 hH ?_
  try simp only [Act.put, List.setIfInBounds_toArray, List.set_cons_zero, List.set_cons_succ]
  refine wpAnyH_ready (rs := [2]) (by kernel_rfl) (by simp) ?_
  refine AllReadyH.cons rfl (fun K hK => ?_) AllReadyH.nil
  go_simp
  refine (HTO.out _ (hx.below qb)).mono ?_
  rintro e w8 ⟨Y8, rfl, he8, ho8, hb8⟩
  have hx8 : TreAt w8 w4.heap.size ⟨.slice am mn cm, .slice ay yn cy, .slice ao on co, .slice an nn cn, mem4, ys4, os4, seq4, snaps4⟩ := TreAt.below (w := W7) hH.1 hb8
  have ht8 : TreAt w8 w.heap.size X := TreAt.below (w := W7) hH.2 hb8
  replace qb := qb.trans (hb8.mono qb.size)
  replace qo := qo.below hb8
  replace qw := qw.below hb8
  replace qg := qg.below hb8
  refine hK.out _ _ ⟨hx8, ht8⟩ (fun h8 => ?_)
  clear hK K hH hb8
  try simp only [Act.put, List.setIfInBounds_toArray, List.set_cons_zero, List.set_cons_succ]
  refine wpAnyH_ready (rs := [3]) (by kernel_rfl) (by simp) ?_
  refine AllReadyH.cons rfl (fun K hK => ?_) AllReadyH.nil
  go_simp
  refine (eqTree_same ⟨.slice am mn cm, .slice ay yn cy, .slice ao on co, .slice an nn cn, mem4, ys4, os4, seq4, snaps4⟩ Y8 _ qo.rd ho8.rd (by rw [he4, he8])).mono ?_
  rintro e w9 ⟨rfl, hb9⟩
  have qb9 := qb.trans (hb9.mono qb.size)
  have qo9 := qo.below hb9
  have qw9 := qw.below hb9
  have qg9 := qg.below hb9
  have hx9 := hx8.below hb9
  have ht9 := ht8.below hb9
  refine hK.out _ _ ⟨hx8.below hb9, ht8.below hb9⟩ (fun h9 => ?_)
  clear hK K h8 hx8 ht8
  try simp only [Act.put, List.setIfInBounds_toArray, List.set_cons_zero, List.set_cons_succ]
  refine tkA 4 49 h9 ?_
  try simp only [Act.put, List.setIfInBounds_toArray, List.set_cons_zero, List.set_cons_succ]
  refine wpAnyH_done (by kernel_rfl) ?_ _
  refine NoPanic.normal ?_
  clear h9 ho8 he8 qb qo qw qg hb9
  obtain ⟨y0, y1, y2, y3, y4⟩ := id hx9
  simp only at y0 y1 y2 y3 y4
  go_wp2_with fail
  refine (markTree_any ⟨.slice am mn cm, .slice ay yn cy, .slice ao on co, .slice an nn cn, mem4, ys4, os4, seq4, snaps4⟩ _ 1 _ qo9 (by omega) rm4.out).mono ?_
  rintro e w10 ⟨rfl, -, hto⟩
  have hw10 : OwnE w10 _ vw ys := hto.row qw9 (fun k hk e => by have := lw k hk; have := UB.out k e; omega)
  have hg10 : OwnE w10 _ vg ys := hto.row qg9 (fun k hk e => by have := lg k hk; have := UB.out k e; omega)
  have b10 : Below w.heap.size w w10 := hto.below qb9 (fun k hk => by have := UB.out k hk; omega)
  have t10 : TreAt w10 w.heap.size X := hto.tre ht9 (fun e => by have := UB.out _ e; omega)
  have hq3 : ¬ ((1 + cntTr ⟨.slice am mn cm, .slice ay yn cy, .slice ao on co, .slice an nn cn, mem4, ys4, os4, seq4, snaps4⟩ : Nat) : Int) < 0 := by omega
  generalize (1 + cntTr ⟨.slice am mn cm, .slice ay yn cy, .slice ao on co, .slice an nn cn, mem4, ys4, os4, seq4, snaps4⟩ : Nat) = kk at hq3 ⊢
  clear hto y0 y1 y2 y3 y4 qo9 qw9 qg9 qb9 hx9 ht9
  go_wp2_with fail
  refine (eqEnts_same _ _ ys _ hg10.rd hw10.rd).mono ?_
  rintro e w11 ⟨rfl, hb11⟩
  have b11 := b10.trans (hb11.mono b10.size)
  have t11 := t10.below hb11
  have hw11 := hw10.below hb11
  have hg11 := hg10.below hb11
  clear hw10 hg10 hb11 b10
  go_wp2_with fail
  refine (emark_one vg ys _ _ (by omega) hg11).mono ?_
  rintro e w12 ⟨rfl, hg12, hm12⟩
  have t12 : TreAt w12 w.heap.size X := t11.of_block (hm12.block _ t11.lt (fun e => by have := lg _ e.symm; omega))
  have hw12 : OwnE w12 _ vw ys := row_kept hw11 hm12 (fun k hk e => by have := lw k hk; have := lg k e; omega)
  have b12 : Below w.heap.size w w12 := b11.grown hm12 b11.size (fun k hk => by have := lg k hk; omega)
  clear hw11 hg11 hm12 b11
  go_wp2_with fail
  refine (eheld_one vg ys.length _ (by omega) hg12.rd).mono ?_
  rintro e w13 ⟨rfl, hb13⟩
  have b13 := b12.trans (hb13.mono b12.size)
  have t13 := t12.below hb13
  have hw13 := hw12.below hb13
  have hg13 := hg12.below hb13
  clear hw12 hg12 hb13 b12
  obtain ⟨d0, d1, d2, d3, d4⟩ := id t13
  go_wp2_with fail
  refine (HTO.out _ (hx.below b13)).mono ?_
  rintro e w14 ⟨Y14, rfl, he14, ho14, hb14⟩
  have b14 := b13.trans (hb14.mono b13.size)
  have hw14 := hw13.below hb14
  have hg14 := hg13.below hb14
  have f14 := HF.out Y14 he14
  clear hw13 hg13 hb14 b13 d0 d1 d2 d3 d4 t13
  go_wp2_with fail
  refine (HIM.out Y14 _ ho14.rd he14 f14).mono ?_
  rintro e w15 ⟨vh, rfl, hh15, hb15⟩
  have b15 := b14.trans (hb15.mono b14.size)
  have hw15 := hw14.below hb15
  have hg15 := hg14.below hb15
  clear hw14 hg14 hb15 b14 ho14
  go_wp2_with fail
  refine (eqEnts_same _ _ ys _ hh15.rd hw15.rd).mono ?_
  rintro e w16 ⟨rfl, hb16⟩
  have b16 := b15.trans (hb16.mono b15.size)
  have hg16 := hg15.below hb16
  clear hw15 hg15 hh15 hb16 b15
  go_wp2_with fail
  refine (eheld_one vg ys.length _ (by omega) hg16.rd).mono ?_
  rintro e w17 ⟨rfl, hb17⟩
  have b17 := b16.trans (hb17.mono b16.size)
  clear hg16 hb17 b16
  go_wp2
  go_ret
  exact ⟨rfl, b17⟩
theorem own_fnExactScan : ownKnob Tryz.prog.godebug = none := by kernel_rfl
theorem laidOut_fnExactScan : laidOutB Tryz.prog = true := by kernel_rfl
set_option maxRecDepth 100000 in
theorem lifted_fnExactScan (os : Os) (started : os.Started) (H : Type) (enc : TypeId × Value → H) :
    ReturnsInHanded {} Tryz.checked os 4 .any (Rows.fnExactScanSpec.pre6 enc Tryz.prog Tryz.f4 Rows.fnExactScanRow.domain false) (Rows.fnExactScanSpec.post enc Tryz.prog Tryz.f4 false true false false) := by
  refine returnsInHanded_of_change (C := Tryz.checked) own_fnExactScan started (by kernel_rfl) Tryz.func4
    (ChangeSpec.witness6 (enc := enc) (C := Tryz.checked) false ⟨#[], #[.agg #[.slice none 0 0, .slice none 0 0, .slice none 0 0, .int .i64 0, .slice none 0 0], .string ByteArray.empty, .string ByteArray.empty, .int .i64 0], []⟩ 8 (by kernel_rfl) (by kernel_rfl) (by kernel_rfl) (by kernel_rfl)) ?_
  intro W base args ds gs before hval0 hW hcnd _
  have hval : ∀ (j : Nat) t v, Tryz.f4.params[j]? = some t → args[j]? = some v → Value.okWide Tryz.prog W .any base t v := hval0
  have hW' := hW
  obtain ⟨p, q, hA0, hV, rfl, hfz, hnd⟩ := hW
  have hA : DataW.TrodAll enc Tryz.prog W 0 (fun _ => true) true Tryz.f4.params.toList args.toList ds p := hA0
  rw [Tryz.params4] at hA hval
  obtain ⟨v0, vs0, d0, ds0, p0, q0, hargs, rfl, rfl, h0, r0⟩ := trodAll_cons hA
  obtain ⟨v1, vs1, d1, ds1, p1, q1, rfl, rfl, rfl, h1, r1⟩ := trodAll_cons r0
  obtain ⟨v2, vs2, d2, ds2, p2, q2, rfl, rfl, rfl, h2, r2⟩ := trodAll_cons r1
  obtain ⟨v3, vs3, d3, ds3, p3, q3, rfl, rfl, rfl, h3, r3⟩ := trodAll_cons r2
  obtain ⟨rfl, rfl, rfl⟩ := trodAll_nil r3
  obtain rfl : args = #[v0, v1, v2, v3] := by cases args; simp_all
  obtain ⟨rfl, rfl⟩ := trodVars_none hV
  obtain ⟨c0, rfl, _⟩ := okWide_struct Tryz.underlying26 (hval 0 26 v0 rfl rfl)
  have k0 := h0
  have lt0 : ∀ x ∈ p0, x.block < W.heap.size := by obtain ⟨m, hm⟩ := k0; exact DataW.trod_lt m _ _ _ hm
  obtain ⟨X0, hc0, hx0, hh0⟩ : ∃ X : TrX, (Value.agg c0).cells.toList = [X.vm, X.vy, X.vo, .int .i64 X.seq, X.vs] ∧ RdTr W X ∧ HeldTr X := by obtain ⟨m, hm⟩ := h0; exact open_tree hm
  obtain rfl : c0 = #[X0.vm, X0.vy, X0.vo, .int .i64 X0.seq, X0.vs] := by have h := congrArg List.toArray hc0; simp only [Value.cells, Array.toArray_toList] at h; exact h
  obtain ⟨a1, rfl, rfl, rfl, w1⟩ := open_string Tryz.underlying9 (hval 1 9 v1 rfl rfl) h1
  obtain ⟨a2, rfl, rfl, rfl, w2⟩ := open_string Tryz.underlying9 (hval 2 9 v2 rfl rfl) h2
  obtain ⟨a3, rfl, rfl, rfl, w3⟩ := open_int Tryz.underlying2 (hval 3 2 v3 rfl rfl) h3
  clear hA0 hval0
  refine (lawScan X0 a1 w1 a2 w2 a3 w3 W hx0 hh0).mono fun e W' ⟨he, bel⟩ => ?_
  subst he
  exact ⟨_, rfl, _, _, _, [], _, [], hW', trodAll_mk1 (shut_bool Tryz.underlying4 _), (trodAll_cons_mk (Below.trod laidOut_fnExactScan (by kernel_rfl) (of_decide_eq_true (by kernel_rfl)) k0 bel lt0) (trodAll_cons_mk (shut_string Tryz.underlying9 w1) (trodAll_cons_mk (shut_string Tryz.underlying9 w2) (trodAll_cons_mk (shut_int Tryz.underlying2 w3) trodAll_mk0)))), rfl, bel.frame _, fun h => by cases h⟩
theorem over_fnExactScan : Rows.fnExactScanRow.holds Tryz.pinned (OpenSpec.ofChange Rows.fnExactScanSpec) :=
  OpenClaim.holds_of_wide 4 Tryz.f4 rfl rfl rfl rfl rfl rfl rfl ⟨rfl, rfl, rfl, rfl, rfl⟩ rfl rfl rfl rfl rfl (by kernel_rfl) Tryz.func4 (by kernel_rfl)
    (of_decide_eq_true (by kernel_rfl)) (by unfold Func.isWrapper; first | (rw [if_pos (by decide +kernel)]; kernel_rfl) | (rw [if_neg (by decide +kernel)]; exact ⟨rfl, rfl⟩))
    (fun os started H enc _ => lifted_fnExactScan os started H enc)
theorem fnExactScan_holds : Rows.FnExactScanSaid := over_fnExactScan
#print axioms fnExactScan_holds

end Go.Proofs.YtjnhhdnfncfedaaGreat
