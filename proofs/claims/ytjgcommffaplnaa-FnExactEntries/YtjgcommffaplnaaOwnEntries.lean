/- Whatever table it is called with, laws.FnExactEntries returns true and its argument reads as before: both Entries tell the same, in memory of their own, and what they are handed stays. No condition. -/
import Derived.Test.YtjgcommffaplnaaRows
import Derived.Test.YtjgcommffaplnaaTabCp
import Derived.Test.YtjgcommffaplnaaTabOpen
import Derived.Test.YtjgcommffaplnaaTabImpl
import Derived.Test.YtjgcommffaplnaaEntCp
import Derived.Test.YtjgcommffaplnaaEntMark
import Derived.ProofKit
import Derived.OpenShut
import Derived.ShutString
import Derived.ChangeOld
namespace Go.Proofs.Ytjgcommffaplnaa
open Go.ChangeShapes Go.WideShapes Go.ChangeAt Go.RowKit
open Go.ChangeMaps (open_string shut_string)
theorem entriesL_len (T : Tbl) : (entriesL T).length ≤ 300 := by
  cases h : tableOk T with
  | true => exact okL_len (tableOk_parts h).1
  | false => unfold entriesL; rw [if_neg (by simp [h])]; exact Nat.zero_le _
set_option maxHeartbeats 4000000 in
set_option maxRecDepth 100000 in
theorem lawEntries (T : Tbl) (vb vk : Value) (w : World) (hi : RdI w vb T.bits) (hk : RdS w vk T.blocks) (q1 : T.first.size ≤ maxLen) (q2 : T.last.size ≤ maxLen) (q3 : ∀ s ∈ T.blocks, s.size ≤ maxLen) :
    Calls Try.prog 6 #[.agg #[.string T.first, .string T.last, vb, vk]] w fun e w' => e = .returned (.bool true) ∧ Below w.heap.size w w' := by
  have t0 := tblAt_new w T vb vk 48
  have b0 := below1 w (.cells #[.string T.first, .string T.last, vb, vk] 48)
  have HSZ : Hid (Calls _ _ _ _ _) := szTable_any T vb vk _ (hi.below b0) (hk.below b0) q1 q2 q3
  clear q1 q2 q3
  obtain ⟨d0, d1, d2, d3⟩ := id t0
  go_enter Try.func6, Try.ntmps6
  go_wp2_with fail
  refine HSZ.out.mono ?_
  rintro e w1 ⟨hb1, z, rfl, hz⟩
  have t1 := t0.below hb1
  have b1 := b0.trans (hb1.mono b0.size)
  clear HSZ t0 b0 hb1 d0 d1 d2 d3
  rcases hz with hz | ⟨hz0, hz1, hz2, hz3, hz4, hz5⟩
  · go_wp2
    go_ret
    exact ⟨rfl, b1⟩
  have HZ : Hid (∀ s ∈ T.blocks, s.size ≤ 1000000000) := fun s hs => by have := hz5 s hs; omega
  clear hz5
  have hyl : (entriesL T).length ≤ 300 := entriesL_len T
  have HSP : Hid (∀ xb xk W, RdI W xb T.bits → RdS W xk T.blocks → Calls Try.prog 22 #[.agg #[.string T.first, .string T.last, xb, xk]] W fun e w' => ∃ u, e = .returned u ∧ OwnE w' W.heap.size u (entriesL T) ∧ Below W.heap.size W w') := fun xb xk W h1 h2 => specEntries_any T xb xk W h1 h2 HZ.out
  have HIM : Hid (∀ xb xk W, RdI W xb T.bits → RdS W xk T.blocks → Calls Try.prog 21 #[.agg #[.string T.first, .string T.last, xb, xk]] W fun e w' => ∃ u, e = .returned u ∧ OwnE w' W.heap.size u (entriesL T) ∧ Below W.heap.size W w') := fun xb xk W h1 h2 => implEntries_any T xb xk W h1 h2 HZ.out
  generalize entriesL T = ys at HSP HIM hyl
  have hq1 : ¬ 1 + 4 * (ys.length : Int) < 0 := by omega
  have hq2 : (1 + 4 * (ys.length : Int) != 1 + 4 * (ys.length : Int)) = false := by simp
  obtain ⟨d0, d1, d2, d3⟩ := id t1
  go_wp2_with fail
  refine (toTable_any T vb vk _ (hi.below b1) (hk.below b1) (by omega) (by omega)).mono ?_
  rintro e w2 ⟨ub, uk, rfl, hub, huk, hb2⟩
  have t2 := t1.below hb2
  have b2 := b1.trans (hb2.mono b1.size)
  clear t1 hb2 d0 d1 d2 d3 b1
  go_wp2_with fail
  refine (HSP.out ub uk _ hub.rd huk.rd).mono ?_
  rintro e w3 ⟨vw, rfl, hw3, hb3⟩
  have t3 := t2.below hb3
  have b3 := b2.trans (hb3.mono b2.size)
  clear t2 hb3 hub huk b2
  obtain ⟨d0, d1, d2, d3⟩ := id t3
  go_wp2_with fail
  skip
  refine (toTable_any T vb vk _ (hi.below b3) (hk.below b3) (by omega) (by omega)).mono ?_
  rintro e w4 ⟨xb, xk, rfl, hxb, hxk, hb4⟩
  have t4 := t3.below hb4
  have b4 := b3.trans (hb4.mono b3.size)
  have hw4 := hw3.below hb4
  have lw : ∀ k, vw.ownBlock = some k → k < w3.heap.size := ownE_lt hw3
  have s3 := b3.size
  have s3b := t3.lt
  have s34 := hb4.size
  clear hw3
  obtain ⟨ab, cb, hsb, _⟩ := id hxb.rd
  obtain ⟨ak, ck, hsk, _⟩ := id hxk.rd
  obtain ⟨bn, hbn⟩ : ∃ bn, bn = T.bits.length := ⟨_, rfl⟩
  obtain ⟨kn, hkn⟩ : ∃ kn, kn = T.blocks.length := ⟨_, rfl⟩
  rw [← hbn] at hsb
  rw [← hkn] at hsk
  subst hsb
  subst hsk
  clear t3 hb4 d0 d1 d2 d3 b3 hbn hkn
  have x5 := tblAt_new w4 T (.slice ab bn cb) (.slice ak kn ck) 29
  have bb5 := below1 w4 (.cells #[.string T.first, .string T.last, .slice ab bn cb, .slice ak kn ck] 29)
  have t5 := t4.below bb5
  have b5 := b4.trans (bb5.mono b4.size)
  have hxb5 := hxb.below bb5
  have hxk5 := hxk.below bb5
  have hw5 := hw4.below bb5
  have s35 := Nat.le_trans s34 bb5.size
  clear hw4
  obtain ⟨y0, y1, y2, y3⟩ := id x5
  clear t4 b4 hxb hxk bb5
  go_wp2_with fail
  generalize w4.alloc (.cells #[.string T.first, .string T.last, .slice ab bn cb, .slice ak kn ck] 29) = W5 at x5 t5 b5 hxb5 hxk5 hw5 s35 y0 y1 y2 y3 ⊢
  refine (HIM.out _ _ _ hxb5.rd hxk5.rd).mono ?_
  rintro e wg ⟨vg, rfl, hg6, hb6⟩
  have x6 := x5.below hb6
  have t6 := t5.below hb6
  have b6 := b5.trans (hb6.mono b5.size)
  have hxb6 := hxb5.below hb6
  have hxk6 := hxk5.below hb6
  clear x5 t5 b5 hxb5 hxk5 y0 y1 y2 y3
  have hw6 := hw5.below hb6
  have lg : ∀ k, vg.ownBlock = some k → w3.heap.size ≤ k := fun k hk => Nat.le_trans s35 (World.ownsRow.lt hg6 k hk).1
  clear hw5 hb6
  go_wp2_with fail
  refine (eqEnts_same _ _ ys _ hg6.rd hw6.rd).mono ?_
  rintro e w6 ⟨rfl, hbq⟩
  replace x6 := x6.below hbq
  replace t6 := t6.below hbq
  replace b6 := b6.trans (hbq.mono b6.size)
  replace hxb6 := hxb6.below hbq
  replace hxk6 := hxk6.below hbq
  replace hw6 := hw6.below hbq
  replace hg6 := hg6.below hbq
  clear hbq
  obtain ⟨y0, y1, y2, y3⟩ := id x6
  obtain ⟨d0, d1, d2, d3⟩ := id t6
  go_wp2_with fail
  refine wp_region_noPanic ?_
  refine wp_region_held_drew (S := fun w' => (w'.cell? ⟨w4.heap.size, 0, none⟩ = some (.string T.first) ∧ w'.cell? ⟨w4.heap.size, 1, none⟩ = some (.string T.last) ∧ w'.cell? ⟨w4.heap.size, 2, none⟩ = some (.slice ab bn cb) ∧ w'.cell? ⟨w4.heap.size, 3, none⟩ = some (.slice ak kn ck)) ∧ w'.cell? ⟨w.heap.size, 0, none⟩ = some (.string T.first) ∧ w'.cell? ⟨w.heap.size, 1, none⟩ = some (.string T.last) ∧ w'.cell? ⟨w.heap.size, 2, none⟩ = some vb ∧ w'.cell? ⟨w.heap.size, 3, none⟩ = some vk) (by kernel_rfl) ⟨x6, t6⟩ (fun hH => ?_)
  have qb := b6.drew
  have qx : OwnI w6.drew _ (.slice ab bn cb) T.bits := hxb6.drewN 1
  have qk : OwnS w6.drew _ (.slice ak kn ck) T.blocks := hxk6.drewN 1
  have qw : OwnE w6.drew _ vw ys := hw6.drewN 1
  have qg : OwnE w6.drew _ vg ys := hg6.drewN 1
  clear hw6 hg6
  clear x6 t6 b6 hxb6 hxk6 y0 y1 y2 y3 d0 d1 d2 d3
  revert qg
  revert qw
  revert qk
  revert qx
  revert qb
  revert hH
  generalize w6.drew = W7
  intro hH qb qx qk qw qg
  refine takeH (i := 0) (d := 27) (v := ?_) rfl rfl (by kernel_rfl) (by kernel_rfl) (by kernel_rfl) (fun _ _ _ h => h) (Or.inl ⟨by kernel_rfl, ?_⟩) hH ?_
  rotate_left 1
  · intro w hS; (try dsimp only [EntAt, Nat.zero_add] at hS); go_simp; (try with_reducible rfl)
  try simp only [Act.put, List.setIfInBounds_toArray, List.set_cons_zero, List.set_cons_succ]
  refine takeH (i := 1) (d := 28) (v := ?_) rfl rfl (by kernel_rfl) (by kernel_rfl) (by kernel_rfl) (fun _ _ _ h => h) (Or.inl ⟨by kernel_rfl, ?_⟩) hH ?_
  rotate_left 1
  · intro w hS; (try dsimp only [EntAt, Nat.zero_add] at hS); go_simp; (try with_reducible rfl)
  try simp only [Act.put, List.setIfInBounds_toArray, List.set_cons_zero, List.set_cons_succ]
  refine wpAnyH_ready (rs := [2]) (by kernel_rfl) (by simp) ?_
  refine AllReadyH.cons rfl (fun K hK => ?_) AllReadyH.nil
  go_simp
  refine (toTable_any T vb vk _ (hi.below qb) (hk.below qb) (by omega) (by omega)).mono ?_
  rintro e w8 ⟨zb, zk, rfl, hzb, hzk, hb8⟩
  have hx8 : TblAt w8 w4.heap.size T (.slice ab bn cb) (.slice ak kn ck) := TblAt.below (w := W7) hH.1 hb8
  have ht8 : TblAt w8 w.heap.size T vb vk := TblAt.below (w := W7) hH.2 hb8
  replace qb := qb.trans (hb8.mono qb.size)
  replace qx := qx.below hb8
  replace qk := qk.below hb8
  replace qw := qw.below hb8
  replace qg := qg.below hb8
  refine hK.out _ _ ⟨hx8, ht8⟩ (fun h8 => ?_)
  clear hK K hH hb8
  try simp only [Act.put, List.setIfInBounds_toArray, List.set_cons_zero, List.set_cons_succ]
  refine wpAnyH_ready (rs := [3]) (by kernel_rfl) (by simp) ?_
  refine AllReadyH.cons rfl (fun K hK => ?_) AllReadyH.nil
  go_simp
  refine (eqTable_same T _ _ _ _ _ qx.rd qk.rd hzb.rd hzk.rd).mono ?_
  rintro e w9 ⟨rfl, hb9⟩
  have qb9 := qb.trans (hb9.mono qb.size)
  have qx9 := qx.below hb9
  have qk9 := qk.below hb9
  have qw9 := qw.below hb9
  have qg9 := qg.below hb9
  have hx9 := hx8.below hb9
  have ht9 := ht8.below hb9
  refine hK.out _ _ ⟨hx8.below hb9, ht8.below hb9⟩ (fun h9 => ?_)
  clear hK K h8 hx8 ht8
  try simp only [Act.put, List.setIfInBounds_toArray, List.set_cons_zero, List.set_cons_succ]
  refine takeH (i := 4) (d := 31) (v := ?_) rfl rfl (by kernel_rfl) (by kernel_rfl) (by kernel_rfl) (fun _ _ _ h => h) (Or.inl ⟨by kernel_rfl, ?_⟩) h9 ?_
  rotate_left 1
  · intro w hS; (try dsimp only [EntAt, Nat.zero_add] at hS); go_simp; (try with_reducible rfl)
  try simp only [Act.put, List.setIfInBounds_toArray, List.set_cons_zero, List.set_cons_succ]
  refine wpAnyH_done (by kernel_rfl) ?_ _
  refine NoPanic.normal ?_
  clear h9 hzb hzk qb qx qk qw qg hb9
  obtain ⟨y0, y1, y2, y3⟩ := id hx9
  go_wp2_with fail
  refine (markTable_any T _ _ w3.heap.size 1 _ qx9 qk9 (by omega) (by omega)).mono ?_
  rintro e w10 hmt
  have hw10 : OwnE w10 _ vw ys := markT_row hmt qx9 qk9 qw9 (by decide) (by decide)
  have hg10 : OwnE w10 _ vg ys := markT_row hmt qx9 qk9 qg9 (by decide) (by decide)
  have b10 := markT_below hmt qx9 qk9 qb9 s3 qb9.size
  have t10 := markT_tbl hmt qx9 qk9 ht9 s3b
  have hmr := hmt.1
  subst hmr
  clear hmt y0 y1 y2 y3
  have hq3 : ¬ ((1 + T.bits.length + T.blocks.length : Nat) : Int) < 0 := by omega
  generalize (1 + T.bits.length + T.blocks.length : Nat) = kk at hq3 ⊢
  clear qx9 qk9 qw9 qg9 qb9 hx9 ht9
  go_wp2_with fail
  refine (eqEnts_same _ _ ys _ hg10.rd hw10.rd).mono ?_
  rintro e w11 ⟨rfl, hb11⟩
  have b11 := b10.trans (hb11.mono b10.size)
  have t11 := t10.below hb11
  have hw11 := hw10.below hb11
  have hg11 := hg10.below hb11
  clear hw10 hg10 hb11 b10
  go_wp2_with fail
  refine (emark_one vg ys _ _ (by omega) hg11).mono ?_
  rintro e w12 ⟨rfl, hg12, hm12⟩
  have t12 : TblAt w12 w.heap.size T vb vk := t11.of_block (hm12.block _ t11.lt (fun e => by have := lg _ e.symm; omega))
  have hw12 : OwnE w12 _ vw ys := row_kept hw11 hm12 (fun k hk e => by have := lw k hk; have := lg k e; omega)
  have b12 : Below w.heap.size w w12 := b11.grown hm12 b11.size (fun k hk => by have := lg k hk; omega)
  clear hw11 hg11 hm12 b11
  go_wp2_with fail
  refine (eheld_one vg ys.length _ (by omega) hg12.rd).mono ?_
  rintro e w13 ⟨rfl, hb13⟩
  have b13 := b12.trans (hb13.mono b12.size)
  have t13 := t12.below hb13
  have hw13 := hw12.below hb13
  have hg13 := hg12.below hb13
  clear hw12 hg12 hb13 b12
  obtain ⟨d0, d1, d2, d3⟩ := id t13
  go_wp2_with fail
  refine (toTable_any T vb vk _ (hi.below b13) (hk.below b13) (by omega) (by omega)).mono ?_
  rintro e w14 ⟨zb, zk, rfl, hzb, hzk, hb14⟩
  have b14 := b13.trans (hb14.mono b13.size)
  have hw14 := hw13.below hb14
  have hg14 := hg13.below hb14
  clear hw13 hg13 hb14 b13 d0 d1 d2 d3 t13
  go_wp2_with fail
  refine (HIM.out _ _ _ hzb.rd hzk.rd).mono ?_
  rintro e w15 ⟨vh, rfl, hh15, hb15⟩
  have b15 := b14.trans (hb15.mono b14.size)
  have hw15 := hw14.below hb15
  have hg15 := hg14.below hb15
  clear hw14 hg14 hb15 b14 hzb hzk
  go_wp2_with fail
  refine (eqEnts_same _ _ ys _ hh15.rd hw15.rd).mono ?_
  rintro e w16 ⟨rfl, hb16⟩
  have b16 := b15.trans (hb16.mono b15.size)
  have hg16 := hg15.below hb16
  clear hw15 hg15 hh15 hb16 b15
  go_wp2_with fail
  refine (eheld_one vg ys.length _ (by omega) hg16.rd).mono ?_
  rintro e w17 ⟨rfl, hb17⟩
  have b17 := b16.trans (hb17.mono b16.size)
  clear hg16 hb17 b16
  go_wp2
  go_ret
  exact ⟨rfl, b17⟩
theorem own_fnExactEntries : ownKnob Try.prog.godebug = none := by kernel_rfl
theorem laidOut_fnExactEntries : laidOutB Try.prog = true := by kernel_rfl
set_option maxRecDepth 100000 in
theorem lifted_fnExactEntries (os : Os) (started : os.Started) (H : Type) (enc : TypeId × Value → H) :
    ReturnsInHanded {} Try.checked os 6 .any (Rows.fnExactEntriesSpec.pre6 enc Try.prog Try.f6 Rows.fnExactEntriesRow.domain false) (Rows.fnExactEntriesSpec.post enc Try.prog Try.f6 false true false false) := by
  refine returnsInHanded_of_change (C := Try.checked) own_fnExactEntries started (by kernel_rfl) Try.func6
    (ChangeSpec.witness6 (enc := enc) (C := Try.checked) false ⟨#[], #[.agg #[.string ByteArray.empty, .string ByteArray.empty, .slice none 0 0, .slice none 0 0]], []⟩ 8 (by kernel_rfl) (by kernel_rfl) (by kernel_rfl) (by kernel_rfl)) ?_
  intro W base args ds gs before hval0 hW hcnd _
  have hval : ∀ (j : Nat) t v, Try.f6.params[j]? = some t → args[j]? = some v → Value.okWide Try.prog W .any base t v := hval0
  have hW' := hW
  obtain ⟨p, q, hA0, hV, rfl, hfz, hnd⟩ := hW
  have hA : DataW.TrodAll enc Try.prog W 0 (fun _ => true) true Try.f6.params.toList args.toList ds p := hA0
  rw [Try.params6] at hA hval
  obtain ⟨v0, vs0, d0, ds0, p0, q0, hargs, rfl, rfl, h0, r0⟩ := trodAll_cons hA
  obtain ⟨rfl, rfl, rfl⟩ := trodAll_nil r0
  obtain rfl : args = #[v0] := by cases args; simp_all
  obtain ⟨rfl, rfl⟩ := trodVars_none hV
  obtain ⟨c0, rfl, _⟩ := okWide_struct Try.underlying48 (hval 0 48 v0 rfl rfl)
  have k0 := h0
  have lt0 : ∀ x ∈ p0, x.block < W.heap.size := by obtain ⟨m, hm⟩ := k0; exact DataW.trod_lt m _ _ _ hm
  obtain ⟨T0, vb0, vk0, hc0, hi0, hk0, q10, q20, q30⟩ : ∃ (T : Tbl) (vb vk : Value), (Value.agg c0).cells.toList = [.string T.first, .string T.last, vb, vk] ∧ RdI W vb T.bits ∧ RdS W vk T.blocks ∧ T.first.size ≤ maxLen ∧ T.last.size ≤ maxLen ∧ ∀ s ∈ T.blocks, s.size ≤ maxLen := by obtain ⟨m, hm⟩ := h0; exact open_table hm
  obtain rfl : c0 = #[.string T0.first, .string T0.last, vb0, vk0] := by have h := congrArg List.toArray hc0; simp only [Value.cells, Array.toArray_toList] at h; exact h
  clear hA0 hval0
  refine (lawEntries T0 vb0 vk0 W hi0 hk0 q10 q20 q30).mono fun e W' ⟨he, bel⟩ => ?_
  subst he
  exact ⟨_, rfl, _, _, _, [], _, [], hW', trodAll_mk1 (shut_bool Try.underlying4 _), (trodAll_cons_mk (Below.trod laidOut_fnExactEntries (by kernel_rfl) (of_decide_eq_true (by kernel_rfl)) k0 bel lt0) trodAll_mk0), rfl, bel.frame _, fun h => by cases h⟩
theorem over_fnExactEntries : Rows.fnExactEntriesRow.holds Try.pinned (OpenSpec.ofChange Rows.fnExactEntriesSpec) :=
  OpenClaim.holds_of_wide 6 Try.f6 rfl rfl rfl rfl rfl rfl rfl ⟨rfl, rfl, rfl, rfl, rfl⟩ rfl rfl rfl rfl rfl (by kernel_rfl) Try.func6 (by kernel_rfl)
    (of_decide_eq_true (by kernel_rfl)) (by unfold Func.isWrapper; first | (rw [if_pos (by decide +kernel)]; kernel_rfl) | (rw [if_neg (by decide +kernel)]; exact ⟨rfl, rfl⟩))
    (fun os started H enc _ => lifted_fnExactEntries os started H enc)
theorem fnExactEntries_holds : Rows.FnExactEntriesSaid := over_fnExactEntries
#print axioms fnExactEntries_holds

end Go.Proofs.Ytjgcommffaplnaa
