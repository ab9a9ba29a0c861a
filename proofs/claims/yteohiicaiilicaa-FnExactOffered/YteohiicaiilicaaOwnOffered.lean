/- Whatever Offers and Offer it is called with, laws.FnExactOffered returns true and its arguments read as before: both Offered tell the same, in memory of their own, and what they are handed stays. No condition. -/
-- UNF Gen
import Derived.Test.YteohiicaiilicaaRows
import Derived.Test.YteohiicaiilicaaOffMark
import Derived.Test.YteohiicaiilicaaOffTak
import Derived.Test.YteohiicaiilicaaOffSpc
import Derived.ProofKit
import Derived.OpenShut
import Derived.ShutString
import Derived.ChangeOld
namespace Go.Proofs.Yteohiicaiilicaa
open Go.ChangeShapes Go.WideShapes Go.ChangeAt Go.RowKit
theorem offR_len (es : List Off) (o : Off) : (offR es o).length ≤ 50 := by
  unfold offR
  split
  · rename_i h
    unfold offO at h
    simp only [Bool.and_eq_true] at h
    have h1 := (poolOk_iff.1 h.1.1).1
    have h2 : ¬ es.length = 50 := by simpa using h.2
    rw [offL_len]
    omega
  · simp
set_option maxHeartbeats 8000000 in
set_option maxRecDepth 100000 in
theorem lawOffered (v : Value) (es : List Off) (x : Off) (w : World) (hr0 : RdO w v es) (hh : ∀ e ∈ es, e.text.size ≤ maxLen) (hx : x.text.size ≤ maxLen) :
    Calls Try.prog 5 #[v, .agg #[.int .i64 x.fee, .string x.text]] w fun e w' => e = .returned (.bool true) ∧ Below w.heap.size w w' := by
  have hyl := offR_len es x
  obtain ⟨ok, hok⟩ : ∃ ok, ok = offO es x := ⟨_, rfl⟩
  have hne : (ok != ok) = false := by simp
  have HS : Hid (∀ u w', RdO w' u es → Calls Try.prog 15 #[u, .agg #[.int .i64 x.fee, .string x.text]] w' fun e w'' => ∃ u, e = .returned (.tuple #[u, .bool ok]) ∧ OwnO w'' w'.heap.size u (offR es x) ∧ Below w'.heap.size w' w'') := fun u w' h => by rw [hok]; exact specOffered_any u es x w' h hh hx
  have HI : Hid (∀ u w', RdO w' u es → Calls Try.prog 10 #[u, .agg #[.int .i64 x.fee, .string x.text]] w' fun e w'' => ∃ u, e = .returned (.tuple #[u, .bool ok]) ∧ OwnO w'' w'.heap.size u (offR es x) ∧ Below w'.heap.size w' w'') := fun u w' h => by rw [hok]; exact implOffered_any u es x w' h hh hx
  generalize offR es x = ys at hyl HS HI
  clear hok
  have hq1 : ¬ 1 + 2 * (ys.length : Int) < 0 := by omega
  have hq2 : (1 + 2 * (ys.length : Int) != 1 + 2 * (ys.length : Int)) = false := by simp
  have hq3 : ¬ 1 + 2 * (es.length : Int) < 0 := by omega
  have b0 := below1 w (.cells #[.int .i64 x.fee, .string x.text] 45)
  have t0 := offAt_new w x 45
  go_enter Try.func5, Try.ntmps5
  go_wp2_with fail
  refine (szOffs_at _ es 1048576 _ (hr0.below b0) hh (by omega) (by omega)).mono ?_
  rintro e w1 ⟨hb1, z, rfl, hz⟩
  have b1 := b0.trans (hb1.mono b0.size)
  have t1 := t0.below hb1
  clear hb1 b0 t0
  rcases hz with hz | ⟨hz0, hl⟩
  · subst hz
    clear t1
    go_wp2
    go_ret
    exact ⟨rfl, b1⟩
  obtain ⟨q0, q1⟩ := id t1
  go_wp2_with fail
  refine (szOffer_any x z _ hz0 (by omega) hx).mono ?_
  rintro e w2 ⟨hb2, z2, rfl, hz2⟩
  have b2 := b1.trans (hb2.mono b1.size)
  have t2 := t1.below hb2
  clear hb2 b1 t1 q0 q1
  rcases hz2 with hz2 | ⟨hz20, hz21⟩
  · subst hz2
    clear t2
    go_wp2
    go_ret
    exact ⟨rfl, b2⟩
  obtain ⟨N, hN⟩ : ∃ N, N = w.heap.size := ⟨_, rfl⟩
  have HN : Hid (N = w.heap.size) := hN
  rw [← hN] at t2 ⊢
  clear hN
  have hlN := t2.lt
  go_wp2_with fail
  refine wp_region_noPanic ?_
  refine wp_region_held_drew (S := fun w' => w'.cell? ⟨N, 0, none⟩ = some (.int .i64 x.fee) ∧ w'.cell? ⟨N, 0 + 1, none⟩ = some (.string x.text)) (by kernel_rfl) ⟨t2.1, t2.2⟩ (fun hH => ?_)
  refine tkG 0 27 hH ?_
  try simp only [Act.put, List.setIfInBounds_toArray, List.set_cons_zero, List.set_cons_succ]
  refine tkG 2 29 hH ?_
  try simp only [Act.put, List.setIfInBounds_toArray, List.set_cons_zero, List.set_cons_succ]
  refine wpAnyH_ready (rs := [1]) (by kernel_rfl) (by simp) ?_
  refine AllReadyH.cons rfl (fun K hK => ?_) AllReadyH.nil
  go_simp
  refine (toOffs_any _ es _ (hr0.below b2.drew) (by omega)).mono ?_
  rintro e w3 ⟨a0, rfl, ha03, hb3⟩
  have b3 := b2.drew.trans (hb3.mono b2.size)
  have s3 : w2.heap.size ≤ w3.heap.size := hb3.size
  have t3 : OffAt w3 N 0 x := OffAt.below (w := w2.drew) t2 hb3
  have la0 : ∀ k, a0.ownBlock = some k → w2.heap.size ≤ k ∧ k < w3.heap.size := fun k hk => World.ownsRow.lt ha03 k hk
  refine hK.out _ _ t3 (fun hA3 => ?_)
  clear hK K
  try simp only [Act.put, List.setIfInBounds_toArray, List.set_cons_zero, List.set_cons_succ]
  clear hH
  refine wpAnyH_ready (rs := [3]) (by kernel_rfl) (by simp) ?_
  refine AllReadyH.cons rfl (fun K hK => ?_) AllReadyH.nil
  go_simp
  refine (toOffer_any x _).mono ?_
  rintro e w4 ⟨rfl, hb4⟩
  have b4 := b3.trans (hb4.mono b3.size)
  have s4 : w3.heap.size ≤ w4.heap.size := hb4.size
  have t4 : OffAt w4 N 0 x := OffAt.below t3 hb4
  have ha04 : OwnO w4 _ a0 es := OwnO.below ha03 hb4
  refine hK.out _ _ t4 (fun hB3 => ?_)
  clear hK K
  try simp only [Act.put, List.setIfInBounds_toArray, List.set_cons_zero, List.set_cons_succ]
  clear hA3
  refine wpAnyH_ready (rs := [4]) (by kernel_rfl) (by simp) ?_
  refine AllReadyH.cons rfl (fun K hK => ?_) AllReadyH.nil
  go_simp
  refine (HS.out a0 _ ha04.rd).mono ?_
  rintro e w5 ⟨vw, rfl, hvw5, hb5⟩
  have b5 := b4.trans (hb5.mono b4.size)
  have s5 : w4.heap.size ≤ w5.heap.size := hb5.size
  have t5 : OffAt w5 N 0 x := OffAt.below t4 hb5
  have ha05 : OwnO w5 _ a0 es := OwnO.below ha04 hb5
  have lvw : ∀ k, vw.ownBlock = some k → w4.heap.size ≤ k ∧ k < w5.heap.size := fun k hk => World.ownsRow.lt hvw5 k hk
  refine hK.out _ _ t5 (fun hC3 => ?_)
  clear hK K
  try simp only [Act.put, List.setIfInBounds_toArray, List.set_cons_zero, List.set_cons_succ]
  clear hB3
  refine tkG 5 26 hC3 ?_
  try simp only [Act.put, List.setIfInBounds_toArray, List.set_cons_zero, List.set_cons_succ]
  refine tkG 6 32 hC3 ?_
  try simp only [Act.put, List.setIfInBounds_toArray, List.set_cons_zero, List.set_cons_succ]
  refine tkG 7 33 hC3 ?_
  try simp only [Act.put, List.setIfInBounds_toArray, List.set_cons_zero, List.set_cons_succ]
  refine tkG 8 6 hC3 ?_
  try simp only [Act.put, List.setIfInBounds_toArray, List.set_cons_zero, List.set_cons_succ]
  refine tkG 9 7 hC3 ?_
  try simp only [Act.put, List.setIfInBounds_toArray, List.set_cons_zero, List.set_cons_succ]
  refine wpAnyH_done (by kernel_rfl) ?_ _
  refine NoPanic.normal ?_
  clear hC3
  go_wp2_with fail
  refine (toOffs_any _ es _ (hr0.below b5) (by omega)).mono ?_
  rintro e w6 ⟨x0, rfl, hx06, hb6⟩
  have b6 := b5.trans (hb6.mono b5.size)
  have s6 : w5.heap.size ≤ w6.heap.size := hb6.size
  have t6 : OffAt w6 N 0 x := OffAt.below t5 hb6
  have hvw6 : OwnO w6 _ vw ys := OwnO.below hvw5 hb6
  have lx0 : ∀ k, x0.ownBlock = some k → w5.heap.size ≤ k ∧ k < w6.heap.size := fun k hk => World.ownsRow.lt hx06 k hk
  obtain ⟨q0, q1⟩ := id t6
  go_wp2_with fail
  refine (toOffer_any x _).mono ?_
  rintro e w7 ⟨rfl, hb7⟩
  have b7 := b6.trans (hb7.mono b6.size)
  have s7 : w6.heap.size ≤ w7.heap.size := hb7.size
  have t7 : OffAt w7 N 0 x := OffAt.below t6 hb7
  have hvw7 : OwnO w7 _ vw ys := OwnO.below hvw6 hb7
  have hx07 : OwnO w7 _ x0 es := OwnO.below hx06 hb7
  clear q0 q1
  go_wp2_with fail
  refine (HI.out x0 _ hx07.rd).mono ?_
  rintro e w8 ⟨vg, rfl, hvg8, hb8⟩
  have b8 := b7.trans (hb8.mono b7.size)
  have s8 : w7.heap.size ≤ w8.heap.size := hb8.size
  have t8 : OffAt w8 N 0 x := OffAt.below t7 hb8
  have hvw8 : OwnO w8 _ vw ys := OwnO.below hvw7 hb8
  have hx08 : OwnO w8 _ x0 es := OwnO.below hx07 hb8
  have lvg : ∀ k, vg.ownBlock = some k → w7.heap.size ≤ k ∧ k < w8.heap.size := fun k hk => World.ownsRow.lt hvg8 k hk
  go_wp2_with fail
  refine (eqOffs_same _ _ ys _ hvg8.rd hvw8.rd).mono ?_
  rintro e w9 ⟨rfl, hb9⟩
  have b9 := b8.trans (hb9.mono b8.size)
  have s9 : w8.heap.size ≤ w9.heap.size := hb9.size
  have t9 : OffAt w9 N 0 x := OffAt.below t8 hb9
  have hvw9 : OwnO w9 _ vw ys := OwnO.below hvw8 hb9
  have hx09 : OwnO w9 _ x0 es := OwnO.below hx08 hb9
  have hvg9 : OwnO w9 _ vg ys := OwnO.below hvg8 hb9
  go_wp2_with fail
  refine (toOffs_any _ es _ (hr0.below b9) (by omega)).mono ?_
  rintro e w10 ⟨u0, rfl, hu010, hb10⟩
  have b10 := b9.trans (hb10.mono b9.size)
  have s10 : w9.heap.size ≤ w10.heap.size := hb10.size
  have t10 : OffAt w10 N 0 x := OffAt.below t9 hb10
  have hvw10 : OwnO w10 _ vw ys := OwnO.below hvw9 hb10
  have hx010 : OwnO w10 _ x0 es := OwnO.below hx09 hb10
  have hvg10 : OwnO w10 _ vg ys := OwnO.below hvg9 hb10
  have lu0 : ∀ k, u0.ownBlock = some k → w9.heap.size ≤ k ∧ k < w10.heap.size := fun k hk => World.ownsRow.lt hu010 k hk
  go_wp2_with fail
  refine (eqOffs_same _ _ es _ hx010.rd hu010.rd).mono ?_
  rintro e w11 ⟨rfl, hb11⟩
  have b11 := b10.trans (hb11.mono b10.size)
  have s11 : w10.heap.size ≤ w11.heap.size := hb11.size
  have t11 : OffAt w11 N 0 x := OffAt.below t10 hb11
  have hvw11 : OwnO w11 _ vw ys := OwnO.below hvw10 hb11
  have hx011 : OwnO w11 _ x0 es := OwnO.below hx010 hb11
  have hvg11 : OwnO w11 _ vg ys := OwnO.below hvg10 hb11
  have hu011 : OwnO w11 _ u0 es := OwnO.below hu010 hb11
  go_wp2_with fail
  refine (omarkZ x0 es _ 1 _ _ (by omega) (by omega) hx011).mono ?_
  rintro e w12 ⟨rfl, -, hb12⟩
  have b12 : Below w.heap.size w w12 := b11.grown hb12 b11.size (fun k hk => by have := lx0 k hk; have := HN.out; omega)
  have s12 : w11.heap.size ≤ w12.heap.size := hb12.size
  have t12 : OffAt w12 N 0 x := t11.of_block (hb12.block N t11.lt (fun e => by have := lx0 N e.symm; omega))
  have hvw12 : OwnO w12 _ vw ys := row_kept hvw11 hb12 (fun k hk e => by have := lvw k hk; have := lx0 k e; omega)
  have hvg12 : OwnO w12 _ vg ys := row_kept hvg11 hb12 (fun k hk e => by have := lvg k hk; have := lx0 k e; omega)
  go_wp2_with fail
  refine (eqOffs_same _ _ ys _ hvg12.rd hvw12.rd).mono ?_
  rintro e w13 ⟨rfl, hb13⟩
  have b13 := b12.trans (hb13.mono b12.size)
  have s13 : w12.heap.size ≤ w13.heap.size := hb13.size
  have t13 : OffAt w13 N 0 x := OffAt.below t12 hb13
  have hvw13 : OwnO w13 _ vw ys := OwnO.below hvw12 hb13
  have hvg13 : OwnO w13 _ vg ys := OwnO.below hvg12 hb13
  go_wp2_with fail
  refine (omarkZ vg ys _ 1 _ _ (by omega) (by omega) hvg13).mono ?_
  rintro e w14 ⟨rfl, hvg14, hb14⟩
  have b14 : Below w.heap.size w w14 := b13.grown hb14 b13.size (fun k hk => by have := lvg k hk; have := HN.out; omega)
  have s14 : w13.heap.size ≤ w14.heap.size := hb14.size
  have t14 : OffAt w14 N 0 x := t13.of_block (hb14.block N t13.lt (fun e => by have := lvg N e.symm; omega))
  have hvw14 : OwnO w14 _ vw ys := row_kept hvw13 hb14 (fun k hk e => by have := lvw k hk; have := lvg k e; omega)
  go_wp2_with fail
  refine (oheldZ vg ys.length 1 _ _ (by omega) (by omega) hvg14.rd).mono ?_
  rintro e w15 ⟨rfl, hb15⟩
  have b15 := b14.trans (hb15.mono b14.size)
  have s15 : w14.heap.size ≤ w15.heap.size := hb15.size
  have t15 : OffAt w15 N 0 x := OffAt.below t14 hb15
  have hvw15 : OwnO w15 _ vw ys := OwnO.below hvw14 hb15
  have hvg15 : OwnO w15 _ vg _ := OwnO.below hvg14 hb15
  go_wp2_with fail
  refine wp_region_noPanic ?_
  refine wp_region_held_drew (S := fun w' => w'.cell? ⟨N, 0, none⟩ = some (.int .i64 x.fee) ∧ w'.cell? ⟨N, 0 + 1, none⟩ = some (.string x.text)) (by kernel_rfl) ⟨t15.1, t15.2⟩ (fun hH => ?_)
  refine tkG 0 85 hH ?_
  try simp only [Act.put, List.setIfInBounds_toArray, List.set_cons_zero, List.set_cons_succ]
  refine tkG 2 87 hH ?_
  try simp only [Act.put, List.setIfInBounds_toArray, List.set_cons_zero, List.set_cons_succ]
  refine wpAnyH_ready (rs := [1]) (by kernel_rfl) (by simp) ?_
  refine AllReadyH.cons rfl (fun K hK => ?_) AllReadyH.nil
  go_simp
  refine (toOffs_any _ es _ (hr0.below b15.drew) (by omega)).mono ?_
  rintro e w16 ⟨c0, rfl, hc016, hb16⟩
  have b16 := b15.drew.trans (hb16.mono b15.size)
  have s16 : w15.heap.size ≤ w16.heap.size := hb16.size
  have t16 : OffAt w16 N 0 x := OffAt.below (w := w15.drew) t15 hb16
  have hvw16 : OwnO w16 _ vw ys := OwnO.below (w := w15.drew) hvw15 hb16
  have hvg16 : OwnO w16 _ vg _ := OwnO.below (w := w15.drew) hvg15 hb16
  have lc0 : ∀ k, c0.ownBlock = some k → w15.heap.size ≤ k ∧ k < w16.heap.size := fun k hk => World.ownsRow.lt hc016 k hk
  refine hK.out _ _ t16 (fun hA16 => ?_)
  clear hK K
  try simp only [Act.put, List.setIfInBounds_toArray, List.set_cons_zero, List.set_cons_succ]
  clear hH
  refine wpAnyH_ready (rs := [3]) (by kernel_rfl) (by simp) ?_
  refine AllReadyH.cons rfl (fun K hK => ?_) AllReadyH.nil
  go_simp
  refine (toOffer_any x _).mono ?_
  rintro e w17 ⟨rfl, hb17⟩
  have b17 := b16.trans (hb17.mono b16.size)
  have s17 : w16.heap.size ≤ w17.heap.size := hb17.size
  have t17 : OffAt w17 N 0 x := OffAt.below t16 hb17
  have hvw17 : OwnO w17 _ vw ys := OwnO.below hvw16 hb17
  have hvg17 : OwnO w17 _ vg _ := OwnO.below hvg16 hb17
  have hc017 : OwnO w17 _ c0 es := OwnO.below hc016 hb17
  refine hK.out _ _ t17 (fun hB16 => ?_)
  clear hK K
  try simp only [Act.put, List.setIfInBounds_toArray, List.set_cons_zero, List.set_cons_succ]
  clear hA16
  refine wpAnyH_ready (rs := [4]) (by kernel_rfl) (by simp) ?_
  refine AllReadyH.cons rfl (fun K hK => ?_) AllReadyH.nil
  go_simp
  refine (HI.out c0 _ hc017.rd).mono ?_
  rintro e w18 ⟨vh, rfl, hvh18, hb18⟩
  have b18 := b17.trans (hb18.mono b17.size)
  have s18 : w17.heap.size ≤ w18.heap.size := hb18.size
  have t18 : OffAt w18 N 0 x := OffAt.below t17 hb18
  have hvw18 : OwnO w18 _ vw ys := OwnO.below hvw17 hb18
  have hvg18 : OwnO w18 _ vg _ := OwnO.below hvg17 hb18
  have hc018 : OwnO w18 _ c0 es := OwnO.below hc017 hb18
  have lvh : ∀ k, vh.ownBlock = some k → w17.heap.size ≤ k ∧ k < w18.heap.size := fun k hk => World.ownsRow.lt hvh18 k hk
  refine hK.out _ _ t18 (fun hC16 => ?_)
  clear hK K
  try simp only [Act.put, List.setIfInBounds_toArray, List.set_cons_zero, List.set_cons_succ]
  clear hB16
  refine tkG 5 84 hC16 ?_
  try simp only [Act.put, List.setIfInBounds_toArray, List.set_cons_zero, List.set_cons_succ]
  refine tkG 6 90 hC16 ?_
  try simp only [Act.put, List.setIfInBounds_toArray, List.set_cons_zero, List.set_cons_succ]
  refine tkG 7 91 hC16 ?_
  try simp only [Act.put, List.setIfInBounds_toArray, List.set_cons_zero, List.set_cons_succ]
  refine tkG 8 14 hC16 ?_
  try simp only [Act.put, List.setIfInBounds_toArray, List.set_cons_zero, List.set_cons_succ]
  refine tkG 9 15 hC16 ?_
  try simp only [Act.put, List.setIfInBounds_toArray, List.set_cons_zero, List.set_cons_succ]
  refine wpAnyH_done (by kernel_rfl) ?_ _
  refine NoPanic.normal ?_
  clear hC16
  go_wp2_with fail
  refine (eqOffs_same _ _ ys _ hvh18.rd hvw18.rd).mono ?_
  rintro e w19 ⟨rfl, hb19⟩
  have b19 := b18.trans (hb19.mono b18.size)
  have s19 : w18.heap.size ≤ w19.heap.size := hb19.size
  have t19 : OffAt w19 N 0 x := OffAt.below t18 hb19
  have hvw19 : OwnO w19 _ vw ys := OwnO.below hvw18 hb19
  have hvg19 : OwnO w19 _ vg _ := OwnO.below hvg18 hb19
  have hvh19 : OwnO w19 _ vh ys := OwnO.below hvh18 hb19
  go_wp2_with fail
  refine (oheldZ vg ys.length 1 _ _ (by omega) (by omega) hvg19.rd).mono ?_
  rintro e w20 ⟨rfl, hb20⟩
  have b20 := b19.trans (hb20.mono b19.size)
  have s20 : w19.heap.size ≤ w20.heap.size := hb20.size
  have t20 : OffAt w20 N 0 x := OffAt.below t19 hb20
  have hvw20 : OwnO w20 _ vw ys := OwnO.below hvw19 hb20
  have hvg20 : OwnO w20 _ vg _ := OwnO.below hvg19 hb20
  have hvh20 : OwnO w20 _ vh ys := OwnO.below hvh19 hb20
  go_wp2
  go_ret
  exact ⟨rfl, b20⟩
theorem own_fnExactOffered : ownKnob Try.prog.godebug = none := by kernel_rfl
theorem laidOut_fnExactOffered : laidOutB Try.prog = true := by kernel_rfl
set_option maxRecDepth 100000 in
theorem lifted_fnExactOffered (os : Os) (started : os.Started) (H : Type) (enc : TypeId × Value → H) :
    ReturnsInHanded {} Try.checked os 5 .any (Rows.fnExactOfferedSpec.pre6 enc Try.prog Try.f5 Rows.fnExactOfferedRow.domain false) (Rows.fnExactOfferedSpec.post enc Try.prog Try.f5 false true false false) := by
  refine returnsInHanded_of_change (C := Try.checked) own_fnExactOffered started (by kernel_rfl) Try.func5
    (ChangeSpec.witness6 (enc := enc) (C := Try.checked) false ⟨#[], #[.slice none 0 0, .agg #[.int .i64 0, .string ByteArray.empty]], []⟩ 8 (by kernel_rfl) (by kernel_rfl) (by kernel_rfl) (by kernel_rfl)) ?_
  intro W base args ds gs before hval0 hW hcnd _
  have hval : ∀ (j : Nat) t v, Try.f5.params[j]? = some t → args[j]? = some v → Value.okWide Try.prog W .any base t v := hval0
  have hW' := hW
  obtain ⟨p, q, hA0, hV, rfl, hfz, hnd⟩ := hW
  have hA : DataW.TrodAll enc Try.prog W 0 (fun _ => true) true Try.f5.params.toList args.toList ds p := hA0
  rw [Try.params5] at hA hval
  obtain ⟨v0, vs0, d0, ds0, p0, q0, hargs, rfl, rfl, h0, r0⟩ := trodAll_cons hA
  obtain ⟨v1, vs1, d1, ds1, p1, q1, rfl, rfl, rfl, h1, r1⟩ := trodAll_cons r0
  obtain ⟨rfl, rfl, rfl⟩ := trodAll_nil r1
  obtain rfl : args = #[v0, v1] := by cases args; simp_all
  obtain ⟨rfl, rfl⟩ := trodVars_none hV
  obtain ⟨a0, len0, cap0, rfl⟩ := okWide_slice Try.underlying41 (hval 0 41 v0 rfl rfl)
  have k0 := h0
  have lt0 : ∀ x ∈ p0, x.block < W.heap.size := by obtain ⟨m, hm⟩ := k0; exact DataW.trod_lt m _ _ _ hm
  obtain ⟨es0, hr0, hh0⟩ := open_offs k0 ⟨a0, len0, cap0, rfl⟩
  obtain ⟨c1, rfl, _⟩ := okWide_struct Try.underlying45 (hval 1 45 v1 rfl rfl)
  have k1 := h1
  have lt1 : ∀ x ∈ p1, x.block < W.heap.size := by obtain ⟨m, hm⟩ := k1; exact DataW.trod_lt m _ _ _ hm
  obtain ⟨x1, hc1, hh1⟩ : ∃ e, (Value.agg c1).cells.toList = OC e ∧ e.text.size ≤ maxLen := by obtain ⟨m, hm⟩ := h1; exact open_off hm
  obtain rfl : c1 = #[.int .i64 x1.fee, .string x1.text] := by have h := congrArg List.toArray hc1; simp only [Value.cells, Array.toArray_toList] at h; exact h
  clear hA0 hval0
  refine (lawOffered _ es0 x1 W hr0 hh0 hh1).mono fun e W' ⟨he, bel⟩ => ?_
  subst he
  exact ⟨_, rfl, _, _, _, [], _, [], hW', trodAll_mk1 (shut_bool Try.underlying4 _), (trodAll_cons_mk (Below.trod laidOut_fnExactOffered (by kernel_rfl) (of_decide_eq_true (by kernel_rfl)) k0 bel lt0) (trodAll_cons_mk (Below.trod laidOut_fnExactOffered (by kernel_rfl) (of_decide_eq_true (by kernel_rfl)) k1 bel lt1) trodAll_mk0)), rfl, bel.frame _, fun h => by cases h⟩
theorem over_fnExactOffered : Rows.fnExactOfferedRow.holds Try.pinned (OpenSpec.ofChange Rows.fnExactOfferedSpec) :=
  OpenClaim.holds_of_wide 5 Try.f5 rfl rfl rfl rfl rfl rfl rfl ⟨rfl, rfl, rfl, rfl, rfl⟩ rfl rfl rfl rfl rfl (by kernel_rfl) Try.func5 (by kernel_rfl)
    (of_decide_eq_true (by kernel_rfl)) (by unfold Func.isWrapper; first | (rw [if_pos (by decide +kernel)]; kernel_rfl) | (rw [if_neg (by decide +kernel)]; exact ⟨rfl, rfl⟩))
    (fun os started H enc _ => lifted_fnExactOffered os started H enc)
theorem fnExactOffered_holds : Rows.FnExactOfferedSaid := over_fnExactOffered
#print axioms fnExactOffered_holds

end Go.Proofs.Yteohiicaiilicaa
