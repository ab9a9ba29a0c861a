/- The contract of the program's Message.copied. -/
import Derived.Test.YtilhaokiohbeeaaGreatDoorG19
import Derived.Test.YtilhaokiohbeeaaGreatDoorMsgCq
import Derived.Test.YtilhaokiohbeeaaGreatDoorG14
-- UNF Gen
namespace Go.Proofs.YtilhaokiohbeeaaGreatDoor
open Go.RowKit
set_option maxHeartbeats 40000000 in
set_option maxRecDepth 100000 in
theorem messageCopied_any (X : MsX) (w : World) (hr0 : RdMg w X) (hn : NilOk X.bl.vm) (hs : SmallMs X) :
    Calls Tryz.prog 180 #[.agg (MsC X).toArray] w fun e w' => ToMg w X.m e w' := by
  obtain ⟨kd, fr, to', vw, ⟨⟨bv, ba, ⟨bpv, bpn, bps, bpt⟩, bmo, bsv⟩, bs, bt, bm⟩, ⟨ov, on, os, ot⟩, ⟨⟨pv, pn, pps, ppt⟩, ps, pt⟩⟩ := X
  obtain ⟨hrb, hrp⟩ := hr0
  have hs1 := hs.bl
  have hs2 := hs.pf
  clear hs
  simp only [MsC, MsX.m] at hrb hrp hn hs1 hs2 ⊢
  have HBC : Hid (∀ W, RdBl W ⟨⟨bv, ba, ⟨bpv, bpn, bps, bpt⟩, bmo, bsv⟩, bs, bt, bm⟩ → Calls Tryz.prog 173 #[.agg #[.int .i64 bv, .int .i64 ba, .int .i64 bpv, .int .i64 bpn, bs, bt, bm, .int .i64 bsv]] W fun e w' => ToBl W ⟨bv, ba, ⟨bpv, bpn, bps, bpt⟩, bmo, bsv⟩ e w') := fun W h => blockCopied_any ⟨⟨bv, ba, ⟨bpv, bpn, bps, bpt⟩, bmo, bsv⟩, bs, bt, bm⟩ W h hn (by simp only; omega) (by simp only; omega) (by simp only; omega)
  have HPC : Hid (∀ W, RdPr W ⟨⟨pv, pn, pps, ppt⟩, ps, pt⟩ → Calls Tryz.prog 150 #[.agg #[.int .i64 pv, .int .i64 pn, ps, pt]] W fun e w' => ∃ Y : PrX, e = .returned (.agg #[.int .i64 Y.p.vw, .int .i64 Y.p.nm, Y.vs, Y.vt]) ∧ Y.p = ⟨pv, pn, pps, ppt⟩ ∧ OwnPr w' W.heap.size Y ∧ Below W.heap.size W w') := fun W h => proofCopied_any ⟨⟨pv, pn, pps, ppt⟩, ps, pt⟩ W h (by simp only; omega) (by simp only; omega)
  clear hn hs1 hs2
  have hx := (bx_new w 38 #[.int .i64 kd, .int .i64 fr, .int .i64 to', .int .i64 vw, .int .i64 bv, .int .i64 ba, .int .i64 bpv, .int .i64 bpn, bs, bt, bm, .int .i64 bsv, .int .i64 ov, .int .i64 on, .int .i64 os, .int .i64 ot, .int .i64 pv, .int .i64 pn, ps, pt]).below (below1 _ (.cells #[.int .i64 0, .int .i64 0, .int .i64 0, .int .i64 0, .int .i64 0, .int .i64 0, .int .i64 0, .int .i64 0, .slice none 0 0, .slice none 0 0, .slice none 0 0, .int .i64 0, .int .i64 0, .int .i64 0, .int .i64 0, .int .i64 0, .int .i64 0, .int .i64 0, .slice none 0 0, .slice none 0 0] 38))
  have hr := bx_new (w.alloc (.cells #[.int .i64 kd, .int .i64 fr, .int .i64 to', .int .i64 vw, .int .i64 bv, .int .i64 ba, .int .i64 bpv, .int .i64 bpn, bs, bt, bm, .int .i64 bsv, .int .i64 ov, .int .i64 on, .int .i64 os, .int .i64 ot, .int .i64 pv, .int .i64 pn, ps, pt] 38)) 38 #[.int .i64 0, .int .i64 0, .int .i64 0, .int .i64 0, .int .i64 0, .int .i64 0, .int .i64 0, .int .i64 0, .slice none 0 0, .slice none 0 0, .slice none 0 0, .int .i64 0, .int .i64 0, .int .i64 0, .int .i64 0, .int .i64 0, .int .i64 0, .int .i64 0, .slice none 0 0, .slice none 0 0]
  have HB := below2 w (.cells #[.int .i64 kd, .int .i64 fr, .int .i64 to', .int .i64 vw, .int .i64 bv, .int .i64 ba, .int .i64 bpv, .int .i64 bpn, bs, bt, bm, .int .i64 bsv, .int .i64 ov, .int .i64 on, .int .i64 os, .int .i64 ot, .int .i64 pv, .int .i64 pn, ps, pt] 38) (.cells #[.int .i64 0, .int .i64 0, .int .i64 0, .int .i64 0, .int .i64 0, .int .i64 0, .int .i64 0, .int .i64 0, .slice none 0 0, .slice none 0 0, .slice none 0 0, .int .i64 0, .int .i64 0, .int .i64 0, .int .i64 0, .int .i64 0, .int .i64 0, .int .i64 0, .slice none 0 0, .slice none 0 0] 38)
  have hsz : w.heap.size + 2 ≤ ((w.alloc (.cells #[.int .i64 kd, .int .i64 fr, .int .i64 to', .int .i64 vw, .int .i64 bv, .int .i64 ba, .int .i64 bpv, .int .i64 bpn, bs, bt, bm, .int .i64 bsv, .int .i64 ov, .int .i64 on, .int .i64 os, .int .i64 ot, .int .i64 pv, .int .i64 pn, ps, pt] 38)).alloc (.cells #[.int .i64 0, .int .i64 0, .int .i64 0, .int .i64 0, .int .i64 0, .int .i64 0, .int .i64 0, .int .i64 0, .slice none 0 0, .slice none 0 0, .slice none 0 0, .int .i64 0, .int .i64 0, .int .i64 0, .int .i64 0, .int .i64 0, .int .i64 0, .int .i64 0, .slice none 0 0, .slice none 0 0] 38)).heap.size := by simp
  rw [show (w.alloc (.cells #[.int .i64 kd, .int .i64 fr, .int .i64 to', .int .i64 vw, .int .i64 bv, .int .i64 ba, .int .i64 bpv, .int .i64 bpn, bs, bt, bm, .int .i64 bsv, .int .i64 ov, .int .i64 on, .int .i64 os, .int .i64 ot, .int .i64 pv, .int .i64 pn, ps, pt] 38)).heap.size = w.heap.size + 1 by simp] at hr
  go_enter Tryz.func180, Tryz.ntmps180
  go_wp2_with fail
  generalize (w.alloc (.cells #[.int .i64 kd, .int .i64 fr, .int .i64 to', .int .i64 vw, .int .i64 bv, .int .i64 ba, .int .i64 bpv, .int .i64 bpn, bs, bt, bm, .int .i64 bsv, .int .i64 ov, .int .i64 on, .int .i64 os, .int .i64 ot, .int .i64 pv, .int .i64 pn, ps, pt] 38)).alloc (.cells #[.int .i64 0, .int .i64 0, .int .i64 0, .int .i64 0, .int .i64 0, .int .i64 0, .int .i64 0, .int .i64 0, .slice none 0 0, .slice none 0 0, .slice none 0 0, .int .i64 0, .int .i64 0, .int .i64 0, .int .i64 0, .int .i64 0, .int .i64 0, .int .i64 0, .slice none 0 0, .slice none 0 0] 38) = W2 at hx hr HB hsz ⊢
  refine wp_region_noPanic ?_
  refine wp_region_held_drew (S := fun _ : World => True) (by kernel_rfl) trivial (fun hS => ?_)
  replace HB := HB.drew
  replace hx := hx.below (Below.refl _ _).drew
  replace hr := hr.below (Below.refl _ _).drew
  replace hsz : w.heap.size + 2 ≤ W2.drew.heap.size := hsz
  refine tkG 0 3 hS ?_
  try simp only [Act.put, List.setIfInBounds_toArray, List.set_cons_zero, List.set_cons_succ]
  refine tkG 3 6 hS ?_
  try simp only [Act.put, List.setIfInBounds_toArray, List.set_cons_zero, List.set_cons_succ]
  revert hS
  revert hsz
  revert hr
  revert hx
  revert HB
  generalize W2.drew = V
  intro HB hx hr hsz hS
  refine wpAnyH_ready (rs := [1, 4]) (by kernel_rfl) (by simp) ?_
  refine AllReadyH.cons rfl (fun K hK => ?_) ?_
  obtain ⟨g_0, g_1, g_2, g_3, g_4, g_5, g_6, g_7, g_8, g_9, g_10, g_11, g_12, g_13, g_14, g_15, g_16, g_17, g_18, g_19⟩ := hx.c20
  go_simp
  clear g_0 g_1 g_2 g_3 g_4 g_5 g_6 g_7 g_8 g_9 g_10 g_11 g_12 g_13 g_14 g_15 g_16 g_17 g_18 g_19
  clear hS
  refine hK.out _ _ trivial (fun hS => ?_)
  clear hK K
  try simp only [List.setIfInBounds_toArray, List.set_cons_zero, List.set_cons_succ]
  clear hS
  refine listed_asW (l' := #[true, true, false, true, false, false, false, false, false, false]) (by kernel_rfl) ?_
  revert hsz
  revert hr
  revert hx
  revert HB
  revert V
  refine ?mc1
  rotate_left 1
  refine AllReadyH.cons rfl (fun K hK => ?_) AllReadyH.nil
  obtain ⟨g_0, g_1, g_2, g_3, g_4, g_5, g_6, g_7, g_8, g_9, g_10, g_11, g_12, g_13, g_14, g_15, g_16, g_17, g_18, g_19⟩ := hx.c20
  go_simp
  clear g_0 g_1 g_2 g_3 g_4 g_5 g_6 g_7 g_8 g_9 g_10 g_11 g_12 g_13 g_14 g_15 g_16 g_17 g_18 g_19
  clear hS
  refine hK.out _ _ trivial (fun hS => ?_)
  clear hK K
  try simp only [List.setIfInBounds_toArray, List.set_cons_zero, List.set_cons_succ]
  clear hS
  refine listed_asW (l' := #[true, false, false, true, true, false, false, false, false, false]) (by kernel_rfl) ?_
  revert hsz
  revert hr
  revert hx
  revert HB
  revert V
  refine ?mc4
  rotate_left 1
  intro V0 HB hx hr hsz
  have hS : (fun _ : World => True) V0 := trivial
  refine wpAnyH_ready (rs := [2, 4]) (by kernel_rfl) (by simp) ?_
  refine AllReadyH.cons rfl (fun K hK => ?_) ?_
  go_simp
  refine (HBC.out _ (hrb.below HB)).mono ?_
  rintro e V1 ⟨Y, rfl, hY, hP, hb⟩
  replace HB := HB.trans (hb.mono HB.size)
  replace hx := hx.below hb
  replace hr := hr.below hb
  replace hP := OwnBl.mono hP hsz
  replace hsz := Nat.le_trans hsz hb.size
  obtain ⟨a1, c1, a2, c2, e1, e2⟩ := hP.pr.slices
  obtain ⟨a3, c3, e3⟩ := ownSlX hP.mo
  obtain ⟨yb, ys, yt, ym⟩ := Y
  simp only [BlX.pr] at hY e1 e2 e3 hP ⊢
  subst hY
  simp only at e1 e2 e3 hP ⊢
  obtain ⟨n1, hn1⟩ : ∃ n, n = bps.length := ⟨_, rfl⟩
  obtain ⟨n2, hn2⟩ : ∃ n, n = bpt.length := ⟨_, rfl⟩
  obtain ⟨n3, hn3⟩ : ∃ n, n = bmo.length := ⟨_, rfl⟩
  rw [← hn1] at e1
  rw [← hn2] at e2
  rw [← hn3] at e3
  clear hn1 hn2 hn3
  subst e1 e2 e3
  clear hS hb
  refine hK.out _ _ trivial (fun hS => ?_)
  clear hK K
  try simp only [List.setIfInBounds_toArray, List.set_cons_zero, List.set_cons_succ]
  clear hS
  refine listed_asW (l' := #[true, true, true, true, false, false, false, false, false, false]) (by kernel_rfl) ?_
  revert hP
  revert hsz
  revert hr
  revert hx
  revert HB
  revert c3
  revert n3
  revert a3
  revert c2
  revert n2
  revert a2
  revert c1
  revert n1
  revert a1
  revert V1
  clear V0
  refine ?mc12
  rotate_left 1
  refine AllReadyH.cons rfl (fun K hK => ?_) AllReadyH.nil
  obtain ⟨g_0, g_1, g_2, g_3, g_4, g_5, g_6, g_7, g_8, g_9, g_10, g_11, g_12, g_13, g_14, g_15, g_16, g_17, g_18, g_19⟩ := hx.c20
  go_simp
  clear g_0 g_1 g_2 g_3 g_4 g_5 g_6 g_7 g_8 g_9 g_10 g_11 g_12 g_13 g_14 g_15 g_16 g_17 g_18 g_19
  clear hS
  refine hK.out _ _ trivial (fun hS => ?_)
  clear hK K
  try simp only [List.setIfInBounds_toArray, List.set_cons_zero, List.set_cons_succ]
  clear hS
  refine listed_asW (l' := #[true, true, false, true, true, false, false, false, false, false]) (by kernel_rfl) ?_
  revert hsz
  revert hr
  revert hx
  revert HB
  revert V0
  refine ?mc14
  rotate_left 1
  intro V0 HB hx hr hsz
  have hS : (fun _ : World => True) V0 := trivial
  refine wpAnyH_ready (rs := [1]) (by kernel_rfl) (by simp) ?_
  refine AllReadyH.cons rfl (fun K hK => ?_) AllReadyH.nil
  obtain ⟨g_0, g_1, g_2, g_3, g_4, g_5, g_6, g_7, g_8, g_9, g_10, g_11, g_12, g_13, g_14, g_15, g_16, g_17, g_18, g_19⟩ := hx.c20
  go_simp
  clear g_0 g_1 g_2 g_3 g_4 g_5 g_6 g_7 g_8 g_9 g_10 g_11 g_12 g_13 g_14 g_15 g_16 g_17 g_18 g_19
  clear hS
  refine hK.out _ _ trivial (fun hS => ?_)
  clear hK K
  try simp only [List.setIfInBounds_toArray, List.set_cons_zero, List.set_cons_succ]
  clear hS
  refine listed_asW (l' := #[true, true, false, true, true, false, false, false, false, false]) (by kernel_rfl) ?_
  revert hsz
  revert hr
  revert hx
  revert HB
  revert V0
  exact ?mc14
  intro V0 a1 n1 c1 a2 n2 c2 a3 n3 c3 HB hx hr hsz hP
  have hS : (fun _ : World => True) V0 := trivial
  refine wpAnyH_ready (rs := [4]) (by kernel_rfl) (by simp) ?_
  refine AllReadyH.cons rfl (fun K hK => ?_) AllReadyH.nil
  obtain ⟨g_0, g_1, g_2, g_3, g_4, g_5, g_6, g_7, g_8, g_9, g_10, g_11, g_12, g_13, g_14, g_15, g_16, g_17, g_18, g_19⟩ := hx.c20
  go_simp
  clear g_0 g_1 g_2 g_3 g_4 g_5 g_6 g_7 g_8 g_9 g_10 g_11 g_12 g_13 g_14 g_15 g_16 g_17 g_18 g_19
  clear hS
  refine hK.out _ _ trivial (fun hS => ?_)
  clear hK K
  try simp only [List.setIfInBounds_toArray, List.set_cons_zero, List.set_cons_succ]
  refine tkG 6 9 hS ?_
  try simp only [Act.put, List.setIfInBounds_toArray, List.set_cons_zero, List.set_cons_succ]
  clear hS
  refine listed_asW (l' := #[true, true, true, true, true, false, true, false, false, false]) (by kernel_rfl) ?_
  revert hP
  revert hsz
  revert hr
  revert hx
  revert HB
  revert c3
  revert n3
  revert a3
  revert c2
  revert n2
  revert a2
  revert c1
  revert n1
  revert a1
  revert V0
  refine ?mc124
  rotate_left 1
  intro V0 HB hx hr hsz
  have hS : (fun _ : World => True) V0 := trivial
  refine wpAnyH_ready (rs := [2]) (by kernel_rfl) (by simp) ?_
  refine AllReadyH.cons rfl (fun K hK => ?_) AllReadyH.nil
  go_simp
  refine (HBC.out _ (hrb.below HB)).mono ?_
  rintro e V1 ⟨Y, rfl, hY, hP, hb⟩
  replace HB := HB.trans (hb.mono HB.size)
  replace hx := hx.below hb
  replace hr := hr.below hb
  replace hP := OwnBl.mono hP hsz
  replace hsz := Nat.le_trans hsz hb.size
  obtain ⟨a1, c1, a2, c2, e1, e2⟩ := hP.pr.slices
  obtain ⟨a3, c3, e3⟩ := ownSlX hP.mo
  obtain ⟨yb, ys, yt, ym⟩ := Y
  simp only [BlX.pr] at hY e1 e2 e3 hP ⊢
  subst hY
  simp only at e1 e2 e3 hP ⊢
  obtain ⟨n1, hn1⟩ : ∃ n, n = bps.length := ⟨_, rfl⟩
  obtain ⟨n2, hn2⟩ : ∃ n, n = bpt.length := ⟨_, rfl⟩
  obtain ⟨n3, hn3⟩ : ∃ n, n = bmo.length := ⟨_, rfl⟩
  rw [← hn1] at e1
  rw [← hn2] at e2
  rw [← hn3] at e3
  clear hn1 hn2 hn3
  subst e1 e2 e3
  clear hS hb
  refine hK.out _ _ trivial (fun hS => ?_)
  clear hK K
  try simp only [List.setIfInBounds_toArray, List.set_cons_zero, List.set_cons_succ]
  refine tkG 6 9 hS ?_
  try simp only [Act.put, List.setIfInBounds_toArray, List.set_cons_zero, List.set_cons_succ]
  clear hS
  refine listed_asW (l' := #[true, true, true, true, true, false, true, false, false, false]) (by kernel_rfl) ?_
  revert hP
  revert hsz
  revert hr
  revert hx
  revert HB
  revert c3
  revert n3
  revert a3
  revert c2
  revert n2
  revert a2
  revert c1
  revert n1
  revert a1
  revert V1
  clear V0
  exact ?mc124
  intro V0 a1 n1 c1 a2 n2 c2 a3 n3 c3 HB hx hr hsz hP
  have hS : (fun _ : World => True) V0 := trivial
  refine wpAnyH_ready (rs := [5]) (by kernel_rfl) (by simp) ?_
  refine AllReadyH.cons rfl (fun K hK => ?_) AllReadyH.nil
  go_simp
  refine (HPC.out _ (hrp.below HB)).mono ?_
  rintro e V1 ⟨Y, rfl, hY, hM, hb⟩
  replace HB := HB.trans (hb.mono HB.size)
  replace hx := hx.below hb
  replace hr := hr.below hb
  have hap : ∀ q ∈ blB _, q ∉ prB Y := fun q h1 h2 => by have := (hP.bound h1).2; have := (hM.bound h2).1; omega
  replace hP := OwnBl.below hP hb
  replace hM := OwnPr.mono hM hsz
  replace hsz := Nat.le_trans hsz hb.size
  obtain ⟨⟨yv, yn, ys, yt⟩, yvs, yvt⟩ := Y
  simp only [Prf.mk.injEq] at hY
  obtain ⟨hY1, hY2, hY3, hY4⟩ := hY
  replace hY1 := hY1.symm
  replace hY2 := hY2.symm
  replace hY3 := hY3.symm
  replace hY4 := hY4.symm
  subst hY1 hY2 hY3 hY4
  obtain ⟨a4, c4, a5, c5, e1, e2⟩ := hM.slices
  simp only at e1 e2 hM hap ⊢
  obtain ⟨n4, hn1⟩ : ∃ n, n = pps.length := ⟨_, rfl⟩
  obtain ⟨n5, hn2⟩ : ∃ n, n = ppt.length := ⟨_, rfl⟩
  rw [← hn1] at e1
  rw [← hn2] at e2
  clear hn1 hn2
  subst e1 e2
  clear hS hb
  refine hK.out _ _ trivial (fun hS => ?_)
  clear hK K
  try simp only [List.setIfInBounds_toArray, List.set_cons_zero, List.set_cons_succ]
  clear hS
  refine listed_asW (l' := #[true, true, true, true, true, true, true, false, false, false]) (by kernel_rfl) ?_
  revert hap
  revert hM
  revert hP
  revert hsz
  revert hr
  revert hx
  revert HB
  revert c5
  revert n5
  revert a5
  revert c4
  revert n4
  revert a4
  revert c3
  revert n3
  revert a3
  revert c2
  revert n2
  revert a2
  revert c1
  revert n1
  revert a1
  revert V1
  clear V0
  refine ?mc1245
  rotate_left 1
  intro V0 a1 n1 c1 a2 n2 c2 a3 n3 c3 a4 n4 c4 a5 n5 c5 HB hx hr hsz hP hM hap
  have hS : (fun _ : World => True) V0 := trivial
  refine wpAnyH_ready (rs := [7]) (by kernel_rfl) (by simp) ?_
  refine AllReadyH.cons rfl (fun K hK => ?_) AllReadyH.nil
  obtain ⟨g_0, g_1, g_2, g_3, g_4, g_5, g_6, g_7, g_8, g_9, g_10, g_11, g_12, g_13, g_14, g_15, g_16, g_17, g_18, g_19⟩ := hx.c20
  obtain ⟨f_0, f_1, f_2, f_3, f_4, f_5, f_6, f_7, f_8, f_9, f_10, f_11, f_12, f_13, f_14, f_15, f_16, f_17, f_18, f_19⟩ := hx.f20
  go_simp
  clear g_0 g_1 g_2 g_3 g_4 g_5 g_6 g_7 g_8 g_9 g_10 g_11 g_12 g_13 g_14 g_15 g_16 g_17 g_18 g_19 f_0 f_1 f_2 f_3 f_4 f_5 f_6 f_7 f_8 f_9 f_10 f_11 f_12 f_13 f_14 f_15 f_16 f_17 f_18 f_19
  clear hS
  have p0 : Bx _ w.heap.size 38 #[.int .i64 kd, .int .i64 fr, .int .i64 to', .int .i64 vw, .int .i64 bv, .int .i64 ba, .int .i64 bpv, .int .i64 bpn, bs, bt, bm, .int .i64 bsv, .int .i64 ov, .int .i64 on, .int .i64 os, .int .i64 ot, .int .i64 pv, .int .i64 pn, ps, pt] := hx.set 4 (.int .i64 bv)
  have p1 : Bx _ w.heap.size 38 #[.int .i64 kd, .int .i64 fr, .int .i64 to', .int .i64 vw, .int .i64 bv, .int .i64 ba, .int .i64 bpv, .int .i64 bpn, bs, bt, bm, .int .i64 bsv, .int .i64 ov, .int .i64 on, .int .i64 os, .int .i64 ot, .int .i64 pv, .int .i64 pn, ps, pt] := p0.set 5 (.int .i64 ba)
  have p2 : Bx _ w.heap.size 38 #[.int .i64 kd, .int .i64 fr, .int .i64 to', .int .i64 vw, .int .i64 bv, .int .i64 ba, .int .i64 bpv, .int .i64 bpn, bs, bt, bm, .int .i64 bsv, .int .i64 ov, .int .i64 on, .int .i64 os, .int .i64 ot, .int .i64 pv, .int .i64 pn, ps, pt] := p1.set 6 (.int .i64 bpv)
  have p3 : Bx _ w.heap.size 38 #[.int .i64 kd, .int .i64 fr, .int .i64 to', .int .i64 vw, .int .i64 bv, .int .i64 ba, .int .i64 bpv, .int .i64 bpn, bs, bt, bm, .int .i64 bsv, .int .i64 ov, .int .i64 on, .int .i64 os, .int .i64 ot, .int .i64 pv, .int .i64 pn, ps, pt] := p2.set 7 (.int .i64 bpn)
  have p4 : Bx _ w.heap.size 38 #[.int .i64 kd, .int .i64 fr, .int .i64 to', .int .i64 vw, .int .i64 bv, .int .i64 ba, .int .i64 bpv, .int .i64 bpn, .slice a1 n1 c1, bt, bm, .int .i64 bsv, .int .i64 ov, .int .i64 on, .int .i64 os, .int .i64 ot, .int .i64 pv, .int .i64 pn, ps, pt] := p3.set 8 (.slice a1 n1 c1)
  have p5 : Bx _ w.heap.size 38 #[.int .i64 kd, .int .i64 fr, .int .i64 to', .int .i64 vw, .int .i64 bv, .int .i64 ba, .int .i64 bpv, .int .i64 bpn, .slice a1 n1 c1, .slice a2 n2 c2, bm, .int .i64 bsv, .int .i64 ov, .int .i64 on, .int .i64 os, .int .i64 ot, .int .i64 pv, .int .i64 pn, ps, pt] := p4.set 9 (.slice a2 n2 c2)
  have p6 : Bx _ w.heap.size 38 #[.int .i64 kd, .int .i64 fr, .int .i64 to', .int .i64 vw, .int .i64 bv, .int .i64 ba, .int .i64 bpv, .int .i64 bpn, .slice a1 n1 c1, .slice a2 n2 c2, .slice a3 n3 c3, .int .i64 bsv, .int .i64 ov, .int .i64 on, .int .i64 os, .int .i64 ot, .int .i64 pv, .int .i64 pn, ps, pt] := p5.set 10 (.slice a3 n3 c3)
  have p7 : Bx _ w.heap.size 38 #[.int .i64 kd, .int .i64 fr, .int .i64 to', .int .i64 vw, .int .i64 bv, .int .i64 ba, .int .i64 bpv, .int .i64 bpn, .slice a1 n1 c1, .slice a2 n2 c2, .slice a3 n3 c3, .int .i64 bsv, .int .i64 ov, .int .i64 on, .int .i64 os, .int .i64 ot, .int .i64 pv, .int .i64 pn, ps, pt] := p6.set 11 (.int .i64 bsv)
  have hin : w.heap.size ∈ [w.heap.size] := List.mem_singleton.2 rfl
  have HT : Touch [w.heap.size] V0 (World.setCell (World.setCell (World.setCell (World.setCell (World.setCell (World.setCell (World.setCell (World.setCell V0 ⟨w.heap.size, 4, none⟩ (.int .i64 bv)) ⟨w.heap.size, 5, none⟩ (.int .i64 ba)) ⟨w.heap.size, 6, none⟩ (.int .i64 bpv)) ⟨w.heap.size, 7, none⟩ (.int .i64 bpn)) ⟨w.heap.size, 8, none⟩ (.slice a1 n1 c1)) ⟨w.heap.size, 9, none⟩ (.slice a2 n2 c2)) ⟨w.heap.size, 10, none⟩ (.slice a3 n3 c3)) ⟨w.heap.size, 11, none⟩ (.int .i64 bsv)) := ((((((((Touch.set hin).trans (Touch.set hin)).trans (Touch.set hin)).trans (Touch.set hin)).trans (Touch.set hin)).trans (Touch.set hin)).trans (Touch.set hin)).trans (Touch.set hin))
  replace hx : Bx (World.setCell (World.setCell (World.setCell (World.setCell (World.setCell (World.setCell (World.setCell (World.setCell V0 ⟨w.heap.size, 4, none⟩ (.int .i64 bv)) ⟨w.heap.size, 5, none⟩ (.int .i64 ba)) ⟨w.heap.size, 6, none⟩ (.int .i64 bpv)) ⟨w.heap.size, 7, none⟩ (.int .i64 bpn)) ⟨w.heap.size, 8, none⟩ (.slice a1 n1 c1)) ⟨w.heap.size, 9, none⟩ (.slice a2 n2 c2)) ⟨w.heap.size, 10, none⟩ (.slice a3 n3 c3)) ⟨w.heap.size, 11, none⟩ (.int .i64 bsv)) w.heap.size 38 #[.int .i64 kd, .int .i64 fr, .int .i64 to', .int .i64 vw, .int .i64 bv, .int .i64 ba, .int .i64 bpv, .int .i64 bpn, .slice a1 n1 c1, .slice a2 n2 c2, .slice a3 n3 c3, .int .i64 bsv, .int .i64 ov, .int .i64 on, .int .i64 os, .int .i64 ot, .int .i64 pv, .int .i64 pn, ps, pt] := p7
  clear hin p0 p1 p2 p3 p4 p5 p6 p7
  replace HB := HT.below HB (fun q hq => by have := List.mem_singleton.1 hq; omega)
  replace hP := OwnBl.touch hP HT (fun k hk e => by have h1 := (hP.bound hk).1; have h2 := List.mem_singleton.1 e; omega)
  replace hM := OwnPr.touch hM HT (fun k hk e => by have h1 := (hM.bound hk).1; have h2 := List.mem_singleton.1 e; omega)
  replace hr := hr.of_block (HT.block _ hr.lt (by simp))
  replace hsz := Nat.le_trans hsz HT.size
  clear HT
  refine hK.out _ _ trivial (fun hS => ?_)
  clear hK K
  try simp only [List.setIfInBounds_toArray, List.set_cons_zero, List.set_cons_succ]
  revert hS
  revert hsz
  revert hr
  revert hM
  revert hP
  revert HB
  revert hx
  generalize World.setCell (World.setCell (World.setCell (World.setCell (World.setCell (World.setCell (World.setCell (World.setCell V0 ⟨w.heap.size, 4, none⟩ (.int .i64 bv)) ⟨w.heap.size, 5, none⟩ (.int .i64 ba)) ⟨w.heap.size, 6, none⟩ (.int .i64 bpv)) ⟨w.heap.size, 7, none⟩ (.int .i64 bpn)) ⟨w.heap.size, 8, none⟩ (.slice a1 n1 c1)) ⟨w.heap.size, 9, none⟩ (.slice a2 n2 c2)) ⟨w.heap.size, 10, none⟩ (.slice a3 n3 c3)) ⟨w.heap.size, 11, none⟩ (.int .i64 bsv) = V1
  intro hx HB hP hM hr hsz hS
  refine tkG 8 10 hS ?_
  try simp only [Act.put, List.setIfInBounds_toArray, List.set_cons_zero, List.set_cons_succ]
  clear hS
  refine listed_asW (l' := #[true, true, true, true, true, true, true, true, true, false]) (by kernel_rfl) ?_
  revert hap
  revert hM
  revert hP
  revert hsz
  revert hr
  revert hx
  revert HB
  revert c5
  revert n5
  revert a5
  revert c4
  revert n4
  revert a4
  revert c3
  revert n3
  revert a3
  revert c2
  revert n2
  revert a2
  revert c1
  revert n1
  revert a1
  revert V1
  clear V0
  refine ?mc12457
  rotate_left 1
  intro V0 a1 n1 c1 a2 n2 c2 a3 n3 c3 a4 n4 c4 a5 n5 c5 HB hx hr hsz hP hM hap
  have hS : (fun _ : World => True) V0 := trivial
  refine wpAnyH_ready (rs := [9]) (by kernel_rfl) (by simp) ?_
  refine AllReadyH.cons rfl (fun K hK => ?_) AllReadyH.nil
  obtain ⟨g_0, g_1, g_2, g_3, g_4, g_5, g_6, g_7, g_8, g_9, g_10, g_11, g_12, g_13, g_14, g_15, g_16, g_17, g_18, g_19⟩ := hx.c20
  obtain ⟨f_0, f_1, f_2, f_3, f_4, f_5, f_6, f_7, f_8, f_9, f_10, f_11, f_12, f_13, f_14, f_15, f_16, f_17, f_18, f_19⟩ := hx.f20
  go_simp
  clear g_0 g_1 g_2 g_3 g_4 g_5 g_6 g_7 g_8 g_9 g_10 g_11 g_12 g_13 g_14 g_15 g_16 g_17 g_18 g_19 f_0 f_1 f_2 f_3 f_4 f_5 f_6 f_7 f_8 f_9 f_10 f_11 f_12 f_13 f_14 f_15 f_16 f_17 f_18 f_19
  clear hS
  have p0 : Bx _ w.heap.size 38 #[.int .i64 kd, .int .i64 fr, .int .i64 to', .int .i64 vw, .int .i64 bv, .int .i64 ba, .int .i64 bpv, .int .i64 bpn, .slice a1 n1 c1, .slice a2 n2 c2, .slice a3 n3 c3, .int .i64 bsv, .int .i64 ov, .int .i64 on, .int .i64 os, .int .i64 ot, .int .i64 pv, .int .i64 pn, ps, pt] := hx.set 16 (.int .i64 pv)
  have p1 : Bx _ w.heap.size 38 #[.int .i64 kd, .int .i64 fr, .int .i64 to', .int .i64 vw, .int .i64 bv, .int .i64 ba, .int .i64 bpv, .int .i64 bpn, .slice a1 n1 c1, .slice a2 n2 c2, .slice a3 n3 c3, .int .i64 bsv, .int .i64 ov, .int .i64 on, .int .i64 os, .int .i64 ot, .int .i64 pv, .int .i64 pn, ps, pt] := p0.set 17 (.int .i64 pn)
  have p2 : Bx _ w.heap.size 38 #[.int .i64 kd, .int .i64 fr, .int .i64 to', .int .i64 vw, .int .i64 bv, .int .i64 ba, .int .i64 bpv, .int .i64 bpn, .slice a1 n1 c1, .slice a2 n2 c2, .slice a3 n3 c3, .int .i64 bsv, .int .i64 ov, .int .i64 on, .int .i64 os, .int .i64 ot, .int .i64 pv, .int .i64 pn, .slice a4 n4 c4, pt] := p1.set 18 (.slice a4 n4 c4)
  have p3 : Bx _ w.heap.size 38 #[.int .i64 kd, .int .i64 fr, .int .i64 to', .int .i64 vw, .int .i64 bv, .int .i64 ba, .int .i64 bpv, .int .i64 bpn, .slice a1 n1 c1, .slice a2 n2 c2, .slice a3 n3 c3, .int .i64 bsv, .int .i64 ov, .int .i64 on, .int .i64 os, .int .i64 ot, .int .i64 pv, .int .i64 pn, .slice a4 n4 c4, .slice a5 n5 c5] := p2.set 19 (.slice a5 n5 c5)
  have hin : w.heap.size ∈ [w.heap.size] := List.mem_singleton.2 rfl
  have HT : Touch [w.heap.size] V0 (World.setCell (World.setCell (World.setCell (World.setCell V0 ⟨w.heap.size, 16, none⟩ (.int .i64 pv)) ⟨w.heap.size, 17, none⟩ (.int .i64 pn)) ⟨w.heap.size, 18, none⟩ (.slice a4 n4 c4)) ⟨w.heap.size, 19, none⟩ (.slice a5 n5 c5)) := ((((Touch.set hin).trans (Touch.set hin)).trans (Touch.set hin)).trans (Touch.set hin))
  replace hx : Bx (World.setCell (World.setCell (World.setCell (World.setCell V0 ⟨w.heap.size, 16, none⟩ (.int .i64 pv)) ⟨w.heap.size, 17, none⟩ (.int .i64 pn)) ⟨w.heap.size, 18, none⟩ (.slice a4 n4 c4)) ⟨w.heap.size, 19, none⟩ (.slice a5 n5 c5)) w.heap.size 38 #[.int .i64 kd, .int .i64 fr, .int .i64 to', .int .i64 vw, .int .i64 bv, .int .i64 ba, .int .i64 bpv, .int .i64 bpn, .slice a1 n1 c1, .slice a2 n2 c2, .slice a3 n3 c3, .int .i64 bsv, .int .i64 ov, .int .i64 on, .int .i64 os, .int .i64 ot, .int .i64 pv, .int .i64 pn, .slice a4 n4 c4, .slice a5 n5 c5] := p3
  clear hin p0 p1 p2 p3
  replace HB := HT.below HB (fun q hq => by have := List.mem_singleton.1 hq; omega)
  replace hP := OwnBl.touch hP HT (fun k hk e => by have h1 := (hP.bound hk).1; have h2 := List.mem_singleton.1 e; omega)
  replace hM := OwnPr.touch hM HT (fun k hk e => by have h1 := (hM.bound hk).1; have h2 := List.mem_singleton.1 e; omega)
  replace hr := hr.of_block (HT.block _ hr.lt (by simp))
  replace hsz := Nat.le_trans hsz HT.size
  clear HT
  refine hK.out _ _ trivial (fun hS => ?_)
  clear hK K
  try simp only [List.setIfInBounds_toArray, List.set_cons_zero, List.set_cons_succ]
  revert hS
  revert hsz
  revert hr
  revert hM
  revert hP
  revert HB
  revert hx
  generalize World.setCell (World.setCell (World.setCell (World.setCell V0 ⟨w.heap.size, 16, none⟩ (.int .i64 pv)) ⟨w.heap.size, 17, none⟩ (.int .i64 pn)) ⟨w.heap.size, 18, none⟩ (.slice a4 n4 c4)) ⟨w.heap.size, 19, none⟩ (.slice a5 n5 c5) = V1
  intro hx HB hP hM hr hsz hS
  clear hS
  refine listed_asW (l' := #[true, true, true, true, true, true, true, true, true, true]) (by kernel_rfl) ?_
  revert hap
  revert hM
  revert hP
  revert hsz
  revert hr
  revert hx
  revert HB
  revert c5
  revert n5
  revert a5
  revert c4
  revert n4
  revert a4
  revert c3
  revert n3
  revert a3
  revert c2
  revert n2
  revert a2
  revert c1
  revert n1
  revert a1
  revert V1
  clear V0
  refine ?mc124579
  rotate_left 1
  intro V0 a1 n1 c1 a2 n2 c2 a3 n3 c3 a4 n4 c4 a5 n5 c5 HB hx hr hsz hP hM hap
  have hS : (fun _ : World => True) V0 := trivial
  refine wpAnyH_done (by kernel_rfl) ?_ _
  refine NoPanic.normal ?_
  clear hS
  have hown : OwnMg V0 (w.heap.size + 2) ⟨kd, fr, to', vw, ⟨⟨bv, ba, ⟨bpv, bpn, bps, bpt⟩, bmo, bsv⟩, .slice a1 n1 c1, .slice a2 n2 c2, .slice a3 n3 c3⟩, ⟨ov, on, os, ot⟩, ⟨⟨pv, pn, pps, ppt⟩, .slice a4 n4 c4, .slice a5 n5 c5⟩⟩ := ⟨hP, hM, hap⟩
  obtain ⟨CC, hCC⟩ : ∃ CC : Array Value, CC = #[.int .i64 kd, .int .i64 fr, .int .i64 to', .int .i64 vw, .int .i64 bv, .int .i64 ba, .int .i64 bpv, .int .i64 bpn, .slice a1 n1 c1, .slice a2 n2 c2, .slice a3 n3 c3, .int .i64 bsv, .int .i64 ov, .int .i64 on, .int .i64 os, .int .i64 ot, .int .i64 pv, .int .i64 pn, .slice a4 n4 c4, .slice a5 n5 c5] := ⟨_, rfl⟩
  have hsc : (Tryz.prog.info? 38).map (·.size) = some CC.size := by rw [hCC]; kernel_rfl
  have hos : (#[.int .i64 0, .int .i64 0, .int .i64 0, .int .i64 0, .int .i64 0, .int .i64 0, .int .i64 0, .int .i64 0, .slice none 0 0, .slice none 0 0, .slice none 0 0, .int .i64 0, .int .i64 0, .int .i64 0, .int .i64 0, .int .i64 0, .int .i64 0, .int .i64 0, .slice none 0 0, .slice none 0 0] : Array Value).size = CC.size := by rw [hCC]; rfl
  have hall : CC.all (·.oneCell') = true := by rw [hCC]; simp [Value.oneCell']
  have HF : Hid (ToMg w ⟨kd, fr, to', vw, ⟨bv, ba, ⟨bpv, bpn, bps, bpt⟩, bmo, bsv⟩, ⟨ov, on, os, ot⟩, ⟨pv, pn, pps, ppt⟩⟩ (.returned (.agg CC)) (V0.setRow (w.heap.size + 1) CC)) := by
    refine ⟨⟨kd, fr, to', vw, ⟨⟨bv, ba, ⟨bpv, bpn, bps, bpt⟩, bmo, bsv⟩, .slice a1 n1 c1, .slice a2 n2 c2, .slice a3 n3 c3⟩, ⟨ov, on, os, ot⟩, ⟨⟨pv, pn, pps, ppt⟩, .slice a4 n4 c4, .slice a5 n5 c5⟩⟩, by rw [hCC], rfl, (hown.touch touch_setRow (fun q hq e => by have h1 := (hown.bound hq).1; have h2 := List.mem_singleton.1 e; omega)).mono (by omega), touch_setRow.below HB (fun q hq => by have := List.mem_singleton.1 hq; omega)⟩
  rw [← hCC] at hx
  have ho9 : V0.heap[w.heap.size]? = some (.cells CC 38 (0, 0)) := hx
  have hr9 : V0.heap[w.heap.size + 1]? = some (.cells #[.int .i64 0, .int .i64 0, .int .i64 0, .int .i64 0, .int .i64 0, .int .i64 0, .int .i64 0, .int .i64 0, .slice none 0 0, .slice none 0 0, .slice none 0 0, .int .i64 0, .int .i64 0, .int .i64 0, .int .i64 0, .int .i64 0, .int .i64 0, .int .i64 0, .slice none 0 0, .slice none 0 0] 38 (0, 0)) := hr
  have hr10 : (V0.setRow (w.heap.size + 1) CC).heap[w.heap.size + 1]? = some (.cells CC 38 (0, 0)) := hr.setRow CC
  clear hown hP hM hap HB hx hr hsz hCC
  go_wp2_with (first | (refine wpList_load_row rfl 38 _ rfl w.heap.size rfl 38 CC (0, 0) _ ho9 Tryz.underlying38 (by rfl) hsc ?_) | (refine wpList_store_row rfl 38 _ _ rfl (w.heap.size + 1) CC rfl rfl 38 _ hr9 hsc hos hall ?_))
  exact bodyPost_ret (v := .agg CC) (results_cell_row rfl _ _ (w.heap.size + 1) 38 CC (0, 0) _ rfl hr10 Tryz.underlying38 (by rfl) hsc) rfl HF.out
end Go.Proofs.YtilhaokiohbeeaaGreatDoor
