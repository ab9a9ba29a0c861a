/- The contract of the program's voter.proofOk. The contract of the program's Block.copied. A right Block can be shown: plain. -/
import Derived.Test.YtilhaokiohbeeaaGreatDoorG35
import Derived.Test.YtilhaokiohbeeaaGreatDoorG37
import Derived.Test.YtilhaokiohbeeaaGreatDoorG17
import Derived.Test.YtilhaokiohbeeaaGreatDoorG07
import Derived.Test.YtilhaokiohbeeaaGreatDoorBlxOkS
import Derived.Test.YtilhaokiohbeeaaGreatDoorG24
import Derived.Test.YtilhaokiohbeeaaGreatDoorG19
-- UNF Gen
namespace Go.Proofs.YtilhaokiohbeeaaGreatDoor
open Go.RowKit
set_option maxHeartbeats 4000000 in
set_option maxRecDepth 100000 in
theorem proofOkV_any {w0 W : World} {g : Nat} {V : Vt} (P : PrX) (h : VtA w0 W g V) (hp : RdPr W P) (hf : FitPr P.p) (ht : Tab W) :
    Calls Tryz.prog 148 #[.pointer (some ⟨g, 0, none⟩), .agg #[.int .i64 P.p.vw, .int .i64 P.p.nm, P.vs, P.vt]] W fun e w' => e = .returned (.bool (prfR P.p V.X.n && knoB (bsOf V.X.bs) P.p)) ∧ Below W.heap.size W w' := by
  have hg := h.lt
  have hn : W.cell? ⟨g, 1, none⟩ = some (.int .i64 V.X.n) := h.box.c17.2.1
  obtain ⟨⟨pv, pn, ps, pt⟩, pvs, pvt⟩ := P
  obtain ⟨p, hpp⟩ : ∃ z, prfR ⟨pv, pn, ps, pt⟩ V.X.n = z := ⟨_, rfl⟩
  obtain ⟨k, hkk⟩ : ∃ z, knoB (bsOf V.X.bs) ⟨pv, pn, ps, pt⟩ = z := ⟨_, rfl⟩
  obtain ⟨n, hne⟩ : ∃ n, n = V.X.n := ⟨_, rfl⟩
  rw [← hne] at hn hpp
  simp only
  rw [hkk, ← hne, hpp]
  have HPO : Hid (∀ W', Below W.heap.size W W' → Calls Tryz.prog 198 #[.agg #[.int .i64 pv, .int .i64 pn, pvs, pvt], .int .i64 n] W' fun e w' => e = .returned (.bool p) ∧ Below W'.heap.size W' w') := fun W' hb => by rw [← hpp]; exact implProofOk_any ⟨⟨pv, pn, ps, pt⟩, pvs, pvt⟩ n W' (hp.below hb) hf (ht.on hb)
  have HKN : Hid (∀ W', Below W.heap.size W W' → Calls Tryz.prog 195 #[.pointer (some ⟨g, 0, none⟩), .agg #[.int .i64 pv, .int .i64 pn, pvs, pvt]] W' fun e w' => e = .returned (.bool k) ∧ Below W'.heap.size W' w') := fun W' hb => by rw [← hkk]; exact knowsV_any ⟨⟨pv, pn, ps, pt⟩, pvs, pvt⟩ (h.next hb) (hp.below hb) hf
  have t2 := bx_new W 26 #[.int .i64 pv, .int .i64 pn, pvs, pvt]
  have b2 := below1 W (.cells #[.int .i64 pv, .int .i64 pn, pvs, pvt] 26)
  clear hpp hkk hne h hp hf ht
  go_enter Tryz.func148, Tryz.ntmps148
  cases p with
  | false =>
    go_wp2_with fail
    generalize W.alloc (.cells #[.int .i64 pv, .int .i64 pn, pvs, pvt] 26) = W2 at t2 b2 ⊢
    refine wp_region_noPanic ?_
    refine wp_region_held_drew (S := fun w' => (w'.cell? ⟨W.heap.size, 0, none⟩ = some (.int .i64 pv) ∧ w'.cell? ⟨W.heap.size, 1, none⟩ = some (.int .i64 pn) ∧ w'.cell? ⟨W.heap.size, 2, none⟩ = some (pvs) ∧ w'.cell? ⟨W.heap.size, 3, none⟩ = some (pvt)) ∧ w'.cell? ⟨g, 1, none⟩ = some (.int .i64 n)) (by kernel_rfl) ⟨(t2.below (Below.refl _ _).drew).c4, (b2.drew.cell (p := ⟨g, 1, none⟩) hg).trans hn⟩ (fun h0 => ?_)
    refine tkG 0 5 h0 ?_
    try simp only [Act.put, List.setIfInBounds_toArray, List.set_cons_zero, List.set_cons_succ]
    refine tkG 1 6 h0 ?_
    try simp only [Act.put, List.setIfInBounds_toArray, List.set_cons_zero, List.set_cons_succ]
    refine tkG 2 7 h0 ?_
    try simp only [Act.put, List.setIfInBounds_toArray, List.set_cons_zero, List.set_cons_succ]
    refine tkG 3 8 h0 ?_
    try simp only [Act.put, List.setIfInBounds_toArray, List.set_cons_zero, List.set_cons_succ]
    refine tkG 4 9 h0 ?_
    try simp only [Act.put, List.setIfInBounds_toArray, List.set_cons_zero, List.set_cons_succ]
    refine tkG 5 10 h0 ?_
    try simp only [Act.put, List.setIfInBounds_toArray, List.set_cons_zero, List.set_cons_succ]
    refine wpAnyH_ready (rs := [6]) (by kernel_rfl) (by simp) ?_
    refine AllReadyH.cons rfl (fun K hK => ?_) AllReadyH.nil
    go_simp
    refine (HPO.out _ b2.drew).mono ?_
    rintro e w5 ⟨rfl, hb5⟩
    have b5 := b2.drew.trans (hb5.mono b2.drew.size)
    have t5 := (t2.below (Below.refl _ _).drew).below hb5
    refine hK.out _ _ (⟨t5.c4, (b5.cell (p := ⟨g, 1, none⟩) hg).trans hn⟩) (fun h1 => ?_)
    clear hK K
    try simp only [Act.put, List.setIfInBounds_toArray, List.set_cons_zero, List.set_cons_succ]
    clear h0
    refine tkG 7 12 h1 ?_
    try simp only [Act.put, List.setIfInBounds_toArray, List.set_cons_zero, List.set_cons_succ]
    refine tkS 8 13 h1 ?_
    try simp only [Act.put, List.setIfInBounds_toArray, List.set_cons_zero, List.set_cons_succ]
    refine tkS 9 14 h1 ?_
    try simp only [Act.put, List.setIfInBounds_toArray, List.set_cons_zero, List.set_cons_succ]
    refine tkS 10 15 h1 ?_
    try simp only [Act.put, List.setIfInBounds_toArray, List.set_cons_zero, List.set_cons_succ]
    refine tkG 11 16 h1 ?_
    try simp only [Act.put, List.setIfInBounds_toArray, List.set_cons_zero, List.set_cons_succ]
    refine tkG 12 4 h1 ?_
    try simp only [Act.put, List.setIfInBounds_toArray, List.set_cons_zero, List.set_cons_succ]
    refine wpAnyH_done (by kernel_rfl) ?_ _
    refine NoPanic.normal ?_
    go_wp2
    go_ret
    exact ⟨rfl, b5⟩
  | true =>
    go_wp2_with fail
    generalize W.alloc (.cells #[.int .i64 pv, .int .i64 pn, pvs, pvt] 26) = W2 at t2 b2 ⊢
    refine wp_region_noPanic ?_
    refine wp_region_held_drew (S := fun w' => (w'.cell? ⟨W.heap.size, 0, none⟩ = some (.int .i64 pv) ∧ w'.cell? ⟨W.heap.size, 1, none⟩ = some (.int .i64 pn) ∧ w'.cell? ⟨W.heap.size, 2, none⟩ = some (pvs) ∧ w'.cell? ⟨W.heap.size, 3, none⟩ = some (pvt)) ∧ w'.cell? ⟨g, 1, none⟩ = some (.int .i64 n)) (by kernel_rfl) ⟨(t2.below (Below.refl _ _).drew).c4, (b2.drew.cell (p := ⟨g, 1, none⟩) hg).trans hn⟩ (fun h0 => ?_)
    refine tkG 0 5 h0 ?_
    try simp only [Act.put, List.setIfInBounds_toArray, List.set_cons_zero, List.set_cons_succ]
    refine tkG 1 6 h0 ?_
    try simp only [Act.put, List.setIfInBounds_toArray, List.set_cons_zero, List.set_cons_succ]
    refine tkG 2 7 h0 ?_
    try simp only [Act.put, List.setIfInBounds_toArray, List.set_cons_zero, List.set_cons_succ]
    refine tkG 3 8 h0 ?_
    try simp only [Act.put, List.setIfInBounds_toArray, List.set_cons_zero, List.set_cons_succ]
    refine tkG 4 9 h0 ?_
    try simp only [Act.put, List.setIfInBounds_toArray, List.set_cons_zero, List.set_cons_succ]
    refine tkG 5 10 h0 ?_
    try simp only [Act.put, List.setIfInBounds_toArray, List.set_cons_zero, List.set_cons_succ]
    refine wpAnyH_ready (rs := [6]) (by kernel_rfl) (by simp) ?_
    refine AllReadyH.cons rfl (fun K hK => ?_) AllReadyH.nil
    go_simp
    refine (HPO.out _ b2.drew).mono ?_
    rintro e w5 ⟨rfl, hb5⟩
    have b5 := b2.drew.trans (hb5.mono b2.drew.size)
    have t5 := (t2.below (Below.refl _ _).drew).below hb5
    refine hK.out _ _ (⟨t5.c4, (b5.cell (p := ⟨g, 1, none⟩) hg).trans hn⟩) (fun h1 => ?_)
    clear hK K
    try simp only [Act.put, List.setIfInBounds_toArray, List.set_cons_zero, List.set_cons_succ]
    clear h0
    refine tkG 7 12 h1 ?_
    try simp only [Act.put, List.setIfInBounds_toArray, List.set_cons_zero, List.set_cons_succ]
    refine tkG 8 13 h1 ?_
    try simp only [Act.put, List.setIfInBounds_toArray, List.set_cons_zero, List.set_cons_succ]
    refine tkG 9 14 h1 ?_
    try simp only [Act.put, List.setIfInBounds_toArray, List.set_cons_zero, List.set_cons_succ]
    refine wpAnyH_ready (rs := [10]) (by kernel_rfl) (by simp) ?_
    refine AllReadyH.cons rfl (fun K hK => ?_) AllReadyH.nil
    go_simp
    refine (HKN.out _ b5).mono ?_
    rintro e w6 ⟨rfl, hb6⟩
    have b6 := b5.trans (hb6.mono b5.size)
    have t6 := t5.below hb6
    refine hK.out _ _ (⟨t6.c4, (b6.cell (p := ⟨g, 1, none⟩) hg).trans hn⟩) (fun h2 => ?_)
    clear hK K
    try simp only [Act.put, List.setIfInBounds_toArray, List.set_cons_zero, List.set_cons_succ]
    clear h1
    refine tkG 11 16 h2 ?_
    try simp only [Act.put, List.setIfInBounds_toArray, List.set_cons_zero, List.set_cons_succ]
    refine tkG 12 4 h2 ?_
    try simp only [Act.put, List.setIfInBounds_toArray, List.set_cons_zero, List.set_cons_succ]
    refine wpAnyH_done (by kernel_rfl) ?_ _
    refine NoPanic.normal ?_
    go_wp2
    go_ret
    exact ⟨rfl, b6⟩
end Go.Proofs.YtilhaokiohbeeaaGreatDoor
-- UNF Gen
namespace Go.Proofs.YtilhaokiohbeeaaGreatDoor
open Go.RowKit
theorem listed_asW {P : Program} {md : Region.Mode} {ops : Array Oper} {Q : Exit → Act → World → Prop} {S : World → Prop} {fuel : Nat} {l l' : Array Bool} {a : Act} {w : World} (hl : l = l') (h : wpAnyH P md ops Q S fuel l' a w) : wpAnyH P md ops Q S fuel l a w := by subst hl; exact h
set_option maxHeartbeats 4000000 in
set_option maxRecDepth 100000 in
theorem blockCopied_any (X : BlX) (w : World) (hr0 : RdBl w X) (hn : NilOk X.vm) (hl1 : X.b.p.sv.length ≤ 1000000000) (hl2 : X.b.p.tg.length ≤ 1000000000) (hl3 : X.b.mo.length ≤ 1000000000) :
    Calls Tryz.prog 173 #[.agg #[.int .i64 X.b.vw, .int .i64 X.b.pa, .int .i64 X.b.p.vw, .int .i64 X.b.p.nm, X.vs, X.vt, X.vm, .int .i64 X.b.sv]] w fun e w' => ToBl w X.b e w' := by
  obtain ⟨⟨vw, pa, ⟨pv, pn, ps, pt⟩, mo, sv⟩, pvs, pvt, vm⟩ := X
  obtain ⟨hrp, hrm⟩ := hr0
  simp only [BlX.pr] at hrp hrm hn hl1 hl2 hl3 ⊢
  have HPC : Hid (∀ W, RdPr W ⟨⟨pv, pn, ps, pt⟩, pvs, pvt⟩ → Calls Tryz.prog 150 #[.agg #[.int .i64 pv, .int .i64 pn, pvs, pvt]] W fun e w' => ∃ Y : PrX, e = .returned (.agg #[.int .i64 Y.p.vw, .int .i64 Y.p.nm, Y.vs, Y.vt]) ∧ Y.p = ⟨pv, pn, ps, pt⟩ ∧ OwnPr w' W.heap.size Y ∧ Below W.heap.size W w') := fun W h => proofCopied_any ⟨⟨pv, pn, ps, pt⟩, pvs, pvt⟩ W h hl1 hl2
  have HTC : Hid (∀ W, RdS W vm mo → Calls Tryz.prog 210 #[vm] W fun e w' => ∃ u, e = .returned u ∧ OwnS w' W.heap.size u mo ∧ Below W.heap.size W w') := fun W h => copyT_any _ _ W h hn hl3
  clear hn hl1 hl2 hl3
  have hx := (bx_new w 34 #[.int .i64 vw, .int .i64 pa, .int .i64 pv, .int .i64 pn, pvs, pvt, vm, .int .i64 sv]).below (below1 _ (.cells #[.int .i64 0, .int .i64 0, .int .i64 0, .int .i64 0, .slice none 0 0, .slice none 0 0, .slice none 0 0, .int .i64 0] 34))
  have hr := bx_new (w.alloc (.cells #[.int .i64 vw, .int .i64 pa, .int .i64 pv, .int .i64 pn, pvs, pvt, vm, .int .i64 sv] 34)) 34 #[.int .i64 0, .int .i64 0, .int .i64 0, .int .i64 0, .slice none 0 0, .slice none 0 0, .slice none 0 0, .int .i64 0]
  have HB := below2 w (.cells #[.int .i64 vw, .int .i64 pa, .int .i64 pv, .int .i64 pn, pvs, pvt, vm, .int .i64 sv] 34) (.cells #[.int .i64 0, .int .i64 0, .int .i64 0, .int .i64 0, .slice none 0 0, .slice none 0 0, .slice none 0 0, .int .i64 0] 34)
  have hsz : w.heap.size + 2 ≤ ((w.alloc (.cells #[.int .i64 vw, .int .i64 pa, .int .i64 pv, .int .i64 pn, pvs, pvt, vm, .int .i64 sv] 34)).alloc (.cells #[.int .i64 0, .int .i64 0, .int .i64 0, .int .i64 0, .slice none 0 0, .slice none 0 0, .slice none 0 0, .int .i64 0] 34)).heap.size := by simp
  rw [show (w.alloc (.cells #[.int .i64 vw, .int .i64 pa, .int .i64 pv, .int .i64 pn, pvs, pvt, vm, .int .i64 sv] 34)).heap.size = w.heap.size + 1 by simp] at hr
  go_enter Tryz.func173, Tryz.ntmps173
  go_wp2_with fail
  generalize (w.alloc (.cells #[.int .i64 vw, .int .i64 pa, .int .i64 pv, .int .i64 pn, pvs, pvt, vm, .int .i64 sv] 34)).alloc (.cells #[.int .i64 0, .int .i64 0, .int .i64 0, .int .i64 0, .slice none 0 0, .slice none 0 0, .slice none 0 0, .int .i64 0] 34) = W2 at hx hr HB hsz ⊢
  refine wp_region_noPanic ?_
  refine wp_region_held_drew (S := fun _ : World => True) (by kernel_rfl) trivial (fun hS => ?_)
  replace HB := HB.drew
  replace hx := hx.below (Below.refl _ _).drew
  replace hr := hr.below (Below.refl _ _).drew
  replace hsz : w.heap.size + 2 ≤ W2.drew.heap.size := hsz
  refine tkG 0 3 hS ?_
  try simp only [Act.put, List.setIfInBounds_toArray, List.set_cons_zero, List.set_cons_succ]
  refine tkG 3 6 hS ?_
  try simp only [Act.put, List.setIfInBounds_toArray, List.set_cons_zero, List.set_cons_succ]
  revert hS
  revert hsz
  revert hr
  revert hx
  revert HB
  generalize W2.drew = V
  intro HB hx hr hsz hS
  refine wpAnyH_ready (rs := [1, 4]) (by kernel_rfl) (by simp) ?_
  refine AllReadyH.cons rfl (fun K hK => ?_) ?_
  obtain ⟨g0, g1, g2, g3, g4, g5, g6, g7⟩ := hx.c8
  go_simp
  clear g0 g1 g2 g3 g4 g5 g6 g7
  clear hS
  refine hK.out _ _ trivial (fun hS => ?_)
  clear hK K
  try simp only [List.setIfInBounds_toArray, List.set_cons_zero, List.set_cons_succ]
  clear hS
  refine listed_asW (l' := #[true, true, false, true, false, false, false, false, false, false]) (by kernel_rfl) ?_
  revert hsz
  revert hr
  revert hx
  revert HB
  revert V
  refine ?bc1
  rotate_left 1
  refine AllReadyH.cons rfl (fun K hK => ?_) AllReadyH.nil
  obtain ⟨g0, g1, g2, g3, g4, g5, g6, g7⟩ := hx.c8
  go_simp
  clear g0 g1 g2 g3 g4 g5 g6 g7
  clear hS
  refine hK.out _ _ trivial (fun hS => ?_)
  clear hK K
  try simp only [List.setIfInBounds_toArray, List.set_cons_zero, List.set_cons_succ]
  clear hS
  refine listed_asW (l' := #[true, false, false, true, true, false, false, false, false, false]) (by kernel_rfl) ?_
  revert hsz
  revert hr
  revert hx
  revert HB
  revert V
  refine ?bc4
  rotate_left 1
  intro V0 HB hx hr hsz
  have hS : (fun _ : World => True) V0 := trivial
  refine wpAnyH_ready (rs := [2, 4]) (by kernel_rfl) (by simp) ?_
  refine AllReadyH.cons rfl (fun K hK => ?_) ?_
  go_simp
  refine (HPC.out _ (hrp.below HB)).mono ?_
  rintro e V1 ⟨Y, rfl, hY, hP, hb⟩
  replace HB := HB.trans (hb.mono HB.size)
  replace hx := hx.below hb
  replace hr := hr.below hb
  replace hP := hP.mono hsz
  replace hsz := Nat.le_trans hsz hb.size
  obtain ⟨⟨yv, yn, ys, yt⟩, yvs, yvt⟩ := Y
  simp only [Prf.mk.injEq] at hY
  obtain ⟨hY1, hY2, hY3, hY4⟩ := hY
  replace hY1 := hY1.symm
  replace hY2 := hY2.symm
  replace hY3 := hY3.symm
  replace hY4 := hY4.symm
  subst hY1 hY2 hY3 hY4
  obtain ⟨a1, c1, a2, c2, e1, e2⟩ := hP.slices
  simp only at e1 e2 hP ⊢
  obtain ⟨n1, hn1⟩ : ∃ n, n = ps.length := ⟨_, rfl⟩
  obtain ⟨n2, hn2⟩ : ∃ n, n = pt.length := ⟨_, rfl⟩
  rw [← hn1] at e1
  rw [← hn2] at e2
  clear hn1 hn2
  subst e1 e2
  clear hS hb
  refine hK.out _ _ trivial (fun hS => ?_)
  clear hK K
  try simp only [List.setIfInBounds_toArray, List.set_cons_zero, List.set_cons_succ]
  clear hS
  refine listed_asW (l' := #[true, true, true, true, false, false, false, false, false, false]) (by kernel_rfl) ?_
  revert hP
  revert hsz
  revert hr
  revert hx
  revert HB
  revert c2
  revert n2
  revert a2
  revert c1
  revert n1
  revert a1
  revert V1
  clear V0
  refine ?bc12
  rotate_left 1
  refine AllReadyH.cons rfl (fun K hK => ?_) AllReadyH.nil
  obtain ⟨g0, g1, g2, g3, g4, g5, g6, g7⟩ := hx.c8
  go_simp
  clear g0 g1 g2 g3 g4 g5 g6 g7
  clear hS
  refine hK.out _ _ trivial (fun hS => ?_)
  clear hK K
  try simp only [List.setIfInBounds_toArray, List.set_cons_zero, List.set_cons_succ]
  clear hS
  refine listed_asW (l' := #[true, true, false, true, true, false, false, false, false, false]) (by kernel_rfl) ?_
  revert hsz
  revert hr
  revert hx
  revert HB
  revert V0
  refine ?bc14
  rotate_left 1
  intro V0 HB hx hr hsz
  have hS : (fun _ : World => True) V0 := trivial
  refine wpAnyH_ready (rs := [1]) (by kernel_rfl) (by simp) ?_
  refine AllReadyH.cons rfl (fun K hK => ?_) AllReadyH.nil
  obtain ⟨g0, g1, g2, g3, g4, g5, g6, g7⟩ := hx.c8
  go_simp
  clear g0 g1 g2 g3 g4 g5 g6 g7
  clear hS
  refine hK.out _ _ trivial (fun hS => ?_)
  clear hK K
  try simp only [List.setIfInBounds_toArray, List.set_cons_zero, List.set_cons_succ]
  clear hS
  refine listed_asW (l' := #[true, true, false, true, true, false, false, false, false, false]) (by kernel_rfl) ?_
  revert hsz
  revert hr
  revert hx
  revert HB
  revert V0
  exact ?bc14
  intro V0 a1 n1 c1 a2 n2 c2 HB hx hr hsz hP
  have hS : (fun _ : World => True) V0 := trivial
  refine wpAnyH_ready (rs := [4]) (by kernel_rfl) (by simp) ?_
  refine AllReadyH.cons rfl (fun K hK => ?_) AllReadyH.nil
  obtain ⟨g0, g1, g2, g3, g4, g5, g6, g7⟩ := hx.c8
  go_simp
  clear g0 g1 g2 g3 g4 g5 g6 g7
  clear hS
  refine hK.out _ _ trivial (fun hS => ?_)
  clear hK K
  try simp only [List.setIfInBounds_toArray, List.set_cons_zero, List.set_cons_succ]
  refine tkG 6 9 hS ?_
  try simp only [Act.put, List.setIfInBounds_toArray, List.set_cons_zero, List.set_cons_succ]
  clear hS
  refine listed_asW (l' := #[true, true, true, true, true, false, true, false, false, false]) (by kernel_rfl) ?_
  revert hP
  revert hsz
  revert hr
  revert hx
  revert HB
  revert c2
  revert n2
  revert a2
  revert c1
  revert n1
  revert a1
  revert V0
  refine ?bc124
  rotate_left 1
  intro V0 HB hx hr hsz
  have hS : (fun _ : World => True) V0 := trivial
  refine wpAnyH_ready (rs := [2]) (by kernel_rfl) (by simp) ?_
  refine AllReadyH.cons rfl (fun K hK => ?_) AllReadyH.nil
  go_simp
  refine (HPC.out _ (hrp.below HB)).mono ?_
  rintro e V1 ⟨Y, rfl, hY, hP, hb⟩
  replace HB := HB.trans (hb.mono HB.size)
  replace hx := hx.below hb
  replace hr := hr.below hb
  replace hP := hP.mono hsz
  replace hsz := Nat.le_trans hsz hb.size
  obtain ⟨⟨yv, yn, ys, yt⟩, yvs, yvt⟩ := Y
  simp only [Prf.mk.injEq] at hY
  obtain ⟨hY1, hY2, hY3, hY4⟩ := hY
  replace hY1 := hY1.symm
  replace hY2 := hY2.symm
  replace hY3 := hY3.symm
  replace hY4 := hY4.symm
  subst hY1 hY2 hY3 hY4
  obtain ⟨a1, c1, a2, c2, e1, e2⟩ := hP.slices
  simp only at e1 e2 hP ⊢
  obtain ⟨n1, hn1⟩ : ∃ n, n = ps.length := ⟨_, rfl⟩
  obtain ⟨n2, hn2⟩ : ∃ n, n = pt.length := ⟨_, rfl⟩
  rw [← hn1] at e1
  rw [← hn2] at e2
  clear hn1 hn2
  subst e1 e2
  clear hS hb
  refine hK.out _ _ trivial (fun hS => ?_)
  clear hK K
  try simp only [List.setIfInBounds_toArray, List.set_cons_zero, List.set_cons_succ]
  refine tkG 6 9 hS ?_
  try simp only [Act.put, List.setIfInBounds_toArray, List.set_cons_zero, List.set_cons_succ]
  clear hS
  refine listed_asW (l' := #[true, true, true, true, true, false, true, false, false, false]) (by kernel_rfl) ?_
  revert hP
  revert hsz
  revert hr
  revert hx
  revert HB
  revert c2
  revert n2
  revert a2
  revert c1
  revert n1
  revert a1
  revert V1
  clear V0
  exact ?bc124
  intro V0 a1 n1 c1 a2 n2 c2 HB hx hr hsz hP
  have hS : (fun _ : World => True) V0 := trivial
  refine wpAnyH_ready (rs := [5]) (by kernel_rfl) (by simp) ?_
  refine AllReadyH.cons rfl (fun K hK => ?_) AllReadyH.nil
  go_simp
  refine (HTC.out _ (hrm.below HB)).mono ?_
  rintro e V1 ⟨u, rfl, hM, hb⟩
  replace HB := HB.trans (hb.mono HB.size)
  replace hx := hx.below hb
  replace hr := hr.below hb
  have hap : (∀ q, (Value.slice a1 n1 c1).ownBlock = some q → u.ownBlock = some q → False) ∧ (∀ q, (Value.slice a2 n2 c2).ownBlock = some q → u.ownBlock = some q → False) := ⟨fun q h1 h2 => by have := (World.ownsRow.lt hP.sv q h1).2; have := (World.ownsRow.lt hM q h2).1; omega, fun q h1 h2 => by have := (World.ownsRow.lt hP.tg q h1).2; have := (World.ownsRow.lt hM q h2).1; omega⟩
  replace hP := hP.below hb
  replace hM := hM.mono hsz
  replace hsz := Nat.le_trans hsz hb.size
  have e3 : ∃ a n c, u = .slice a n c := by obtain ⟨a, c, h⟩ := ownSlX hM; exact ⟨a, _, c, h⟩
  obtain ⟨a3, n3, c3, e3⟩ := e3
  subst e3
  clear hS hb
  refine hK.out _ _ trivial (fun hS => ?_)
  clear hK K
  try simp only [List.setIfInBounds_toArray, List.set_cons_zero, List.set_cons_succ]
  clear hS
  refine listed_asW (l' := #[true, true, true, true, true, true, true, false, false, false]) (by kernel_rfl) ?_
  revert hap
  revert hM
  revert hP
  revert hsz
  revert hr
  revert hx
  revert HB
  revert c3
  revert n3
  revert a3
  revert c2
  revert n2
  revert a2
  revert c1
  revert n1
  revert a1
  revert V1
  clear V0
  refine ?bc1245
  rotate_left 1
  intro V0 a1 n1 c1 a2 n2 c2 a3 n3 c3 HB hx hr hsz hP hM hap
  have hS : (fun _ : World => True) V0 := trivial
  refine wpAnyH_ready (rs := [7]) (by kernel_rfl) (by simp) ?_
  refine AllReadyH.cons rfl (fun K hK => ?_) AllReadyH.nil
  obtain ⟨g0, g1, g2, g3, g4, g5, g6, g7⟩ := hx.c8
  obtain ⟨f0, f1, f2, f3, f4, f5, f6, f7⟩ := hx.f8
  go_simp
  clear g0 g1 g2 g3 g4 g5 g6 g7 f0 f1 f2 f3 f4 f5 f6 f7
  clear hS
  have HT : Touch [w.heap.size] V0 (putPB V0 w.heap.size (.int .i64 pv) (.int .i64 pn) (.slice a1 n1 c1) (.slice a2 n2 c2)) := putPB_touch
  replace hx := hx.putP (.int .i64 pv) (.int .i64 pn) (.slice a1 n1 c1) (.slice a2 n2 c2)
  replace HB := putPB_below (u0 := .int .i64 pv) (u1 := .int .i64 pn) (u2 := .slice a1 n1 c1) (u3 := .slice a2 n2 c2) HB (Nat.le_refl _)
  replace hP := hP.touch HT (fun k hk e => by have h1 := (hP.bound hk).1; have h2 := List.mem_singleton.1 e; omega)
  replace hM := HT.row hM (fun k hk e => by have h1 := (World.ownsRow.lt hM k hk).1; have h2 := List.mem_singleton.1 e; omega)
  replace hr := hr.of_block (HT.block _ hr.lt (by simp))
  replace hsz := Nat.le_trans hsz HT.size
  clear HT
  refine hK.out _ _ trivial (fun hS => ?_)
  clear hK K
  try simp only [List.setIfInBounds_toArray, List.set_cons_zero, List.set_cons_succ]
  revert hS
  revert hsz
  revert hr
  revert hM
  revert hP
  revert HB
  revert hx
  unfold putPB
  generalize (((World.setCell V0 ⟨w.heap.size, 2, none⟩ (.int .i64 pv)).setCell ⟨w.heap.size, 3, none⟩ (.int .i64 pn)).setCell ⟨w.heap.size, 4, none⟩ (.slice a1 n1 c1)).setCell ⟨w.heap.size, 5, none⟩ (.slice a2 n2 c2) = V1
  intro hx HB hP hM hr hsz hS
  refine tkG 8 10 hS ?_
  try simp only [Act.put, List.setIfInBounds_toArray, List.set_cons_zero, List.set_cons_succ]
  clear hS
  refine listed_asW (l' := #[true, true, true, true, true, true, true, true, true, false]) (by kernel_rfl) ?_
  revert hap
  revert hM
  revert hP
  revert hsz
  revert hr
  revert hx
  revert HB
  revert c3
  revert n3
  revert a3
  revert c2
  revert n2
  revert a2
  revert c1
  revert n1
  revert a1
  revert V1
  clear V0
  refine ?bc12457
  rotate_left 1
  intro V0 a1 n1 c1 a2 n2 c2 a3 n3 c3 HB hx hr hsz hP hM hap
  have hS : (fun _ : World => True) V0 := trivial
  refine wpAnyH_ready (rs := [9]) (by kernel_rfl) (by simp) ?_
  refine AllReadyH.cons rfl (fun K hK => ?_) AllReadyH.nil
  obtain ⟨g0, g1, g2, g3, g4, g5, g6, g7⟩ := hx.c8
  obtain ⟨f0, f1, f2, f3, f4, f5, f6, f7⟩ := hx.f8
  go_simp
  clear g0 g1 g2 g3 g4 g5 g6 g7 f0 f1 f2 f3 f4 f5 f6 f7
  clear hS
  have HT : Touch [w.heap.size] V0 (V0.setCell ⟨w.heap.size, 6, none⟩ (.slice a3 n3 c3)) := Touch.set (List.mem_singleton.2 rfl)
  replace hx : Bx (V0.setCell ⟨w.heap.size, 6, none⟩ (.slice a3 n3 c3)) w.heap.size 34 #[.int .i64 vw, .int .i64 pa, .int .i64 pv, .int .i64 pn, .slice a1 n1 c1, .slice a2 n2 c2, .slice a3 n3 c3, .int .i64 sv] := hx.set 6 (.slice a3 n3 c3)
  replace HB := HB.setCell (p := ⟨w.heap.size, 6, none⟩) (Nat.le_refl _) (.slice a3 n3 c3)
  replace hP := hP.touch HT (fun k hk e => by have h1 := (hP.bound hk).1; have h2 := List.mem_singleton.1 e; omega)
  replace hM := HT.row hM (fun k hk e => by have h1 := (World.ownsRow.lt hM k hk).1; have h2 := List.mem_singleton.1 e; omega)
  replace hr := hr.of_block (HT.block _ hr.lt (by simp))
  replace hsz := Nat.le_trans hsz HT.size
  clear HT
  refine hK.out _ _ trivial (fun hS => ?_)
  clear hK K
  try simp only [List.setIfInBounds_toArray, List.set_cons_zero, List.set_cons_succ]
  revert hS
  revert hsz
  revert hr
  revert hM
  revert hP
  revert HB
  revert hx
  generalize V0.setCell ⟨w.heap.size, 6, none⟩ (.slice a3 n3 c3) = V1
  intro hx HB hP hM hr hsz hS
  clear hS
  refine listed_asW (l' := #[true, true, true, true, true, true, true, true, true, true]) (by kernel_rfl) ?_
  revert hap
  revert hM
  revert hP
  revert hsz
  revert hr
  revert hx
  revert HB
  revert c3
  revert n3
  revert a3
  revert c2
  revert n2
  revert a2
  revert c1
  revert n1
  revert a1
  revert V1
  clear V0
  refine ?bc124579
  rotate_left 1
  intro V0 a1 n1 c1 a2 n2 c2 a3 n3 c3 HB hx hr hsz hP hM hap
  have hS : (fun _ : World => True) V0 := trivial
  refine wpAnyH_done (by kernel_rfl) ?_ _
  refine NoPanic.normal ?_
  clear hS
  have hown : OwnBl V0 (w.heap.size + 2) ⟨⟨vw, pa, ⟨pv, pn, ps, pt⟩, mo, sv⟩, .slice a1 n1 c1, .slice a2 n2 c2, .slice a3 n3 c3⟩ := ⟨hP, hM, hap.1, hap.2⟩
  obtain ⟨g0, g1, g2, g3, g4, g5, g6, g7⟩ := hx.c8
  obtain ⟨h0, h1, h2, h3, h4, h5, h6, h7⟩ := hr.c8
  obtain ⟨f0, f1, f2, f3, f4, f5, f6, f7⟩ := hr.f8
  obtain ⟨k0, k1, k2, k3, k4, k5, k6, k7⟩ := (hr.put8 (.int .i64 vw) (.int .i64 pa) (.int .i64 pv) (.int .i64 pn) (.slice a1 n1 c1) (.slice a2 n2 c2) (.slice a3 n3 c3) (.int .i64 sv)).c8
  have HF : Hid (ToBl w ⟨vw, pa, ⟨pv, pn, ps, pt⟩, mo, sv⟩ (.returned (.agg #[.int .i64 vw, .int .i64 pa, .int .i64 pv, .int .i64 pn, .slice a1 n1 c1, .slice a2 n2 c2, .slice a3 n3 c3, .int .i64 sv])) (put8B V0 (w.heap.size + 1) (.int .i64 vw) (.int .i64 pa) (.int .i64 pv) (.int .i64 pn) (.slice a1 n1 c1) (.slice a2 n2 c2) (.slice a3 n3 c3) (.int .i64 sv))) :=
    ⟨⟨⟨vw, pa, ⟨pv, pn, ps, pt⟩, mo, sv⟩, .slice a1 n1 c1, .slice a2 n2 c2, .slice a3 n3 c3⟩, rfl, rfl, (hown.touch put8B_touch (fun q hq e => by have h1 := (hown.bound hq).1; have h2 := List.mem_singleton.1 e; omega)).mono (by omega), put8B_below HB (by omega)⟩
  unfold put8B at k0 k1 k2 k3 k4 k5 k6 k7 HF
  clear hown hP hM hap HB hx hr hsz
  go_wp2
  exact bodyPost_ret (v := .agg #[.int .i64 vw, .int .i64 pa, .int .i64 pv, .int .i64 pn, .slice a1 n1 c1, .slice a2 n2 c2, .slice a3 n3 c3, .int .i64 sv]) (by simp [results, Tryz.results173, go_sem, k0, k1, k2, k3, k4, k5, k6, k7]) rfl HF.out
end Go.Proofs.YtilhaokiohbeeaaGreatDoor
namespace Go.Proofs.YtilhaokiohbeeaaGreatDoor
open Go.RowKit
theorem altI_all : ∀ (xs ys : List Int), (∀ x ∈ xs, inO x = true) → (∀ y ∈ ys, inO y = true) → (altI xs ys).all inO = true
  | [], _, _, _ => by simp [altI]
  | _ :: _, [], _, _ => by simp [altI]
  | x :: xs, y :: ys, hx, hy => by
    simp only [altI, List.all_cons, Bool.and_eq_true]
    exact ⟨hx x List.mem_cons_self, hy y List.mem_cons_self, altI_all xs ys (fun z hz => hx z (List.mem_cons_of_mem _ hz)) (fun z hz => hy z (List.mem_cons_of_mem _ hz))⟩
theorem inO_of {n : Int} (h0 : 0 ≤ n) (h1 : n ≤ 1099511627776) : inO n = true := by unfold inO; exact decide_eq_true ⟨h0, h1⟩
theorem nI_mem {l : List Int} {x : Int} (h : x ∈ l) : ∃ i, i < l.length ∧ nI l i = x := by
  obtain ⟨i, hi, rfl⟩ := List.getElem_of_mem h
  exact ⟨i, hi, nI_eq hi⟩
theorem shw_prf {p : Prf} {n : Int} (h : prfR p n = true) : prB7 p = true ∧ (prN p).all inO = true ∧ 0 ≤ p.nm ∧ p.nm ≤ 2147483646 := by
  unfold prfR at h
  simp only [Bool.and_eq_true, Bool.or_eq_true] at h
  obtain ⟨hs, h⟩ := h
  have hn : 1 ≤ n ∧ n ≤ 7 := by rcases srvB_iff.1 hs with rfl | rfl | rfl <;> omega
  rcases h with hf | ⟨hv, hm, hp⟩
  · unfold frsB at hf
    simp only [Bool.and_eq_true, decide_eq_true_eq] at hf
    obtain ⟨h1, h2, h3, h4⟩ := hf
    obtain ⟨vw, nm, sv, tg⟩ := p
    simp only at h1 h2 h3 h4
    have e1 := List.length_eq_zero_iff.1 h3
    have e2 := List.length_eq_zero_iff.1 h4
    subst h1 h2 e1 e2
    exact ⟨by rfl, by decide, by simp, by simp⟩
  · have hp := of_decide_eq_true hp
    unfold inV at hv
    unfold inN at hm
    simp only [decide_eq_true_eq] at hv hm
    obtain ⟨hq, hl, hall⟩ := hp
    have hsv : ∀ x ∈ p.sv, 0 ≤ x ∧ x < n := fun x hx => by
      obtain ⟨i, hi, rfl⟩ := nI_mem hx
      have := (vok_vtd (hall i hi).1).1
      omega
    have hlen : p.sv.length ≤ 7 := by
      have hr := rise_pair (l := p.sv) (fun i hi h0 => (hall i hi).2 h0)
      have := rise_few (n := n.toNat) hr (fun x hx => by have := hsv x hx; omega)
      omega
    refine ⟨by unfold prB7; exact decide_eq_true ⟨hl, hlen⟩, ?_, hm.1, hm.2⟩
    unfold prN
    simp only [List.all_cons, Bool.and_eq_true]
    refine ⟨inO_of (by omega) (by omega), inO_of hm.1 (by omega), inO_of (by omega) (by omega), altI_all _ _ (fun x hx => by have := hsv x hx; exact inO_of (by omega) (by omega)) (fun y hy => ?_)⟩
    obtain ⟨i, hi, rfl⟩ := nI_mem hy
    have h2 := (vok_vtd (hall i (by omega)).1).2
    unfold vAt vtd at h2
    simp only [Vot.mk.injEq] at h2
    rw [h2.2.2.2]
    have := tagD_lt (nI p.sv i) (balS p.vw p.nm)
    exact inO_of (by omega) (by omega)
theorem shw_right {b : Blk} {n : Int} (h : blkR b n = true) : shwB b ≠ [] := by
  unfold blkR at h
  simp only [Bool.and_eq_true, decide_eq_true_eq] at h
  obtain ⟨hs, hv, hsv, hp, hlt, hpa, hmo⟩ := h
  have hn : 1 ≤ n ∧ n ≤ 7 := by rcases srvB_iff.1 hs with rfl | rfl | rfl <;> omega
  obtain ⟨h1, h2, h3, h4⟩ := shw_prf hp
  unfold inV at hv
  simp only [decide_eq_true_eq] at hv
  have ht : textsOf b.mo ≠ [] := by
    unfold movesR at hmo
    simp only [Bool.and_eq_true, decide_eq_true_eq, List.all_eq_true] at hmo
    rw [textsOf_in b.mo (by omega) (fun s hs => by have := hmo.2 s hs; omega)]
    intro e
    have := List.append_eq_nil_iff.1 e
    exact enc_ne _ this.1
  have hm0 := Int.emod_nonneg b.vw (show n ≠ 0 by omega)
  have hm1 := Int.emod_lt_of_pos b.vw (show 0 < n by omega)
  rw [shwB_yes h1 (by unfold blN; simp only [List.all_cons, Bool.and_eq_true]; exact ⟨inO_of (by omega) (by omega), inO_of (by omega) (by omega), h2⟩) ht (by rw [hsv]; exact inO_of hm0 (by omega))]
  intro e
  have := List.append_eq_nil_iff.1 (List.append_eq_nil_iff.1 e).1
  exact ht this.2
theorem nam_right {b : Blk} {n : Int} (h : blkR b n = true) : namZ b = namN b := by
  unfold namZ
  rw [if_neg (shw_right h)]
end Go.Proofs.YtilhaokiohbeeaaGreatDoor
