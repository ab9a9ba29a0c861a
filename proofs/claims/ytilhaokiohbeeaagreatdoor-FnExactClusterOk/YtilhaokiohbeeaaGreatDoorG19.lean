/- The contracts of the program's copies: of lists, of a Proof, of a Block. The contract of the program's Block.copied. -/
import Derived.Test.YtilhaokiohbeeaaGreatDoorG08
import Derived.Test.YtilhaokiohbeeaaGreatDoorG04
import Derived.Test.YtilhaokiohbeeaaGreatDoorG06
-- UNF Gen
namespace Go.Proofs.YtilhaokiohbeeaaGreatDoor
open Go.RowKit
theorem ownTx_none (w : World) : OwnS (w.alloc (.cells #[] 9)) w.heap.size (.slice (some ⟨w.heap.size, 0, none⟩) 0 0) [] := World.ownsRow_lit w #[] 0 (Nat.le_refl _) (Nat.zero_le _) rfl
theorem ownIn_none (w : World) : OwnI (w.alloc (.cells #[] 2)) w.heap.size (.slice (some ⟨w.heap.size, 0, none⟩) 0 0) [] := World.ownsRow_lit w #[] 0 (Nat.le_refl _) (Nat.zero_le _) rfl
set_option maxHeartbeats 1000000 in
set_option maxRecDepth 100000 in
theorem copyI_any (v : Value) (bs : List Int) (w : World) (hr : RdI w v bs) (hl : bs.length ≤ 1000000000) :
    Calls Tryz.prog 151 #[v] w fun e w' => ∃ u, e = .returned u ∧ OwnI w' w.heap.size u bs ∧ Below w.heap.size w w' := by
  have hoi := ownIn_none w
  have b0 := below1 w (.cells #[] 2)
  have hr0 := hr.below b0
  go_enter Tryz.func151, Tryz.ntmps151
  go_wp2_with (at_builtin; (refine wpList_append_ints rfl _ _ rfl w.heap.size _ _ [] bs rfl rfl hoi hr0 (by simp; omega) (by simp) ?_))
  intro u w1 ho hg
  have b1 : Below w.heap.size w w1 := b0.grown hg (by simp) (fun k hk => by have : w.heap.size = k := Option.some.inj hk; omega)
  clear hoi b0 hr0 hg
  go_wp2
  go_ret
  exact ⟨u, rfl, ho, b1⟩
set_option maxHeartbeats 1000000 in
set_option maxRecDepth 100000 in
theorem copyT_any (v : Value) (bs : List ByteArray) (w : World) (hr : RdS w v bs) (hn : NilOk v) (hl : bs.length ≤ 1000000000) :
    Calls Tryz.prog 210 #[v] w fun e w' => ∃ u, e = .returned u ∧ OwnS w' w.heap.size u bs ∧ Below w.heap.size w w' := by
  have hoi := ownTx_none w
  have b0 := below1 w (.cells #[] 9)
  have hr0 := hr.below b0
  go_enter Tryz.func210, Tryz.ntmps210
  go_wp2_with (at_builtin; (refine wpList_append_txts rfl _ _ rfl w.heap.size _ _ [] bs rfl rfl hoi hr0 hn (by simp; omega) (by simp) ?_))
  intro u w1 ho hg
  have b1 : Below w.heap.size w w1 := b0.grown hg (by simp) (fun k hk => by have : w.heap.size = k := Option.some.inj hk; omega)
  clear hoi b0 hr0 hg
  go_wp2
  go_ret
  exact ⟨u, rfl, ho, b1⟩
set_option maxHeartbeats 1000000 in
set_option maxRecDepth 100000 in
theorem copyV_any (v : Value) (bs : List Vot) (w : World) (hr : RdVo w v bs) (hl : bs.length ≤ 1000000000) :
    Calls Tryz.prog 152 #[v] w fun e w' => ∃ u, e = .returned u ∧ OwnVo w' w.heap.size u bs ∧ Below w.heap.size w w' := by
  have hoi := ownVo_none w
  have b0 := below1 w (.cells #[] 36)
  have hr0 := hr.below b0
  go_enter Tryz.func152, Tryz.ntmps152
  go_wp2_with (at_builtin; (refine wpList_append_votes rfl _ _ rfl w.heap.size _ _ [] bs rfl rfl hoi hr0 (by simp; omega) (by simp) ?_))
  intro u w1 ho hg
  have b1 : Below w.heap.size w w1 := b0.grown hg (by simp) (fun k hk => by have : w.heap.size = k := Option.some.inj hk; omega)
  clear hoi b0 hr0 hg
  go_wp2
  go_ret
  exact ⟨u, rfl, ho, b1⟩
set_option maxHeartbeats 1000000 in
set_option maxRecDepth 100000 in
theorem copyN_any (v : Value) (bs : List Nws) (w : World) (hr : RdNw w v bs) (hl : bs.length ≤ 1000000000) :
    Calls Tryz.prog 153 #[v] w fun e w' => ∃ u, e = .returned u ∧ OwnNw w' w.heap.size u bs ∧ Below w.heap.size w w' := by
  have hoi := ownNw_none w
  have b0 := below1 w (.cells #[] 128)
  have hr0 := hr.below b0
  go_enter Tryz.func153, Tryz.ntmps153
  go_wp2_with (at_builtin; (refine wpList_append_news rfl _ _ rfl w.heap.size _ _ [] bs rfl rfl hoi hr0 (by simp; omega) (by simp) ?_))
  intro u w1 ho hg
  have b1 : Below w.heap.size w w1 := b0.grown hg (by simp) (fun k hk => by have : w.heap.size = k := Option.some.inj hk; omega)
  clear hoi b0 hr0 hg
  go_wp2
  go_ret
  exact ⟨u, rfl, ho, b1⟩
set_option maxHeartbeats 4000000 in
set_option maxRecDepth 100000 in
theorem proofCopied_any (X : PrX) (w : World) (hr : RdPr w X) (hl1 : X.p.sv.length ≤ 1000000000) (hl2 : X.p.tg.length ≤ 1000000000) :
    Calls Tryz.prog 150 #[.agg #[.int .i64 X.p.vw, .int .i64 X.p.nm, X.vs, X.vt]] w fun e w' => ∃ Y : PrX, e = .returned (.agg #[.int .i64 Y.p.vw, .int .i64 Y.p.nm, Y.vs, Y.vt]) ∧ Y.p = X.p ∧ OwnPr w' w.heap.size Y ∧ Below w.heap.size w w' := by
  obtain ⟨⟨pv, pn, ps, pt⟩, pvs, pvt⟩ := X
  obtain ⟨hrs, hrt⟩ := hr
  simp only at hrs hrt hl1 hl2 ⊢
  have HI1 : Hid (∀ W, RdI W pvs ps → Calls Tryz.prog 151 #[pvs] W fun e w' => ∃ u, e = .returned u ∧ OwnI w' W.heap.size u ps ∧ Below W.heap.size W w') := fun W h => copyI_any _ _ W h hl1
  have HI2 : Hid (∀ W, RdI W pvt pt → Calls Tryz.prog 151 #[pvt] W fun e w' => ∃ u, e = .returned u ∧ OwnI w' W.heap.size u pt ∧ Below W.heap.size W w') := fun W h => copyI_any _ _ W h hl2
  clear hl1 hl2
  have t2 := (bx_new w 26 #[.int .i64 pv, .int .i64 pn, pvs, pvt]).below (below1 _ (.cells #[.int .i64 0, .int .i64 0, .slice none 0 0, .slice none 0 0] 26))
  have r2 := bx_new (w.alloc (.cells #[.int .i64 pv, .int .i64 pn, pvs, pvt] 26)) 26 #[.int .i64 0, .int .i64 0, .slice none 0 0, .slice none 0 0]
  have b2 := below2 w (.cells #[.int .i64 pv, .int .i64 pn, pvs, pvt] 26) (.cells #[.int .i64 0, .int .i64 0, .slice none 0 0, .slice none 0 0] 26)
  have s2 : w.heap.size + 2 ≤ ((w.alloc (.cells #[.int .i64 pv, .int .i64 pn, pvs, pvt] 26)).alloc (.cells #[.int .i64 0, .int .i64 0, .slice none 0 0, .slice none 0 0] 26)).heap.size := by simp
  rw [show (w.alloc (.cells #[.int .i64 pv, .int .i64 pn, pvs, pvt] 26)).heap.size = w.heap.size + 1 by simp] at r2
  go_enter Tryz.func150, Tryz.ntmps150
  go_wp2_with fail
  generalize (w.alloc (.cells #[.int .i64 pv, .int .i64 pn, pvs, pvt] 26)).alloc (.cells #[.int .i64 0, .int .i64 0, .slice none 0 0, .slice none 0 0] 26) = W2 at t2 r2 b2 s2 ⊢
  refine wp_region_noPanic ?_
  refine wp_region_held_drew (S := fun w' => w'.cell? ⟨w.heap.size, 0, none⟩ = some (.int .i64 pv) ∧ w'.cell? ⟨w.heap.size, 1, none⟩ = some (.int .i64 pn) ∧ w'.cell? ⟨w.heap.size, 2, none⟩ = some (pvs) ∧ w'.cell? ⟨w.heap.size, 3, none⟩ = some (pvt)) (by kernel_rfl) (t2.below (Below.refl _ _).drew).c4 (fun h0 => ?_)
  refine tkG 0 3 h0 ?_
  try simp only [Act.put, List.setIfInBounds_toArray, List.set_cons_zero, List.set_cons_succ]
  refine tkG 1 4 h0 ?_
  try simp only [Act.put, List.setIfInBounds_toArray, List.set_cons_zero, List.set_cons_succ]
  refine tkG 2 5 h0 ?_
  try simp only [Act.put, List.setIfInBounds_toArray, List.set_cons_zero, List.set_cons_succ]
  refine tkG 3 6 h0 ?_
  try simp only [Act.put, List.setIfInBounds_toArray, List.set_cons_zero, List.set_cons_succ]
  refine tkG 4 7 h0 ?_
  try simp only [Act.put, List.setIfInBounds_toArray, List.set_cons_zero, List.set_cons_succ]
  refine tkG 5 8 h0 ?_
  try simp only [Act.put, List.setIfInBounds_toArray, List.set_cons_zero, List.set_cons_succ]
  refine tkG 7 10 h0 ?_
  try simp only [Act.put, List.setIfInBounds_toArray, List.set_cons_zero, List.set_cons_succ]
  refine tkG 8 11 h0 ?_
  try simp only [Act.put, List.setIfInBounds_toArray, List.set_cons_zero, List.set_cons_succ]
  refine wpAnyH_ready (rs := [6]) (by kernel_rfl) (by simp) ?_
  refine AllReadyH.cons rfl (fun K hK => ?_) AllReadyH.nil
  go_simp
  refine (HI1.out _ (hrs.below b2.drew)).mono ?_
  rintro e w3 ⟨u1, rfl, ho1, hb3⟩
  have b3 := b2.drew.trans (hb3.mono b2.drew.size)
  have t3 := (t2.below (Below.refl _ _).drew).below hb3
  have r3 := (r2.below (Below.refl _ _).drew).below hb3
  have e1 : ∃ a n c, u1 = .slice a n c := by obtain ⟨a, c, h⟩ := ownSlX ho1; exact ⟨a, _, c, h⟩
  obtain ⟨x1, y1, z1, e1⟩ := e1
  subst e1
  refine hK.out _ _ (t3.c4) (fun h1 => ?_)
  clear hK K
  try simp only [Act.put, List.setIfInBounds_toArray, List.set_cons_zero, List.set_cons_succ]
  clear h0
  refine wpAnyH_ready (rs := [9]) (by kernel_rfl) (by simp) ?_
  refine AllReadyH.cons rfl (fun K hK => ?_) AllReadyH.nil
  go_simp
  refine (HI2.out _ (hrt.below b3)).mono ?_
  rintro e w4 ⟨u2, rfl, ho2, hb4⟩
  have b4 := b3.trans (hb4.mono b3.size)
  have t4 := t3.below hb4
  have r4 := r3.below hb4
  have ho1' := ho1.below hb4
  have hs3 : w.heap.size + 2 ≤ w3.heap.size := Nat.le_trans s2 hb3.size
  have hap : ∀ q, (Value.slice x1 y1 z1).ownBlock = some q → u2.ownBlock = some q → False := fun q h1 h2 => by have := (World.ownsRow.lt ho1 q h1).2; have := (World.ownsRow.lt ho2 q h2).1; omega
  have e2 : ∃ a n c, u2 = .slice a n c := by obtain ⟨a, c, h⟩ := ownSlX ho2; exact ⟨a, _, c, h⟩
  obtain ⟨x2, y2, z2, e2⟩ := e2
  subst e2
  refine hK.out _ _ (t4.c4) (fun h2 => ?_)
  clear hK K
  try simp only [Act.put, List.setIfInBounds_toArray, List.set_cons_zero, List.set_cons_succ]
  clear h1
  refine tkG 10 13 h2 ?_
  try simp only [Act.put, List.setIfInBounds_toArray, List.set_cons_zero, List.set_cons_succ]
  refine wpAnyH_ready (rs := [11]) (by kernel_rfl) (by simp) ?_
  refine AllReadyH.cons rfl (fun K hK => ?_) AllReadyH.nil
  obtain ⟨f0, f1, f2, f3⟩ := r4.f4
  obtain ⟨g0, g1, g2, g3⟩ := r4.c4
  go_simp
  have HT : Touch [w.heap.size + 1] w4 (put4B w4 (w.heap.size + 1) (.int .i64 pv) (.int .i64 pn) (.slice x1 y1 z1) (.slice x2 y2 z2)) := put4B_touch
  have t5 : Bx (put4B w4 (w.heap.size + 1) (.int .i64 pv) (.int .i64 pn) (.slice x1 y1 z1) (.slice x2 y2 z2)) w.heap.size 26 #[.int .i64 pv, .int .i64 pn, pvs, pvt] := t4.of_block (HT.block _ t4.lt (by simp))
  have b5 := put4B_below (u0 := .int .i64 pv) (u1 := .int .i64 pn) (u2 := .slice x1 y1 z1) (u3 := .slice x2 y2 z2) b4 (show w.heap.size ≤ w.heap.size + 1 by omega)
  have r5 := r4.put4 (.int .i64 pv) (.int .i64 pn) (.slice x1 y1 z1) (.slice x2 y2 z2)
  have o1 := HT.row (ho1'.mono (show w.heap.size + 2 ≤ W2.drew.heap.size by exact s2)) (fun k hk e => by have h1 := (World.ownsRow.lt (ho1'.mono (show w.heap.size + 2 ≤ W2.drew.heap.size by exact s2)) k hk).1; have h2 := List.mem_singleton.1 e; omega)
  have o2 := HT.row (ho2.mono hs3) (fun k hk e => by have h1 := (World.ownsRow.lt (ho2.mono hs3) k hk).1; have h2 := List.mem_singleton.1 e; omega)
  clear g0 g1 g2 g3 f0 f1 f2 f3
  refine hK.out _ _ (t5.c4) (fun h3 => ?_)
  clear hK K
  try simp only [Act.put, List.setIfInBounds_toArray, List.set_cons_zero, List.set_cons_succ]
  clear h2
  refine wpAnyH_done (by kernel_rfl) ?_ _
  refine NoPanic.normal ?_
  obtain ⟨k0, k1, k2, k3⟩ := r5.c4
  have HF : Hid (∃ Y : PrX, Ending.returned (.agg #[.int .i64 pv, .int .i64 pn, .slice x1 y1 z1, .slice x2 y2 z2]) = .returned (.agg #[.int .i64 Y.p.vw, .int .i64 Y.p.nm, Y.vs, Y.vt]) ∧ Y.p = ⟨pv, pn, ps, pt⟩ ∧ OwnPr (put4B w4 (w.heap.size + 1) (.int .i64 pv) (.int .i64 pn) (.slice x1 y1 z1) (.slice x2 y2 z2)) w.heap.size Y ∧ Below w.heap.size w (put4B w4 (w.heap.size + 1) (.int .i64 pv) (.int .i64 pn) (.slice x1 y1 z1) (.slice x2 y2 z2))) :=
    ⟨⟨⟨pv, pn, ps, pt⟩, .slice x1 y1 z1, .slice x2 y2 z2⟩, rfl, rfl, OwnPr.mono (B := w.heap.size + 2) ⟨o1, o2, hap⟩ (by omega), b5⟩
  unfold put4B at k0 k1 k2 k3 HF
  clear o1 o2 b5 r5 t5 HT hap t4 r4 b4 t3 r3 b3 ho1 ho2 ho1' hb3 hb4 t2 r2 b2 s2 hs3
  go_wp2
  exact bodyPost_ret (v := .agg #[.int .i64 pv, .int .i64 pn, .slice x1 y1 z1, .slice x2 y2 z2]) (by simp [results, Tryz.results150, go_sem, k0, k1, k2, k3]) rfl HF.out
end Go.Proofs.YtilhaokiohbeeaaGreatDoor
-- UNF Gen
namespace Go.Proofs.YtilhaokiohbeeaaGreatDoor
open Go.RowKit
theorem listed_asW {P : Program} {md : Region.Mode} {ops : Array Oper} {Q : Exit → Act → World → Prop} {S : World → Prop} {fuel : Nat} {l l' : Array Bool} {a : Act} {w : World} (hl : l = l') (h : wpAnyH P md ops Q S fuel l' a w) : wpAnyH P md ops Q S fuel l a w := by subst hl; exact h
set_option maxHeartbeats 4000000 in
set_option maxRecDepth 100000 in
theorem blockCopied_any (X : BlX) (w : World) (hr0 : RdBl w X) (hn : NilOk X.vm) (hl1 : X.b.p.sv.length ≤ 1000000000) (hl2 : X.b.p.tg.length ≤ 1000000000) (hl3 : X.b.mo.length ≤ 1000000000) :
    Calls Tryz.prog 173 #[.agg #[.int .i64 X.b.vw, .int .i64 X.b.pa, .int .i64 X.b.p.vw, .int .i64 X.b.p.nm, X.vs, X.vt, X.vm, .int .i64 X.b.sv]] w fun e w' => ToBl w X.b e w' := by
  obtain ⟨⟨vw, pa, ⟨pv, pn, ps, pt⟩, mo, sv⟩, pvs, pvt, vm⟩ := X
  obtain ⟨hrp, hrm⟩ := hr0
  simp only [BlX.pr] at hrp hrm hn hl1 hl2 hl3 ⊢
  have HPC : Hid (∀ W, RdPr W ⟨⟨pv, pn, ps, pt⟩, pvs, pvt⟩ → Calls Tryz.prog 150 #[.agg #[.int .i64 pv, .int .i64 pn, pvs, pvt]] W fun e w' => ∃ Y : PrX, e = .returned (.agg #[.int .i64 Y.p.vw, .int .i64 Y.p.nm, Y.vs, Y.vt]) ∧ Y.p = ⟨pv, pn, ps, pt⟩ ∧ OwnPr w' W.heap.size Y ∧ Below W.heap.size W w') := fun W h => proofCopied_any ⟨⟨pv, pn, ps, pt⟩, pvs, pvt⟩ W h hl1 hl2
  have HTC : Hid (∀ W, RdS W vm mo → Calls Tryz.prog 210 #[vm] W fun e w' => ∃ u, e = .returned u ∧ OwnS w' W.heap.size u mo ∧ Below W.heap.size W w') := fun W h => copyT_any _ _ W h hn hl3
  clear hn hl1 hl2 hl3
  have hx := (bx_new w 34 #[.int .i64 vw, .int .i64 pa, .int .i64 pv, .int .i64 pn, pvs, pvt, vm, .int .i64 sv]).below (below1 _ (.cells #[.int .i64 0, .int .i64 0, .int .i64 0, .int .i64 0, .slice none 0 0, .slice none 0 0, .slice none 0 0, .int .i64 0] 34))
  have hr := bx_new (w.alloc (.cells #[.int .i64 vw, .int .i64 pa, .int .i64 pv, .int .i64 pn, pvs, pvt, vm, .int .i64 sv] 34)) 34 #[.int .i64 0, .int .i64 0, .int .i64 0, .int .i64 0, .slice none 0 0, .slice none 0 0, .slice none 0 0, .int .i64 0]
  have HB := below2 w (.cells #[.int .i64 vw, .int .i64 pa, .int .i64 pv, .int .i64 pn, pvs, pvt, vm, .int .i64 sv] 34) (.cells #[.int .i64 0, .int .i64 0, .int .i64 0, .int .i64 0, .slice none 0 0, .slice none 0 0, .slice none 0 0, .int .i64 0] 34)
  have hsz : w.heap.size + 2 ≤ ((w.alloc (.cells #[.int .i64 vw, .int .i64 pa, .int .i64 pv, .int .i64 pn, pvs, pvt, vm, .int .i64 sv] 34)).alloc (.cells #[.int .i64 0, .int .i64 0, .int .i64 0, .int .i64 0, .slice none 0 0, .slice none 0 0, .slice none 0 0, .int .i64 0] 34)).heap.size := by simp
  rw [show (w.alloc (.cells #[.int .i64 vw, .int .i64 pa, .int .i64 pv, .int .i64 pn, pvs, pvt, vm, .int .i64 sv] 34)).heap.size = w.heap.size + 1 by simp] at hr
  go_enter Tryz.func173, Tryz.ntmps173
  go_wp2_with fail
  generalize (w.alloc (.cells #[.int .i64 vw, .int .i64 pa, .int .i64 pv, .int .i64 pn, pvs, pvt, vm, .int .i64 sv] 34)).alloc (.cells #[.int .i64 0, .int .i64 0, .int .i64 0, .int .i64 0, .slice none 0 0, .slice none 0 0, .slice none 0 0, .int .i64 0] 34) = W2 at hx hr HB hsz ⊢
  refine wp_region_noPanic ?_
  refine wp_region_held_drew (S := fun _ : World => True) (by kernel_rfl) trivial (fun hS => ?_)
  replace HB := HB.drew
  replace hx := hx.below (Below.refl _ _).drew
  replace hr := hr.below (Below.refl _ _).drew
  replace hsz : w.heap.size + 2 ≤ W2.drew.heap.size := hsz
  refine tkG 0 3 hS ?_
  try simp only [Act.put, List.setIfInBounds_toArray, List.set_cons_zero, List.set_cons_succ]
  refine tkG 3 6 hS ?_
  try simp only [Act.put, List.setIfInBounds_toArray, List.set_cons_zero, List.set_cons_succ]
  revert hS
  revert hsz
  revert hr
  revert hx
  revert HB
  generalize W2.drew = V
  intro HB hx hr hsz hS
  refine wpAnyH_ready (rs := [1, 4]) (by kernel_rfl) (by simp) ?_
  refine AllReadyH.cons rfl (fun K hK => ?_) ?_
  obtain ⟨g0, g1, g2, g3, g4, g5, g6, g7⟩ := hx.c8
  go_simp
  clear g0 g1 g2 g3 g4 g5 g6 g7
  clear hS
  refine hK.out _ _ trivial (fun hS => ?_)
  clear hK K
  try simp only [List.setIfInBounds_toArray, List.set_cons_zero, List.set_cons_succ]
  clear hS
  refine listed_asW (l' := #[true, true, false, true, false, false, false, false, false, false]) (by kernel_rfl) ?_
  revert hsz
  revert hr
  revert hx
  revert HB
  revert V
  refine ?bc1
  rotate_left 1
  refine AllReadyH.cons rfl (fun K hK => ?_) AllReadyH.nil
  obtain ⟨g0, g1, g2, g3, g4, g5, g6, g7⟩ := hx.c8
  go_simp
  clear g0 g1 g2 g3 g4 g5 g6 g7
  clear hS
  refine hK.out _ _ trivial (fun hS => ?_)
  clear hK K
  try simp only [List.setIfInBounds_toArray, List.set_cons_zero, List.set_cons_succ]
  clear hS
  refine listed_asW (l' := #[true, false, false, true, true, false, false, false, false, false]) (by kernel_rfl) ?_
  revert hsz
  revert hr
  revert hx
  revert HB
  revert V
  refine ?bc4
  rotate_left 1
  intro V0 HB hx hr hsz
  have hS : (fun _ : World => True) V0 := trivial
  refine wpAnyH_ready (rs := [2, 4]) (by kernel_rfl) (by simp) ?_
  refine AllReadyH.cons rfl (fun K hK => ?_) ?_
  go_simp
  refine (HPC.out _ (hrp.below HB)).mono ?_
  rintro e V1 ⟨Y, rfl, hY, hP, hb⟩
  replace HB := HB.trans (hb.mono HB.size)
  replace hx := hx.below hb
  replace hr := hr.below hb
  replace hP := hP.mono hsz
  replace hsz := Nat.le_trans hsz hb.size
  obtain ⟨⟨yv, yn, ys, yt⟩, yvs, yvt⟩ := Y
  simp only [Prf.mk.injEq] at hY
  obtain ⟨hY1, hY2, hY3, hY4⟩ := hY
  replace hY1 := hY1.symm
  replace hY2 := hY2.symm
  replace hY3 := hY3.symm
  replace hY4 := hY4.symm
  subst hY1 hY2 hY3 hY4
  obtain ⟨a1, c1, a2, c2, e1, e2⟩ := hP.slices
  simp only at e1 e2 hP ⊢
  obtain ⟨n1, hn1⟩ : ∃ n, n = ps.length := ⟨_, rfl⟩
  obtain ⟨n2, hn2⟩ : ∃ n, n = pt.length := ⟨_, rfl⟩
  rw [← hn1] at e1
  rw [← hn2] at e2
  clear hn1 hn2
  subst e1 e2
  clear hS hb
  refine hK.out _ _ trivial (fun hS => ?_)
  clear hK K
  try simp only [List.setIfInBounds_toArray, List.set_cons_zero, List.set_cons_succ]
  clear hS
  refine listed_asW (l' := #[true, true, true, true, false, false, false, false, false, false]) (by kernel_rfl) ?_
  revert hP
  revert hsz
  revert hr
  revert hx
  revert HB
  revert c2
  revert n2
  revert a2
  revert c1
  revert n1
  revert a1
  revert V1
  clear V0
  refine ?bc12
  rotate_left 1
  refine AllReadyH.cons rfl (fun K hK => ?_) AllReadyH.nil
  obtain ⟨g0, g1, g2, g3, g4, g5, g6, g7⟩ := hx.c8
  go_simp
  clear g0 g1 g2 g3 g4 g5 g6 g7
  clear hS
  refine hK.out _ _ trivial (fun hS => ?_)
  clear hK K
  try simp only [List.setIfInBounds_toArray, List.set_cons_zero, List.set_cons_succ]
  clear hS
  refine listed_asW (l' := #[true, true, false, true, true, false, false, false, false, false]) (by kernel_rfl) ?_
  revert hsz
  revert hr
  revert hx
  revert HB
  revert V0
  refine ?bc14
  rotate_left 1
  intro V0 HB hx hr hsz
  have hS : (fun _ : World => True) V0 := trivial
  refine wpAnyH_ready (rs := [1]) (by kernel_rfl) (by simp) ?_
  refine AllReadyH.cons rfl (fun K hK => ?_) AllReadyH.nil
  obtain ⟨g0, g1, g2, g3, g4, g5, g6, g7⟩ := hx.c8
  go_simp
  clear g0 g1 g2 g3 g4 g5 g6 g7
  clear hS
  refine hK.out _ _ trivial (fun hS => ?_)
  clear hK K
  try simp only [List.setIfInBounds_toArray, List.set_cons_zero, List.set_cons_succ]
  clear hS
  refine listed_asW (l' := #[true, true, false, true, true, false, false, false, false, false]) (by kernel_rfl) ?_
  revert hsz
  revert hr
  revert hx
  revert HB
  revert V0
  exact ?bc14
  intro V0 a1 n1 c1 a2 n2 c2 HB hx hr hsz hP
  have hS : (fun _ : World => True) V0 := trivial
  refine wpAnyH_ready (rs := [4]) (by kernel_rfl) (by simp) ?_
  refine AllReadyH.cons rfl (fun K hK => ?_) AllReadyH.nil
  obtain ⟨g0, g1, g2, g3, g4, g5, g6, g7⟩ := hx.c8
  go_simp
  clear g0 g1 g2 g3 g4 g5 g6 g7
  clear hS
  refine hK.out _ _ trivial (fun hS => ?_)
  clear hK K
  try simp only [List.setIfInBounds_toArray, List.set_cons_zero, List.set_cons_succ]
  refine tkG 6 9 hS ?_
  try simp only [Act.put, List.setIfInBounds_toArray, List.set_cons_zero, List.set_cons_succ]
  clear hS
  refine listed_asW (l' := #[true, true, true, true, true, false, true, false, false, false]) (by kernel_rfl) ?_
  revert hP
  revert hsz
  revert hr
  revert hx
  revert HB
  revert c2
  revert n2
  revert a2
  revert c1
  revert n1
  revert a1
  revert V0
  refine ?bc124
  rotate_left 1
  intro V0 HB hx hr hsz
  have hS : (fun _ : World => True) V0 := trivial
  refine wpAnyH_ready (rs := [2]) (by kernel_rfl) (by simp) ?_
  refine AllReadyH.cons rfl (fun K hK => ?_) AllReadyH.nil
  go_simp
  refine (HPC.out _ (hrp.below HB)).mono ?_
  rintro e V1 ⟨Y, rfl, hY, hP, hb⟩
  replace HB := HB.trans (hb.mono HB.size)
  replace hx := hx.below hb
  replace hr := hr.below hb
  replace hP := hP.mono hsz
  replace hsz := Nat.le_trans hsz hb.size
  obtain ⟨⟨yv, yn, ys, yt⟩, yvs, yvt⟩ := Y
  simp only [Prf.mk.injEq] at hY
  obtain ⟨hY1, hY2, hY3, hY4⟩ := hY
  replace hY1 := hY1.symm
  replace hY2 := hY2.symm
  replace hY3 := hY3.symm
  replace hY4 := hY4.symm
  subst hY1 hY2 hY3 hY4
  obtain ⟨a1, c1, a2, c2, e1, e2⟩ := hP.slices
  simp only at e1 e2 hP ⊢
  obtain ⟨n1, hn1⟩ : ∃ n, n = ps.length := ⟨_, rfl⟩
  obtain ⟨n2, hn2⟩ : ∃ n, n = pt.length := ⟨_, rfl⟩
  rw [← hn1] at e1
  rw [← hn2] at e2
  clear hn1 hn2
  subst e1 e2
  clear hS hb
  refine hK.out _ _ trivial (fun hS => ?_)
  clear hK K
  try simp only [List.setIfInBounds_toArray, List.set_cons_zero, List.set_cons_succ]
  refine tkG 6 9 hS ?_
  try simp only [Act.put, List.setIfInBounds_toArray, List.set_cons_zero, List.set_cons_succ]
  clear hS
  refine listed_asW (l' := #[true, true, true, true, true, false, true, false, false, false]) (by kernel_rfl) ?_
  revert hP
  revert hsz
  revert hr
  revert hx
  revert HB
  revert c2
  revert n2
  revert a2
  revert c1
  revert n1
  revert a1
  revert V1
  clear V0
  exact ?bc124
  intro V0 a1 n1 c1 a2 n2 c2 HB hx hr hsz hP
  have hS : (fun _ : World => True) V0 := trivial
  refine wpAnyH_ready (rs := [5]) (by kernel_rfl) (by simp) ?_
  refine AllReadyH.cons rfl (fun K hK => ?_) AllReadyH.nil
  go_simp
  refine (HTC.out _ (hrm.below HB)).mono ?_
  rintro e V1 ⟨u, rfl, hM, hb⟩
  replace HB := HB.trans (hb.mono HB.size)
  replace hx := hx.below hb
  replace hr := hr.below hb
  have hap : (∀ q, (Value.slice a1 n1 c1).ownBlock = some q → u.ownBlock = some q → False) ∧ (∀ q, (Value.slice a2 n2 c2).ownBlock = some q → u.ownBlock = some q → False) := ⟨fun q h1 h2 => by have := (World.ownsRow.lt hP.sv q h1).2; have := (World.ownsRow.lt hM q h2).1; omega, fun q h1 h2 => by have := (World.ownsRow.lt hP.tg q h1).2; have := (World.ownsRow.lt hM q h2).1; omega⟩
  replace hP := hP.below hb
  replace hM := hM.mono hsz
  replace hsz := Nat.le_trans hsz hb.size
  have e3 : ∃ a n c, u = .slice a n c := by obtain ⟨a, c, h⟩ := ownSlX hM; exact ⟨a, _, c, h⟩
  obtain ⟨a3, n3, c3, e3⟩ := e3
  subst e3
  clear hS hb
  refine hK.out _ _ trivial (fun hS => ?_)
  clear hK K
  try simp only [List.setIfInBounds_toArray, List.set_cons_zero, List.set_cons_succ]
  clear hS
  refine listed_asW (l' := #[true, true, true, true, true, true, true, false, false, false]) (by kernel_rfl) ?_
  revert hap
  revert hM
  revert hP
  revert hsz
  revert hr
  revert hx
  revert HB
  revert c3
  revert n3
  revert a3
  revert c2
  revert n2
  revert a2
  revert c1
  revert n1
  revert a1
  revert V1
  clear V0
  refine ?bc1245
  rotate_left 1
  intro V0 a1 n1 c1 a2 n2 c2 a3 n3 c3 HB hx hr hsz hP hM hap
  have hS : (fun _ : World => True) V0 := trivial
  refine wpAnyH_ready (rs := [7]) (by kernel_rfl) (by simp) ?_
  refine AllReadyH.cons rfl (fun K hK => ?_) AllReadyH.nil
  obtain ⟨g0, g1, g2, g3, g4, g5, g6, g7⟩ := hx.c8
  obtain ⟨f0, f1, f2, f3, f4, f5, f6, f7⟩ := hx.f8
  go_simp
  clear g0 g1 g2 g3 g4 g5 g6 g7 f0 f1 f2 f3 f4 f5 f6 f7
  clear hS
  have HT : Touch [w.heap.size] V0 (putPB V0 w.heap.size (.int .i64 pv) (.int .i64 pn) (.slice a1 n1 c1) (.slice a2 n2 c2)) := putPB_touch
  replace hx := hx.putP (.int .i64 pv) (.int .i64 pn) (.slice a1 n1 c1) (.slice a2 n2 c2)
  replace HB := putPB_below (u0 := .int .i64 pv) (u1 := .int .i64 pn) (u2 := .slice a1 n1 c1) (u3 := .slice a2 n2 c2) HB (Nat.le_refl _)
  replace hP := hP.touch HT (fun k hk e => by have h1 := (hP.bound hk).1; have h2 := List.mem_singleton.1 e; omega)
  replace hM := HT.row hM (fun k hk e => by have h1 := (World.ownsRow.lt hM k hk).1; have h2 := List.mem_singleton.1 e; omega)
  replace hr := hr.of_block (HT.block _ hr.lt (by simp))
  replace hsz := Nat.le_trans hsz HT.size
  clear HT
  refine hK.out _ _ trivial (fun hS => ?_)
  clear hK K
  try simp only [List.setIfInBounds_toArray, List.set_cons_zero, List.set_cons_succ]
  revert hS
  revert hsz
  revert hr
  revert hM
  revert hP
  revert HB
  revert hx
  unfold putPB
  generalize (((World.setCell V0 ⟨w.heap.size, 2, none⟩ (.int .i64 pv)).setCell ⟨w.heap.size, 3, none⟩ (.int .i64 pn)).setCell ⟨w.heap.size, 4, none⟩ (.slice a1 n1 c1)).setCell ⟨w.heap.size, 5, none⟩ (.slice a2 n2 c2) = V1
  intro hx HB hP hM hr hsz hS
  refine tkG 8 10 hS ?_
  try simp only [Act.put, List.setIfInBounds_toArray, List.set_cons_zero, List.set_cons_succ]
  clear hS
  refine listed_asW (l' := #[true, true, true, true, true, true, true, true, true, false]) (by kernel_rfl) ?_
  revert hap
  revert hM
  revert hP
  revert hsz
  revert hr
  revert hx
  revert HB
  revert c3
  revert n3
  revert a3
  revert c2
  revert n2
  revert a2
  revert c1
  revert n1
  revert a1
  revert V1
  clear V0
  refine ?bc12457
  rotate_left 1
  intro V0 a1 n1 c1 a2 n2 c2 a3 n3 c3 HB hx hr hsz hP hM hap
  have hS : (fun _ : World => True) V0 := trivial
  refine wpAnyH_ready (rs := [9]) (by kernel_rfl) (by simp) ?_
  refine AllReadyH.cons rfl (fun K hK => ?_) AllReadyH.nil
  obtain ⟨g0, g1, g2, g3, g4, g5, g6, g7⟩ := hx.c8
  obtain ⟨f0, f1, f2, f3, f4, f5, f6, f7⟩ := hx.f8
  go_simp
  clear g0 g1 g2 g3 g4 g5 g6 g7 f0 f1 f2 f3 f4 f5 f6 f7
  clear hS
  have HT : Touch [w.heap.size] V0 (V0.setCell ⟨w.heap.size, 6, none⟩ (.slice a3 n3 c3)) := Touch.set (List.mem_singleton.2 rfl)
  replace hx : Bx (V0.setCell ⟨w.heap.size, 6, none⟩ (.slice a3 n3 c3)) w.heap.size 34 #[.int .i64 vw, .int .i64 pa, .int .i64 pv, .int .i64 pn, .slice a1 n1 c1, .slice a2 n2 c2, .slice a3 n3 c3, .int .i64 sv] := hx.set 6 (.slice a3 n3 c3)
  replace HB := HB.setCell (p := ⟨w.heap.size, 6, none⟩) (Nat.le_refl _) (.slice a3 n3 c3)
  replace hP := hP.touch HT (fun k hk e => by have h1 := (hP.bound hk).1; have h2 := List.mem_singleton.1 e; omega)
  replace hM := HT.row hM (fun k hk e => by have h1 := (World.ownsRow.lt hM k hk).1; have h2 := List.mem_singleton.1 e; omega)
  replace hr := hr.of_block (HT.block _ hr.lt (by simp))
  replace hsz := Nat.le_trans hsz HT.size
  clear HT
  refine hK.out _ _ trivial (fun hS => ?_)
  clear hK K
  try simp only [List.setIfInBounds_toArray, List.set_cons_zero, List.set_cons_succ]
  revert hS
  revert hsz
  revert hr
  revert hM
  revert hP
  revert HB
  revert hx
  generalize V0.setCell ⟨w.heap.size, 6, none⟩ (.slice a3 n3 c3) = V1
  intro hx HB hP hM hr hsz hS
  clear hS
  refine listed_asW (l' := #[true, true, true, true, true, true, true, true, true, true]) (by kernel_rfl) ?_
  revert hap
  revert hM
  revert hP
  revert hsz
  revert hr
  revert hx
  revert HB
  revert c3
  revert n3
  revert a3
  revert c2
  revert n2
  revert a2
  revert c1
  revert n1
  revert a1
  revert V1
  clear V0
  refine ?bc124579
  rotate_left 1
  intro V0 a1 n1 c1 a2 n2 c2 a3 n3 c3 HB hx hr hsz hP hM hap
  have hS : (fun _ : World => True) V0 := trivial
  refine wpAnyH_done (by kernel_rfl) ?_ _
  refine NoPanic.normal ?_
  clear hS
  have hown : OwnBl V0 (w.heap.size + 2) ⟨⟨vw, pa, ⟨pv, pn, ps, pt⟩, mo, sv⟩, .slice a1 n1 c1, .slice a2 n2 c2, .slice a3 n3 c3⟩ := ⟨hP, hM, hap.1, hap.2⟩
  obtain ⟨g0, g1, g2, g3, g4, g5, g6, g7⟩ := hx.c8
  obtain ⟨h0, h1, h2, h3, h4, h5, h6, h7⟩ := hr.c8
  obtain ⟨f0, f1, f2, f3, f4, f5, f6, f7⟩ := hr.f8
  obtain ⟨k0, k1, k2, k3, k4, k5, k6, k7⟩ := (hr.put8 (.int .i64 vw) (.int .i64 pa) (.int .i64 pv) (.int .i64 pn) (.slice a1 n1 c1) (.slice a2 n2 c2) (.slice a3 n3 c3) (.int .i64 sv)).c8
  have HF : Hid (ToBl w ⟨vw, pa, ⟨pv, pn, ps, pt⟩, mo, sv⟩ (.returned (.agg #[.int .i64 vw, .int .i64 pa, .int .i64 pv, .int .i64 pn, .slice a1 n1 c1, .slice a2 n2 c2, .slice a3 n3 c3, .int .i64 sv])) (put8B V0 (w.heap.size + 1) (.int .i64 vw) (.int .i64 pa) (.int .i64 pv) (.int .i64 pn) (.slice a1 n1 c1) (.slice a2 n2 c2) (.slice a3 n3 c3) (.int .i64 sv))) :=
    ⟨⟨⟨vw, pa, ⟨pv, pn, ps, pt⟩, mo, sv⟩, .slice a1 n1 c1, .slice a2 n2 c2, .slice a3 n3 c3⟩, rfl, rfl, (hown.touch put8B_touch (fun q hq e => by have h1 := (hown.bound hq).1; have h2 := List.mem_singleton.1 e; omega)).mono (by omega), put8B_below HB (by omega)⟩
  unfold put8B at k0 k1 k2 k3 k4 k5 k6 k7 HF
  clear hown hP hM hap HB hx hr hsz
  go_wp2
  exact bodyPost_ret (v := .agg #[.int .i64 vw, .int .i64 pa, .int .i64 pv, .int .i64 pn, .slice a1 n1 c1, .slice a2 n2 c2, .slice a3 n3 c3, .int .i64 sv]) (by simp [results, Tryz.results173, go_sem, k0, k1, k2, k3, k4, k5, k6, k7]) rfl HF.out
end Go.Proofs.YtilhaokiohbeeaaGreatDoor
