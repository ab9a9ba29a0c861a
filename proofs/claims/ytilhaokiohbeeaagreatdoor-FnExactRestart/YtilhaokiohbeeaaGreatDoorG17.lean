/- The contracts of the program's copies: of lists, of a Proof, of a Block. The contract of the model's copy of a Proof. -/
import Derived.Test.YtilhaokiohbeeaaGreatDoorG10
import Derived.Test.YtilhaokiohbeeaaGreatDoorG06
-- UNF Gen
namespace Go.Proofs.YtilhaokiohbeeaaGreatDoor
open Go.RowKit
theorem ownTx_none (w : World) : OwnS (w.alloc (.cells #[] 9)) w.heap.size (.slice (some ⟨w.heap.size, 0, none⟩) 0 0) [] := World.ownsRow_lit w #[] 0 (Nat.le_refl _) (Nat.zero_le _) rfl
theorem ownIn_none (w : World) : OwnI (w.alloc (.cells #[] 2)) w.heap.size (.slice (some ⟨w.heap.size, 0, none⟩) 0 0) [] := World.ownsRow_lit w #[] 0 (Nat.le_refl _) (Nat.zero_le _) rfl
set_option maxHeartbeats 1000000 in
set_option maxRecDepth 100000 in
theorem copyI_any (v : Value) (bs : List Int) (w : World) (hr : RdI w v bs) (hl : bs.length ≤ 1000000000) :
    Calls Tryz.prog 151 #[v] w fun e w' => ∃ u, e = .returned u ∧ OwnI w' w.heap.size u bs ∧ Below w.heap.size w w' := by
  have hoi := ownIn_none w
  have b0 := below1 w (.cells #[] 2)
  have hr0 := hr.below b0
  go_enter Tryz.func151, Tryz.ntmps151
  go_wp2_with (at_builtin; (refine wpList_append_ints rfl _ _ rfl w.heap.size _ _ [] bs rfl rfl hoi hr0 (by simp; omega) (by simp) ?_))
  intro u w1 ho hg
  have b1 : Below w.heap.size w w1 := b0.grown hg (by simp) (fun k hk => by have : w.heap.size = k := Option.some.inj hk; omega)
  clear hoi b0 hr0 hg
  go_wp2
  go_ret
  exact ⟨u, rfl, ho, b1⟩
set_option maxHeartbeats 1000000 in
set_option maxRecDepth 100000 in
theorem copyT_any (v : Value) (bs : List ByteArray) (w : World) (hr : RdS w v bs) (hn : NilOk v) (hl : bs.length ≤ 1000000000) :
    Calls Tryz.prog 210 #[v] w fun e w' => ∃ u, e = .returned u ∧ OwnS w' w.heap.size u bs ∧ Below w.heap.size w w' := by
  have hoi := ownTx_none w
  have b0 := below1 w (.cells #[] 9)
  have hr0 := hr.below b0
  go_enter Tryz.func210, Tryz.ntmps210
  go_wp2_with (at_builtin; (refine wpList_append_txts rfl _ _ rfl w.heap.size _ _ [] bs rfl rfl hoi hr0 hn (by simp; omega) (by simp) ?_))
  intro u w1 ho hg
  have b1 : Below w.heap.size w w1 := b0.grown hg (by simp) (fun k hk => by have : w.heap.size = k := Option.some.inj hk; omega)
  clear hoi b0 hr0 hg
  go_wp2
  go_ret
  exact ⟨u, rfl, ho, b1⟩
set_option maxHeartbeats 1000000 in
set_option maxRecDepth 100000 in
theorem copyV_any (v : Value) (bs : List Vot) (w : World) (hr : RdVo w v bs) (hl : bs.length ≤ 1000000000) :
    Calls Tryz.prog 152 #[v] w fun e w' => ∃ u, e = .returned u ∧ OwnVo w' w.heap.size u bs ∧ Below w.heap.size w w' := by
  have hoi := ownVo_none w
  have b0 := below1 w (.cells #[] 36)
  have hr0 := hr.below b0
  go_enter Tryz.func152, Tryz.ntmps152
  go_wp2_with (at_builtin; (refine wpList_append_votes rfl _ _ rfl w.heap.size _ _ [] bs rfl rfl hoi hr0 (by simp; omega) (by simp) ?_))
  intro u w1 ho hg
  have b1 : Below w.heap.size w w1 := b0.grown hg (by simp) (fun k hk => by have : w.heap.size = k := Option.some.inj hk; omega)
  clear hoi b0 hr0 hg
  go_wp2
  go_ret
  exact ⟨u, rfl, ho, b1⟩
set_option maxHeartbeats 1000000 in
set_option maxRecDepth 100000 in
theorem copyN_any (v : Value) (bs : List Nws) (w : World) (hr : RdNw w v bs) (hl : bs.length ≤ 1000000000) :
    Calls Tryz.prog 153 #[v] w fun e w' => ∃ u, e = .returned u ∧ OwnNw w' w.heap.size u bs ∧ Below w.heap.size w w' := by
  have hoi := ownNw_none w
  have b0 := below1 w (.cells #[] 128)
  have hr0 := hr.below b0
  go_enter Tryz.func153, Tryz.ntmps153
  go_wp2_with (at_builtin; (refine wpList_append_news rfl _ _ rfl w.heap.size _ _ [] bs rfl rfl hoi hr0 (by simp; omega) (by simp) ?_))
  intro u w1 ho hg
  have b1 : Below w.heap.size w w1 := b0.grown hg (by simp) (fun k hk => by have : w.heap.size = k := Option.some.inj hk; omega)
  clear hoi b0 hr0 hg
  go_wp2
  go_ret
  exact ⟨u, rfl, ho, b1⟩
set_option maxHeartbeats 4000000 in
set_option maxRecDepth 100000 in
theorem proofCopied_any (X : PrX) (w : World) (hr : RdPr w X) (hl1 : X.p.sv.length ≤ 1000000000) (hl2 : X.p.tg.length ≤ 1000000000) :
    Calls Tryz.prog 150 #[.agg #[.int .i64 X.p.vw, .int .i64 X.p.nm, X.vs, X.vt]] w fun e w' => ∃ Y : PrX, e = .returned (.agg #[.int .i64 Y.p.vw, .int .i64 Y.p.nm, Y.vs, Y.vt]) ∧ Y.p = X.p ∧ OwnPr w' w.heap.size Y ∧ Below w.heap.size w w' := by
  obtain ⟨⟨pv, pn, ps, pt⟩, pvs, pvt⟩ := X
  obtain ⟨hrs, hrt⟩ := hr
  simp only at hrs hrt hl1 hl2 ⊢
  have HI1 : Hid (∀ W, RdI W pvs ps → Calls Tryz.prog 151 #[pvs] W fun e w' => ∃ u, e = .returned u ∧ OwnI w' W.heap.size u ps ∧ Below W.heap.size W w') := fun W h => copyI_any _ _ W h hl1
  have HI2 : Hid (∀ W, RdI W pvt pt → Calls Tryz.prog 151 #[pvt] W fun e w' => ∃ u, e = .returned u ∧ OwnI w' W.heap.size u pt ∧ Below W.heap.size W w') := fun W h => copyI_any _ _ W h hl2
  clear hl1 hl2
  have t2 := (bx_new w 26 #[.int .i64 pv, .int .i64 pn, pvs, pvt]).below (below1 _ (.cells #[.int .i64 0, .int .i64 0, .slice none 0 0, .slice none 0 0] 26))
  have r2 := bx_new (w.alloc (.cells #[.int .i64 pv, .int .i64 pn, pvs, pvt] 26)) 26 #[.int .i64 0, .int .i64 0, .slice none 0 0, .slice none 0 0]
  have b2 := below2 w (.cells #[.int .i64 pv, .int .i64 pn, pvs, pvt] 26) (.cells #[.int .i64 0, .int .i64 0, .slice none 0 0, .slice none 0 0] 26)
  have s2 : w.heap.size + 2 ≤ ((w.alloc (.cells #[.int .i64 pv, .int .i64 pn, pvs, pvt] 26)).alloc (.cells #[.int .i64 0, .int .i64 0, .slice none 0 0, .slice none 0 0] 26)).heap.size := by simp
  rw [show (w.alloc (.cells #[.int .i64 pv, .int .i64 pn, pvs, pvt] 26)).heap.size = w.heap.size + 1 by simp] at r2
  go_enter Tryz.func150, Tryz.ntmps150
  go_wp2_with fail
  generalize (w.alloc (.cells #[.int .i64 pv, .int .i64 pn, pvs, pvt] 26)).alloc (.cells #[.int .i64 0, .int .i64 0, .slice none 0 0, .slice none 0 0] 26) = W2 at t2 r2 b2 s2 ⊢
  refine wp_region_noPanic ?_
  refine wp_region_held_drew (S := fun w' => w'.cell? ⟨w.heap.size, 0, none⟩ = some (.int .i64 pv) ∧ w'.cell? ⟨w.heap.size, 1, none⟩ = some (.int .i64 pn) ∧ w'.cell? ⟨w.heap.size, 2, none⟩ = some (pvs) ∧ w'.cell? ⟨w.heap.size, 3, none⟩ = some (pvt)) (by kernel_rfl) (t2.below (Below.refl _ _).drew).c4 (fun h0 => ?_)
  refine tkG 0 3 h0 ?_
  try simp only [Act.put, List.setIfInBounds_toArray, List.set_cons_zero, List.set_cons_succ]
  refine tkG 1 4 h0 ?_
  try simp only [Act.put, List.setIfInBounds_toArray, List.set_cons_zero, List.set_cons_succ]
  refine tkG 2 5 h0 ?_
  try simp only [Act.put, List.setIfInBounds_toArray, List.set_cons_zero, List.set_cons_succ]
  refine tkG 3 6 h0 ?_
  try simp only [Act.put, List.setIfInBounds_toArray, List.set_cons_zero, List.set_cons_succ]
  refine tkG 4 7 h0 ?_
  try simp only [Act.put, List.setIfInBounds_toArray, List.set_cons_zero, List.set_cons_succ]
  refine tkG 5 8 h0 ?_
  try simp only [Act.put, List.setIfInBounds_toArray, List.set_cons_zero, List.set_cons_succ]
  refine tkG 7 10 h0 ?_
  try simp only [Act.put, List.setIfInBounds_toArray, List.set_cons_zero, List.set_cons_succ]
  refine tkG 8 11 h0 ?_
  try simp only [Act.put, List.setIfInBounds_toArray, List.set_cons_zero, List.set_cons_succ]
  refine wpAnyH_ready (rs := [6]) (by kernel_rfl) (by simp) ?_
  refine AllReadyH.cons rfl (fun K hK => ?_) AllReadyH.nil
  go_simp
  refine (HI1.out _ (hrs.below b2.drew)).mono ?_
  rintro e w3 ⟨u1, rfl, ho1, hb3⟩
  have b3 := b2.drew.trans (hb3.mono b2.drew.size)
  have t3 := (t2.below (Below.refl _ _).drew).below hb3
  have r3 := (r2.below (Below.refl _ _).drew).below hb3
  have e1 : ∃ a n c, u1 = .slice a n c := by obtain ⟨a, c, h⟩ := ownSlX ho1; exact ⟨a, _, c, h⟩
  obtain ⟨x1, y1, z1, e1⟩ := e1
  subst e1
  refine hK.out _ _ (t3.c4) (fun h1 => ?_)
  clear hK K
  try simp only [Act.put, List.setIfInBounds_toArray, List.set_cons_zero, List.set_cons_succ]
  clear h0
  refine wpAnyH_ready (rs := [9]) (by kernel_rfl) (by simp) ?_
  refine AllReadyH.cons rfl (fun K hK => ?_) AllReadyH.nil
  go_simp
  refine (HI2.out _ (hrt.below b3)).mono ?_
  rintro e w4 ⟨u2, rfl, ho2, hb4⟩
  have b4 := b3.trans (hb4.mono b3.size)
  have t4 := t3.below hb4
  have r4 := r3.below hb4
  have ho1' := ho1.below hb4
  have hs3 : w.heap.size + 2 ≤ w3.heap.size := Nat.le_trans s2 hb3.size
  have hap : ∀ q, (Value.slice x1 y1 z1).ownBlock = some q → u2.ownBlock = some q → False := fun q h1 h2 => by have := (World.ownsRow.lt ho1 q h1).2; have := (World.ownsRow.lt ho2 q h2).1; omega
  have e2 : ∃ a n c, u2 = .slice a n c := by obtain ⟨a, c, h⟩ := ownSlX ho2; exact ⟨a, _, c, h⟩
  obtain ⟨x2, y2, z2, e2⟩ := e2
  subst e2
  refine hK.out _ _ (t4.c4) (fun h2 => ?_)
  clear hK K
  try simp only [Act.put, List.setIfInBounds_toArray, List.set_cons_zero, List.set_cons_succ]
  clear h1
  refine tkG 10 13 h2 ?_
  try simp only [Act.put, List.setIfInBounds_toArray, List.set_cons_zero, List.set_cons_succ]
  refine wpAnyH_ready (rs := [11]) (by kernel_rfl) (by simp) ?_
  refine AllReadyH.cons rfl (fun K hK => ?_) AllReadyH.nil
  obtain ⟨f0, f1, f2, f3⟩ := r4.f4
  obtain ⟨g0, g1, g2, g3⟩ := r4.c4
  go_simp
  have HT : Touch [w.heap.size + 1] w4 (put4B w4 (w.heap.size + 1) (.int .i64 pv) (.int .i64 pn) (.slice x1 y1 z1) (.slice x2 y2 z2)) := put4B_touch
  have t5 : Bx (put4B w4 (w.heap.size + 1) (.int .i64 pv) (.int .i64 pn) (.slice x1 y1 z1) (.slice x2 y2 z2)) w.heap.size 26 #[.int .i64 pv, .int .i64 pn, pvs, pvt] := t4.of_block (HT.block _ t4.lt (by simp))
  have b5 := put4B_below (u0 := .int .i64 pv) (u1 := .int .i64 pn) (u2 := .slice x1 y1 z1) (u3 := .slice x2 y2 z2) b4 (show w.heap.size ≤ w.heap.size + 1 by omega)
  have r5 := r4.put4 (.int .i64 pv) (.int .i64 pn) (.slice x1 y1 z1) (.slice x2 y2 z2)
  have o1 := HT.row (ho1'.mono (show w.heap.size + 2 ≤ W2.drew.heap.size by exact s2)) (fun k hk e => by have h1 := (World.ownsRow.lt (ho1'.mono (show w.heap.size + 2 ≤ W2.drew.heap.size by exact s2)) k hk).1; have h2 := List.mem_singleton.1 e; omega)
  have o2 := HT.row (ho2.mono hs3) (fun k hk e => by have h1 := (World.ownsRow.lt (ho2.mono hs3) k hk).1; have h2 := List.mem_singleton.1 e; omega)
  clear g0 g1 g2 g3 f0 f1 f2 f3
  refine hK.out _ _ (t5.c4) (fun h3 => ?_)
  clear hK K
  try simp only [Act.put, List.setIfInBounds_toArray, List.set_cons_zero, List.set_cons_succ]
  clear h2
  refine wpAnyH_done (by kernel_rfl) ?_ _
  refine NoPanic.normal ?_
  obtain ⟨k0, k1, k2, k3⟩ := r5.c4
  have HF : Hid (∃ Y : PrX, Ending.returned (.agg #[.int .i64 pv, .int .i64 pn, .slice x1 y1 z1, .slice x2 y2 z2]) = .returned (.agg #[.int .i64 Y.p.vw, .int .i64 Y.p.nm, Y.vs, Y.vt]) ∧ Y.p = ⟨pv, pn, ps, pt⟩ ∧ OwnPr (put4B w4 (w.heap.size + 1) (.int .i64 pv) (.int .i64 pn) (.slice x1 y1 z1) (.slice x2 y2 z2)) w.heap.size Y ∧ Below w.heap.size w (put4B w4 (w.heap.size + 1) (.int .i64 pv) (.int .i64 pn) (.slice x1 y1 z1) (.slice x2 y2 z2))) :=
    ⟨⟨⟨pv, pn, ps, pt⟩, .slice x1 y1 z1, .slice x2 y2 z2⟩, rfl, rfl, OwnPr.mono (B := w.heap.size + 2) ⟨o1, o2, hap⟩ (by omega), b5⟩
  unfold put4B at k0 k1 k2 k3 HF
  clear o1 o2 b5 r5 t5 HT hap t4 r4 b4 t3 r3 b3 ho1 ho2 ho1' hb3 hb4 t2 r2 b2 s2 hs3
  go_wp2
  exact bodyPost_ret (v := .agg #[.int .i64 pv, .int .i64 pn, .slice x1 y1 z1, .slice x2 y2 z2]) (by simp [results, Tryz.results150, go_sem, k0, k1, k2, k3]) rfl HF.out
end Go.Proofs.YtilhaokiohbeeaaGreatDoor
-- UNF Gen
namespace Go.Proofs.YtilhaokiohbeeaaGreatDoor
open Go.RowKit
set_option maxHeartbeats 4000000 in
set_option maxRecDepth 100000 in
theorem cpProofS_any (X : PrX) (w : World) (hr : RdPr w X) (hl1 : X.p.sv.length ≤ 1000000000) (hl2 : X.p.tg.length ≤ 1000000000) :
    Calls Tryz.prog 143 #[.agg #[.int .i64 X.p.vw, .int .i64 X.p.nm, X.vs, X.vt]] w fun e w' => ToPr w X.p e w' := by
  obtain ⟨⟨pv, pn, ps, pt⟩, pvs, pvt⟩ := X
  obtain ⟨hrs, hrt⟩ := hr
  simp only at hrs hrt hl1 hl2 ⊢
  have t := (bx_new w 26 #[.int .i64 pv, .int .i64 pn, pvs, pvt]).below (below1 _ (.cells #[.int .i64 0, .int .i64 0, .slice none 0 0, .slice none 0 0] 26))
  have r := bx_new (w.alloc (.cells #[.int .i64 pv, .int .i64 pn, pvs, pvt] 26)) 26 #[.int .i64 0, .int .i64 0, .slice none 0 0, .slice none 0 0]
  have b := below2 w (.cells #[.int .i64 pv, .int .i64 pn, pvs, pvt] 26) (.cells #[.int .i64 0, .int .i64 0, .slice none 0 0, .slice none 0 0] 26)
  have sW : ((w.alloc (.cells #[.int .i64 pv, .int .i64 pn, pvs, pvt] 26)).alloc (.cells #[.int .i64 0, .int .i64 0, .slice none 0 0, .slice none 0 0] 26)).heap.size = w.heap.size + 2 := by simp
  have s : w.heap.size + 2 ≤ ((w.alloc (.cells #[.int .i64 pv, .int .i64 pn, pvs, pvt] 26)).alloc (.cells #[.int .i64 0, .int .i64 0, .slice none 0 0, .slice none 0 0] 26)).heap.size := by rw [sW]; exact Nat.le_refl _
  rw [show (w.alloc (.cells #[.int .i64 pv, .int .i64 pn, pvs, pvt] 26)).heap.size = w.heap.size + 1 by simp] at r
  go_enter Tryz.func143, Tryz.ntmps143
  have z1 : OwnI (World.alloc ((w.alloc (.cells #[.int .i64 pv, .int .i64 pn, pvs, pvt] 26)).alloc (.cells #[.int .i64 0, .int .i64 0, .slice none 0 0, .slice none 0 0] 26)) (.cells #[] 2)) (w.heap.size + 2) (.slice (some ⟨w.heap.size + 2, 0, none⟩) 0 0) [] := by
    have h := ownIn_none ((w.alloc (.cells #[.int .i64 pv, .int .i64 pn, pvs, pvt] 26)).alloc (.cells #[.int .i64 0, .int .i64 0, .slice none 0 0, .slice none 0 0] 26))
    rw [sW] at h
    exact h
  have tA := t.below (below1 ((w.alloc (.cells #[.int .i64 pv, .int .i64 pn, pvs, pvt] 26)).alloc (.cells #[.int .i64 0, .int .i64 0, .slice none 0 0, .slice none 0 0] 26)) (.cells #[] 2))
  have bA := b.alloc b.size (.cells #[] 2)
  obtain ⟨q0, q1, q2, q3⟩ := tA.c4
  go_wp2_with (at_builtin; (refine wpList_append_ints rfl _ _ rfl (w.heap.size + 2) _ _ [] ps rfl rfl z1 (hrs.below bA) (by simp; omega) (by simp <;> omega) ?_))
  intro u u1 ho hg
  have hbn : Below (World.heap ((w.alloc (.cells #[.int .i64 pv, .int .i64 pn, pvs, pvt] 26)).alloc (.cells #[.int .i64 0, .int .i64 0, .slice none 0 0, .slice none 0 0] 26))).size ((w.alloc (.cells #[.int .i64 pv, .int .i64 pn, pvs, pvt] 26)).alloc (.cells #[.int .i64 0, .int .i64 0, .slice none 0 0, .slice none 0 0] 26)) u1 := (below1 ((w.alloc (.cells #[.int .i64 pv, .int .i64 pn, pvs, pvt] 26)).alloc (.cells #[.int .i64 0, .int .i64 0, .slice none 0 0, .slice none 0 0] 26)) (.cells #[] 2)).grown hg (by simp) (fun k hk => by have : w.heap.size + 2 = k := Option.some.inj hk; omega)
  obtain ⟨a1, c1, e1⟩ := ownSlX ho
  obtain ⟨n1, hn1⟩ : ∃ n, n = ps.length := ⟨_, rfl⟩
  rw [← hn1] at e1
  subst e1
  clear hn1
  have t1 := t.below hbn
  have r1 := r.below hbn
  have b1 := b.trans (hbn.mono b.size)
  have s1 : w.heap.size + 2 ≤ u1.heap.size := Nat.le_trans s hbn.size
  clear z1 tA bA q0 q1 q2 q3 hg
  obtain ⟨f0, f1, f2, f3⟩ := t1.f4
  obtain ⟨g0, g1, g2, g3⟩ := t1.c4
  have HT : Touch [w.heap.size] u1 (u1.setCell ⟨w.heap.size, 2, none⟩ (.slice a1 n1 c1)) := Touch.set (List.mem_singleton.2 rfl)
  have t2 : Bx (u1.setCell ⟨w.heap.size, 2, none⟩ (.slice a1 n1 c1)) w.heap.size 26 #[.int .i64 pv, .int .i64 pn, .slice a1 n1 c1, pvt] := t1.set 2 (.slice a1 n1 c1)
  have r2 := r1.of_block (HT.block _ r1.lt (by simp))
  have b2 := b1.setCell (p := ⟨w.heap.size, 2, none⟩) (Nat.le_refl _) (.slice a1 n1 c1)
  have s2 : w.heap.size + 2 ≤ (u1.setCell ⟨w.heap.size, 2, none⟩ (.slice a1 n1 c1)).heap.size := Nat.le_trans s1 HT.size
  have o1 := HT.row ho (fun k hk e => by have h1 := (World.ownsRow.lt ho k hk).1; have h2 := List.mem_singleton.1 e; omega)
  clear t1 r1 b1 s1 ho hbn HT t r b s sW
  obtain ⟨V, hV⟩ : ∃ V, V = (u1.setCell ⟨w.heap.size, 2, none⟩ (.slice a1 n1 c1)) := ⟨_, rfl⟩
  have szV : V.heap.size = u1.heap.size := by rw [hV]; simp
  rw [← hV] at t2 r2 b2 s2 o1
  have z2 : OwnI (World.alloc (u1.setCell ⟨w.heap.size, 2, none⟩ (.slice a1 n1 c1)) (.cells #[] 2)) u1.heap.size (.slice (some ⟨u1.heap.size, 0, none⟩) 0 0) [] := by
    rw [← hV, ← szV]; exact ownIn_none V
  have tA := t2.below (below1 V (.cells #[] 2))
  have bA := b2.alloc b2.size (.cells #[] 2)
  have hrA := hrt.below bA
  rw [hV] at tA hrA
  obtain ⟨q0, q1, q2, q3⟩ := tA.c4
  go_wp2_with (at_builtin; (refine wpList_append_ints rfl _ _ rfl u1.heap.size _ _ [] pt rfl rfl z2 hrA (by simp; omega) (by simp) ?_))
  intro u u3 ho hg
  rw [← hV] at hg
  have hbn : Below V.heap.size V u3 := (below1 V (.cells #[] 2)).grown hg (by simp) (fun k hk => by have : u1.heap.size = k := Option.some.inj hk; omega)
  obtain ⟨a2, c2, e2⟩ := ownSlX ho
  obtain ⟨n2, hn2⟩ : ∃ n, n = pt.length := ⟨_, rfl⟩
  rw [← hn2] at e2
  subst e2
  clear hn2
  have hap : ∀ k, (Value.slice a1 n1 c1).ownBlock = some k → (Value.slice a2 n2 c2).ownBlock = some k → False := fun k h1 h2 => by have := (World.ownsRow.lt o1 k h1).2; have := (World.ownsRow.lt ho k h2).1; omega
  have t3 := t2.below hbn
  have r3 := r2.below hbn
  have o3 := own_below o1 hbn
  have b3 := b2.trans (hbn.mono b2.size)
  have s3 : w.heap.size + 2 ≤ u3.heap.size := Nat.le_trans s2 hbn.size
  replace ho := ho.mono (show w.heap.size + 2 ≤ u1.heap.size by omega)
  clear z2 tA bA hrA q0 q1 q2 q3 hg t2 r2 b2 s2 o1 hbn hV szV V
  obtain ⟨f0, f1, f2, f3⟩ := t3.f4
  obtain ⟨g0, g1, g2, g3⟩ := t3.c4
  have HT : Touch [w.heap.size] u3 (u3.setCell ⟨w.heap.size, 3, none⟩ (.slice a2 n2 c2)) := Touch.set (List.mem_singleton.2 rfl)
  have t4 : Bx (u3.setCell ⟨w.heap.size, 3, none⟩ (.slice a2 n2 c2)) w.heap.size 26 #[.int .i64 pv, .int .i64 pn, .slice a1 n1 c1, .slice a2 n2 c2] := t3.set 3 (.slice a2 n2 c2)
  have r4 := r3.of_block (HT.block _ r3.lt (by simp))
  have b4 := b3.setCell (p := ⟨w.heap.size, 3, none⟩) (Nat.le_refl _) (.slice a2 n2 c2)
  have p4 := HT.row o3 (fun k hk e => by have h1 := (World.ownsRow.lt o3 k hk).1; have h2 := List.mem_singleton.1 e; omega)
  have q4 := HT.row ho (fun k hk e => by have h1 := (World.ownsRow.lt ho k hk).1; have h2 := List.mem_singleton.1 e; omega)
  have s4 : w.heap.size + 2 ≤ (u3.setCell ⟨w.heap.size, 3, none⟩ (.slice a2 n2 c2)).heap.size := Nat.le_trans s3 HT.size
  clear HT t3 r3 o3 b3 ho s3
  obtain ⟨h0, h1, h2, h3⟩ := t4.c4
  obtain ⟨x0, x1, x2, x3⟩ := r4.c4
  obtain ⟨y0, y1, y2, y3⟩ := r4.f4
  have HTE : Touch [w.heap.size + 1] (u3.setCell ⟨w.heap.size, 3, none⟩ (.slice a2 n2 c2)) (put4B (u3.setCell ⟨w.heap.size, 3, none⟩ (.slice a2 n2 c2)) (w.heap.size + 1) (.int .i64 pv) (.int .i64 pn) (.slice a1 n1 c1) (.slice a2 n2 c2)) := put4B_touch
  obtain ⟨k0, k1, k2, k3⟩ := (r4.put4 (.int .i64 pv) (.int .i64 pn) (.slice a1 n1 c1) (.slice a2 n2 c2)).c4
  have HF : Hid (ToPr w ⟨pv, pn, ps, pt⟩ (.returned (.agg #[.int .i64 pv, .int .i64 pn, .slice a1 n1 c1, .slice a2 n2 c2])) (put4B (u3.setCell ⟨w.heap.size, 3, none⟩ (.slice a2 n2 c2)) (w.heap.size + 1) (.int .i64 pv) (.int .i64 pn) (.slice a1 n1 c1) (.slice a2 n2 c2))) :=
    ⟨⟨⟨pv, pn, ps, pt⟩, .slice a1 n1 c1, .slice a2 n2 c2⟩, rfl, rfl, OwnPr.mono (B := w.heap.size + 2) ⟨HTE.row p4 (fun k hk e => by have h1 := (World.ownsRow.lt p4 k hk).1; have h2 := List.mem_singleton.1 e; omega), HTE.row q4 (fun k hk e => by have h1 := (World.ownsRow.lt q4 k hk).1; have h2 := List.mem_singleton.1 e; omega), hap⟩ (by omega), put4B_below b4 (by omega)⟩
  unfold put4B at k0 k1 k2 k3 HF
  clear HTE p4 q4 hap b4 r4 t4 s4
  go_wp2
  exact bodyPost_ret (v := .agg #[.int .i64 pv, .int .i64 pn, .slice a1 n1 c1, .slice a2 n2 c2]) (by simp [results, Tryz.results143, go_sem, k0, k1, k2, k3]) rfl HF.out
end Go.Proofs.YtilhaokiohbeeaaGreatDoor
