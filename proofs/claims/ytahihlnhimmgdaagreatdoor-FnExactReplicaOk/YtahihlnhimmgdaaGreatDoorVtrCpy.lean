/- The contracts of the program's copies: of lists, of a Proof, of a Block. -/
import Derived.Test.YtahihlnhimmgdaaGreatDoorG12
import Derived.Test.YtahihlnhimmgdaaGreatDoorG07
-- UNF Gen
namespace Go.Proofs.YtahihlnhimmgdaaGreatDoor
open Go.RowKit
theorem ownTx_none (w : World) : OwnS (w.alloc (.cells #[] 9)) w.heap.size (.slice (some ⟨w.heap.size, 0, none⟩) 0 0) [] := World.ownsRow_lit w #[] 0 (Nat.le_refl _) (Nat.zero_le _) rfl
theorem ownIn_none (w : World) : OwnI (w.alloc (.cells #[] 2)) w.heap.size (.slice (some ⟨w.heap.size, 0, none⟩) 0 0) [] := World.ownsRow_lit w #[] 0 (Nat.le_refl _) (Nat.zero_le _) rfl
set_option maxHeartbeats 1000000 in
set_option maxRecDepth 100000 in
theorem copyI_any (v : Value) (bs : List Int) (w : World) (hr : RdI w v bs) (hl : bs.length ≤ 1000000000) :
    Calls Tryz.prog 125 #[v] w fun e w' => ∃ u, e = .returned u ∧ OwnI w' w.heap.size u bs ∧ Below w.heap.size w w' := by
  have hoi := ownIn_none w
  have b0 := below1 w (.cells #[] 2)
  have hr0 := hr.below b0
  go_enter Tryz.func125, Tryz.ntmps125
  go_wp2_with (at_builtin; (refine wpList_append_ints rfl _ _ rfl w.heap.size _ _ [] bs rfl rfl hoi hr0 (by simp; omega) (by simp) ?_))
  intro u w1 ho hg
  have b1 : Below w.heap.size w w1 := b0.grown hg (by simp) (fun k hk => by have : w.heap.size = k := Option.some.inj hk; omega)
  clear hoi b0 hr0 hg
  go_wp2
  go_ret
  exact ⟨u, rfl, ho, b1⟩
set_option maxHeartbeats 1000000 in
set_option maxRecDepth 100000 in
theorem copyT_any (v : Value) (bs : List ByteArray) (w : World) (hr : RdS w v bs) (hn : NilOk v) (hl : bs.length ≤ 1000000000) :
    Calls Tryz.prog 186 #[v] w fun e w' => ∃ u, e = .returned u ∧ OwnS w' w.heap.size u bs ∧ Below w.heap.size w w' := by
  have hoi := ownTx_none w
  have b0 := below1 w (.cells #[] 9)
  have hr0 := hr.below b0
  go_enter Tryz.func186, Tryz.ntmps186
  go_wp2_with (at_builtin; (refine wpList_append_txts rfl _ _ rfl w.heap.size _ _ [] bs rfl rfl hoi hr0 hn (by simp; omega) (by simp) ?_))
  intro u w1 ho hg
  have b1 : Below w.heap.size w w1 := b0.grown hg (by simp) (fun k hk => by have : w.heap.size = k := Option.some.inj hk; omega)
  clear hoi b0 hr0 hg
  go_wp2
  go_ret
  exact ⟨u, rfl, ho, b1⟩
set_option maxHeartbeats 1000000 in
set_option maxRecDepth 100000 in
theorem copyV_any (v : Value) (bs : List Vot) (w : World) (hr : RdVo w v bs) (hl : bs.length ≤ 1000000000) :
    Calls Tryz.prog 126 #[v] w fun e w' => ∃ u, e = .returned u ∧ OwnVo w' w.heap.size u bs ∧ Below w.heap.size w w' := by
  have hoi := ownVo_none w
  have b0 := below1 w (.cells #[] 36)
  have hr0 := hr.below b0
  go_enter Tryz.func126, Tryz.ntmps126
  go_wp2_with (at_builtin; (refine wpList_append_votes rfl _ _ rfl w.heap.size _ _ [] bs rfl rfl hoi hr0 (by simp; omega) (by simp) ?_))
  intro u w1 ho hg
  have b1 : Below w.heap.size w w1 := b0.grown hg (by simp) (fun k hk => by have : w.heap.size = k := Option.some.inj hk; omega)
  clear hoi b0 hr0 hg
  go_wp2
  go_ret
  exact ⟨u, rfl, ho, b1⟩
set_option maxHeartbeats 1000000 in
set_option maxRecDepth 100000 in
theorem copyN_any (v : Value) (bs : List Nws) (w : World) (hr : RdNw w v bs) (hl : bs.length ≤ 1000000000) :
    Calls Tryz.prog 127 #[v] w fun e w' => ∃ u, e = .returned u ∧ OwnNw w' w.heap.size u bs ∧ Below w.heap.size w w' := by
  have hoi := ownNw_none w
  have b0 := below1 w (.cells #[] 106)
  have hr0 := hr.below b0
  go_enter Tryz.func127, Tryz.ntmps127
  go_wp2_with (at_builtin; (refine wpList_append_news rfl _ _ rfl w.heap.size _ _ [] bs rfl rfl hoi hr0 (by simp; omega) (by simp) ?_))
  intro u w1 ho hg
  have b1 : Below w.heap.size w w1 := b0.grown hg (by simp) (fun k hk => by have : w.heap.size = k := Option.some.inj hk; omega)
  clear hoi b0 hr0 hg
  go_wp2
  go_ret
  exact ⟨u, rfl, ho, b1⟩
set_option maxHeartbeats 4000000 in
set_option maxRecDepth 100000 in
theorem proofCopied_any (X : PrX) (w : World) (hr : RdPr w X) (hl1 : X.p.sv.length ≤ 1000000000) (hl2 : X.p.tg.length ≤ 1000000000) :
    Calls Tryz.prog 73 #[.agg #[.int .i64 X.p.vw, .int .i64 X.p.nm, X.vs, X.vt]] w fun e w' => ∃ Y : PrX, e = .returned (.agg #[.int .i64 Y.p.vw, .int .i64 Y.p.nm, Y.vs, Y.vt]) ∧ Y.p = X.p ∧ OwnPr w' w.heap.size Y ∧ Below w.heap.size w w' := by
  obtain ⟨⟨pv, pn, ps, pt⟩, pvs, pvt⟩ := X
  obtain ⟨hrs, hrt⟩ := hr
  simp only at hrs hrt hl1 hl2 ⊢
  have HI1 : Hid (∀ W, RdI W pvs ps → Calls Tryz.prog 125 #[pvs] W fun e w' => ∃ u, e = .returned u ∧ OwnI w' W.heap.size u ps ∧ Below W.heap.size W w') := fun W h => copyI_any _ _ W h hl1
  have HI2 : Hid (∀ W, RdI W pvt pt → Calls Tryz.prog 125 #[pvt] W fun e w' => ∃ u, e = .returned u ∧ OwnI w' W.heap.size u pt ∧ Below W.heap.size W w') := fun W h => copyI_any _ _ W h hl2
  clear hl1 hl2
  have t2 := (bx_new w 26 #[.int .i64 pv, .int .i64 pn, pvs, pvt]).below (below1 _ (.cells #[.int .i64 0, .int .i64 0, .slice none 0 0, .slice none 0 0] 26))
  have r2 := bx_new (w.alloc (.cells #[.int .i64 pv, .int .i64 pn, pvs, pvt] 26)) 26 #[.int .i64 0, .int .i64 0, .slice none 0 0, .slice none 0 0]
  have b2 := below2 w (.cells #[.int .i64 pv, .int .i64 pn, pvs, pvt] 26) (.cells #[.int .i64 0, .int .i64 0, .slice none 0 0, .slice none 0 0] 26)
  have s2 : w.heap.size + 2 ≤ ((w.alloc (.cells #[.int .i64 pv, .int .i64 pn, pvs, pvt] 26)).alloc (.cells #[.int .i64 0, .int .i64 0, .slice none 0 0, .slice none 0 0] 26)).heap.size := by simp
  rw [show (w.alloc (.cells #[.int .i64 pv, .int .i64 pn, pvs, pvt] 26)).heap.size = w.heap.size + 1 by simp] at r2
  go_enter Tryz.func73, Tryz.ntmps73
  go_wp2_with fail
  generalize (w.alloc (.cells #[.int .i64 pv, .int .i64 pn, pvs, pvt] 26)).alloc (.cells #[.int .i64 0, .int .i64 0, .slice none 0 0, .slice none 0 0] 26) = W2 at t2 r2 b2 s2 ⊢
  refine wp_region_noPanic ?_
  refine wp_region_held_drew (S := fun w' => w'.cell? ⟨w.heap.size, 0, none⟩ = some (.int .i64 pv) ∧ w'.cell? ⟨w.heap.size, 1, none⟩ = some (.int .i64 pn) ∧ w'.cell? ⟨w.heap.size, 2, none⟩ = some (pvs) ∧ w'.cell? ⟨w.heap.size, 3, none⟩ = some (pvt)) (by kernel_rfl) (t2.below (Below.refl _ _).drew).c4 (fun h0 => ?_)
  refine tkG 0 3 h0 ?_
  try simp only [Act.put, List.setIfInBounds_toArray, List.set_cons_zero, List.set_cons_succ]
  refine tkG 1 4 h0 ?_
  try simp only [Act.put, List.setIfInBounds_toArray, List.set_cons_zero, List.set_cons_succ]
  refine tkG 2 5 h0 ?_
  try simp only [Act.put, List.setIfInBounds_toArray, List.set_cons_zero, List.set_cons_succ]
  refine tkG 3 6 h0 ?_
  try simp only [Act.put, List.setIfInBounds_toArray, List.set_cons_zero, List.set_cons_succ]
  refine tkG 4 7 h0 ?_
  try simp only [Act.put, List.setIfInBounds_toArray, List.set_cons_zero, List.set_cons_succ]
  refine tkG 5 8 h0 ?_
  try simp only [Act.put, List.setIfInBounds_toArray, List.set_cons_zero, List.set_cons_succ]
  refine tkG 7 10 h0 ?_
  try simp only [Act.put, List.setIfInBounds_toArray, List.set_cons_zero, List.set_cons_succ]
  refine tkG 8 11 h0 ?_
  try simp only [Act.put, List.setIfInBounds_toArray, List.set_cons_zero, List.set_cons_succ]
  refine wpAnyH_ready (rs := [6]) (by kernel_rfl) (by simp) ?_
  refine AllReadyH.cons rfl (fun K hK => ?_) AllReadyH.nil
  go_simp
  refine (HI1.out _ (hrs.below b2.drew)).mono ?_
  rintro e w3 ⟨u1, rfl, ho1, hb3⟩
  have b3 := b2.drew.trans (hb3.mono b2.drew.size)
  have t3 := (t2.below (Below.refl _ _).drew).below hb3
  have r3 := (r2.below (Below.refl _ _).drew).below hb3
  have e1 : ∃ a n c, u1 = .slice a n c := by obtain ⟨a, c, h⟩ := ownSlX ho1; exact ⟨a, _, c, h⟩
  obtain ⟨x1, y1, z1, e1⟩ := e1
  subst e1
  refine hK.out _ _ (t3.c4) (fun h1 => ?_)
  clear hK K
  try simp only [Act.put, List.setIfInBounds_toArray, List.set_cons_zero, List.set_cons_succ]
  clear h0
  refine wpAnyH_ready (rs := [9]) (by kernel_rfl) (by simp) ?_
  refine AllReadyH.cons rfl (fun K hK => ?_) AllReadyH.nil
  go_simp
  refine (HI2.out _ (hrt.below b3)).mono ?_
  rintro e w4 ⟨u2, rfl, ho2, hb4⟩
  have b4 := b3.trans (hb4.mono b3.size)
  have t4 := t3.below hb4
  have r4 := r3.below hb4
  have ho1' := ho1.below hb4
  have hs3 : w.heap.size + 2 ≤ w3.heap.size := Nat.le_trans s2 hb3.size
  have hap : ∀ q, (Value.slice x1 y1 z1).ownBlock = some q → u2.ownBlock = some q → False := fun q h1 h2 => by have := (World.ownsRow.lt ho1 q h1).2; have := (World.ownsRow.lt ho2 q h2).1; omega
  have e2 : ∃ a n c, u2 = .slice a n c := by obtain ⟨a, c, h⟩ := ownSlX ho2; exact ⟨a, _, c, h⟩
  obtain ⟨x2, y2, z2, e2⟩ := e2
  subst e2
  refine hK.out _ _ (t4.c4) (fun h2 => ?_)
  clear hK K
  try simp only [Act.put, List.setIfInBounds_toArray, List.set_cons_zero, List.set_cons_succ]
  clear h1
  refine tkG 10 13 h2 ?_
  try simp only [Act.put, List.setIfInBounds_toArray, List.set_cons_zero, List.set_cons_succ]
  refine wpAnyH_ready (rs := [11]) (by kernel_rfl) (by simp) ?_
  refine AllReadyH.cons rfl (fun K hK => ?_) AllReadyH.nil
  obtain ⟨f0, f1, f2, f3⟩ := r4.f4
  obtain ⟨g0, g1, g2, g3⟩ := r4.c4
  go_simp
  have HT : Touch [w.heap.size + 1] w4 (put4B w4 (w.heap.size + 1) (.int .i64 pv) (.int .i64 pn) (.slice x1 y1 z1) (.slice x2 y2 z2)) := put4B_touch
  have t5 : Bx (put4B w4 (w.heap.size + 1) (.int .i64 pv) (.int .i64 pn) (.slice x1 y1 z1) (.slice x2 y2 z2)) w.heap.size 26 #[.int .i64 pv, .int .i64 pn, pvs, pvt] := t4.of_block (HT.block _ t4.lt (by simp))
  have b5 := put4B_below (u0 := .int .i64 pv) (u1 := .int .i64 pn) (u2 := .slice x1 y1 z1) (u3 := .slice x2 y2 z2) b4 (show w.heap.size ≤ w.heap.size + 1 by omega)
  have r5 := r4.put4 (.int .i64 pv) (.int .i64 pn) (.slice x1 y1 z1) (.slice x2 y2 z2)
  have o1 := HT.row (ho1'.mono (show w.heap.size + 2 ≤ W2.drew.heap.size by exact s2)) (fun k hk e => by have h1 := (World.ownsRow.lt (ho1'.mono (show w.heap.size + 2 ≤ W2.drew.heap.size by exact s2)) k hk).1; have h2 := List.mem_singleton.1 e; omega)
  have o2 := HT.row (ho2.mono hs3) (fun k hk e => by have h1 := (World.ownsRow.lt (ho2.mono hs3) k hk).1; have h2 := List.mem_singleton.1 e; omega)
  clear g0 g1 g2 g3 f0 f1 f2 f3
  refine hK.out _ _ (t5.c4) (fun h3 => ?_)
  clear hK K
  try simp only [Act.put, List.setIfInBounds_toArray, List.set_cons_zero, List.set_cons_succ]
  clear h2
  refine wpAnyH_done (by kernel_rfl) ?_ _
  refine NoPanic.normal ?_
  obtain ⟨k0, k1, k2, k3⟩ := r5.c4
  have HF : Hid (∃ Y : PrX, Ending.returned (.agg #[.int .i64 pv, .int .i64 pn, .slice x1 y1 z1, .slice x2 y2 z2]) = .returned (.agg #[.int .i64 Y.p.vw, .int .i64 Y.p.nm, Y.vs, Y.vt]) ∧ Y.p = ⟨pv, pn, ps, pt⟩ ∧ OwnPr (put4B w4 (w.heap.size + 1) (.int .i64 pv) (.int .i64 pn) (.slice x1 y1 z1) (.slice x2 y2 z2)) w.heap.size Y ∧ Below w.heap.size w (put4B w4 (w.heap.size + 1) (.int .i64 pv) (.int .i64 pn) (.slice x1 y1 z1) (.slice x2 y2 z2))) :=
    ⟨⟨⟨pv, pn, ps, pt⟩, .slice x1 y1 z1, .slice x2 y2 z2⟩, rfl, rfl, OwnPr.mono (B := w.heap.size + 2) ⟨o1, o2, hap⟩ (by omega), b5⟩
  unfold put4B at k0 k1 k2 k3 HF
  clear o1 o2 b5 r5 t5 HT hap t4 r4 b4 t3 r3 b3 ho1 ho2 ho1' hb3 hb4 t2 r2 b2 s2 hs3
  go_wp2
  exact bodyPost_ret (v := .agg #[.int .i64 pv, .int .i64 pn, .slice x1 y1 z1, .slice x2 y2 z2]) (by simp [results, Tryz.results73, go_sem, k0, k1, k2, k3]) rfl HF.out
end Go.Proofs.YtahihlnhimmgdaaGreatDoor
