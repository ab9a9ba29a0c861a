/- The contracts of the laws' own comparison of rows of tables and trees. -/
import Derived.Test.YtjnhhdnfncfedaaGreatTreCp3
-- UNF TabAt
namespace Go.Proofs.YtjnhhdnfncfedaaGreat
open Go.RowKit
set_option maxHeartbeats 2000000 in
set_option maxRecDepth 100000 in
theorem eqTabs_same (va vb : Value) (us qs : List TV) (w : World) (ha : RdTs w va us) (hb : RdTs w vb qs) (hs : us.map (·.T) = qs.map (·.T)) :
    Calls Tryz.prog 34 #[va, vb] w fun e w' => e = .returned (.bool true) ∧ Below w.heap.size w w' := by
  obtain ⟨aa, ca, hva, hla, hma, -⟩ := id ha
  obtain ⟨ab, cb, hvb, hlb, hmb, -⟩ := id hb
  have hl : qs.length = us.length := by have := congrArg List.length hs; simpa using this.symm
  rw [hl] at hvb hlb
  obtain ⟨nn, hnn⟩ : ∃ nn, nn = us.length := ⟨_, rfl⟩
  rw [← hnn] at hva hla hvb hlb hl
  have HNU : Hid (nn = us.length) := hnn
  have HNQ : Hid (qs.length = nn) := hl
  have HS : Hid (∀ k, k < nn → (nthT qs k).T = (nthT us k).T) := fun k hk => by
    have h1 : k < us.length := by omega
    have h2 : k < qs.length := by omega
    have := congrArg (fun l : List Tbl => l[k]?) hs
    simp only [List.getElem?_map, List.getElem?_eq_getElem h1, List.getElem?_eq_getElem h2, Option.map_some, Option.some.injEq] at this
    rw [nthT_eq h1, nthT_eq h2, this]
  unfold maxLen at hma hmb
  subst hva
  subst hvb
  have hne : ((nn : Int) != (nn : Int)) = false := by simp
  clear hnn hl hs
  go_enter Tryz.func34, Tryz.ntmps34
  go_wp2
  go_loopw [5] (fun i wr => ∃ k : Nat, k ≤ nn ∧ i = .int .i64 k ∧ Below w.heap.size w wr) (fun i _ => nn - (intOf i).toNat)
  case atStart => exact ⟨0, Nat.zero_le _, rfl, Below.refl _ _⟩
  case round =>
    obtain ⟨k, hk, rfl, hbw⟩ := hrel
    by_cases hlt : k < nn
    · obtain ⟨b1, o1, rfl, hc1, hi1, hk1⟩ := (ha.below hbw).at k (by rw [← HNU.out]; exact hlt)
      obtain ⟨b2, o2, rfl, hc2, hi2, hk2⟩ := (hb.below hbw).at k (by rw [HNQ.out]; exact hlt)
      have hT := HS.out k hlt
      rw [hT] at hi2 hk2
      have hkc1 : k < ca := by omega
      have hkc2 : k < cb := by omega
      unfold TabAt at hc2
      rw [hT] at hc2
      clear hT
      generalize (nthT qs k).vb = vb2 at hc2 hi2
      generalize (nthT qs k).vk = vk2 at hc2 hk2
      generalize nthT us k = t at hc1 hi1 hk1 hc2 hi2 hk2
      obtain ⟨T, vb1, vk1⟩ := t
      unfold TabAt at hc1
      simp only at hc1 hi1 hk1 hc2 hi2 hk2
      go_wp2_with fail
      refine wp_region_noPanic ?_
      refine wp_region_held_drew (S := fun w' => (w'.cell? ⟨b1, o1 + k * 4, none⟩ = some (.string T.first) ∧ w'.cell? ⟨b1, o1 + k * 4 + 1, none⟩ = some (.string T.last) ∧ w'.cell? ⟨b1, o1 + k * 4 + 2, none⟩ = some vb1 ∧ w'.cell? ⟨b1, o1 + k * 4 + 3, none⟩ = some vk1) ∧ w'.cell? ⟨b2, o2 + k * 4, none⟩ = some (.string T.first) ∧ w'.cell? ⟨b2, o2 + k * 4 + 1, none⟩ = some (.string T.last) ∧ w'.cell? ⟨b2, o2 + k * 4 + 2, none⟩ = some vb2 ∧ w'.cell? ⟨b2, o2 + k * 4 + 3, none⟩ = some vk2) (by kernel_rfl) ⟨hc1, hc2⟩ (fun hH => ?_)
      refine takeH (i := 0) (d := 17) (v := ?_) rfl rfl (by kernel_rfl) (by kernel_rfl) (by kernel_rfl) (fun _ _ _ h => h) (Or.inl ⟨by kernel_rfl, ?_⟩) hH ?_
      rotate_left 1
      · intro w hS; (try dsimp only [EntAt, TabAt, Nat.zero_add] at hS); go_simp; (try with_reducible rfl)
      try simp only [Act.put, List.setIfInBounds_toArray, List.set_cons_zero, List.set_cons_succ]
      refine takeH (i := 1) (d := 18) (v := ?_) rfl rfl (by kernel_rfl) (by kernel_rfl) (by kernel_rfl) (fun _ _ _ h => h) (Or.inl ⟨by kernel_rfl, ?_⟩) hH ?_
      rotate_left 1
      · intro w hS; (try dsimp only [EntAt, TabAt, Nat.zero_add] at hS); go_simp; (try with_reducible rfl)
      try simp only [Act.put, List.setIfInBounds_toArray, List.set_cons_zero, List.set_cons_succ]
      refine takeH (i := 2) (d := 19) (v := ?_) rfl rfl (by kernel_rfl) (by kernel_rfl) (by kernel_rfl) (fun _ _ _ h => h) (Or.inl ⟨by kernel_rfl, ?_⟩) hH ?_
      rotate_left 1
      · intro w hS; (try dsimp only [EntAt, TabAt, Nat.zero_add] at hS); go_simp; (try with_reducible rfl)
      try simp only [Act.put, List.setIfInBounds_toArray, List.set_cons_zero, List.set_cons_succ]
      refine takeH (i := 3) (d := 20) (v := ?_) rfl rfl (by kernel_rfl) (by kernel_rfl) (by kernel_rfl) (fun _ _ _ h => h) (Or.inl ⟨by kernel_rfl, ?_⟩) hH ?_
      rotate_left 1
      · intro w hS; (try dsimp only [EntAt, TabAt, Nat.zero_add] at hS); go_simp; (try with_reducible rfl)
      try simp only [Act.put, List.setIfInBounds_toArray, List.set_cons_zero, List.set_cons_succ]
      refine takeH (i := 4) (d := 21) (v := ?_) rfl rfl (by kernel_rfl) (by kernel_rfl) (by kernel_rfl) (fun _ _ _ h => h) (Or.inl ⟨by kernel_rfl, ?_⟩) hH ?_
      rotate_left 1
      · intro w hS; (try dsimp only [EntAt, TabAt, Nat.zero_add] at hS); go_simp; (try with_reducible rfl)
      try simp only [Act.put, List.setIfInBounds_toArray, List.set_cons_zero, List.set_cons_succ]
      refine takeH (i := 5) (d := 22) (v := ?_) rfl rfl (by kernel_rfl) (by kernel_rfl) (by kernel_rfl) (fun _ _ _ h => h) (Or.inl ⟨by kernel_rfl, ?_⟩) hH ?_
      rotate_left 1
      · intro w hS; (try dsimp only [EntAt, TabAt, Nat.zero_add] at hS); go_simp; (try with_reducible rfl)
      try simp only [Act.put, List.setIfInBounds_toArray, List.set_cons_zero, List.set_cons_succ]
      refine takeH (i := 6) (d := 23) (v := ?_) rfl rfl (by kernel_rfl) (by kernel_rfl) (by kernel_rfl) (fun _ _ _ h => h) (Or.inl ⟨by kernel_rfl, ?_⟩) hH ?_
      rotate_left 1
      · intro w hS; (try dsimp only [EntAt, TabAt, Nat.zero_add] at hS); go_simp; (try with_reducible rfl)
      try simp only [Act.put, List.setIfInBounds_toArray, List.set_cons_zero, List.set_cons_succ]
      refine takeH (i := 7) (d := 24) (v := ?_) rfl rfl (by kernel_rfl) (by kernel_rfl) (by kernel_rfl) (fun _ _ _ h => h) (Or.inl ⟨by kernel_rfl, ?_⟩) hH ?_
      rotate_left 1
      · intro w hS; (try dsimp only [EntAt, TabAt, Nat.zero_add] at hS); go_simp; (try with_reducible rfl)
      try simp only [Act.put, List.setIfInBounds_toArray, List.set_cons_zero, List.set_cons_succ]
      refine wpAnyH_ready (rs := [8]) (by kernel_rfl) (by simp) ?_
      refine AllReadyH.cons rfl (fun K hK => ?_) AllReadyH.nil
      go_simp
      refine (eqTable_same T vb1 vk1 vb2 vk2 _ (hi1.below (Below.refl _ _).drew) (hk1.below (Below.refl _ _).drew) (hi2.below (Below.refl _ _).drew) (hk2.below (Below.refl _ _).drew)).mono ?_
      rintro e w1 ⟨rfl, hb1⟩
      have hon : ∀ a u, wr.drew.cell? a = some u → w1.cell? a = some u := fun a u h => (hb1.cell (World.block_lt_of_cell? _ _ h)).trans h
      refine hK.out _ _ ⟨⟨hon _ _ hH.1.1, hon _ _ hH.1.2.1, hon _ _ hH.1.2.2.1, hon _ _ hH.1.2.2.2⟩, hon _ _ hH.2.1, hon _ _ hH.2.2.1, hon _ _ hH.2.2.2.1, hon _ _ hH.2.2.2.2⟩ (fun hA => ?_)
      clear hK K
      try simp only [Act.put, List.setIfInBounds_toArray, List.set_cons_zero, List.set_cons_succ]
      refine takeH (i := 9) (d := 26) (v := ?_) rfl rfl (by kernel_rfl) (by kernel_rfl) (by kernel_rfl) (fun _ _ _ h => h) (Or.inl ⟨by kernel_rfl, ?_⟩) hA ?_
      rotate_left 1
      · intro w hS; (try dsimp only [EntAt, TabAt, Nat.zero_add] at hS); go_simp; (try with_reducible rfl)
      try simp only [Act.put, List.setIfInBounds_toArray, List.set_cons_zero, List.set_cons_succ]
      refine wpAnyH_done (by kernel_rfl) ?_ _
      refine NoPanic.normal ?_
      have bz := hbw.drew.trans (hb1.mono hbw.size)
      clear hH hA hc1 hc2 hon
      go_wp2
      go_roundw
      case rel => exact ⟨k + 1, by omega, by go_num, bz⟩
      case measure => simp [intOf]; omega
    · have hke : k = nn := by omega
      subst hke
      go_wp2
      go_ret
      exact ⟨rfl, hbw⟩
set_option maxHeartbeats 2000000 in
set_option maxRecDepth 100000 in
theorem eqTree_same (Y Z : TrX) (w : World) (hy : RdTr w Y) (hz : RdTr w Z) (h : Y.tre = Z.tre) :
    Calls Tryz.prog 11 #[.agg #[Y.vm, Y.vy, Y.vo, .int .i64 Y.seq, Y.vs], .agg #[Z.vm, Z.vy, Z.vo, .int .i64 Z.seq, Z.vs]] w fun e w' => e = .returned (.bool true) ∧ Below w.heap.size w w' := by
  have hmem : Y.mem = Z.mem := congrArg Tre.mem h
  have hyo : Y.ys.map (·.T) = Z.ys.map (·.T) := congrArg Tre.young h
  have hol : Y.os.map (·.T) = Z.os.map (·.T) := congrArg Tre.old h
  have hsq : Y.seq = Z.seq := congrArg Tre.seq h
  have hsn : Y.snaps = Z.snaps := congrArg Tre.snaps h
  have HM : Hid (∀ W, RdTr W Y → RdTr W Z → Calls Tryz.prog 14 #[Y.vm, Z.vm] W fun e w' => e = .returned (.bool true) ∧ Below W.heap.size W w') := fun W h1 h2 => eqEnts_same _ _ Y.mem W h1.mem (by rw [hmem]; exact h2.mem)
  have HY : Hid (∀ W, RdTr W Y → RdTr W Z → Calls Tryz.prog 34 #[Y.vy, Z.vy] W fun e w' => e = .returned (.bool true) ∧ Below W.heap.size W w') := fun W h1 h2 => eqTabs_same _ _ _ _ W h1.young h2.young hyo
  have HO : Hid (∀ W, RdTr W Y → RdTr W Z → Calls Tryz.prog 34 #[Y.vo, Z.vo] W fun e w' => e = .returned (.bool true) ∧ Below W.heap.size W w') := fun W h1 h2 => eqTabs_same _ _ _ _ W h1.old h2.old hol
  have HS : Hid (∀ W, RdTr W Y → RdTr W Z → Calls Tryz.prog 35 #[Y.vs, Z.vs] W fun e w' => e = .returned (.bool true) ∧ ∃ n, w' = W.drewN n) := fun W h1 h2 => eqInts_same _ _ Y.snaps W h1.snaps (by rw [hsn]; exact h2.snaps)
  clear hmem hyo hol hsn h
  rw [hsq]
  clear hsq
  obtain ⟨vm, vy, vo, vs, mem, ys, os, seq, snaps⟩ := Y
  obtain ⟨zm, zy, zo, zs, mem2, ys2, os2, seq2, snaps2⟩ := Z
  simp only at HM HY HO HS ⊢
  have t0 := treAt_new w ⟨vm, vy, vo, vs, mem, ys, os, seq2, snaps⟩ 33
  have b0 := below1 w (.cells #[vm, vy, vo, .int .i64 seq2, vs] 33)
  simp only at t0
  obtain ⟨W0, hW0⟩ : ∃ W0, W0 = w.alloc (.cells #[vm, vy, vo, .int .i64 seq2, vs] 33) := ⟨_, rfl⟩
  have s0 : W0.heap.size = w.heap.size + 1 := by rw [hW0]; simp
  rw [← hW0] at t0 b0
  have u1 := treAt_new W0 ⟨zm, zy, zo, zs, mem2, ys2, os2, seq2, snaps2⟩ 33
  have b1 := below1 W0 (.cells #[zm, zy, zo, .int .i64 seq2, zs] 33)
  simp only at u1
  obtain ⟨W1, hW1⟩ : ∃ W1, W1 = W0.alloc (.cells #[zm, zy, zo, .int .i64 seq2, zs] 33) := ⟨_, rfl⟩
  rw [← hW1] at u1 b1
  rw [s0] at u1
  have t1 := t0.below b1
  have bw1 : Below w.heap.size w W1 := b0.trans (b1.mono (by omega))
  have HW1 : Hid ((w.alloc (.cells #[vm, vy, vo, .int .i64 seq2, vs] 33)).alloc (.cells #[zm, zy, zo, .int .i64 seq2, zs] 33) = W1) := by unfold Hid; rw [hW1, hW0]
  obtain ⟨d0, d1, d2, d3, d4⟩ := id t1
  obtain ⟨e0, e1, e2, e3, e4⟩ := id u1
  simp only at d0 d1 d2 d3 d4 e0 e1 e2 e3 e4
  rw [hW1, hW0] at d0 d1 d2 d3 d4 e0 e1 e2 e3 e4
  have hq : (seq2 != seq2) = false := by simp
  clear t0 b0 b1 hW0 hW1 s0
  go_enter Tryz.func11, Tryz.ntmps11
  go_wp2_with fail
  rw [HW1.out]
  refine (HM.out _ (hy.below bw1) (hz.below bw1)).mono ?_
  rintro e w2 ⟨rfl, hb2⟩
  have t2 := t1.below hb2
  have u2 := u1.below hb2
  have b2 := bw1.trans (hb2.mono bw1.size)
  clear d0 d1 d2 d3 d4 e0 e1 e2 e3 e4 t1 u1 bw1 hb2 HM HW1
  obtain ⟨d0, d1, d2, d3, d4⟩ := id t2
  obtain ⟨e0, e1, e2, e3, e4⟩ := id u2
  simp only at d0 d1 d2 d3 d4 e0 e1 e2 e3 e4
  go_wp2_with fail
  refine (HY.out _ (hy.below b2) (hz.below b2)).mono ?_
  rintro e w3 ⟨rfl, hb3⟩
  have t3 := t2.below hb3
  have u3 := u2.below hb3
  have b3 := b2.trans (hb3.mono b2.size)
  clear d0 d1 d2 d3 d4 e0 e1 e2 e3 e4 t2 u2 b2 hb3 HY
  obtain ⟨d0, d1, d2, d3, d4⟩ := id t3
  obtain ⟨e0, e1, e2, e3, e4⟩ := id u3
  simp only at d0 d1 d2 d3 d4 e0 e1 e2 e3 e4
  go_wp2_with fail
  refine (HO.out _ (hy.below b3) (hz.below b3)).mono ?_
  rintro e w4 ⟨rfl, hb4⟩
  have t4 := t3.below hb4
  have u4 := u3.below hb4
  have b4 := b3.trans (hb4.mono b3.size)
  clear d0 d1 d2 d3 d4 e0 e1 e2 e3 e4 t3 u3 b3 hb4 HO
  obtain ⟨d0, d1, d2, d3, d4⟩ := id t4
  obtain ⟨e0, e1, e2, e3, e4⟩ := id u4
  simp only at d0 d1 d2 d3 d4 e0 e1 e2 e3 e4
  go_wp2_with fail
  refine (HS.out _ (hy.below b4) (hz.below b4)).mono ?_
  rintro e w5 ⟨rfl, n5, rfl⟩
  have b5 := below_drewN b4 n5
  clear d0 d1 d2 d3 d4 e0 e1 e2 e3 e4 HS
  go_wp2
  go_ret
  exact ⟨rfl, b5⟩
theorem fit_same {X Y : TrX} (h : Y.tre = X.tre) (hf : FitTr X) : FitTr Y := by
  have hmem : Y.mem = X.mem := congrArg Tre.mem h
  have hyo : Y.ys.map (·.T) = X.ys.map (·.T) := congrArg Tre.young h
  have hol : Y.os.map (·.T) = X.os.map (·.T) := congrArg Tre.old h
  refine ⟨by rw [hmem]; exact hf.mem, fun t ht => ?_, fun t ht => ?_⟩
  · have : t.T ∈ X.ys.map (·.T) := by rw [← hyo]; exact List.mem_map_of_mem ht
    obtain ⟨u, hu, e⟩ := List.mem_map.1 this
    rw [← e]; exact hf.young u hu
  · have : t.T ∈ X.os.map (·.T) := by rw [← hol]; exact List.mem_map_of_mem ht
    obtain ⟨u, hu, e⟩ := List.mem_map.1 this
    rw [← e]; exact hf.old u hu
/-- A tree's four rows, written out. -/
theorem RdTr.slices {w : World} {X : TrX} (h : RdTr w X) : ∃ (am ay ao an : Option Addr) (mn yn on nn cm cy co cn : Nat), X.vm = .slice am mn cm ∧ X.vy = .slice ay yn cy ∧ X.vo = .slice ao on co ∧ X.vs = .slice an nn cn := by
  obtain ⟨am, cm, hm, -⟩ := h.mem
  obtain ⟨ay, cy, hy, -⟩ := h.young
  obtain ⟨ao, co, ho, -⟩ := h.old
  obtain ⟨an, cn, hn, -⟩ := h.snaps
  exact ⟨am, ay, ao, an, _, _, _, _, cm, cy, co, cn, hm, hy, ho, hn⟩
end Go.Proofs.YtjnhhdnfncfedaaGreat
