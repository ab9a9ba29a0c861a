/- The contracts of the laws' own comparison of rows of tables and trees. A table that came in as an argument of a law: what is read of it. A tree that came in as an argument of a law: what is read of it. From a plain walk to one inside a round of a range over a function: no function of the program is walked here. -/
import Derived.Test.YtjnhhdnfncfedaaGreatTreCp3
import Derived.Test.YtjnhhdnfncfedaaGreatG17
import Derived.OpenShut
import Derived.SliceStrings
import Derived.ChangeArms
import Derived.Test.YtjnhhdnfncfedaaGreatG39
import Derived.Test.YtjnhhdnfncfedaaGreatG00
import Derived.RangeFuncNested
import Derived.RangeFuncBound
import Derived.RangeFuncCalls
import Derived.RangeFuncLeaves
import Derived.RangeFuncBox
import Derived.Shelf.Abstract
import Derived.Shelf.RegionOpen
import Derived.OwnWalkIn
import Derived.TacticsInMore
import Derived.LoopNIn
import Derived.LoopIn
import Derived.Deep.RegionHeld3
-- UNF TabAt
namespace Go.Proofs.YtjnhhdnfncfedaaGreat
open Go.RowKit
set_option maxHeartbeats 2000000 in
set_option maxRecDepth 100000 in
theorem eqTabs_same (va vb : Value) (us qs : List TV) (w : World) (ha : RdTs w va us) (hb : RdTs w vb qs) (hs : us.map (·.T) = qs.map (·.T)) :
    Calls Tryz.prog 34 #[va, vb] w fun e w' => e = .returned (.bool true) ∧ Below w.heap.size w w' := by
  obtain ⟨aa, ca, hva, hla, hma, -⟩ := id ha
  obtain ⟨ab, cb, hvb, hlb, hmb, -⟩ := id hb
  have hl : qs.length = us.length := by have := congrArg List.length hs; simpa using this.symm
  rw [hl] at hvb hlb
  obtain ⟨nn, hnn⟩ : ∃ nn, nn = us.length := ⟨_, rfl⟩
  rw [← hnn] at hva hla hvb hlb hl
  have HNU : Hid (nn = us.length) := hnn
  have HNQ : Hid (qs.length = nn) := hl
  have HS : Hid (∀ k, k < nn → (nthT qs k).T = (nthT us k).T) := fun k hk => by
    have h1 : k < us.length := by omega
    have h2 : k < qs.length := by omega
    have := congrArg (fun l : List Tbl => l[k]?) hs
    simp only [List.getElem?_map, List.getElem?_eq_getElem h1, List.getElem?_eq_getElem h2, Option.map_some, Option.some.injEq] at this
    rw [nthT_eq h1, nthT_eq h2, this]
  unfold maxLen at hma hmb
  subst hva
  subst hvb
  have hne : ((nn : Int) != (nn : Int)) = false := by simp
  clear hnn hl hs
  go_enter Tryz.func34, Tryz.ntmps34
  go_wp2
  go_loopw [5] (fun i wr => ∃ k : Nat, k ≤ nn ∧ i = .int .i64 k ∧ Below w.heap.size w wr) (fun i _ => nn - (intOf i).toNat)
  case atStart => exact ⟨0, Nat.zero_le _, rfl, Below.refl _ _⟩
  case round =>
    obtain ⟨k, hk, rfl, hbw⟩ := hrel
    by_cases hlt : k < nn
    · obtain ⟨b1, o1, rfl, hc1, hi1, hk1⟩ := (ha.below hbw).at k (by rw [← HNU.out]; exact hlt)
      obtain ⟨b2, o2, rfl, hc2, hi2, hk2⟩ := (hb.below hbw).at k (by rw [HNQ.out]; exact hlt)
      have hT := HS.out k hlt
      rw [hT] at hi2 hk2
      have hkc1 : k < ca := by omega
      have hkc2 : k < cb := by omega
      unfold TabAt at hc2
      rw [hT] at hc2
      clear hT
      generalize (nthT qs k).vb = vb2 at hc2 hi2
      generalize (nthT qs k).vk = vk2 at hc2 hk2
      generalize nthT us k = t at hc1 hi1 hk1 hc2 hi2 hk2
      obtain ⟨T, vb1, vk1⟩ := t
      unfold TabAt at hc1
      simp only at hc1 hi1 hk1 hc2 hi2 hk2
      go_wp2_with fail
      refine wp_region_noPanic ?_
      refine wp_region_held_drew (S := fun w' => (w'.cell? ⟨b1, o1 + k * 4, none⟩ = some (.string T.first) ∧ w'.cell? ⟨b1, o1 + k * 4 + 1, none⟩ = some (.string T.last) ∧ w'.cell? ⟨b1, o1 + k * 4 + 2, none⟩ = some vb1 ∧ w'.cell? ⟨b1, o1 + k * 4 + 3, none⟩ = some vk1) ∧ w'.cell? ⟨b2, o2 + k * 4, none⟩ = some (.string T.first) ∧ w'.cell? ⟨b2, o2 + k * 4 + 1, none⟩ = some (.string T.last) ∧ w'.cell? ⟨b2, o2 + k * 4 + 2, none⟩ = some vb2 ∧ w'.cell? ⟨b2, o2 + k * 4 + 3, none⟩ = some vk2) (by kernel_rfl) ⟨hc1, hc2⟩ (fun hH => ?_)
      refine takeH (i := 0) (d := 17) (v := ?_) rfl rfl (by kernel_rfl) (by kernel_rfl) (by kernel_rfl) (fun _ _ _ h => h) (Or.inl ⟨by kernel_rfl, ?_⟩) hH ?_
      rotate_left 1
      · intro w hS; (try dsimp only [EntAt, TabAt, Nat.zero_add] at hS); go_simp; (try with_reducible rfl)
      try simp only [Act.put, List.setIfInBounds_toArray, List.set_cons_zero, List.set_cons_succ]
      refine takeH (i := 1) (d := 18) (v := ?_) rfl rfl (by kernel_rfl) (by kernel_rfl) (by kernel_rfl) (fun _ _ _ h => h) (Or.inl ⟨by kernel_rfl, ?_⟩) hH ?_
      rotate_left 1
      · intro w hS; (try dsimp only [EntAt, TabAt, Nat.zero_add] at hS); go_simp; (try with_reducible rfl)
      try simp only [Act.put, List.setIfInBounds_toArray, List.set_cons_zero, List.set_cons_succ]
      refine takeH (i := 2) (d := 19) (v := ?_) rfl rfl (by kernel_rfl) (by kernel_rfl) (by kernel_rfl) (fun _ _ _ h => h) (Or.inl ⟨by kernel_rfl, ?_⟩) hH ?_
      rotate_left 1
      · intro w hS; (try dsimp only [EntAt, TabAt, Nat.zero_add] at hS); go_simp; (try with_reducible rfl)
      try simp only [Act.put, List.setIfInBounds_toArray, List.set_cons_zero, List.set_cons_succ]
      refine takeH (i := 3) (d := 20) (v := ?_) rfl rfl (by kernel_rfl) (by kernel_rfl) (by kernel_rfl) (fun _ _ _ h => h) (Or.inl ⟨by kernel_rfl, ?_⟩) hH ?_
      rotate_left 1
      · intro w hS; (try dsimp only [EntAt, TabAt, Nat.zero_add] at hS); go_simp; (try with_reducible rfl)
      try simp only [Act.put, List.setIfInBounds_toArray, List.set_cons_zero, List.set_cons_succ]
      refine takeH (i := 4) (d := 21) (v := ?_) rfl rfl (by kernel_rfl) (by kernel_rfl) (by kernel_rfl) (fun _ _ _ h => h) (Or.inl ⟨by kernel_rfl, ?_⟩) hH ?_
      rotate_left 1
      · intro w hS; (try dsimp only [EntAt, TabAt, Nat.zero_add] at hS); go_simp; (try with_reducible rfl)
      try simp only [Act.put, List.setIfInBounds_toArray, List.set_cons_zero, List.set_cons_succ]
      refine takeH (i := 5) (d := 22) (v := ?_) rfl rfl (by kernel_rfl) (by kernel_rfl) (by kernel_rfl) (fun _ _ _ h => h) (Or.inl ⟨by kernel_rfl, ?_⟩) hH ?_
      rotate_left 1
      · intro w hS; (try dsimp only [EntAt, TabAt, Nat.zero_add] at hS); go_simp; (try with_reducible rfl)
      try simp only [Act.put, List.setIfInBounds_toArray, List.set_cons_zero, List.set_cons_succ]
      refine takeH (i := 6) (d := 23) (v := ?_) rfl rfl (by kernel_rfl) (by kernel_rfl) (by kernel_rfl) (fun _ _ _ h => h) (Or.inl ⟨by kernel_rfl, ?_⟩) hH ?_
      rotate_left 1
      · intro w hS; (try dsimp only [EntAt, TabAt, Nat.zero_add] at hS); go_simp; (try with_reducible rfl)
      try simp only [Act.put, List.setIfInBounds_toArray, List.set_cons_zero, List.set_cons_succ]
      refine takeH (i := 7) (d := 24) (v := ?_) rfl rfl (by kernel_rfl) (by kernel_rfl) (by kernel_rfl) (fun _ _ _ h => h) (Or.inl ⟨by kernel_rfl, ?_⟩) hH ?_
      rotate_left 1
      · intro w hS; (try dsimp only [EntAt, TabAt, Nat.zero_add] at hS); go_simp; (try with_reducible rfl)
      try simp only [Act.put, List.setIfInBounds_toArray, List.set_cons_zero, List.set_cons_succ]
      refine wpAnyH_ready (rs := [8]) (by kernel_rfl) (by simp) ?_
      refine AllReadyH.cons rfl (fun K hK => ?_) AllReadyH.nil
      go_simp
      refine (eqTable_same T vb1 vk1 vb2 vk2 _ (hi1.below (Below.refl _ _).drew) (hk1.below (Below.refl _ _).drew) (hi2.below (Below.refl _ _).drew) (hk2.below (Below.refl _ _).drew)).mono ?_
      rintro e w1 ⟨rfl, hb1⟩
      have hon : ∀ a u, wr.drew.cell? a = some u → w1.cell? a = some u := fun a u h => (hb1.cell (World.block_lt_of_cell? _ _ h)).trans h
      refine hK.out _ _ ⟨⟨hon _ _ hH.1.1, hon _ _ hH.1.2.1, hon _ _ hH.1.2.2.1, hon _ _ hH.1.2.2.2⟩, hon _ _ hH.2.1, hon _ _ hH.2.2.1, hon _ _ hH.2.2.2.1, hon _ _ hH.2.2.2.2⟩ (fun hA => ?_)
      clear hK K
      try simp only [Act.put, List.setIfInBounds_toArray, List.set_cons_zero, List.set_cons_succ]
      refine takeH (i := 9) (d := 26) (v := ?_) rfl rfl (by kernel_rfl) (by kernel_rfl) (by kernel_rfl) (fun _ _ _ h => h) (Or.inl ⟨by kernel_rfl, ?_⟩) hA ?_
      rotate_left 1
      · intro w hS; (try dsimp only [EntAt, TabAt, Nat.zero_add] at hS); go_simp; (try with_reducible rfl)
      try simp only [Act.put, List.setIfInBounds_toArray, List.set_cons_zero, List.set_cons_succ]
      refine wpAnyH_done (by kernel_rfl) ?_ _
      refine NoPanic.normal ?_
      have bz := hbw.drew.trans (hb1.mono hbw.size)
      clear hH hA hc1 hc2 hon
      go_wp2
      go_roundw
      case rel => exact ⟨k + 1, by omega, by go_num, bz⟩
      case measure => simp [intOf]; omega
    · have hke : k = nn := by omega
      subst hke
      go_wp2
      go_ret
      exact ⟨rfl, hbw⟩
set_option maxHeartbeats 2000000 in
set_option maxRecDepth 100000 in
theorem eqTree_same (Y Z : TrX) (w : World) (hy : RdTr w Y) (hz : RdTr w Z) (h : Y.tre = Z.tre) :
    Calls Tryz.prog 11 #[.agg #[Y.vm, Y.vy, Y.vo, .int .i64 Y.seq, Y.vs], .agg #[Z.vm, Z.vy, Z.vo, .int .i64 Z.seq, Z.vs]] w fun e w' => e = .returned (.bool true) ∧ Below w.heap.size w w' := by
  have hmem : Y.mem = Z.mem := congrArg Tre.mem h
  have hyo : Y.ys.map (·.T) = Z.ys.map (·.T) := congrArg Tre.young h
  have hol : Y.os.map (·.T) = Z.os.map (·.T) := congrArg Tre.old h
  have hsq : Y.seq = Z.seq := congrArg Tre.seq h
  have hsn : Y.snaps = Z.snaps := congrArg Tre.snaps h
  have HM : Hid (∀ W, RdTr W Y → RdTr W Z → Calls Tryz.prog 14 #[Y.vm, Z.vm] W fun e w' => e = .returned (.bool true) ∧ Below W.heap.size W w') := fun W h1 h2 => eqEnts_same _ _ Y.mem W h1.mem (by rw [hmem]; exact h2.mem)
  have HY : Hid (∀ W, RdTr W Y → RdTr W Z → Calls Tryz.prog 34 #[Y.vy, Z.vy] W fun e w' => e = .returned (.bool true) ∧ Below W.heap.size W w') := fun W h1 h2 => eqTabs_same _ _ _ _ W h1.young h2.young hyo
  have HO : Hid (∀ W, RdTr W Y → RdTr W Z → Calls Tryz.prog 34 #[Y.vo, Z.vo] W fun e w' => e = .returned (.bool true) ∧ Below W.heap.size W w') := fun W h1 h2 => eqTabs_same _ _ _ _ W h1.old h2.old hol
  have HS : Hid (∀ W, RdTr W Y → RdTr W Z → Calls Tryz.prog 35 #[Y.vs, Z.vs] W fun e w' => e = .returned (.bool true) ∧ ∃ n, w' = W.drewN n) := fun W h1 h2 => eqInts_same _ _ Y.snaps W h1.snaps (by rw [hsn]; exact h2.snaps)
  clear hmem hyo hol hsn h
  rw [hsq]
  clear hsq
  obtain ⟨vm, vy, vo, vs, mem, ys, os, seq, snaps⟩ := Y
  obtain ⟨zm, zy, zo, zs, mem2, ys2, os2, seq2, snaps2⟩ := Z
  simp only at HM HY HO HS ⊢
  have t0 := treAt_new w ⟨vm, vy, vo, vs, mem, ys, os, seq2, snaps⟩ 33
  have b0 := below1 w (.cells #[vm, vy, vo, .int .i64 seq2, vs] 33)
  simp only at t0
  obtain ⟨W0, hW0⟩ : ∃ W0, W0 = w.alloc (.cells #[vm, vy, vo, .int .i64 seq2, vs] 33) := ⟨_, rfl⟩
  have s0 : W0.heap.size = w.heap.size + 1 := by rw [hW0]; simp
  rw [← hW0] at t0 b0
  have u1 := treAt_new W0 ⟨zm, zy, zo, zs, mem2, ys2, os2, seq2, snaps2⟩ 33
  have b1 := below1 W0 (.cells #[zm, zy, zo, .int .i64 seq2, zs] 33)
  simp only at u1
  obtain ⟨W1, hW1⟩ : ∃ W1, W1 = W0.alloc (.cells #[zm, zy, zo, .int .i64 seq2, zs] 33) := ⟨_, rfl⟩
  rw [← hW1] at u1 b1
  rw [s0] at u1
  have t1 := t0.below b1
  have bw1 : Below w.heap.size w W1 := b0.trans (b1.mono (by omega))
  have HW1 : Hid ((w.alloc (.cells #[vm, vy, vo, .int .i64 seq2, vs] 33)).alloc (.cells #[zm, zy, zo, .int .i64 seq2, zs] 33) = W1) := by unfold Hid; rw [hW1, hW0]
  obtain ⟨d0, d1, d2, d3, d4⟩ := id t1
  obtain ⟨e0, e1, e2, e3, e4⟩ := id u1
  simp only at d0 d1 d2 d3 d4 e0 e1 e2 e3 e4
  rw [hW1, hW0] at d0 d1 d2 d3 d4 e0 e1 e2 e3 e4
  have hq : (seq2 != seq2) = false := by simp
  clear t0 b0 b1 hW0 hW1 s0
  go_enter Tryz.func11, Tryz.ntmps11
  go_wp2_with fail
  rw [HW1.out]
  refine (HM.out _ (hy.below bw1) (hz.below bw1)).mono ?_
  rintro e w2 ⟨rfl, hb2⟩
  have t2 := t1.below hb2
  have u2 := u1.below hb2
  have b2 := bw1.trans (hb2.mono bw1.size)
  clear d0 d1 d2 d3 d4 e0 e1 e2 e3 e4 t1 u1 bw1 hb2 HM HW1
  obtain ⟨d0, d1, d2, d3, d4⟩ := id t2
  obtain ⟨e0, e1, e2, e3, e4⟩ := id u2
  simp only at d0 d1 d2 d3 d4 e0 e1 e2 e3 e4
  go_wp2_with fail
  refine (HY.out _ (hy.below b2) (hz.below b2)).mono ?_
  rintro e w3 ⟨rfl, hb3⟩
  have t3 := t2.below hb3
  have u3 := u2.below hb3
  have b3 := b2.trans (hb3.mono b2.size)
  clear d0 d1 d2 d3 d4 e0 e1 e2 e3 e4 t2 u2 b2 hb3 HY
  obtain ⟨d0, d1, d2, d3, d4⟩ := id t3
  obtain ⟨e0, e1, e2, e3, e4⟩ := id u3
  simp only at d0 d1 d2 d3 d4 e0 e1 e2 e3 e4
  go_wp2_with fail
  refine (HO.out _ (hy.below b3) (hz.below b3)).mono ?_
  rintro e w4 ⟨rfl, hb4⟩
  have t4 := t3.below hb4
  have u4 := u3.below hb4
  have b4 := b3.trans (hb4.mono b3.size)
  clear d0 d1 d2 d3 d4 e0 e1 e2 e3 e4 t3 u3 b3 hb4 HO
  obtain ⟨d0, d1, d2, d3, d4⟩ := id t4
  obtain ⟨e0, e1, e2, e3, e4⟩ := id u4
  simp only at d0 d1 d2 d3 d4 e0 e1 e2 e3 e4
  go_wp2_with fail
  refine (HS.out _ (hy.below b4) (hz.below b4)).mono ?_
  rintro e w5 ⟨rfl, n5, rfl⟩
  have b5 := below_drewN b4 n5
  clear d0 d1 d2 d3 d4 e0 e1 e2 e3 e4 HS
  go_wp2
  go_ret
  exact ⟨rfl, b5⟩
theorem fit_same {X Y : TrX} (h : Y.tre = X.tre) (hf : FitTr X) : FitTr Y := by
  have hmem : Y.mem = X.mem := congrArg Tre.mem h
  have hyo : Y.ys.map (·.T) = X.ys.map (·.T) := congrArg Tre.young h
  have hol : Y.os.map (·.T) = X.os.map (·.T) := congrArg Tre.old h
  refine ⟨by rw [hmem]; exact hf.mem, fun t ht => ?_, fun t ht => ?_⟩
  · have : t.T ∈ X.ys.map (·.T) := by rw [← hyo]; exact List.mem_map_of_mem ht
    obtain ⟨u, hu, e⟩ := List.mem_map.1 this
    rw [← e]; exact hf.young u hu
  · have : t.T ∈ X.os.map (·.T) := by rw [← hol]; exact List.mem_map_of_mem ht
    obtain ⟨u, hu, e⟩ := List.mem_map.1 this
    rw [← e]; exact hf.old u hu
/-- A tree's four rows, written out. -/
theorem RdTr.slices {w : World} {X : TrX} (h : RdTr w X) : ∃ (am ay ao an : Option Addr) (mn yn on nn cm cy co cn : Nat), X.vm = .slice am mn cm ∧ X.vy = .slice ay yn cy ∧ X.vo = .slice ao on co ∧ X.vs = .slice an nn cn := by
  obtain ⟨am, cm, hm, -⟩ := h.mem
  obtain ⟨ay, cy, hy, -⟩ := h.young
  obtain ⟨ao, co, ho, -⟩ := h.old
  obtain ⟨an, cn, hn, -⟩ := h.snaps
  exact ⟨am, ay, ao, an, _, _, _, _, cm, cy, co, cn, hm, hy, ho, hn⟩
end Go.Proofs.YtjnhhdnfncfedaaGreat
namespace Go.Proofs.YtjnhhdnfncfedaaGreat
open Go.RowKit Go.ChangeShapes Go.WideShapes
theorem cellsT9 : Tryz.prog.cellsOf 9 = 1 := by kernel_rfl
theorem cellsT24 : Tryz.prog.cellsOf 24 = 1 := by kernel_rfl
theorem cellsT80 : Tryz.prog.cellsOf 80 = 1 := by kernel_rfl
theorem cellsT82 : Tryz.prog.cellsOf 82 = 4 := by kernel_rfl
theorem rdI_of {w : World} {x : Addr} {len cap : Nat} {zs : List Int} (hl : len ≤ cap) (hm : cap ≤ maxLen) (hz : zs.length = cap) (hcell : ∀ i, i < zs.length → w.cell? (x.add i) = some (.int .i64 (zs.getD i 0))) :
    ∃ ns, RdI w (.slice (some x) len cap) ns := by
  refine ⟨zs.take len, some x, cap, ?_, ?_, hm, (fun h => by cases h), ?_⟩
  · congr 1; rw [List.length_take]; omega
  · rw [List.length_take]; omega
  · by_cases h0 : len = 0
    · left; subst h0; simp
    · right
      obtain ⟨b, off, spot⟩ := x
      have hc := hcell 0 (by omega)
      have hspot : spot = none := by simpa [Addr.add] using World.cell?_spot hc
      subst hspot
      refine ⟨b, off, rfl, fun i hi => ?_⟩
      have hi' : i < len := by rw [List.length_take] at hi; omega
      have h := hcell i (by omega)
      have hg : zs.getD i 0 = zs[i]'(by omega) := by simp [List.getD, List.getElem?_eq_getElem (show i < zs.length by omega)]
      rw [Addr.add_lit] at h
      rw [h, hg]
      simp only [List.getElem_take]
set_option maxRecDepth 100000 in
theorem open_table {H : Type} {enc : TypeId × Value → H} {w : World} {fuel : Nat} {cs : List Value} {x : DataW H × List MemPlace} (h : DataW.trod enc Tryz.prog w 0 (fun _ => true) true fuel 82 cs = some x) :
    ∃ (T : Tbl) (vb vk : Value), cs = [.string T.first, .string T.last, vb, vk] ∧ RdI w vb T.bits ∧ RdS w vk T.blocks ∧ T.first.size ≤ maxLen ∧ T.last.size ≤ maxLen ∧ ∀ s ∈ T.blocks, s.size ≤ maxLen := by
  obtain ⟨xs, n, _, _, hl, hxl, hf⟩ := DataW.trod_struct Tryz.underlying82 h
  rw [cellsT82] at hl
  match xs, hxl, cs, hl with
  | [y0, y1, y2, y3], _, [v0, v1, v2, v3], _ =>
    have g0 := hf 0 _ rfl
    have g1 := hf 1 _ rfl
    have g2 := hf 2 _ rfl
    have g3 := hf 3 _ rfl
    simp [cellsT9, cellsT24, cellsT80] at g0 g1 g2 g3
    obtain ⟨s0, h0, _, z0⟩ := DataW.trod_string Tryz.underlying9 g0
    obtain ⟨s1, h1, _, z1⟩ := DataW.trod_string Tryz.underlying9 g1
    simp only [List.cons.injEq, and_true] at h0 h1
    subst h0 h1
    obtain ⟨ns, hi⟩ : ∃ ns, RdI w v2 ns := by
      rcases open_ints Tryz.underlying24 Tryz.underlying2 (by kernel_rfl) g2 with ⟨hcs, _⟩ | ⟨x, l, c, zs, hcs, _, hl, hm, hz, _, hcell, _⟩
      · simp at hcs
        subst hcs
        exact ⟨[], rdI_nil w⟩
      · simp at hcs
        subst hcs
        exact rdI_of hl hm (by simpa using hz) hcell
    obtain ⟨ss, hk, hz⟩ : ∃ ss, RdS w v3 ss ∧ ∀ s ∈ ss, s.size ≤ maxLen := by
      rcases open_strings Tryz.underlying80 Tryz.underlying9 (by kernel_rfl) g3 with ⟨hcs, _⟩ | ⟨x, l, c, zs, hcs, _, hl, hm, hz, _, hcell, hwz⟩
      · simp at hcs
        subst hcs
        exact ⟨[], rdS_nil w, fun s hs => by cases hs⟩
      · simp at hcs
        subst hcs
        exact rdS_of hl hm (by simpa using hz) hcell hwz
    exact ⟨⟨s0, s1, ns, ss⟩, v2, v3, rfl, hi, hk, z0, z1, hz⟩
end Go.Proofs.YtjnhhdnfncfedaaGreat
namespace Go.Proofs.YtjnhhdnfncfedaaGreat
open Go.RowKit Go.ChangeShapes Go.WideShapes
theorem cellsR22 : Tryz.prog.cellsOf 22 = 1 := by kernel_rfl
theorem cellsR23 : Tryz.prog.cellsOf 23 = 1 := by kernel_rfl
theorem cellsR2 : Tryz.prog.cellsOf 2 = 1 := by kernel_rfl
theorem cellsR26 : Tryz.prog.cellsOf 26 = 5 := by kernel_rfl
instance : Inhabited TV := ⟨zeroTV⟩
set_option maxRecDepth 100000 in
theorem open_tabs {H : Type} {enc : TypeId × Value → H} {w : World} {v : Value} {d : DataW H} {pl : List MemPlace} (h : DataW.Trod enc Tryz.prog w 0 (fun _ => true) true 23 v d pl) (hv : ∃ a len cap, v = .slice a len cap) :
    ∃ ts, RdTs w v ts ∧ ∀ t ∈ ts, HeldT t.T := by
  obtain ⟨fuel, hf⟩ := h
  obtain ⟨a0, len0, cap0, rfl⟩ := hv
  rcases Deep.open_slice Tryz.underlying23 hf with ⟨hcs, _⟩ | ⟨a, len, cap, m, n, D, Pl, hcs, _, hl, hm, hmm, _, hx⟩
  · simp [Value.cells] at hcs
    obtain ⟨rfl, rfl, rfl⟩ := hcs
    exact ⟨[], ⟨none, 0, rfl, Nat.le_refl _, Nat.zero_le _, .inl rfl, fun t ht => by cases ht⟩, fun t ht => by cases ht⟩
  · simp [Value.cells] at hcs
    obtain ⟨rfl, rfl, rfl⟩ := hcs
    simp only [if_true] at hmm
    subst hmm
    have each : ∀ i, i < m → ∃ t : TV, w.cells? 0 (a.add (i * 4)) 4 = some (TC t) ∧ RdI w t.vb t.T.bits ∧ RdS w t.vk t.T.blocks ∧ HeldT t.T := by
      intro i hi
      obtain ⟨cs', h1, h2⟩ := hx i hi
      rw [cellsT82] at h1
      obtain ⟨T, vb, vk, hcs, hi', hk', g1, g2, g3⟩ := open_table h2
      subst hcs
      exact ⟨⟨T, vb, vk⟩, h1, hi', hk', g1, g2, g3⟩
    obtain ⟨q, hq⟩ := Deep.choose_lt each
    obtain ⟨b, off, spot⟩ := a
    refine ⟨(List.range len0).map q, ⟨some ⟨b, off, spot⟩, m, by simp, by simpa using hl, hm, ?_, fun t ht => ?_⟩, fun t ht => ?_⟩
    · by_cases h0 : len0 = 0
      · left; simp [h0]
      · right
        obtain ⟨_, _, hc0⟩ := World.cells?_some (hq 0 (by omega)).1
        have hc00 := hc0 0 (by omega)
        rw [Deep.add_add] at hc00
        have hspot : spot = none := by
          have := World.cell?_spot hc00
          cases spot with
          | none => rfl
          | some sp => simp [Addr.add] at this
        subst hspot
        refine ⟨b, off, rfl, fun i hi => ?_⟩
        have hi' : i < len0 := by simpa using hi
        obtain ⟨_, _, hc⟩ := World.cells?_some (hq i (by omega)).1
        have k0 := hc 0 (by omega)
        have k1 := hc 1 (by omega)
        have k2 := hc 2 (by omega)
        have k3 := hc 3 (by omega)
        rw [Deep.add_add, Addr.add_lit] at k0 k1 k2 k3
        rw [nthT_eq (by simpa using hi')]
        simp only [List.getElem_map, List.getElem_range]
        exact ⟨by simpa [TC] using k0, by simpa [TC, Nat.add_assoc] using k1, by simpa [TC, Nat.add_assoc] using k2, by simpa [TC, Nat.add_assoc] using k3⟩
    · simp only [List.mem_map, List.mem_range] at ht
      obtain ⟨i, hi, rfl⟩ := ht
      exact ⟨(hq i (by omega)).2.1, (hq i (by omega)).2.2.1⟩
    · simp only [List.mem_map, List.mem_range] at ht
      obtain ⟨i, hi, rfl⟩ := ht
      exact (hq i (by omega)).2.2.2
set_option maxRecDepth 100000 in
theorem open_tree {H : Type} {enc : TypeId × Value → H} {w : World} {fuel : Nat} {cs : List Value} {x : DataW H × List MemPlace} (h : DataW.trod enc Tryz.prog w 0 (fun _ => true) true fuel 26 cs = some x) :
    ∃ X : TrX, cs = [X.vm, X.vy, X.vo, .int .i64 X.seq, X.vs] ∧ RdTr w X ∧ HeldTr X := by
  obtain ⟨xs, n, _, _, hl, hxl, hf⟩ := DataW.trod_struct Tryz.underlying26 h
  rw [cellsR26] at hl
  match xs, hxl, cs, hl with
  | [y0, y1, y2, y3, y4], _, [v0, v1, v2, v3, v4], _ =>
    have g0 := hf 0 _ rfl
    have g1 := hf 1 _ rfl
    have g2 := hf 2 _ rfl
    have g3 := hf 3 _ rfl
    have g4 := hf 4 _ rfl
    simp [cellsR22, cellsR23, cellsR2, cellsT24] at g0 g1 g2 g3 g4
    have sl0 : ∃ a len cap, v0 = .slice a len cap := by
      rcases DataW.trod_slice Tryz.underlying22 g0 with ⟨e, _⟩ | ⟨a', len', cap', _, _, _, _, e, _⟩
      · simp at e; exact ⟨none, 0, 0, e⟩
      · simp at e; exact ⟨some a', len', cap', e⟩
    have sl1 : ∃ a len cap, v1 = .slice a len cap := by
      rcases DataW.trod_slice Tryz.underlying23 g1 with ⟨e, _⟩ | ⟨a', len', cap', _, _, _, _, e, _⟩
      · simp at e; exact ⟨none, 0, 0, e⟩
      · simp at e; exact ⟨some a', len', cap', e⟩
    have sl2 : ∃ a len cap, v2 = .slice a len cap := by
      rcases DataW.trod_slice Tryz.underlying23 g2 with ⟨e, _⟩ | ⟨a', len', cap', _, _, _, _, e, _⟩
      · simp at e; exact ⟨none, 0, 0, e⟩
      · simp at e; exact ⟨some a', len', cap', e⟩
    obtain ⟨i3, h3, _⟩ := DataW.trod_int Tryz.underlying2 g3
    simp only [List.cons.injEq, and_true] at h3
    subst h3
    obtain ⟨es, hr0, hh0⟩ : ∃ es, RdE w v0 es ∧ ∀ e ∈ es, Held e := by
      obtain ⟨a, len, cap, rfl⟩ := sl0
      exact open_ents (H := H) (enc := enc) (held := true) (v := .slice a len cap) ⟨n, g0⟩ ⟨a, len, cap, rfl⟩
    obtain ⟨ts, hr1, hh1⟩ : ∃ ts, RdTs w v1 ts ∧ ∀ t ∈ ts, HeldT t.T := by
      obtain ⟨a, len, cap, rfl⟩ := sl1
      exact open_tabs (H := H) (enc := enc) (v := .slice a len cap) ⟨n, g1⟩ ⟨a, len, cap, rfl⟩
    obtain ⟨us, hr2, hh2⟩ : ∃ ts, RdTs w v2 ts ∧ ∀ t ∈ ts, HeldT t.T := by
      obtain ⟨a, len, cap, rfl⟩ := sl2
      exact open_tabs (H := H) (enc := enc) (v := .slice a len cap) ⟨n, g2⟩ ⟨a, len, cap, rfl⟩
    obtain ⟨ns, hr4⟩ : ∃ ns, RdI w v4 ns := by
      rcases open_ints Tryz.underlying24 Tryz.underlying2 (by kernel_rfl) g4 with ⟨hcs, _⟩ | ⟨x, l, c, zs, hcs, _, hl, hm, hz, _, hcell, _⟩
      · simp at hcs
        subst hcs
        exact ⟨[], rdI_nil w⟩
      · simp at hcs
        subst hcs
        exact rdI_of hl hm (by simpa using hz) hcell
    exact ⟨⟨v0, v1, v2, v4, es, ts, us, i3, ns⟩, rfl, ⟨hr0, hr1, hr2, hr4⟩, hh0, hh1, hh2⟩
end Go.Proofs.YtjnhhdnfncfedaaGreat
namespace Go.Proofs.YtjnhhdnfncfedaaGreat
open Go.RowKit
/-- The fence that asks nothing, in whatever round. -/
def FW (r : Option Nat) : Fence := { Fence.wide with round := r }
theorem fw_none : FW none = Fence.wide := rfl
theorem fw_some (l : Nat) : FW (some l) = Fence.wide.inRound l := rfl
theorem callsFW {P : Program} {f : FuncId} {args : Array Value} {w : World} {R : Ending → World → Prop} {n : Nat} {r : Option Nat} (h : Calls P f args w R) : CallsIn (FW r) n P f args w R := (callsIn_wide (n := n)).2 h
theorem rowsFW {P : Program} {row : String} {args : Array Value} {w : World} {R : Value → World → Prop} {n : Nat} {r : Option Nat} (h : Rows P row args w R) : RowsIn (FW r) n P row args w R :=
  fun c cs _ => let ⟨v, w', hr, s⟩ := h c cs; ⟨v, w', hr, stepsIn_wide.2 s⟩
theorem uponFW {P : Program} {o : Oper} {a : Act} {next : Act → World → Prop} {Q : Exit → Act → World → Prop} {r : Option Nat} {n : Nat} : ∀ x : Result Next, o.upon P a next Q x → o.uponIn (FW r) n P a next Q x := by
  intro x h
  cases x with
  | ok y w' =>
    cases y with
    | value v => exact h
    | skip => exact h
    | defer d => exact h
    | enter f args => exact ⟨fun hd => by simp [FW, Fence.wide] at hd, callsFW h⟩
    | row row args => exact ⟨fun hd => by simp [FW, Fence.wide] at hd, rowsFW h⟩
    | round l f tmps assign body => exact (h : False).elim
    | _ => exact (h : False).elim
  | halt y w' => cases y <;> first | exact h | exact (h : False).elim
def noDefer (o : Oper) : Bool := match o.op with
  | .defer _ => false
  | _ => true
theorem noDefer_ne {o : Oper} (h : noDefer o = true) : ∀ c, o.op ≠ .defer c := by
  intro c e
  unfold noDefer at h
  rw [e] at h
  cases h
theorem operFW {P : Program} {o : Oper} {a : Act} {w : World} {next : Act → World → Prop} {Q : Exit → Act → World → Prop} {r : Option Nat} {n : Nat} (hd : noDefer o = true) (h : o.wp P a w next Q) : o.wpIn (FW r) n P a w next Q := by
  refine ⟨fun _ _ => trivial, ?_⟩
  have e : o.semAt (FW r).round a.eval = execOp a.eval o := by
    cases r with
    | none => rfl
    | some l => exact Oper.semAt_some l _ o (noDefer_ne hd)
  rw [e]
  exact uponFW _ h
theorem wpOpFW {P : Program} {ops : Array Oper} {Q : Exit → Act → World → Prop} {i : Nat} {K : Act → World → Prop} {a : Act} {w : World} {r : Option Nat} {n : Nat} (hd : ops.all noDefer = true) (hQ : ¬ LetsOut Q) (h : wpOp P ops Q i K a w) : wpOpIn (FW r) n P ops Q i K a w := by
  unfold wpOp at h
  unfold wpOpIn
  cases ho : ops[i]? with
  | none => rw [ho] at h; exact h
  | some o =>
    rw [ho] at h
    simp only at h ⊢
    by_cases hw : Region.wanted o (yielded ops a.tmps) = true
    · rw [if_pos hw] at h ⊢
      rcases h with h | h
      · refine operFW ?_ h
        obtain ⟨hi, he⟩ := Array.getElem?_eq_some_iff.1 ho
        rw [← he]
        exact Array.all_eq_true.1 hd i hi
      · exact absurd h.2 hQ
    · rw [if_neg hw] at h ⊢
      exact ⟨fun _ _ => trivial, h⟩
theorem wpAnyFW {P : Program} {md : Region.Mode} {ops : Array Oper} {Q : Exit → Act → World → Prop} {r : Option Nat} {n : Nat} (hd : ops.all noDefer = true) (hQ : ¬ LetsOut Q) : ∀ (fuel : Nat) (listed : Array Bool) (a : Act) (w : World), wpAny P md ops Q fuel listed a w → wpAnyIn (FW r) n P md ops Q fuel listed a w
  | 0, _, _, _, h => h
  | fuel + 1, _, _, _, h => ⟨h.1, fun i hi => wpOpIn_mono (fun a' w' h' => wpAnyFW hd hQ fuel _ a' w' h') (wpOpFW hd hQ (h.2 i hi))⟩
theorem wpOpsFW {P : Program} {ops : Array Oper} {Q : Exit → Act → World → Prop} {r : Option Nat} {n : Nat} (hd : ops.all noDefer = true) (hQ : ¬ LetsOut Q) : ∀ (l : List Nat) (a : Act) (w : World), wpOps P ops Q l a w → wpOpsIn (FW r) n P ops Q l a w
  | [], _, _, h => h
  | i :: rest, a, w, h => by
    rw [wpOps_cons] at h
    rw [wpOpsIn_cons]
    exact wpOpIn_mono (fun a' w' h' => wpOpsFW hd hQ rest a' w' h') (wpOpFW hd hQ h)
/-- A region that draws its order, in a round: by the plain walk. -/
theorem regionFW {P : Program} {id : Nat} {ops : Array Oper} {Q : Exit → Act → World → Prop} {S : World → Prop} {a : Act} {w : World} {r : Option Nat} {n : Nat} (hm : P.follows .mixedOrders = true) (hd : ops.all noDefer = true) (hQ : ¬ LetsOut Q) (hS : S w.drew)
    (h : S w.drew → wpAnyH P .any ops (NoPanic Q) S ops.size (Array.replicate ops.size false) a w.drew) : (Code.region id ops true).wpIn (FW r) n P Q a w := by
  refine wpIn_mono (wpIn_region_any (Q := NoPanic Q) hm (wpAnyFW hd ?_ _ _ _ _ (wpAny_of_held _ _ _ _ (h hS)))) NoPanic.imp
  rintro ⟨a', w', h'⟩
  exact hQ ⟨a', w', h'⟩
/-- One that does not. -/
theorem plainFW {P : Program} {id : Nat} {ops : Array Oper} {Q : Exit → Act → World → Prop} {a : Act} {w : World} {r : Option Nat} {n : Nat} (l : List Oper) (hl : ops = l.toArray) (hd : ops.all noDefer = true) (hQ : ¬ LetsOut Q)
    (h : wpList P ops Q l a w) : (Code.region id ops false).wpIn (FW r) n P Q a w := by
  refine wpIn_region (wpOpsFW hd hQ _ a w ?_)
  have e := wpOps_eq_wpList (P := P) (ops := ops) (Q := Q) l 0 (fun j => by rw [hl]; simp)
  rw [show List.range ops.size = List.range' 0 l.length by rw [hl, List.range_eq_range']; simp, e]
  exact h
end Go.Proofs.YtjnhhdnfncfedaaGreat
