/- What a small tree leaves room for. The contracts of the laws' own looks at the marks of rows of tables and of trees. A table that came in as an argument of a law: what is read of it. A tree that came in as an argument of a law: what is read of it. -/
import Derived.Test.YtjnhhdnfncfedaaGreatTreMark
import Derived.Test.YtjnhhdnfncfedaaGreatG15
import Derived.OpenShut
import Derived.SliceStrings
import Derived.ChangeArms
import Derived.Test.YtjnhhdnfncfedaaGreatG37
import Derived.Test.YtjnhhdnfncfedaaGreatG36
namespace Go.Proofs.YtjnhhdnfncfedaaGreat
open Go.RowKit
theorem cntT_two (ts : List TV) : cntT ts ≤ 2 * tsz ts ∧ (ts ≠ [] → 0 < tsz ts) := by
  induction ts with
  | nil => exact ⟨Nat.le_refl _, fun h => absurd rfl h⟩
  | cons a r ih =>
    have e1 : cntT (a :: r) = (2 + a.T.bits.length + a.T.blocks.length) + cntT r := by simp [cntT]
    have e2 : tsz (a :: r) = (1 + a.T.bits.length + a.T.blocks.length) + tsz r := by simp [tsz]
    have := ih.1
    exact ⟨by omega, fun _ => by omega⟩
theorem SmallTr.room {X : TrX} (h : SmallTr X) : Room 1 X := by
  have hs := h.sum
  obtain ⟨y1, y2⟩ := cntT_two X.ys
  obtain ⟨o1, o2⟩ := cntT_two X.os
  refine ⟨by omega, ?_, ?_, by unfold cntTr; omega⟩
  · by_cases hy : X.ys = []
    · exact .inl hy
    · have := y2 hy
      exact .inr (by omega)
  · by_cases hy : X.os = []
    · exact .inl hy
    · have := o2 hy
      exact .inr (by omega)
theorem tsz_same {us vs : List TV} (h : us.map (·.T) = vs.map (·.T)) : tsz us = tsz vs := by
  have e : ∀ ts : List TV, tsz ts = ((ts.map (·.T)).map (fun T : Tbl => 1 + T.bits.length + T.blocks.length)).sum := fun ts => by unfold tsz; rw [List.map_map]; rfl
  rw [e, e, h]
theorem small_same {X Y : TrX} (h : Y.tre = X.tre) (hf : SmallTr X) : SmallTr Y := by
  have hmem : Y.mem = X.mem := congrArg Tre.mem h
  have hyo : Y.ys.map (·.T) = X.ys.map (·.T) := congrArg Tre.young h
  have hol : Y.os.map (·.T) = X.os.map (·.T) := congrArg Tre.old h
  have hsn : Y.snaps = X.snaps := congrArg Tre.snaps h
  refine ⟨by rw [hmem, hsn, tsz_same hyo, tsz_same hol]; exact hf.sum, by rw [hmem]; exact hf.mem, fun t ht => ?_, fun t ht => ?_⟩
  · have : t.T ∈ X.ys.map (·.T) := by rw [← hyo]; exact List.mem_map_of_mem ht
    obtain ⟨u, hu, e⟩ := List.mem_map.1 this
    rw [← e]; exact hf.young u hu
  · have : t.T ∈ X.os.map (·.T) := by rw [← hol]; exact List.mem_map_of_mem ht
    obtain ⟨u, hu, e⟩ := List.mem_map.1 this
    rw [← e]; exact hf.old u hu
/-- A tree's box outside what turned. -/
theorem Touch.tre {bs : List Nat} {w w' : World} {b : Nat} {X : TrX} (h : Touch bs w w') (ht : TreAt w b X) (hn : b ∉ bs) : TreAt w' b X := ht.of_block (h.block b ht.lt hn)
end Go.Proofs.YtjnhhdnfncfedaaGreat
namespace Go.Proofs.YtjnhhdnfncfedaaGreat
open Go.RowKit
theorem tmk_at {k : Nat} {ts : List TV} {n j : Nat} (hj : j < n) : nthT (tmkTo k ts n) j = mkT (k + cntT (ts.take j)) (nthT ts j) := by
  rw [nthT_eq (by rw [tmkTo_len]; exact hj)]
  simp [tmkTo]
theorem iheld_at (v : Value) (n : Nat) (x : Int) (k : Nat) (w : World) (hx : x = (k : Int)) (hk : k + n ≤ 1073741824) (hr : RdI w v (imarks k n)) :
    Calls Tryz.prog 48 #[v, .int .i64 x] w fun e w' => e = .returned (.int .i64 ((k + n : Nat) : Int)) ∧ w' = w := by rw [hx]; exact iheld_any v n k w hk hr
theorem sheld_at (v : Value) (n : Nat) (x : Int) (k : Nat) (w : World) (hx : x = (k : Int)) (hk0 : 0 < k) (hk : k + n ≤ 4194304) (hr : RdS w v (smarks k n)) :
    Calls Tryz.prog 79 #[v, .int .i64 x] w fun e w' => e = .returned (.int .i64 ((k + n : Nat) : Int)) ∧ Below w.heap.size w w' := by rw [hx]; exact sheld_any v n k w hk0 hk hr
set_option maxHeartbeats 4000000 in
set_option maxRecDepth 100000 in
theorem heldTabs_any (v : Value) (ts : List TV) (k : Nat) (w : World) (hk0 : 0 < k) (hkn : ts = [] ∨ k + cntT ts ≤ 4194304) (hr : RdTs w v (tmkTo k ts ts.length)) :
    Calls Tryz.prog 47 #[v, .int .i64 (k : Int)] w fun e w' => e = .returned (.int .i64 ((k + cntT ts : Nat) : Int)) ∧ Below w.heap.size w w' := by
  obtain ⟨a, cap, hv, hl, hm, _⟩ := id hr
  rw [tmkTo_len] at hv hl
  unfold maxLen at hm
  subst hv
  obtain ⟨nn, hnn⟩ : ∃ nn, nn = ts.length := ⟨_, rfl⟩
  rw [← hnn] at hl hr ⊢
  have HNN : Hid (nn = ts.length) := hnn
  have HKB : Hid (ts = [] ∨ k + cntT ts ≤ 4194304) := hkn
  clear hnn hkn
  go_enter Tryz.func47, Tryz.ntmps47
  go_wp2
  go_loopw [1, 5] (fun kk i wr => ∃ (j z : Nat), j ≤ nn ∧ i = .int .i64 j ∧ kk = .int .i64 (z : Int) ∧ Hid (z = k + cntT (ts.take j)) ∧ Below w.heap.size w wr) (fun _ i _ => nn - (intOf i).toNat)
  case atStart => exact ⟨0, k, Nat.zero_le _, rfl, rfl, by unfold Hid; simp [cntT], Below.refl _ _⟩
  case round =>
    obtain ⟨j, z, hj, rfl, rfl, HZ, hb⟩ := hrel
    by_cases hlt : j < nn
    · have hjl : j < ts.length := by rw [← HNN.out]; exact hlt
      have hjc : j < cap := by omega
      have hz0 : 0 < z := by have := HZ.out; omega
      have hkn : k + cntT ts ≤ 4194304 := by
        rcases HKB.out with e | e
        · rw [e] at hjl; simp at hjl
        · exact e
      have hct := cntT_take hjl
      have hcl := cntT_le (ts := ts) (k := j + 1)
      have HZN : Hid (z + 2 + (nthT ts j).T.bits.length + (nthT ts j).T.blocks.length = k + cntT (ts.take (j + 1))) := by unfold Hid; have := HZ.out; omega
      have hzn : z + 2 + (nthT ts j).T.bits.length + (nthT ts j).T.blocks.length ≤ 4194304 := by have := HZ.out; omega
      obtain ⟨b, off, rfl, hc, hri, hrs⟩ := (hr.below hb).at j (by rw [tmkTo_len]; exact hlt)
      rw [tmk_at hlt, ← HZ.out] at hc hri hrs
      change RdI wr (nthT ts j).vb (imarks (z + 2) (nthT ts j).T.bits.length) at hri
      change RdS wr (nthT ts j).vk (smarks (z + 2 + (nthT ts j).T.bits.length) (nthT ts j).T.blocks.length) at hrs
      have hl2 := hc.lt
      obtain ⟨c0, c1, c2, c3⟩ := hc
      change _ = some (Value.string (mk z)) at c0
      change _ = some (Value.string (mk (z + 1))) at c1
      change _ = some (nthT ts j).vb at c2
      change _ = some (nthT ts j).vk at c3
      generalize (nthT ts j).vb = vb at c2 hri
      generalize (nthT ts j).vk = vk at c3 hrs
      generalize (nthT ts j).T.bits.length = bn at HZN hzn hri hrs
      generalize (nthT ts j).T.blocks.length = kn at HZN hzn hrs
      clear hct hcl hkn hjl
      go_wp2_with fail
      refine wp_region_noPanic ?_
      refine wp_region_held_drew (S := fun w' => w'.cell? ⟨b, off + j * 4, none⟩ = some (.string (mk z))) (by kernel_rfl) c0 (fun hH => ?_)
      refine tkA 0 12 hH ?_
      try simp only [Act.put, List.setIfInBounds_toArray, List.set_cons_zero, List.set_cons_succ]
      refine tkA 1 13 hH ?_
      try simp only [Act.put, List.setIfInBounds_toArray, List.set_cons_zero, List.set_cons_succ]
      refine tkA 2 14 hH ?_
      try simp only [Act.put, List.setIfInBounds_toArray, List.set_cons_zero, List.set_cons_succ]
      refine tkA 3 15 hH ?_
      try simp only [Act.put, List.setIfInBounds_toArray, List.set_cons_zero, List.set_cons_succ]
      refine tkA 4 16 hH ?_
      try simp only [Act.put, List.setIfInBounds_toArray, List.set_cons_zero, List.set_cons_succ]
      refine tkA 5 17 hH ?_
      try simp only [Act.put, List.setIfInBounds_toArray, List.set_cons_zero, List.set_cons_succ]
      refine wpAnyH_ready (rs := [6]) (by kernel_rfl) (by simp) ?_
      refine AllReadyH.cons rfl (fun K hK => ?_) AllReadyH.nil
      go_simp
      refine (markText_at _ z _ (by omega) (by omega) (by omega)).mono ?_
      rintro e w1 ⟨rfl, hb1⟩
      obtain ⟨q1, _⟩ := bcell hb1
      refine hK.out _ _ ((q1 _ _ hl2).trans c0) (fun hA => ?_)
      clear hK K
      try simp only [Act.put, List.setIfInBounds_toArray, List.set_cons_zero, List.set_cons_succ]
      refine tkA 7 19 hA ?_
      try simp only [Act.put, List.setIfInBounds_toArray, List.set_cons_zero, List.set_cons_succ]
      refine wpAnyH_done (by kernel_rfl) ?_ _
      refine NoPanic.normal ?_
      have d1 : w1.cell? ⟨b, off + j * 4 + 1, none⟩ = some (.string (mk (z + 1))) := (q1 _ _ hl2).trans c1
      have d2 : w1.cell? ⟨b, off + j * 4 + 2, none⟩ = some vb := (q1 _ _ hl2).trans c2
      have d3 : w1.cell? ⟨b, off + j * 4 + 3, none⟩ = some vk := (q1 _ _ hl2).trans c3
      have hri1 := (hri.below ((Below.refl _ wr).drew)).below hb1
      have hrs1 := (hrs.below ((Below.refl _ wr).drew)).below hb1
      have b1 := hb.drew.trans (hb1.mono hb.size)
      have hl3 := World.block_lt_of_cell? w1 _ d1
      clear hH hA hb hb1 q1 c0 c1 c2 c3 hri hrs
      go_wp2_with fail
      refine wp_region_noPanic ?_
      refine wp_region_held_drew (S := fun w' => w'.cell? ⟨b, off + j * 4 + 1, none⟩ = some (.string (mk (z + 1)))) (by kernel_rfl) d1 (fun hH => ?_)
      refine tkA 0 22 hH ?_
      try simp only [Act.put, List.setIfInBounds_toArray, List.set_cons_zero, List.set_cons_succ]
      refine tkA 1 23 hH ?_
      try simp only [Act.put, List.setIfInBounds_toArray, List.set_cons_zero, List.set_cons_succ]
      refine tkA 2 24 hH ?_
      try simp only [Act.put, List.setIfInBounds_toArray, List.set_cons_zero, List.set_cons_succ]
      refine tkA 3 25 hH ?_
      try simp only [Act.put, List.setIfInBounds_toArray, List.set_cons_zero, List.set_cons_succ]
      refine tkA 4 26 hH ?_
      try simp only [Act.put, List.setIfInBounds_toArray, List.set_cons_zero, List.set_cons_succ]
      refine tkA 5 27 hH ?_
      try simp only [Act.put, List.setIfInBounds_toArray, List.set_cons_zero, List.set_cons_succ]
      refine wpAnyH_ready (rs := [6]) (by kernel_rfl) (by simp) ?_
      refine AllReadyH.cons rfl (fun K hK => ?_) AllReadyH.nil
      go_simp
      refine (markText_at _ (z + 1) _ (by omega) (by omega) (by omega)).mono ?_
      rintro e w2 ⟨rfl, hb2⟩
      obtain ⟨q2, _⟩ := bcell hb2
      refine hK.out _ _ ((q2 _ _ hl3).trans d1) (fun hA => ?_)
      clear hK K
      try simp only [Act.put, List.setIfInBounds_toArray, List.set_cons_zero, List.set_cons_succ]
      refine tkA 7 29 hA ?_
      try simp only [Act.put, List.setIfInBounds_toArray, List.set_cons_zero, List.set_cons_succ]
      refine wpAnyH_done (by kernel_rfl) ?_ _
      refine NoPanic.normal ?_
      have e2 : w2.cell? ⟨b, off + j * 4 + 2, none⟩ = some vb := (q2 _ _ hl3).trans d2
      have e3 : w2.cell? ⟨b, off + j * 4 + 3, none⟩ = some vk := (q2 _ _ hl3).trans d3
      have hri2 := (hri1.below ((Below.refl _ w1).drew)).below hb2
      have hrs2 := (hrs1.below ((Below.refl _ w1).drew)).below hb2
      have b2 := b1.drew.trans (hb2.mono b1.size)
      clear hH hA b1 hb2 q2 d1 d2 d3 hri1 hrs1
      go_wp2_with fail
      refine (iheld_at vb bn _ (z + 2) _ (by omega) (by omega) hri2).mono ?_
      rintro e w3 ⟨rfl, rfl⟩
      obtain ⟨z2, hz2⟩ : ∃ z2, z2 = z + 2 + bn := ⟨_, rfl⟩
      rw [← hz2]
      rw [← hz2] at hrs2 HZN hzn
      have hz2p : 0 < z2 := by omega
      have hz2n : ¬ ((z2 : Int) < 0) := by omega
      clear hz2 hri2 e2
      go_wp2_with fail
      refine (sheld_at vk kn _ z2 _ rfl (by omega) (by omega) hrs2).mono ?_
      rintro e w4 ⟨rfl, hb4⟩
      obtain ⟨z3, hz3⟩ : ∃ z3, z3 = z2 + kn := ⟨_, rfl⟩
      rw [← hz3]
      rw [← hz3] at HZN
      have hz3n : ¬ ((z3 : Int) < 0) := by omega
      have b4 := b2.trans (hb4.mono b2.size)
      clear hz3 hrs2 e3 hb4 b2
      go_wp2
      go_roundw
      case rel => exact ⟨j + 1, z3, by omega, by go_num, rfl, HZN, b4⟩
      case measure => simp [intOf]; omega
    · have hje : j = nn := by omega
      have HZE : Hid (z = k + cntT ts) := by unfold Hid; rw [HZ.out, hje, HNN.out, List.take_length]
      clear hje
      go_wp2
      go_ret
      exact ⟨by rw [HZE.out]; rfl, hb⟩
set_option maxHeartbeats 2000000 in
set_option maxRecDepth 100000 in
theorem heldTree_any (Y : TrX) (k : Nat) (w : World) (hk0 : 0 < k) (hr : Room k Y) (h : RdTr w (mkTr k Y)) :
    Calls Tryz.prog 20 #[.agg #[Y.vm, Y.vy, Y.vo, .int .i64 Y.seq, Y.vs], .int .i64 (k : Int)] w fun e w' => e = .returned (.int .i64 ((k + cntTr Y : Nat) : Int)) ∧ Below w.heap.size w w' := by
  obtain ⟨r1, r2, r3, r4⟩ := hr
  obtain ⟨k1, hk1⟩ : ∃ k1, k1 = k + 4 * Y.mem.length := ⟨_, rfl⟩
  obtain ⟨k2, hk2⟩ : ∃ k2, k2 = k1 + cntT Y.ys := ⟨_, rfl⟩
  obtain ⟨k3, hk3⟩ : ∃ k3, k3 = k2 + cntT Y.os := ⟨_, rfl⟩
  obtain ⟨k4, hk4⟩ : ∃ k4, k4 = k3 + Y.snaps.length := ⟨_, rfl⟩
  have HEQ : Hid (k4 = k + cntTr Y) := by unfold Hid cntTr; omega
  have HM : Hid (∀ W, Below w.heap.size w W → Calls Tryz.prog 17 #[Y.vm, .int .i64 (k : Int)] W fun e w' => e = .returned (.int .i64 (k1 : Int)) ∧ Below W.heap.size W w') := fun W hb => by
    have := eheld_any Y.vm Y.mem.length k W hk0 r1 (h.mem.below hb); rw [← hk1] at this; exact this
  have HY : Hid (∀ W, Below w.heap.size w W → Calls Tryz.prog 47 #[Y.vy, .int .i64 (k1 : Int)] W fun e w' => e = .returned (.int .i64 (k2 : Int)) ∧ Below W.heap.size W w') := fun W hb => by
    have := heldTabs_any Y.vy Y.ys k1 W (by omega) (by rw [hk1]; exact r2) (by rw [hk1]; exact h.young.below hb); rw [← hk2] at this; exact this
  have HO : Hid (∀ W, Below w.heap.size w W → Calls Tryz.prog 47 #[Y.vo, .int .i64 (k2 : Int)] W fun e w' => e = .returned (.int .i64 (k3 : Int)) ∧ Below W.heap.size W w') := fun W hb => by
    have := heldTabs_any Y.vo Y.os k2 W (by omega) (by rw [hk2, hk1]; exact r3) (by rw [hk2, hk1]; exact h.old.below hb); rw [← hk3] at this; exact this
  have HS : Hid (∀ W, Below w.heap.size w W → Calls Tryz.prog 48 #[Y.vs, .int .i64 (k3 : Int)] W fun e w' => e = .returned (.int .i64 (k4 : Int)) ∧ w' = W) := fun W hb => by
    have := iheld_any Y.vs Y.snaps.length k3 W (by rw [← hk4]; have := HEQ.out; omega) (by rw [hk3, hk2, hk1]; exact h.snaps.below hb); rw [← hk4] at this; exact this
  have n1 : ¬ ((k1 : Int) < 0) := by omega
  have n2 : ¬ ((k2 : Int) < 0) := by omega
  have n3 : ¬ ((k3 : Int) < 0) := by omega
  have n4 : ¬ ((k4 : Int) < 0) := by omega
  clear hk1 hk2 hk3 hk4 r1 r2 r3 r4 h
  have t0 := treAt_new w Y 33
  have b0 := below1 w (.cells #[Y.vm, Y.vy, Y.vo, .int .i64 Y.seq, Y.vs] 33)
  obtain ⟨q0, q1, q2, q3, q4⟩ := id t0
  go_enter Tryz.func20, Tryz.ntmps20
  go_wp2_with fail
  refine (HM.out _ b0).mono ?_
  rintro e w1 ⟨rfl, hb1⟩
  have t1 := t0.below hb1
  have b1 := b0.trans (hb1.mono b0.size)
  clear t0 b0 hb1 q0 q1 q2 q3 q4 HM
  obtain ⟨q0, q1, q2, q3, q4⟩ := id t1
  go_wp2_with fail
  refine (HY.out _ b1).mono ?_
  rintro e w2 ⟨rfl, hb2⟩
  have t2 := t1.below hb2
  have b2 := b1.trans (hb2.mono b1.size)
  clear t1 b1 hb2 q0 q1 q2 q3 q4 HY
  obtain ⟨q0, q1, q2, q3, q4⟩ := id t2
  go_wp2_with fail
  refine (HO.out _ b2).mono ?_
  rintro e w3 ⟨rfl, hb3⟩
  have t3 := t2.below hb3
  have b3 := b2.trans (hb3.mono b2.size)
  clear t2 b2 hb3 q0 q1 q2 q3 q4 HO
  obtain ⟨q0, q1, q2, q3, q4⟩ := id t3
  go_wp2_with fail
  refine (HS.out _ b3).mono ?_
  rintro e w4 ⟨rfl, rfl⟩
  clear t3 q0 q1 q2 q3 q4 HS
  go_wp2
  go_ret
  exact ⟨by rw [HEQ.out]; rfl, b3⟩
end Go.Proofs.YtjnhhdnfncfedaaGreat
namespace Go.Proofs.YtjnhhdnfncfedaaGreat
open Go.RowKit Go.ChangeShapes Go.WideShapes
theorem cellsT9 : Tryz.prog.cellsOf 9 = 1 := by kernel_rfl
theorem cellsT24 : Tryz.prog.cellsOf 24 = 1 := by kernel_rfl
theorem cellsT80 : Tryz.prog.cellsOf 80 = 1 := by kernel_rfl
theorem cellsT82 : Tryz.prog.cellsOf 82 = 4 := by kernel_rfl
theorem rdI_of {w : World} {x : Addr} {len cap : Nat} {zs : List Int} (hl : len ≤ cap) (hm : cap ≤ maxLen) (hz : zs.length = cap) (hcell : ∀ i, i < zs.length → w.cell? (x.add i) = some (.int .i64 (zs.getD i 0))) :
    ∃ ns, RdI w (.slice (some x) len cap) ns := by
  refine ⟨zs.take len, some x, cap, ?_, ?_, hm, (fun h => by cases h), ?_⟩
  · congr 1; rw [List.length_take]; omega
  · rw [List.length_take]; omega
  · by_cases h0 : len = 0
    · left; subst h0; simp
    · right
      obtain ⟨b, off, spot⟩ := x
      have hc := hcell 0 (by omega)
      have hspot : spot = none := by simpa [Addr.add] using World.cell?_spot hc
      subst hspot
      refine ⟨b, off, rfl, fun i hi => ?_⟩
      have hi' : i < len := by rw [List.length_take] at hi; omega
      have h := hcell i (by omega)
      have hg : zs.getD i 0 = zs[i]'(by omega) := by simp [List.getD, List.getElem?_eq_getElem (show i < zs.length by omega)]
      rw [Addr.add_lit] at h
      rw [h, hg]
      simp only [List.getElem_take]
set_option maxRecDepth 100000 in
theorem open_table {H : Type} {enc : TypeId × Value → H} {w : World} {fuel : Nat} {cs : List Value} {x : DataW H × List MemPlace} (h : DataW.trod enc Tryz.prog w 0 (fun _ => true) true fuel 82 cs = some x) :
    ∃ (T : Tbl) (vb vk : Value), cs = [.string T.first, .string T.last, vb, vk] ∧ RdI w vb T.bits ∧ RdS w vk T.blocks ∧ T.first.size ≤ maxLen ∧ T.last.size ≤ maxLen ∧ ∀ s ∈ T.blocks, s.size ≤ maxLen := by
  obtain ⟨xs, n, _, _, hl, hxl, hf⟩ := DataW.trod_struct Tryz.underlying82 h
  rw [cellsT82] at hl
  match xs, hxl, cs, hl with
  | [y0, y1, y2, y3], _, [v0, v1, v2, v3], _ =>
    have g0 := hf 0 _ rfl
    have g1 := hf 1 _ rfl
    have g2 := hf 2 _ rfl
    have g3 := hf 3 _ rfl
    simp [cellsT9, cellsT24, cellsT80] at g0 g1 g2 g3
    obtain ⟨s0, h0, _, z0⟩ := DataW.trod_string Tryz.underlying9 g0
    obtain ⟨s1, h1, _, z1⟩ := DataW.trod_string Tryz.underlying9 g1
    simp only [List.cons.injEq, and_true] at h0 h1
    subst h0 h1
    obtain ⟨ns, hi⟩ : ∃ ns, RdI w v2 ns := by
      rcases open_ints Tryz.underlying24 Tryz.underlying2 (by kernel_rfl) g2 with ⟨hcs, _⟩ | ⟨x, l, c, zs, hcs, _, hl, hm, hz, _, hcell, _⟩
      · simp at hcs
        subst hcs
        exact ⟨[], rdI_nil w⟩
      · simp at hcs
        subst hcs
        exact rdI_of hl hm (by simpa using hz) hcell
    obtain ⟨ss, hk, hz⟩ : ∃ ss, RdS w v3 ss ∧ ∀ s ∈ ss, s.size ≤ maxLen := by
      rcases open_strings Tryz.underlying80 Tryz.underlying9 (by kernel_rfl) g3 with ⟨hcs, _⟩ | ⟨x, l, c, zs, hcs, _, hl, hm, hz, _, hcell, hwz⟩
      · simp at hcs
        subst hcs
        exact ⟨[], rdS_nil w, fun s hs => by cases hs⟩
      · simp at hcs
        subst hcs
        exact rdS_of hl hm (by simpa using hz) hcell hwz
    exact ⟨⟨s0, s1, ns, ss⟩, v2, v3, rfl, hi, hk, z0, z1, hz⟩
end Go.Proofs.YtjnhhdnfncfedaaGreat
namespace Go.Proofs.YtjnhhdnfncfedaaGreat
open Go.RowKit Go.ChangeShapes Go.WideShapes
theorem cellsR22 : Tryz.prog.cellsOf 22 = 1 := by kernel_rfl
theorem cellsR23 : Tryz.prog.cellsOf 23 = 1 := by kernel_rfl
theorem cellsR2 : Tryz.prog.cellsOf 2 = 1 := by kernel_rfl
theorem cellsR26 : Tryz.prog.cellsOf 26 = 5 := by kernel_rfl
instance : Inhabited TV := ⟨zeroTV⟩
set_option maxRecDepth 100000 in
theorem open_tabs {H : Type} {enc : TypeId × Value → H} {w : World} {v : Value} {d : DataW H} {pl : List MemPlace} (h : DataW.Trod enc Tryz.prog w 0 (fun _ => true) true 23 v d pl) (hv : ∃ a len cap, v = .slice a len cap) :
    ∃ ts, RdTs w v ts ∧ ∀ t ∈ ts, HeldT t.T := by
  obtain ⟨fuel, hf⟩ := h
  obtain ⟨a0, len0, cap0, rfl⟩ := hv
  rcases Deep.open_slice Tryz.underlying23 hf with ⟨hcs, _⟩ | ⟨a, len, cap, m, n, D, Pl, hcs, _, hl, hm, hmm, _, hx⟩
  · simp [Value.cells] at hcs
    obtain ⟨rfl, rfl, rfl⟩ := hcs
    exact ⟨[], ⟨none, 0, rfl, Nat.le_refl _, Nat.zero_le _, .inl rfl, fun t ht => by cases ht⟩, fun t ht => by cases ht⟩
  · simp [Value.cells] at hcs
    obtain ⟨rfl, rfl, rfl⟩ := hcs
    simp only [if_true] at hmm
    subst hmm
    have each : ∀ i, i < m → ∃ t : TV, w.cells? 0 (a.add (i * 4)) 4 = some (TC t) ∧ RdI w t.vb t.T.bits ∧ RdS w t.vk t.T.blocks ∧ HeldT t.T := by
      intro i hi
      obtain ⟨cs', h1, h2⟩ := hx i hi
      rw [cellsT82] at h1
      obtain ⟨T, vb, vk, hcs, hi', hk', g1, g2, g3⟩ := open_table h2
      subst hcs
      exact ⟨⟨T, vb, vk⟩, h1, hi', hk', g1, g2, g3⟩
    obtain ⟨q, hq⟩ := Deep.choose_lt each
    obtain ⟨b, off, spot⟩ := a
    refine ⟨(List.range len0).map q, ⟨some ⟨b, off, spot⟩, m, by simp, by simpa using hl, hm, ?_, fun t ht => ?_⟩, fun t ht => ?_⟩
    · by_cases h0 : len0 = 0
      · left; simp [h0]
      · right
        obtain ⟨_, _, hc0⟩ := World.cells?_some (hq 0 (by omega)).1
        have hc00 := hc0 0 (by omega)
        rw [Deep.add_add] at hc00
        have hspot : spot = none := by
          have := World.cell?_spot hc00
          cases spot with
          | none => rfl
          | some sp => simp [Addr.add] at this
        subst hspot
        refine ⟨b, off, rfl, fun i hi => ?_⟩
        have hi' : i < len0 := by simpa using hi
        obtain ⟨_, _, hc⟩ := World.cells?_some (hq i (by omega)).1
        have k0 := hc 0 (by omega)
        have k1 := hc 1 (by omega)
        have k2 := hc 2 (by omega)
        have k3 := hc 3 (by omega)
        rw [Deep.add_add, Addr.add_lit] at k0 k1 k2 k3
        rw [nthT_eq (by simpa using hi')]
        simp only [List.getElem_map, List.getElem_range]
        exact ⟨by simpa [TC] using k0, by simpa [TC, Nat.add_assoc] using k1, by simpa [TC, Nat.add_assoc] using k2, by simpa [TC, Nat.add_assoc] using k3⟩
    · simp only [List.mem_map, List.mem_range] at ht
      obtain ⟨i, hi, rfl⟩ := ht
      exact ⟨(hq i (by omega)).2.1, (hq i (by omega)).2.2.1⟩
    · simp only [List.mem_map, List.mem_range] at ht
      obtain ⟨i, hi, rfl⟩ := ht
      exact (hq i (by omega)).2.2.2
set_option maxRecDepth 100000 in
theorem open_tree {H : Type} {enc : TypeId × Value → H} {w : World} {fuel : Nat} {cs : List Value} {x : DataW H × List MemPlace} (h : DataW.trod enc Tryz.prog w 0 (fun _ => true) true fuel 26 cs = some x) :
    ∃ X : TrX, cs = [X.vm, X.vy, X.vo, .int .i64 X.seq, X.vs] ∧ RdTr w X ∧ HeldTr X := by
  obtain ⟨xs, n, _, _, hl, hxl, hf⟩ := DataW.trod_struct Tryz.underlying26 h
  rw [cellsR26] at hl
  match xs, hxl, cs, hl with
  | [y0, y1, y2, y3, y4], _, [v0, v1, v2, v3, v4], _ =>
    have g0 := hf 0 _ rfl
    have g1 := hf 1 _ rfl
    have g2 := hf 2 _ rfl
    have g3 := hf 3 _ rfl
    have g4 := hf 4 _ rfl
    simp [cellsR22, cellsR23, cellsR2, cellsT24] at g0 g1 g2 g3 g4
    have sl0 : ∃ a len cap, v0 = .slice a len cap := by
      rcases DataW.trod_slice Tryz.underlying22 g0 with ⟨e, _⟩ | ⟨a', len', cap', _, _, _, _, e, _⟩
      · simp at e; exact ⟨none, 0, 0, e⟩
      · simp at e; exact ⟨some a', len', cap', e⟩
    have sl1 : ∃ a len cap, v1 = .slice a len cap := by
      rcases DataW.trod_slice Tryz.underlying23 g1 with ⟨e, _⟩ | ⟨a', len', cap', _, _, _, _, e, _⟩
      · simp at e; exact ⟨none, 0, 0, e⟩
      · simp at e; exact ⟨some a', len', cap', e⟩
    have sl2 : ∃ a len cap, v2 = .slice a len cap := by
      rcases DataW.trod_slice Tryz.underlying23 g2 with ⟨e, _⟩ | ⟨a', len', cap', _, _, _, _, e, _⟩
      · simp at e; exact ⟨none, 0, 0, e⟩
      · simp at e; exact ⟨some a', len', cap', e⟩
    obtain ⟨i3, h3, _⟩ := DataW.trod_int Tryz.underlying2 g3
    simp only [List.cons.injEq, and_true] at h3
    subst h3
    obtain ⟨es, hr0, hh0⟩ : ∃ es, RdE w v0 es ∧ ∀ e ∈ es, Held e := by
      obtain ⟨a, len, cap, rfl⟩ := sl0
      exact open_ents (H := H) (enc := enc) (held := true) (v := .slice a len cap) ⟨n, g0⟩ ⟨a, len, cap, rfl⟩
    obtain ⟨ts, hr1, hh1⟩ : ∃ ts, RdTs w v1 ts ∧ ∀ t ∈ ts, HeldT t.T := by
      obtain ⟨a, len, cap, rfl⟩ := sl1
      exact open_tabs (H := H) (enc := enc) (v := .slice a len cap) ⟨n, g1⟩ ⟨a, len, cap, rfl⟩
    obtain ⟨us, hr2, hh2⟩ : ∃ ts, RdTs w v2 ts ∧ ∀ t ∈ ts, HeldT t.T := by
      obtain ⟨a, len, cap, rfl⟩ := sl2
      exact open_tabs (H := H) (enc := enc) (v := .slice a len cap) ⟨n, g2⟩ ⟨a, len, cap, rfl⟩
    obtain ⟨ns, hr4⟩ : ∃ ns, RdI w v4 ns := by
      rcases open_ints Tryz.underlying24 Tryz.underlying2 (by kernel_rfl) g4 with ⟨hcs, _⟩ | ⟨x, l, c, zs, hcs, _, hl, hm, hz, _, hcell, _⟩
      · simp at hcs
        subst hcs
        exact ⟨[], rdI_nil w⟩
      · simp at hcs
        subst hcs
        exact rdI_of hl hm (by simpa using hz) hcell
    exact ⟨⟨v0, v1, v2, v4, es, ts, us, i3, ns⟩, rfl, ⟨hr0, hr1, hr2, hr4⟩, hh0, hh1, hh2⟩
end Go.Proofs.YtjnhhdnfncfedaaGreat
