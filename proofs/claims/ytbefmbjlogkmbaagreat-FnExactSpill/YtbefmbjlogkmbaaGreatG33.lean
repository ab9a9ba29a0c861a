/- The contracts of the laws' own looks at the marks of rows of tables and of trees. The contracts of the program's copies of lists and of rows of tables. -/
import Derived.Test.YtbefmbjlogkmbaaGreatG32
namespace Go.Proofs.YtbefmbjlogkmbaaGreat
set_option maxHeartbeats 16000000
set_option maxRecDepth 100000
open Go.RowKit
theorem tmk_at {k : Nat} {ts : List TV} {n j : Nat} (hj : j < n) : nthT (tmkTo k ts n) j = mkT (k + cntT (ts.take j)) (nthT ts j) := by
  rw [nthT_eq (by rw [tmkTo_len]; exact hj)]
  simp [tmkTo]
theorem iheld_at (v : Value) (n : Nat) (x : Int) (k : Nat) (w : World) (hx : x = (k : Int)) (hk : k + n ≤ 1073741824) (hr : RdI w v (imarks k n)) :
    Calls Tryz.prog 45 #[v, .int .i64 x] w fun e w' => e = .returned (.int .i64 ((k + n : Nat) : Int)) ∧ w' = w := by rw [hx]; exact iheld_any v n k w hk hr
theorem sheld_at (v : Value) (n : Nat) (x : Int) (k : Nat) (w : World) (hx : x = (k : Int)) (hk0 : 0 < k) (hk : k + n ≤ 4194304) (hr : RdS w v (smarks k n)) :
    Calls Tryz.prog 71 #[v, .int .i64 x] w fun e w' => e = .returned (.int .i64 ((k + n : Nat) : Int)) ∧ Below w.heap.size w w' := by rw [hx]; exact sheld_any v n k w hk0 hk hr
theorem heldTabs_any (v : Value) (ts : List TV) (k : Nat) (w : World) (hk0 : 0 < k) (hkn : ts = [] ∨ k + cntT ts ≤ 4194304) (hr : RdTs w v (tmkTo k ts ts.length)) :
    Calls Tryz.prog 44 #[v, .int .i64 (k : Int)] w fun e w' => e = .returned (.int .i64 ((k + cntT ts : Nat) : Int)) ∧ Below w.heap.size w w' := by
  obtain ⟨a, cap, hv, hl, hm, _⟩ := id hr
  rw [tmkTo_len] at hv hl
  unfold maxLen at hm
  subst hv
  obtain ⟨nn, hnn⟩ : ∃ nn, nn = ts.length := ⟨_, rfl⟩
  rw [← hnn] at hl hr ⊢
  have HNN : Hid (nn = ts.length) := hnn
  have HKB : Hid (ts = [] ∨ k + cntT ts ≤ 4194304) := hkn
  clear hnn hkn
  go_enter Tryz.func44, Tryz.ntmps44
  go_wp2
  go_loopw [1, 5] (fun kk i wr => ∃ (j z : Nat), j ≤ nn ∧ i = .int .i64 j ∧ kk = .int .i64 (z : Int) ∧ Hid (z = k + cntT (ts.take j)) ∧ Below w.heap.size w wr) (fun _ i _ => nn - (intOf i).toNat)
  case atStart => exact ⟨0, k, Nat.zero_le _, rfl, rfl, by unfold Hid; simp [cntT], Below.refl _ _⟩
  case round =>
    obtain ⟨j, z, hj, rfl, rfl, HZ, hb⟩ := hrel
    by_cases hlt : j < nn
    · have hjl : j < ts.length := by rw [← HNN.out]; exact hlt
      have hjc : j < cap := by omega
      have hz0 : 0 < z := by have := HZ.out; omega
      have hkn : k + cntT ts ≤ 4194304 := by
        rcases HKB.out with e | e
        · rw [e] at hjl; simp at hjl
        · exact e
      have hct := cntT_take hjl
      have hcl := cntT_le (ts := ts) (k := j + 1)
      have HZN : Hid (z + 2 + (nthT ts j).T.bits.length + (nthT ts j).T.blocks.length = k + cntT (ts.take (j + 1))) := by unfold Hid; have := HZ.out; omega
      have hzn : z + 2 + (nthT ts j).T.bits.length + (nthT ts j).T.blocks.length ≤ 4194304 := by have := HZ.out; omega
      obtain ⟨b, off, rfl, hc, hri, hrs⟩ := (hr.below hb).at j (by rw [tmkTo_len]; exact hlt)
      rw [tmk_at hlt, ← HZ.out] at hc hri hrs
      change RdI wr (nthT ts j).vb (imarks (z + 2) (nthT ts j).T.bits.length) at hri
      change RdS wr (nthT ts j).vk (smarks (z + 2 + (nthT ts j).T.bits.length) (nthT ts j).T.blocks.length) at hrs
      have hl2 := hc.lt
      obtain ⟨c0, c1, c2, c3⟩ := hc
      change _ = some (Value.string (mk z)) at c0
      change _ = some (Value.string (mk (z + 1))) at c1
      change _ = some (nthT ts j).vb at c2
      change _ = some (nthT ts j).vk at c3
      generalize (nthT ts j).vb = vb at c2 hri
      generalize (nthT ts j).vk = vk at c3 hrs
      generalize (nthT ts j).T.bits.length = bn at HZN hzn hri hrs
      generalize (nthT ts j).T.blocks.length = kn at HZN hzn hrs
      clear hct hcl hkn hjl
      go_wp2_with fail
      refine wp_region_noPanic ?_
      refine wp_region_held_drew (S := fun w' => w'.cell? ⟨b, off + j * 4, none⟩ = some (.string (mk z))) (by kernel_rfl) c0 (fun hH => ?_)
      refine tkA 0 12 hH ?_; try simp only [Act.put, sA, sZ, sS]
      refine tkA 1 13 hH ?_; try simp only [Act.put, sA, sZ, sS]
      refine tkA 2 14 hH ?_; try simp only [Act.put, sA, sZ, sS]
      refine tkA 3 15 hH ?_; try simp only [Act.put, sA, sZ, sS]
      refine tkA 4 16 hH ?_; try simp only [Act.put, sA, sZ, sS]
      refine tkA 5 17 hH ?_; try simp only [Act.put, sA, sZ, sS]
      refine wpAnyH_ready (rs := [6]) (by kernel_rfl) (by simp) ?_
      refine AllReadyH.cons rfl (fun K hK => ?_) AllReadyH.nil
      go_simp
      refine (markText_at _ z _ (by omega) (by omega) (by omega)).mono ?_
      rintro e w1 ⟨rfl, hb1⟩
      obtain ⟨q1, _⟩ := bcell hb1
      refine hK.out _ _ ((q1 _ _ hl2).trans c0) (fun hA => ?_)
      clear hK K
      try simp only [Act.put, sA, sZ, sS]
      refine tkA 7 19 hA ?_; try simp only [Act.put, sA, sZ, sS]
      refine wpAnyH_done (by kernel_rfl) ?_ _
      refine NoPanic.normal ?_
      have d1 : w1.cell? ⟨b, off + j * 4 + 1, none⟩ = some (.string (mk (z + 1))) := (q1 _ _ hl2).trans c1
      have d2 : w1.cell? ⟨b, off + j * 4 + 2, none⟩ = some vb := (q1 _ _ hl2).trans c2
      have d3 : w1.cell? ⟨b, off + j * 4 + 3, none⟩ = some vk := (q1 _ _ hl2).trans c3
      have hri1 := (hri.below ((Below.refl _ wr).drew)).below hb1
      have hrs1 := (hrs.below ((Below.refl _ wr).drew)).below hb1
      have b1 := hb.drew.trans (hb1.mono hb.size)
      have hl3 := World.block_lt_of_cell? w1 _ d1
      clear hH hA hb hb1 q1 c0 c1 c2 c3 hri hrs
      go_wp2_with fail
      refine wp_region_noPanic ?_
      refine wp_region_held_drew (S := fun w' => w'.cell? ⟨b, off + j * 4 + 1, none⟩ = some (.string (mk (z + 1)))) (by kernel_rfl) d1 (fun hH => ?_)
      refine tkA 0 22 hH ?_; try simp only [Act.put, sA, sZ, sS]
      refine tkA 1 23 hH ?_; try simp only [Act.put, sA, sZ, sS]
      refine tkA 2 24 hH ?_; try simp only [Act.put, sA, sZ, sS]
      refine tkA 3 25 hH ?_; try simp only [Act.put, sA, sZ, sS]
      refine tkA 4 26 hH ?_; try simp only [Act.put, sA, sZ, sS]
      refine tkA 5 27 hH ?_; try simp only [Act.put, sA, sZ, sS]
      refine wpAnyH_ready (rs := [6]) (by kernel_rfl) (by simp) ?_
      refine AllReadyH.cons rfl (fun K hK => ?_) AllReadyH.nil
      go_simp
      refine (markText_at _ (z + 1) _ (by omega) (by omega) (by omega)).mono ?_
      rintro e w2 ⟨rfl, hb2⟩
      obtain ⟨q2, _⟩ := bcell hb2
      refine hK.out _ _ ((q2 _ _ hl3).trans d1) (fun hA => ?_)
      clear hK K
      try simp only [Act.put, sA, sZ, sS]
      refine tkA 7 29 hA ?_; try simp only [Act.put, sA, sZ, sS]
      refine wpAnyH_done (by kernel_rfl) ?_ _
      refine NoPanic.normal ?_
      have e2 : w2.cell? ⟨b, off + j * 4 + 2, none⟩ = some vb := (q2 _ _ hl3).trans d2
      have e3 : w2.cell? ⟨b, off + j * 4 + 3, none⟩ = some vk := (q2 _ _ hl3).trans d3
      have hri2 := (hri1.below ((Below.refl _ w1).drew)).below hb2
      have hrs2 := (hrs1.below ((Below.refl _ w1).drew)).below hb2
      have b2 := b1.drew.trans (hb2.mono b1.size)
      clear hH hA b1 hb2 q2 d1 d2 d3 hri1 hrs1
      go_wp2_with fail
      refine (iheld_at vb bn _ (z + 2) _ (by omega) (by omega) hri2).mono ?_
      rintro e w3 ⟨rfl, rfl⟩
      obtain ⟨z2, hz2⟩ : ∃ z2, z2 = z + 2 + bn := ⟨_, rfl⟩
      rw [← hz2]
      rw [← hz2] at hrs2 HZN hzn
      have hz2p : 0 < z2 := by omega
      have hz2n : ¬ ((z2 : Int) < 0) := by omega
      clear hz2 hri2 e2
      go_wp2_with fail
      refine (sheld_at vk kn _ z2 _ rfl (by omega) (by omega) hrs2).mono ?_
      rintro e w4 ⟨rfl, hb4⟩
      obtain ⟨z3, hz3⟩ : ∃ z3, z3 = z2 + kn := ⟨_, rfl⟩
      rw [← hz3]
      rw [← hz3] at HZN
      have hz3n : ¬ ((z3 : Int) < 0) := by omega
      have b4 := b2.trans (hb4.mono b2.size)
      clear hz3 hrs2 e3 hb4 b2
      go_wp2
      go_roundw
      case rel => exact ⟨j + 1, z3, by omega, by go_num, rfl, HZN, b4⟩
      case measure => simp [intOf]; omega
    · have hje : j = nn := by omega
      have HZE : Hid (z = k + cntT ts) := by unfold Hid; rw [HZ.out, hje, HNN.out, List.take_length]
      clear hje
      go_wp2
      go_ret
      exact ⟨by rw [HZE.out]; rfl, hb⟩
theorem heldTree_any (Y : TrX) (k : Nat) (w : World) (hk0 : 0 < k) (hr : Room k Y) (h : RdTr w (mkTr k Y)) :
    Calls Tryz.prog 16 #[.agg #[Y.vm, Y.vy, Y.vo, .int .i64 Y.seq, Y.vs], .int .i64 (k : Int)] w fun e w' => e = .returned (.int .i64 ((k + cntTr Y : Nat) : Int)) ∧ Below w.heap.size w w' := by
  obtain ⟨r1, r2, r3, r4⟩ := hr
  obtain ⟨k1, hk1⟩ : ∃ k1, k1 = k + 4 * Y.mem.length := ⟨_, rfl⟩
  obtain ⟨k2, hk2⟩ : ∃ k2, k2 = k1 + cntT Y.ys := ⟨_, rfl⟩
  obtain ⟨k3, hk3⟩ : ∃ k3, k3 = k2 + cntT Y.os := ⟨_, rfl⟩
  obtain ⟨k4, hk4⟩ : ∃ k4, k4 = k3 + Y.snaps.length := ⟨_, rfl⟩
  have HEQ : Hid (k4 = k + cntTr Y) := by unfold Hid cntTr; omega
  have HM : Hid (∀ W, Below w.heap.size w W → Calls Tryz.prog 43 #[Y.vm, .int .i64 (k : Int)] W fun e w' => e = .returned (.int .i64 (k1 : Int)) ∧ Below W.heap.size W w') := fun W hb => by
    have := eheld_any Y.vm Y.mem.length k W hk0 r1 (h.mem.below hb); rw [← hk1] at this; exact this
  have HY : Hid (∀ W, Below w.heap.size w W → Calls Tryz.prog 44 #[Y.vy, .int .i64 (k1 : Int)] W fun e w' => e = .returned (.int .i64 (k2 : Int)) ∧ Below W.heap.size W w') := fun W hb => by
    have := heldTabs_any Y.vy Y.ys k1 W (by omega) (by rw [hk1]; exact r2) (by rw [hk1]; exact h.young.below hb); rw [← hk2] at this; exact this
  have HO : Hid (∀ W, Below w.heap.size w W → Calls Tryz.prog 44 #[Y.vo, .int .i64 (k2 : Int)] W fun e w' => e = .returned (.int .i64 (k3 : Int)) ∧ Below W.heap.size W w') := fun W hb => by
    have := heldTabs_any Y.vo Y.os k2 W (by omega) (by rw [hk2, hk1]; exact r3) (by rw [hk2, hk1]; exact h.old.below hb); rw [← hk3] at this; exact this
  have HS : Hid (∀ W, Below w.heap.size w W → Calls Tryz.prog 45 #[Y.vs, .int .i64 (k3 : Int)] W fun e w' => e = .returned (.int .i64 (k4 : Int)) ∧ w' = W) := fun W hb => by
    have := iheld_any Y.vs Y.snaps.length k3 W (by rw [← hk4]; have := HEQ.out; omega) (by rw [hk3, hk2, hk1]; exact h.snaps.below hb); rw [← hk4] at this; exact this
  have n1 : ¬ ((k1 : Int) < 0) := by omega
  have n2 : ¬ ((k2 : Int) < 0) := by omega
  have n3 : ¬ ((k3 : Int) < 0) := by omega
  have n4 : ¬ ((k4 : Int) < 0) := by omega
  clear hk1 hk2 hk3 hk4 r1 r2 r3 r4 h
  have t0 := treAt_new w Y 33
  have b0 := below1 w (.cells #[Y.vm, Y.vy, Y.vo, .int .i64 Y.seq, Y.vs] 33)
  obtain ⟨q0, q1, q2, q3, q4⟩ := id t0
  go_enter Tryz.func16, Tryz.ntmps16
  go_wp2_with fail
  refine (HM.out _ b0).mono ?_
  rintro e w1 ⟨rfl, hb1⟩
  have t1 := t0.below hb1
  have b1 := b0.trans (hb1.mono b0.size)
  clear t0 b0 hb1 q0 q1 q2 q3 q4 HM
  obtain ⟨q0, q1, q2, q3, q4⟩ := id t1
  go_wp2_with fail
  refine (HY.out _ b1).mono ?_
  rintro e w2 ⟨rfl, hb2⟩
  have t2 := t1.below hb2
  have b2 := b1.trans (hb2.mono b1.size)
  clear t1 b1 hb2 q0 q1 q2 q3 q4 HY
  obtain ⟨q0, q1, q2, q3, q4⟩ := id t2
  go_wp2_with fail
  refine (HO.out _ b2).mono ?_
  rintro e w3 ⟨rfl, hb3⟩
  have t3 := t2.below hb3
  have b3 := b2.trans (hb3.mono b2.size)
  clear t2 b2 hb3 q0 q1 q2 q3 q4 HO
  obtain ⟨q0, q1, q2, q3, q4⟩ := id t3
  go_wp2_with fail
  refine (HS.out _ b3).mono ?_
  rintro e w4 ⟨rfl, rfl⟩
  clear t3 q0 q1 q2 q3 q4 HS
  go_wp2
  go_ret
  exact ⟨by rw [HEQ.out]; rfl, b3⟩
open Go.RowKit
theorem copiedInts_any (v : Value) (bs : List Int) (w : World) (hr : RdI w v bs) (hl : bs.length ≤ 1000000000) :
    Calls Tryz.prog 53 #[v] w fun e w' => ∃ u, e = .returned u ∧ OwnI w' w.heap.size u bs ∧ Below w.heap.size w w' := by
  have hoi := ownI_none w
  have b0 := below1 w (.cells #[] 2)
  have hr0 := hr.below b0
  go_enter Tryz.func53, Tryz.ntmps53
  go_wp2_with (at_builtin; (refine wpList_append_ints rfl _ _ rfl w.heap.size _ _ [] bs rfl rfl hoi hr0 (by simp; omega) (by simp) ?_))
  intro u w1 ho hg
  have b1 : Below w.heap.size w w1 := b0.grown hg (by simp) (fun k hk => by have : w.heap.size = k := Option.some.inj hk; omega)
  clear hoi b0 hr0 hg
  go_wp2
  go_ret
  exact ⟨u, rfl, ho, b1⟩
theorem copiedTexts_any (v : Value) (bs : List ByteArray) (w : World) (hr : RdS w v bs) (hn : NilOk v) (hl : bs.length ≤ 1000000000) :
    Calls Tryz.prog 103 #[v] w fun e w' => ∃ u, e = .returned u ∧ OwnS w' w.heap.size u bs ∧ Below w.heap.size w w' := by
  have hoi := ownS_none w
  have b0 := below1 w (.cells #[] 9)
  have hr0 := hr.below b0
  go_enter Tryz.func103, Tryz.ntmps103
  go_wp2_with (at_builtin; (refine wpList_append_txts rfl _ _ rfl w.heap.size _ _ [] bs rfl rfl hoi hr0 hn (by simp; omega) (by simp) ?_))
  intro u w1 ho hg
  have b1 : Below w.heap.size w w1 := b0.grown hg (by simp) (fun k hk => by have : w.heap.size = k := Option.some.inj hk; omega)
  clear hoi b0 hr0 hg
  go_wp2
  go_ret
  exact ⟨u, rfl, ho, b1⟩
theorem TVs_nth {ts : List TV} {j : Nat} {u : Value} (h : (TVs ts)[j]? = some u) : j / 4 < ts.length ∧ (TC (nthT ts (j / 4)))[j % 4]? = some u := by
  have hl := (List.getElem?_eq_some_iff.1 h).1
  rw [TVs_length] at hl
  have h1 : j / 4 < ts.length := by omega
  refine ⟨h1, ?_⟩
  have h2 := TVs_get ts (j / 4) h1 (j % 4) (by omega)
  rw [show j / 4 * 4 + j % 4 = j by omega] at h2
  rw [← h2]; exact h
theorem TabAt.cellAt {w : World} {b o : Nat} {t : TV} (h : TabAt w b o t) {j : Nat} {u : Value} (hu : (TC t)[j]? = some u) : w.cell? ⟨b, o + j, none⟩ = some u := by
  obtain ⟨h0, h1, h2, h3⟩ := h
  match j, hu with
  | 0, hu => simp [TC] at hu; subst hu; exact h0
  | 1, hu => simp [TC] at hu; subst hu; exact h1
  | 2, hu => simp [TC] at hu; subst hu; exact h2
  | 3, hu => simp [TC] at hu; subst hu; exact h3
theorem tabsAt_cells {w : World} {b off : Nat} {ts : List TV} (h : ∀ i, i < ts.length → TabAt w b (off + i * 4) (nthT ts i)) : ∀ j u, (TVs ts)[j]? = some u → w.cell? ((⟨b, off, none⟩ : Addr).add j) = some u := by
  intro j u hu
  obtain ⟨h1, h2⟩ := TVs_nth hu
  have := (h _ h1).cellAt h2
  rw [Addr.add_lit]
  rw [show off + j / 4 * 4 + j % 4 = off + j by omega] at this
  exact this
theorem TVs_oneCell {w : World} {ts : List TV} (h : ∀ t ∈ ts, RdI w t.vb t.T.bits ∧ RdS w t.vk t.T.blocks) : ∀ u ∈ TVs ts, u.oneCell' = true := by
  intro u hu
  obtain ⟨t, ht, hu⟩ := List.mem_flatMap.1 hu
  obtain ⟨⟨a, c, e1, -⟩, ⟨a2, c2, e2, -⟩⟩ := h t ht
  simp [TC] at hu
  rcases hu with rfl | rfl | rfl | rfl
  · rfl
  · rfl
  · rw [e1]; rfl
  · rw [e2]; rfl
theorem run_append_tabs (ty : TypeId) {w : World} {base : Nat} {v u : Value} {us ts : List TV} (hown : OwnT w base v us) (hr : RdTs w u ts) (hn : NilOk u) (hl : us.length + ts.length ≤ 10000000) (hbase : base ≤ w.heap.size) :
    ∃ v' w', (Builtin.append_ #[31, 31] ty #[v, u]).run Tryz.prog w = .ok v' w' ∧ OwnT w' base v' (us ++ ts) ∧ w.grownBy w' v.ownBlock := by
  obtain ⟨i0, hi, hz0, hz1, hz2⟩ := info_parts Tryz.infoT72
  obtain ⟨a, cap, rfl, h1, h2, h3, h4⟩ := hr
  have more : ∀ {w1 : World} {v' : Value}, w1.ownsRow base 72 4 v' (us.length + ts.length) (TVs us ++ TVs ts) → OwnT w1 base v' (us ++ ts) := fun h => by unfold OwnT; rw [TVs_append, List.length_append]; exact h
  have row : ∀ ad news, news = TVs ts → (∀ j u, news[j]? = some u → w.cell? (ad.add j) = some u) → ∃ v' w', (Builtin.append_ #[31, 31] ty #[v, .slice (some ad) ts.length cap]).run Tryz.prog w = .ok v' w' ∧ OwnT w' base v' (us ++ ts) ∧ w.grownBy w' v.ownBlock := by
    intro ad news hn hc
    subst hn
    obtain ⟨v', w', hrun, r1, r2, _⟩ := run_append_own (P := Tryz.prog) w base 31 ty 72 i0 _ 4 80 Tryz.underlying31 hi hz0 hz1 hz2 rfl (by decide) v us.length (TVs us) hown ad ts.length cap (TVs ts) (TVs_length ts) hc (TVs_oneCell h4) (by unfold maxLen; omega) (by omega) hbase
    exact ⟨v', w', hrun, more r1, r2⟩
  cases a with
  | some ad =>
    refine row ad (TVs ts) rfl ?_
    rcases h3 with rfl | ⟨b, off, ha, hc⟩
    · intro j u hj; simp [TVs] at hj
    · cases ha; exact tabsAt_cells hc
  | none =>
    have hc0 := hn _ _ rfl
    subst hc0
    rcases h3 with rfl | ⟨b, off, ha, hc⟩
    · refine ⟨v, w, run_append_owned_none (P := Tryz.prog) w base 31 ty 72 i0 4 Tryz.underlying31 hi v us.length (TVs us) hown, by simpa using hown, ⟨rfl, rfl, rfl, Nat.le_refl _, fun _ _ _ => rfl⟩⟩
    · cases ha
theorem wpList_append_tabs {w : World} {ops : Array Oper} {rest : List Oper} {o : Oper} {a : Act} {Q : Exit → Act → World → Prop} (hgd : o.guard = none) (s x : Operand)
    (ho : o.op = .call { callee := .builtin .append, args := #[s, x], argTypes := #[31, 31] }) (base : Nat) (v u : Value) (us ts : List TV) (hs : a.eval s = v) (hx : a.eval x = u) (hown : OwnT w base v us) (hr : RdTs w u ts) (hn : NilOk u) (hl : us.length + ts.length ≤ 10000000) (hbase : base ≤ w.heap.size)
    (h : ∀ v' w', OwnT w' base v' (us ++ ts) → w.grownBy w' v.ownBlock → wpList Tryz.prog ops Q rest (a.put o.dst v') w') : wpList Tryz.prog ops Q (o :: rest) a w := by
  refine wpList_plain hgd fun K hK => ?_
  obtain ⟨v', w', hrun, r1, r2⟩ := run_append_tabs o.type hown hr hn hl hbase
  unfold Oper.wp
  simp [execOp, ho, resolve, invoke, builtin, hs, hx, hrun, Result.andThen]
  exact hK _ _ (h v' w' r1 r2)
theorem copiedTabs0_any (v : Value) (ts : List TV) (w : World) (hr : RdTs w v ts) (hn : NilOk v) (hl : ts.length ≤ 1000000) :
    Calls Tryz.prog 102 #[v] w fun e w' => ∃ u, e = .returned u ∧ OwnT w' w.heap.size u ts ∧ Below w.heap.size w w' := by
  have hoi := ownT_none w
  have b0 := below1 w (.cells #[] 72)
  have hr0 := hr.below b0
  go_enter Tryz.func102, Tryz.ntmps102
  go_wp2_with (at_builtin; (refine wpList_append_tabs rfl _ _ rfl w.heap.size _ _ [] ts rfl rfl hoi hr0 hn (by simp; omega) (by simp) ?_))
  intro u w1 ho hg
  have b1 : Below w.heap.size w w1 := b0.grown hg (by simp) (fun k hk => by have : w.heap.size = k := Option.some.inj hk; omega)
  clear hoi b0 hr0 hg
  go_wp2
  go_ret
  exact ⟨u, rfl, ho, b1⟩
theorem nth_mid {us ts : List TV} {k : Nat} (hu : us.length = k) (hk : k < ts.length) : nthT (us ++ ts.drop k) k = nthT ts k := by
  rw [nthT_eq (by rw [List.length_append, List.length_drop]; omega), List.getElem_append_right (by omega), nthT_eq hk]
  simp [hu]
theorem set_mid {us ts : List TV} {k : Nat} (hu : us.length = k) (hk : k < ts.length) (t : TV) : (us ++ ts.drop k).set k t = (us ++ [t]) ++ ts.drop (k + 1) := by
  rw [List.set_append_right _ _ (by omega), hu, Nat.sub_self, List.drop_eq_getElem_cons hk, List.set_cons_zero, List.append_assoc]
  rfl
theorem copiedTabs_any (v : Value) (ts : List TV) (w : World) (hr : RdTs w v ts) (hn : NilOk v) (hl : ts.length ≤ 1000000) (hls : ∀ t ∈ ts, t.T.bits.length ≤ 1000000000 ∧ t.T.blocks.length ≤ 1000000000 ∧ NilOk t.vk) :
    Calls Tryz.prog 67 #[v] w fun e w' => TosPost w ts e w' := by
  have HL : Hid (∀ t ∈ ts, t.T.bits.length ≤ 1000000000 ∧ t.T.blocks.length ≤ 1000000000 ∧ NilOk t.vk) := hls
  have HC0 : Hid (Calls _ _ _ _ _) := copiedTabs0_any v ts w hr hn hl
  obtain ⟨nn, hnn⟩ : ∃ nn, nn = ts.length := ⟨_, rfl⟩
  have HNN : Hid (nn = ts.length) := hnn
  have HR : Hid (∀ W k, Below w.heap.size w W → k < nn → RdI W (nthT ts k).vb (nthT ts k).T.bits ∧ RdS W (nthT ts k).vk (nthT ts k).T.blocks) := fun W k hb hk => by
    obtain ⟨a, cap, hv, -⟩ := id hr
    subst hv
    obtain ⟨b, off, -, -, h1, h2⟩ := (hr.below hb).at k (by omega)
    exact ⟨h1, h2⟩
  clear hls hn hr
  go_enter Tryz.func67, Tryz.ntmps67
  go_wp2_with fail
  refine HC0.out.mono ?_
  rintro e w1 ⟨u, rfl, ho1, hb1⟩
  clear HC0
  rcases ho1.2 with ⟨hv, h0⟩ | ⟨g, cap, cur, hv, hBg, hg, hcn, hc, _⟩
  · have hts : ts = [] := List.length_eq_zero_iff.1 h0
    subst hv
    have END : Hid (TosPost w ts (.returned (.slice none 0 0)) w1) := ⟨_, ts, rfl, rfl, ⟨ho1, (by rw [hts]; intro t ht; cases ht), (by rw [hts]; simp [tblks, oneB, Value.ownBlock])⟩, hb1⟩
    clear ho1 hb1 hts
    go_wp2
    refine wp_loop_rounds 1 ?_
    rw [rounds_succ]
    go_wp2
    go_ret
    exact END.out
  subst hv
  have hgl : g < w1.heap.size := (World.ownsRow.lt ho1 g rfl).2
  unfold maxLen at hc
  unfold OwnT at ho1
  rw [← hnn] at ho1 hcn hl ⊢
  clear hg hnn
  go_wp2
  go_loopw [10] (fun i wr => ∃ (k : Nat) (us : List TV), k ≤ nn ∧ i = .int .i64 k ∧ wr.ownsRow w.heap.size 72 4 (.slice (some ⟨g, 0, none⟩) nn cap) nn (TVs (us ++ ts.drop k)) ∧ Hid (us.length = k ∧ us.map (·.T) = (ts.take k).map (·.T) ∧ InT wr w.heap.size us ∧ (oneB (.slice (some ⟨g, 0, none⟩) nn cap) ++ tblks us).Nodup) ∧ g < wr.heap.size ∧ Below w.heap.size w wr) (fun i _ => nn - (intOf i).toNat)
  case atStart => exact ⟨0, [], Nat.zero_le _, rfl, by simpa using ho1, ⟨rfl, rfl, (fun t ht => by cases ht), by simp [tblks, oneB_nodup]⟩, hgl, hb1⟩
  case round =>
    obtain ⟨k, us, hk, rfl, ho, HC, hs, hb⟩ := hrel
    clear ho1 hb1 hgl
    by_cases hlt : k < nn
    · have hkl : k < ts.length := by rw [← HNN.out]; exact hlt
      have hkc : k < cap := by omega
      have hlen : (us ++ ts.drop k).length = nn := by rw [List.length_append, HC.out.1, List.length_drop, HNN.out]; omega
      have hcell := ownT_cells ho hlen.symm k hlt
      rw [nth_mid HC.out.1 hkl] at hcell
      have HSM : Hid (∀ t, (us ++ ts.drop k).set k t = (us ++ [t]) ++ ts.drop (k + 1)) := fun t => set_mid HC.out.1 hkl t
      have HMID : Hid (nthT (us ++ ts.drop k) k = nthT ts k) := nth_mid HC.out.1 hkl
      obtain ⟨hri, hrs⟩ := HR.out wr k hb hlt
      obtain ⟨hn1, hn2, hn3⟩ := HL.out (nthT ts k) (by rw [nthT_eq hkl]; exact List.getElem_mem hkl)
      have HTK : Hid ((ts.take (k + 1)).map (·.T) = (ts.take k).map (·.T) ++ [(nthT ts k).T]) := by unfold Hid; rw [take_snoc hkl, List.map_append]; rfl
      have HRW : Hid (∀ W, Below w.heap.size w W → RdI W (nthT ts k).vb (nthT ts k).T.bits ∧ RdS W (nthT ts k).vk (nthT ts k).T.blocks) := fun W h => HR.out W k h hlt
      generalize nthT ts k = t at hcell hri hrs hn1 hn2 hn3 HTK HMID HRW
      obtain ⟨T, vb, vk⟩ := t
      unfold TabAt at hcell
      simp only at hcell hri hrs hn1 hn2 hn3 HTK HRW
      have HBN : Hid (T.bits.length ≤ 1000000000) := hn1
      have HKN : Hid (T.blocks.length ≤ 1000000000) := hn2
      have HRI : Hid (RdI wr vb T.bits) := hri
      have HRS : Hid (RdS wr vk T.blocks) := hrs
      obtain ⟨ai, ci, hvi, -⟩ := id hri
      obtain ⟨ak, ck, hvk, -⟩ := id hrs
      generalize T.bits.length = bn at hvi
      generalize T.blocks.length = kn at hvk
      subst hvi
      subst hvk
      obtain ⟨c0, c1, c2, c3⟩ := hcell
      have hx1 := boxT_new wr T.first T.last (.slice ai bn ci) (.slice ak kn ck)
      have bb1 := below1 wr (.cells #[.string T.first, .string T.last, .slice ai bn ci, .slice ak kn ck] 72)
      have s1 : (wr.alloc (.cells #[.string T.first, .string T.last, .slice ai bn ci, .slice ak kn ck] 72)).heap.size = wr.heap.size + 1 := by simp
      obtain ⟨y0, y1, y2, y3, -⟩ := hx1.facts
      clear hn1 hn2 hri hrs hkl
      go_wp2_with fail
      generalize wr.alloc (.cells #[.string T.first, .string T.last, .slice ai bn ci, .slice ak kn ck] 72) = W1 at hx1 bb1 s1 y0 y1 y2 y3 ⊢
      refine (copiedInts_any (.slice ai bn ci) T.bits _ (HRI.out.below bb1) HBN.out).mono ?_
      rintro e w2 ⟨ub, rfl, hub, hb2⟩
      have bb2 : Below wr.heap.size wr w2 := bb1.trans (hb2.mono bb1.size)
      have hx2 := hx1.below hb2
      have ho2 := own_below ho bb2
      have hcell2 := ownT_cells ho2 hlen.symm k hlt
      rw [HMID.out] at hcell2
      obtain ⟨e0, e1, e2, e3⟩ := hcell2
      have f2 := ho2.frozenAt (k * 4 + 2)
      have R1 := ownT_store ho2 (k := k) (j := 2) (by rw [hlen]; exact hlt) (by omega) (u := ub) (e' := ⟨T, ub, .slice ak kn ck⟩) (by rw [HMID.out]; rfl)
      rw [HSM.out] at R1
      have hs2 : wr.heap.size + 1 ≤ w2.heap.size := by rw [← s1]; exact hb2.size
      have hxne : wr.heap.size ≠ g := by omega
      have HUB : Hid (OwnI w2 wr.heap.size ub T.bits) := OwnI.mono hub (by omega)
      obtain ⟨ab, cb, hvb, -⟩ := id hub.rd
      generalize T.bits.length = bn2 at hvb
      subst hvb
      have hubG : ∀ q, (Value.slice ab bn2 cb).ownBlock = some q → g ≠ q := fun q hq e => by have := (World.ownsRow.lt hub q hq).1; omega
      have hx3 : BoxT (w2.setCell ⟨g, k * 4 + 2, none⟩ (.slice ab bn2 cb)) wr.heap.size T.first T.last (.slice ai bn ci) (.slice ak kn ck) := hx2.block (heap_setCell_other w2 ⟨g, k * 4 + 2, none⟩ wr.heap.size _ hxne)
      have HUB3 : Hid (OwnI (w2.setCell ⟨g, k * 4 + 2, none⟩ (.slice ab bn2 cb)) wr.heap.size (.slice ab bn2 cb) T.bits) := row_set HUB.out hubG
      have s3 : (w2.setCell ⟨g, k * 4 + 2, none⟩ (.slice ab bn2 cb)).heap.size = w2.heap.size := by simp
      have bw3 : Below w.heap.size w (w2.setCell ⟨g, k * 4 + 2, none⟩ (.slice ab bn2 cb)) := (hb.trans (bb2.mono hb.size)).setCell (p := ⟨g, k * 4 + 2, none⟩) hBg _
      have HIN3 : Hid (InT (w2.setCell ⟨g, k * 4 + 2, none⟩ (.slice ab bn2 cb)) w.heap.size us) := fun t ht => ⟨row_set ((HC.out.2.2.1.below bb2) t ht).1 (fun q hq e => rows_apart ((HC.out.2.2.1.below bb2) t ht).1 ho2 (by decide) q hq (by rw [← e]; rfl)), row_set ((HC.out.2.2.1.below bb2) t ht).2 (fun q hq e => rows_apart ((HC.out.2.2.1.below bb2) t ht).2 ho2 (by decide) q hq (by rw [← e]; rfl))⟩
      have H3 : Hid (World.ownsRow _ _ _ _ _ _ _) := R1
      obtain ⟨z0, z1, z2, z3, -⟩ := hx3.facts
      have hlen3 : ((us ++ [(⟨T, .slice ab bn2 cb, .slice ak kn ck⟩ : TV)]) ++ ts.drop (k + 1)).length = nn := by rw [← HSM.out, List.length_set]; exact hlen
      have HMID3 : Hid (nthT ((us ++ [(⟨T, .slice ab bn2 cb, .slice ak kn ck⟩ : TV)]) ++ ts.drop (k + 1)) k = ⟨T, .slice ab bn2 cb, .slice ak kn ck⟩) := by unfold Hid; rw [← HSM.out]; exact nthT_set_same (by rw [hlen]; exact hlt) _
      have HSET3 : Hid (∀ t, ((us ++ [(⟨T, .slice ab bn2 cb, .slice ak kn ck⟩ : TV)]) ++ ts.drop (k + 1)).set k t = (us ++ [t]) ++ ts.drop (k + 1)) := fun t => by rw [← HSM.out, List.set_set]; exact HSM.out t
      clear R1 ho2 hub hb2 bb1 hx1 hx2 c0 c1 c2 c3 y0 y1 y2 y3 HRI HRS HUB
      go_wp2_with fail
      generalize w2.setCell ⟨g, k * 4 + 2, none⟩ (.slice ab bn2 cb) = W3 at hx3 HUB3 s3 bw3 HIN3 H3 z0 z1 z2 z3 ⊢
      refine (copiedTexts_any (.slice ak kn ck) T.blocks _ (HRW.out _ bw3).2 hn3 HKN.out).mono ?_
      rintro e w4 ⟨uk, rfl, huk, hb4⟩
      have ho4 := own_below H3.out hb4
      have hcell4 := ownT_cells ho4 hlen3.symm k hlt
      rw [HMID3.out] at hcell4
      obtain ⟨k0, k1, k2, k3⟩ := hcell4
      have f3 := ho4.frozenAt (k * 4 + 3)
      have R5 := ownT_store ho4 (k := k) (j := 3) (by rw [hlen3]; exact hlt) (by omega) (u := uk) (e' := ⟨T, .slice ab bn2 cb, uk⟩) (by rw [HMID3.out]; rfl)
      rw [HSET3.out] at R5
      have s34 := hb4.size
      have hgs : g < w4.heap.size := by omega
      have hukG : ∀ q, uk.ownBlock = some q → g ≠ q := fun q hq e => by have := (World.ownsRow.lt huk q hq).1; omega
      have HUK5 : OwnS (w4.setCell ⟨g, k * 4 + 3, none⟩ uk) wr.heap.size uk T.blocks := row_set (OwnS.mono huk (by omega)) hukG
      have HUB5 : OwnI (w4.setCell ⟨g, k * 4 + 3, none⟩ uk) wr.heap.size (.slice ab bn2 cb) T.bits := row_set (HUB3.out.below hb4) hubG
      have HIN5 : InT (w4.setCell ⟨g, k * 4 + 3, none⟩ uk) w.heap.size us := fun t ht => ⟨row_set ((HIN3.out.below hb4) t ht).1 (fun q hq e => rows_apart ((HIN3.out.below hb4) t ht).1 ho4 (by decide) q hq (by rw [← e]; rfl)), row_set ((HIN3.out.below hb4) t ht).2 (fun q hq e => rows_apart ((HIN3.out.below hb4) t ht).2 ho4 (by decide) q hq (by rw [← e]; rfl))⟩
      have bw5 : Below w.heap.size w (w4.setCell ⟨g, k * 4 + 3, none⟩ uk) := (bw3.trans (hb4.mono bw3.size)).setCell (p := ⟨g, k * 4 + 3, none⟩) hBg _
      have HC5 : Hid ((us ++ [(⟨T, .slice ab bn2 cb, uk⟩ : TV)]).length = k + 1 ∧ (us ++ [(⟨T, .slice ab bn2 cb, uk⟩ : TV)]).map (·.T) = (ts.take (k + 1)).map (·.T) ∧ InT (w4.setCell ⟨g, k * 4 + 3, none⟩ uk) w.heap.size (us ++ [(⟨T, .slice ab bn2 cb, uk⟩ : TV)]) ∧ (oneB (.slice (some ⟨g, 0, none⟩) nn cap) ++ tblks (us ++ [(⟨T, .slice ab bn2 cb, uk⟩ : TV)])).Nodup) := by
        obtain ⟨g1, g2, g3, g4⟩ := HC.out
        refine ⟨by rw [List.length_append, g1]; rfl, by rw [List.map_append, g2, HTK.out]; rfl, HIN5.push (HUB5.mono hb.size) (HUK5.mono hb.size), nod_push (fun q hq => by have : g = q := Option.some.inj hq; omega) g3 g4 HUB5 HUK5⟩
      have H5 : Hid (World.ownsRow _ _ _ _ _ _ _) := R5
      obtain ⟨ak2, ck2, hvk2, -⟩ := id huk.rd
      generalize T.blocks.length = kn2 at hvk2
      subst hvk2
      clear R5 ho4 huk hb4 hx3 z0 z1 z2 z3 e0 e1 e2 e3 f2 HUB3 HIN3 H3 HUK5 HUB5 HIN5 bw3 HC ho hb
      go_wp2
      go_roundw
      case rel => exact ⟨k + 1, _, by omega, by go_num, H5.out, HC5, by simpa using hgs, bw5⟩
      case measure => simp [intOf]; omega
    · have hke : k = nn := by omega
      have HEND : Hid (TosPost w ts (.returned (.slice (some ⟨g, 0, none⟩) nn cap)) wr) := by
        obtain ⟨g1, g2, g3, g4⟩ := HC.out
        refine ⟨_, us, rfl, by rw [g2, hke, HNN.out, List.take_length], ⟨?_, g3, g4⟩, hb⟩
        unfold OwnT
        rw [g1, hke]
        rw [hke, HNN.out, List.drop_length, List.append_nil, ← HNN.out] at ho
        exact ho
      clear ho HC hke
      go_wp2
      go_ret
      exact HEND.out
end Go.Proofs.YtbefmbjlogkmbaaGreat
