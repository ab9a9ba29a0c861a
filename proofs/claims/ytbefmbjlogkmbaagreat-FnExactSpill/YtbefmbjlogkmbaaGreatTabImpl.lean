/- The contracts of the program's TableOk, Built, Entries, May, Found. -/
import Derived.Test.YtbefmbjlogkmbaaGreatG14
import Derived.Test.YtbefmbjlogkmbaaGreatTabUnp
namespace Go.Proofs.YtbefmbjlogkmbaaGreat
set_option maxHeartbeats 16000000
set_option maxRecDepth 100000
open Go.RowKit
theorem implBuilt_any (v : Value) (es : List Ent) (w : World) (hr : RdE w v es) (hf : ∀ e ∈ es, Fits e) :
    Calls Tryz.prog 47 #[v] w fun e w' => BuiltPost w (builtL es) (builtOk es) e w' := by
  have HF : Hid (∀ e ∈ es, Fits e) := hf
  clear hf
  obtain ⟨a, cap, hv, hl, hm, _⟩ := id hr
  obtain ⟨nn, hnn⟩ : ∃ nn, nn = es.length := ⟨_, rfl⟩
  have HNN : Hid (nn = es.length) := hnn
  rw [← hnn] at hv hl
  subst hv
  clear hnn
  unfold maxLen at hm
  have hz := boxT_new w ⟨#[]⟩ ⟨#[]⟩ (.slice none 0 0) (.slice none 0 0)
  have b0 := below1 w (.cells #[.string ⟨#[]⟩, .string ⟨#[]⟩, .slice none 0 0, .slice none 0 0] 72)
  have hr0 := hr.below b0
  cases hok : okL es with
  | false =>
    have HCE : Hid (∀ W, RdE W (.slice a nn cap) es → Calls Tryz.prog 73 #[.slice a nn cap] W fun e w' => e = .returned (.bool false) ∧ Below W.heap.size W w') := fun W h => by have := implEntriesOk_any _ es W h HF.out; rwa [hok] at this
    have RES : Hid (builtOk es = false) := by unfold Hid builtOk; rw [hok]; rfl
    clear hok
    go_enter Tryz.func47, Tryz.ntmps47
    go_wp2_with fail
    refine (HCE.out _ hr0).mono ?_
    rintro e w1 ⟨rfl, hb1⟩
    obtain ⟨z0, z1, z2, z3, f0, f1, f2, f3⟩ := (hz.below hb1).facts
    have b1 := b0.trans (hb1.mono b0.size)
    clear hz hb1
    go_wp2
    exact bodyPost_ret (v := .tuple #[.agg #[.string ⟨#[]⟩, .string ⟨#[]⟩, .slice none 0 0, .slice none 0 0], .bool false]) (by simp [results, Tryz.results47, go_sem, z0, z1, z2, z3]) rfl (builtPost_no RES.out (below4 b1 (Nat.le_refl _) _ _ _ _ _ _ _ _))
  | true =>
    have HCE : Hid (∀ W, RdE W (.slice a nn cap) es → Calls Tryz.prog 73 #[.slice a nn cap] W fun e w' => e = .returned (.bool true) ∧ Below W.heap.size W w') := fun W h => by have := implEntriesOk_any _ es W h HF.out; rwa [hok] at this
    have hlen := okL_len hok
    rw [← HNN.out] at hlen
    by_cases h0 : nn = 0
    · have RES : Hid (builtOk es = false) := by unfold Hid builtOk; rw [← HNN.out, h0]; simp
      have hd : ((nn : Int) == 0) = true := by simp; omega
      clear hok h0
      go_enter Tryz.func47, Tryz.ntmps47
      go_wp2_with fail
      refine (HCE.out _ hr0).mono ?_
      rintro e w1 ⟨rfl, hb1⟩
      obtain ⟨z0, z1, z2, z3, f0, f1, f2, f3⟩ := (hz.below hb1).facts
      have b1 := b0.trans (hb1.mono b0.size)
      clear hz hb1
      go_wp2
      exact bodyPost_ret (v := .tuple #[.agg #[.string ⟨#[]⟩, .string ⟨#[]⟩, .slice none 0 0, .slice none 0 0], .bool false]) (by simp [results, Tryz.results47, go_sem, z0, z1, z2, z3]) rfl (builtPost_no RES.out (below4 b1 (Nat.le_refl _) _ _ _ _ _ _ _ _))
    · skip
      have RES : Hid (builtOk es = true) := by unfold Hid builtOk; rw [hok, ← HNN.out]; simp [h0]
      have hd : ((nn : Int) == 0) = false := by simp; omega
      have hpos : 0 < es.length := by rw [← HNN.out]; omega
      obtain ⟨b, off, rfl, hc0⟩ := hr.at HNN.out 0 hpos
      obtain ⟨b', off', hb', hcl⟩ := hr.at HNN.out (es.length - 1) (by omega)
      cases hb'
      have nbb : b ≠ w.heap.size := Nat.ne_of_lt hc0.lt
      obtain ⟨m, hm'⟩ : ∃ m, m = es.length - 1 := ⟨_, rfl⟩
      rw [← hm'] at hcl
      rw [Nat.zero_mul, Nat.add_zero] at hc0
      obtain ⟨e0, he0⟩ : ∃ e0, e0 = nth es 0 := ⟨_, rfl⟩
      obtain ⟨el, hel⟩ : ∃ el, el = nth es m := ⟨_, rfl⟩
      rw [← he0] at hc0
      rw [← hel] at hcl
      have HKS : Hid (∀ e ∈ es, e.key.size ≤ 1000000000) := fun e he => by have := okE_parts (okL_all hok e he); omega
      have HBT : Hid (builtT es = ⟨e0.key, el.key, bitsL es, blksL es⟩) := by unfold Hid builtT; rw [he0, hel, hm']
      have HY : Hid (∀ W vb vk, OwnI W w.heap.size vb (bitsL es) → OwnS W w.heap.size vk (blksL es) → Below w.heap.size w W → BuiltPost w (builtL es) (builtOk es) (.returned (.tuple #[.agg #[.string e0.key, .string el.key, vb, vk], .bool true])) W) := fun W vb vk h1 h2 h3 => by
        have := builtPost_yes (vb := vb) (vk := vk) RES.out (by rw [HBT.out]; exact h1) (by rw [HBT.out]; exact h2) h3
        rwa [HBT.out] at this
      have HCK : Hid (∀ W, RdE W (.slice (some ⟨b, off, none⟩) nn cap) es → Calls Tryz.prog 74 #[.slice (some ⟨b, off, none⟩) nn cap] W fun e w' => e = .returned (MV (mKeys es)) ∧ Below W.heap.size W w') := fun W h => marksOfKeys_any _ es W h HKS.out
      have HCB : Hid (∀ W, Calls Tryz.prog 75 #[MV (mKeys es)] W fun e w' => ∃ u, e = .returned u ∧ OwnI w' W.heap.size u (bitsL es) ∧ Below W.heap.size W w') := fun W => by have := bits_any (mKeys es) W (mKeys_lt es); rwa [bits_of_keys] at this
      have HCP : Hid (∀ W, RdE W (.slice (some ⟨b, off, none⟩) nn cap) es → Calls Tryz.prog 76 #[.slice (some ⟨b, off, none⟩) nn cap] W fun e w' => ∃ u, e = .returned u ∧ OwnS w' W.heap.size u (blksL es) ∧ Below W.heap.size W w') := fun W h => packedBlocks_any _ es W h hok
      have hnm : (nn : Int) - 1 = (m : Int) := by have := HNN.out; omega
      have hwm : IntKind.i64.wrap (m : Int) = (m : Int) := by rw [IntKind.wrap_i64]; omega
      have hmn : m < nn := by have := HNN.out; omega
      have hn0 : 0 < nn := by omega
      clear RES hok h0 hpos hm' he0 hel HKS HBT
      generalize mKeys es = M at HCK HCB
      unfold MV at HCK HCB
      generalize bitsL es = bts at HCB HY
      generalize blksL es = bks at HCP HY
      have hc00 := hc0.below b0
      have hcl0 := hcl.below b0
      go_enter Tryz.func47, Tryz.ntmps47
      go_wp2_with fail
      refine (HCE.out _ hr0).mono ?_
      rintro e w1 ⟨rfl, hb1⟩
      have hz1 := hz.below hb1
      have b1 := b0.trans (hb1.mono b0.size)
      have hr1 := hr0.below hb1
      have hc1 := hc00.below hb1
      have hcl1 := hcl0.below hb1
      clear hz hr0 hc00 hcl0 hb1 b0 hc0 hcl HCE
      go_wp2_with fail
      refine wp_region_noPanic ?_
      refine wp_region_held_drew (S := fun w' => EntAt w' b off e0 ∧ EntAt w' b (off + m * 4) el) (by kernel_rfl) ⟨hc1, hcl1⟩ (fun hH => ?_)
      have qz : BoxT w1.drew w.heap.size ⟨#[]⟩ ⟨#[]⟩ (.slice none 0 0) (.slice none 0 0) := hz1
      have qb := b1.drew
      have qr : RdE w1.drew _ es := hr1.drewN 1
      clear hz1 b1 hr1 hc1 hcl1
      revert qz
      revert qb
      revert qr
      revert hH
      generalize w1.drew = W0
      intro hH qr qb qz
      refine takeH (i := 0) (d := 13) (v := ?_) rfl rfl (by kernel_rfl) (by kernel_rfl) (by kernel_rfl) (fun _ _ _ h => h) (Or.inl ⟨by kernel_rfl, ?_⟩) hH ?_
      rotate_left 1
      · intro w hS; (try dsimp only [EntAt, MAt, Nat.zero_add] at hS); go_simp; (try with_reducible rfl)
      try simp only [Act.put, sA, sZ, sS]
      refine takeH (i := 1) (d := 14) (v := ?_) rfl rfl (by kernel_rfl) (by kernel_rfl) (by kernel_rfl) (fun _ _ _ h => h) (Or.inl ⟨by kernel_rfl, ?_⟩) hH ?_
      rotate_left 1
      · intro w hS; (try dsimp only [EntAt, MAt, Nat.zero_add] at hS); go_simp; (try with_reducible rfl)
      try simp only [Act.put, sA, sZ, sS]
      refine takeH (i := 2) (d := 15) (v := ?_) rfl rfl (by kernel_rfl) (by kernel_rfl) (by kernel_rfl) (fun _ _ _ h => h) (Or.inl ⟨by kernel_rfl, ?_⟩) hH ?_
      rotate_left 1
      · intro w hS; (try dsimp only [EntAt, MAt, Nat.zero_add] at hS); go_simp; (try with_reducible rfl)
      try simp only [Act.put, sA, sZ, sS]
      refine takeH (i := 3) (d := 16) (v := ?_) rfl rfl (by kernel_rfl) (by kernel_rfl) (by kernel_rfl) (fun _ _ _ h => h) (Or.inl ⟨by kernel_rfl, ?_⟩) hH ?_
      rotate_left 1
      · intro w hS; (try dsimp only [EntAt, MAt, Nat.zero_add] at hS); go_simp; (try with_reducible rfl)
      try simp only [Act.put, sA, sZ, sS]
      refine takeH (i := 4) (d := 17) (v := ?_) rfl rfl (by kernel_rfl) (by kernel_rfl) (by kernel_rfl) (fun _ _ _ h => h) (Or.inl ⟨by kernel_rfl, ?_⟩) hH ?_
      rotate_left 1
      · intro w hS; (try dsimp only [EntAt, MAt, Nat.zero_add] at hS); go_simp; (try with_reducible rfl)
      try simp only [Act.put, sA, sZ, sS]
      refine takeH (i := 5) (d := 18) (v := ?_) rfl rfl (by kernel_rfl) (by kernel_rfl) (by kernel_rfl) (fun _ _ _ h => h) (Or.inl ⟨by kernel_rfl, ?_⟩) hH ?_
      rotate_left 1
      · intro w hS; (try dsimp only [EntAt, MAt, Nat.zero_add] at hS); go_simp; (try with_reducible rfl)
      try simp only [Act.put, sA, sZ, sS]
      refine takeH (i := 6) (d := 19) (v := ?_) rfl rfl (by kernel_rfl) (by kernel_rfl) (by kernel_rfl) (fun _ _ _ h => h) (Or.inl ⟨by kernel_rfl, ?_⟩) hH ?_
      rotate_left 1
      · intro w hS; (try dsimp only [EntAt, MAt, Nat.zero_add] at hS); go_simp; (try with_reducible rfl)
      try simp only [Act.put, sA, sZ, sS]
      refine takeH (i := 7) (d := 20) (v := ?_) rfl rfl (by kernel_rfl) (by kernel_rfl) (by kernel_rfl) (fun _ _ _ h => h) (Or.inl ⟨by kernel_rfl, ?_⟩) hH ?_
      rotate_left 1
      · intro w hS; (try dsimp only [EntAt, MAt, Nat.zero_add] at hS); go_simp; (try with_reducible rfl)
      try simp only [Act.put, sA, sZ, sS]
      refine takeH (i := 8) (d := 21) (v := ?_) rfl rfl (by kernel_rfl) (by kernel_rfl) (by kernel_rfl) (fun _ _ _ h => h) (Or.inl ⟨by kernel_rfl, ?_⟩) hH ?_
      rotate_left 1
      · intro w hS; (try dsimp only [EntAt, MAt, Nat.zero_add] at hS); go_simp; (try with_reducible rfl)
      try simp only [Act.put, sA, sZ, sS]
      refine takeH (i := 9) (d := 22) (v := ?_) rfl rfl (by kernel_rfl) (by kernel_rfl) (by kernel_rfl) (fun _ _ _ h => h) (Or.inl ⟨by kernel_rfl, ?_⟩) hH ?_
      rotate_left 1
      · intro w hS; (try dsimp only [EntAt, MAt, Nat.zero_add] at hS); go_simp; (try with_reducible rfl)
      try simp only [Act.put, sA, sZ, sS]
      refine takeH (i := 10) (d := 23) (v := ?_) rfl rfl (by kernel_rfl) (by kernel_rfl) (by kernel_rfl) (fun _ _ _ h => h) (Or.inl ⟨by kernel_rfl, ?_⟩) hH ?_
      rotate_left 1
      · intro w hS; (try dsimp only [EntAt, MAt, Nat.zero_add] at hS); go_simp; (try with_reducible rfl)
      try simp only [Act.put, sA, sZ, sS]
      refine takeH (i := 11) (d := 24) (v := ?_) rfl rfl (by kernel_rfl) (by kernel_rfl) (by kernel_rfl) (fun _ _ _ h => h) (Or.inl ⟨by kernel_rfl, ?_⟩) hH ?_
      rotate_left 1
      · intro w hS; (try dsimp only [EntAt, MAt, Nat.zero_add] at hS); go_simp; (try with_reducible rfl)
      try simp only [Act.put, sA, sZ, sS]
      refine takeH (i := 14) (d := 27) (v := ?_) rfl rfl (by kernel_rfl) (by kernel_rfl) (by kernel_rfl) (fun _ _ _ h => h) (Or.inl ⟨by kernel_rfl, ?_⟩) hH ?_
      rotate_left 1
      · intro w hS; (try dsimp only [EntAt, MAt, Nat.zero_add] at hS); go_simp; (try with_reducible rfl)
      try simp only [Act.put, sA, sZ, sS]
      refine wpAnyH_ready (rs := [12]) (by kernel_rfl) (by simp) ?_
      refine AllReadyH.cons rfl (fun K hK => ?_) AllReadyH.nil
      go_simp
      refine (HCK.out _ qr).mono ?_
      rintro e W1 ⟨rfl, hb1⟩
      have qz1 := qz.below hb1
      have qb1 := qb.trans (hb1.mono qb.size)
      have qr1 := qr.below hb1
      have hH1 : (fun w' => EntAt w' b off e0 ∧ EntAt w' b (off + m * 4) el) W1 := ⟨hH.1.below hb1, hH.2.below hb1⟩
      clear qz qb qr hb1
      refine hK.out _ _ hH1 (fun h1 => ?_)
      clear hK K
      try simp only [Act.put, sA, sZ, sS]
      clear hH hH1
      refine wpAnyH_ready (rs := [13]) (by kernel_rfl) (by simp) ?_
      refine AllReadyH.cons rfl (fun K hK => ?_) AllReadyH.nil
      go_simp
      refine (HCB.out _).mono ?_
      rintro e W2 ⟨ub, rfl, hub, hb2⟩
      have qz2 := qz1.below hb2
      have qb2 := qb1.trans (hb2.mono qb1.size)
      have qr2 := qr1.below hb2
      have hu2 := hub.mono qb1.size
      have hH2 : (fun w' => EntAt w' b off e0 ∧ EntAt w' b (off + m * 4) el) W2 := ⟨h1.1.below hb2, h1.2.below hb2⟩
      clear qz1 qb1 qr1 hb2 hub
      refine hK.out _ _ hH2 (fun h2 => ?_)
      clear hK K
      try simp only [Act.put, sA, sZ, sS]
      clear hH2 h1
      refine wpAnyH_ready (rs := [15]) (by kernel_rfl) (by simp) ?_
      refine AllReadyH.cons rfl (fun K hK => ?_) AllReadyH.nil
      go_simp
      refine (HCP.out _ qr2).mono ?_
      rintro e W3 ⟨uk, rfl, huk, hb3⟩
      have qz3 := qz2.below hb3
      have qb3 := qb2.trans (hb3.mono qb2.size)
      have hu3 := hu2.below hb3
      have hk3 := huk.mono qb2.size
      have hH3 : (fun w' => EntAt w' b off e0 ∧ EntAt w' b (off + m * 4) el) W3 := ⟨h2.1.below hb3, h2.2.below hb3⟩
      clear qz2 qb2 qr2 hb3 hu2 huk
      refine hK.out _ _ hH3 (fun h3 => ?_)
      clear hK K
      try simp only [Act.put, sA, sZ, sS]
      clear h2 hH3
      obtain ⟨ab, cb, hsb, _⟩ := id hu3.rd
      obtain ⟨ak, ck, hsk, _⟩ := id hk3.rd
      generalize bts.length = bn at hsb
      generalize bks.length = kn at hsk
      subst hsb
      subst hsk
      refine takeH (i := 16) (d := 29) (v := ?_) rfl rfl (by kernel_rfl) (by kernel_rfl) (by kernel_rfl) (fun _ _ _ h => h) (Or.inl ⟨by kernel_rfl, ?_⟩) h3 ?_
      rotate_left 1
      · intro w hS; (try dsimp only [EntAt, MAt, Nat.zero_add] at hS); go_simp; (try with_reducible rfl)
      try simp only [Act.put, sA, sZ, sS]
      have nb := boxT_row qz3 hu3 (by decide)
      have nk := boxT_row qz3 hk3 (by decide)
      obtain ⟨z0, z1, z2, z3, f0, f1, f2, f3⟩ := qz3.facts
      have hH4 : (fun w' => EntAt w' b off e0 ∧ EntAt w' b (off + m * 4) el) ((((W3.setCell ⟨w.heap.size, 0, none⟩ (.string e0.key)).setCell ⟨w.heap.size, 1, none⟩ (.string el.key)).setCell ⟨w.heap.size, 2, none⟩ (.slice ab bn cb)).setCell ⟨w.heap.size, 3, none⟩ (.slice ak kn ck)) := ⟨entAt_set4 h3.1 nbb _ _ _ _ _ _ _ _, entAt_set4 h3.2 nbb _ _ _ _ _ _ _ _⟩
      refine wpAnyH_ready (rs := [17]) (by kernel_rfl) (by simp) ?_
      refine AllReadyH.cons rfl (fun K hK => ?_) AllReadyH.nil
      go_simp
      refine hK.out _ _ hH4 (fun h4 => ?_)
      clear hK K
      try simp only [Act.put, sA, sZ, sS]
      refine takeH (i := 18) (d := 3) (v := ?_) rfl rfl (by kernel_rfl) (by kernel_rfl) (by kernel_rfl) (fun _ _ _ h => h) (Or.inl ⟨by kernel_rfl, ?_⟩) h4 ?_
      rotate_left 1
      · intro w hS; (try dsimp only [EntAt, MAt, Nat.zero_add] at hS); go_simp; (try with_reducible rfl)
      try simp only [Act.put, sA, sZ, sS]
      refine wpAnyH_done (by kernel_rfl) ?_ _
      refine NoPanic.normal ?_
      go_wp2
      exact bodyPost_ret (v := .tuple #[.agg #[.string e0.key, .string el.key, .slice ab bn cb, .slice ak kn ck], .bool true]) (by simp [results, Tryz.results47, go_sem, z0, z1, z2, z3]) rfl (HY.out _ _ _ (row_set (row_set (row_set (row_set hu3 nb) nb) nb) nb) (row_set (row_set (row_set (row_set hk3 nk) nk) nk) nk) (below4 qb3 (Nat.le_refl _) _ _ _ _ _ _ _ _))
end Go.Proofs.YtbefmbjlogkmbaaGreat
