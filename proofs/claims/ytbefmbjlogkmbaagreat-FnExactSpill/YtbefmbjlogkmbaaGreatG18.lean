/- The contracts of the model's TableOk, Entries, May and Found. The contracts of the model's Entries, May and Found. -/
import Derived.Test.YtbefmbjlogkmbaaGreatTabSpec2
namespace Go.Proofs.YtbefmbjlogkmbaaGreat
set_option maxHeartbeats 16000000
set_option maxRecDepth 100000
open Go.RowKit
theorem allF_more : ∀ (bs : List ByteArray) (acc es : List Ent), allF bs acc = some es → ∃ t, es = acc ++ t
  | [], acc, es, h => by rw [allF] at h; cases h; exact ⟨[], by simp⟩
  | b :: r, acc, es, h => by
    rw [allF] at h
    split at h
    · obtain ⟨t, ht⟩ := allF_more r _ _ h; exact ⟨_, by rw [ht, List.append_assoc]⟩
    · cases h
theorem allL_true {T : Tbl} (h : (allL T).2 = true) : okL (allL T).1 = true ∧ (allL T).1 ≠ [] := by
  unfold allL at h ⊢
  split at h
  · cases h
  · rename_i hb
    rw [if_neg hb]
    split at h
    · cases h
    · rename_i es hes
      refine ⟨h, ?_⟩
      simp only
      intro hn
      subst hn
      obtain ⟨b, r, hbr⟩ : ∃ b r, T.blocks = b :: r := by
        cases hT : T.blocks with
        | nil => rw [hT] at hb; simp at hb
        | cons b r => exact ⟨b, r, rfl⟩
      rw [hbr, allF] at hes
      split at hes
      · rename_i hq
        obtain ⟨t, ht⟩ := allF_more r _ _ hes
        rw [List.nil_append] at ht
        have := congrArg List.length ht
        rw [List.length_append, List.length_nil] at this
        omega
      · cases hes
theorem okL_fitsT {es : List Ent} (h : okL es = true) : ∀ x ∈ es, Fits x := fun x hx => by
  have := okE_parts (okL_all h x hx)
  exact ⟨by omega, by omega, by omega, by omega⟩
theorem specTableOk_any (T : Tbl) (vb vk : Value) (w : World) (hi : RdI w vb T.bits) (hr : RdS w vk T.blocks) (hz : ∀ s ∈ T.blocks, s.size ≤ 1000000000) :
    Calls Tryz.prog 114 #[.agg #[.string T.first, .string T.last, vb, vk]] w fun e w' => e = .returned (.bool (tableOk T)) ∧ Below w.heap.size w w' := by
  have ht0 := tblAt_new w T vb vk 72
  have b0 := below1 w (.cells #[.string T.first, .string T.last, vb, vk] 72)
  have HALL := l5All_any T vb vk _ (hr.below b0) hz
  obtain ⟨R, hR⟩ : ∃ R, R = tableOk T := ⟨_, rfl⟩
  rw [← hR]
  obtain ⟨F, hF⟩ : ∃ F, F = allL T := ⟨_, rfl⟩
  have HT := @allL_true T
  unfold tableOk at hR
  rw [← hF] at hR HALL HT
  have HR : Hid (R = (F.2 && decide (T.first = (nth F.1 0).key) && decide (T.last = (nth F.1 (F.1.length - 1)).key) && decide (T.bits = bitsL F.1))) := hR
  have HA : Hid (Calls _ _ _ _ _) := HALL
  have HT2 : Hid (F.2 = true → okL F.1 = true ∧ F.1 ≠ []) := HT
  clear hF hR HALL HT
  obtain ⟨es, is⟩ := F
  simp only at HR HT2
  obtain ⟨d0, d1, d2, d3⟩ := id ht0
  go_enter Tryz.func114, Tryz.ntmps114
  go_wp2_with fail
  refine HA.out.mono ?_
  rintro e w1 ⟨u, rfl, ho1, hb1⟩
  simp only at ho1 ⊢
  have ht1 := ht0.below hb1
  have b1 := b0.trans (hb1.mono b0.size)
  have hi1 := hi.below b1
  clear HA ht0 b0 hb1 d0 d1 d2 d3
  cases is with
  | false =>
    have RES : Hid (R = false) := by unfold Hid; rw [HR.out]; rfl
    go_wp2_with fail
    refine wp_region_noPanic ?_
    refine wp_region_held_drew (S := fun _ => True) (by kernel_rfl) trivial (fun hH => ?_)
    refine tkA 0 10 hH ?_; try simp only [Act.put, sA, sZ, sS]
    refine tkA 1 11 hH ?_; try simp only [Act.put, sA, sZ, sS]
    refine tkS 2 12 hH ?_; try simp only [Act.put, sA, sZ, sS]
    refine tkS 3 13 hH ?_; try simp only [Act.put, sA, sZ, sS]
    refine tkS 4 14 hH ?_; try simp only [Act.put, sA, sZ, sS]
    refine tkS 5 15 hH ?_; try simp only [Act.put, sA, sZ, sS]
    refine tkS 6 16 hH ?_; try simp only [Act.put, sA, sZ, sS]
    refine tkS 7 17 hH ?_; try simp only [Act.put, sA, sZ, sS]
    refine tkS 8 18 hH ?_; try simp only [Act.put, sA, sZ, sS]
    refine tkA 9 19 hH ?_; try simp only [Act.put, sA, sZ, sS]
    refine tkA 10 20 hH ?_; try simp only [Act.put, sA, sZ, sS]
    refine tkS 11 21 hH ?_; try simp only [Act.put, sA, sZ, sS]
    refine tkS 12 22 hH ?_; try simp only [Act.put, sA, sZ, sS]
    refine tkS 13 23 hH ?_; try simp only [Act.put, sA, sZ, sS]
    refine tkS 14 24 hH ?_; try simp only [Act.put, sA, sZ, sS]
    refine tkS 15 25 hH ?_; try simp only [Act.put, sA, sZ, sS]
    refine tkS 16 26 hH ?_; try simp only [Act.put, sA, sZ, sS]
    refine tkS 17 27 hH ?_; try simp only [Act.put, sA, sZ, sS]
    refine tkS 18 28 hH ?_; try simp only [Act.put, sA, sZ, sS]
    refine tkS 19 29 hH ?_; try simp only [Act.put, sA, sZ, sS]
    refine tkS 20 30 hH ?_; try simp only [Act.put, sA, sZ, sS]
    refine tkA 21 31 hH ?_; try simp only [Act.put, sA, sZ, sS]
    refine tkA 22 32 hH ?_; try simp only [Act.put, sA, sZ, sS]
    refine tkS 23 33 hH ?_; try simp only [Act.put, sA, sZ, sS]
    refine tkS 24 34 hH ?_; try simp only [Act.put, sA, sZ, sS]
    refine tkS 25 35 hH ?_; try simp only [Act.put, sA, sZ, sS]
    refine tkS 26 36 hH ?_; try simp only [Act.put, sA, sZ, sS]
    refine tkS 27 37 hH ?_; try simp only [Act.put, sA, sZ, sS]
    refine tkA 28 38 hH ?_; try simp only [Act.put, sA, sZ, sS]
    refine tkA 29 2 hH ?_; try simp only [Act.put, sA, sZ, sS]
    refine wpAnyH_done (by kernel_rfl) ?_ _
    refine NoPanic.normal ?_
    go_wp2
    go_ret
    exact ⟨by have h := RES.out; subst h; rfl, b1.drew⟩
  | true =>
    obtain ⟨hok, hne⟩ := HT2.out rfl
    have HFT : Hid (∀ x ∈ es, Fits x) := okL_fitsT hok
    have HKS : Hid (∀ e ∈ es, e.key.size ≤ 1000000000) := fun e he => by have := okE_parts (okL_all hok e he); omega
    have hl3 := okL_len hok
    have hlp : 0 < es.length := List.length_pos_iff.2 hne
    obtain ⟨aU, cU, hvU, hU1, hU2, _⟩ := id ho1.rd
    subst hvU
    obtain ⟨b, off, rfl, hc0⟩ := ho1.rd.at rfl 0 hlp
    obtain ⟨b', off', hb', hcl⟩ := ho1.rd.at rfl (es.length - 1) (by omega)
    cases hb'
    obtain ⟨m, hm⟩ : ∃ m, m = es.length - 1 := ⟨_, rfl⟩
    rw [← hm] at hcl HR
    rw [Nat.zero_mul, Nat.add_zero] at hc0
    obtain ⟨e0, he0⟩ : ∃ e0, e0 = nth es 0 := ⟨_, rfl⟩
    obtain ⟨el, hel⟩ : ∃ el, el = nth es m := ⟨_, rfl⟩
    rw [← he0] at hc0 HR
    rw [← hel] at hcl HR
    have HR2 : Hid (R = (decide (T.first = e0.key) && decide (T.last = el.key) && decide (T.bits = bitsL es))) := by unfold Hid; rw [HR.out]; simp
    obtain ⟨nn, hnn⟩ : ∃ nn, nn = es.length := ⟨_, rfl⟩
    have HCB : Hid (∀ W, OwnE W (w.alloc (.cells #[.string T.first, .string T.last, vb, vk] 72)).heap.size (.slice (some ⟨b, off, none⟩) nn cU) es → Calls Tryz.prog 105 #[.slice (some ⟨b, off, none⟩) nn cU] W fun e w' => ∃ u, e = .returned u ∧ OwnI w' W.heap.size u (bitsL es) ∧ Below W.heap.size W w') := fun W h => by rw [hnn] at h ⊢; exact l5Bits_any _ es W h.rd HKS.out (by omega)
    rw [← hnn] at ho1 ⊢
    have hnm : (nn : Int) - 1 = (m : Int) := by omega
    have hwm : IntKind.i64.wrap (m : Int) = (m : Int) := by rw [IntKind.wrap_i64]; omega
    have hmn : m < nn := by omega
    have hn0 : 0 < nn := by omega
    have hn3 : nn ≤ 300 := by omega
    clear HR HT2 hok hne hnn hm he0 hel hl3 hlp hU1
    obtain ⟨t0, t1, t2, t3⟩ := id ht1
    have KB1 := beq_kEq T.first e0.key
    have KB2 := beq_kEq T.last el.key
    cases hk1 : kEq T.first e0.key with
    | false =>
      rw [hk1] at KB1
      have RES : Hid (R = false) := by unfold Hid; rw [HR2.out]; unfold kEq at hk1; rw [hk1]; rfl
      go_wp2_with fail
      refine wp_region_noPanic ?_
      refine wp_region_held_drew (S := fun w' => (w'.cell? ⟨w.heap.size, 0, none⟩ = some (.string T.first) ∧ w'.cell? ⟨w.heap.size, 1, none⟩ = some (.string T.last) ∧ w'.cell? ⟨w.heap.size, 2, none⟩ = some vb) ∧ EntAt w' b off e0 ∧ EntAt w' b (off + m * 4) el) (by kernel_rfl) ⟨⟨t0, t1, t2⟩, hc0, hcl⟩ (fun hH => ?_)
      refine tkA 0 10 hH ?_; try simp only [Act.put, sA, sZ, sS]
      refine tkA 1 11 hH ?_; try simp only [Act.put, sA, sZ, sS]
      refine tkA 2 12 hH ?_; try simp only [Act.put, sA, sZ, sS]
      refine tkA 3 13 hH ?_; try simp only [Act.put, sA, sZ, sS]
      refine tkA 4 14 hH ?_; try simp only [Act.put, sA, sZ, sS]
      refine tkA 5 15 hH ?_; try simp only [Act.put, sA, sZ, sS]
      refine tkA 6 16 hH ?_; try simp only [Act.put, sA, sZ, sS]
      refine tkA 7 17 hH ?_; try simp only [Act.put, sA, sZ, sS]
      refine tkA 8 18 hH ?_; try simp only [Act.put, sA, sZ, sS]
      refine tkA 9 19 hH ?_; try simp only [Act.put, sA, sZ, sS]
      refine tkA 10 20 hH ?_; try simp only [Act.put, sA, sZ, sS]
      refine tkS 11 21 hH ?_; try simp only [Act.put, sA, sZ, sS]
      refine tkS 12 22 hH ?_; try simp only [Act.put, sA, sZ, sS]
      refine tkS 13 23 hH ?_; try simp only [Act.put, sA, sZ, sS]
      refine tkS 14 24 hH ?_; try simp only [Act.put, sA, sZ, sS]
      refine tkS 15 25 hH ?_; try simp only [Act.put, sA, sZ, sS]
      refine tkS 16 26 hH ?_; try simp only [Act.put, sA, sZ, sS]
      refine tkS 17 27 hH ?_; try simp only [Act.put, sA, sZ, sS]
      refine tkS 18 28 hH ?_; try simp only [Act.put, sA, sZ, sS]
      refine tkS 19 29 hH ?_; try simp only [Act.put, sA, sZ, sS]
      refine tkS 20 30 hH ?_; try simp only [Act.put, sA, sZ, sS]
      refine tkA 21 31 hH ?_; try simp only [Act.put, sA, sZ, sS]
      refine tkA 22 32 hH ?_; try simp only [Act.put, sA, sZ, sS]
      refine tkS 23 33 hH ?_; try simp only [Act.put, sA, sZ, sS]
      refine tkS 24 34 hH ?_; try simp only [Act.put, sA, sZ, sS]
      refine tkS 25 35 hH ?_; try simp only [Act.put, sA, sZ, sS]
      refine tkS 26 36 hH ?_; try simp only [Act.put, sA, sZ, sS]
      refine tkS 27 37 hH ?_; try simp only [Act.put, sA, sZ, sS]
      refine tkA 28 38 hH ?_; try simp only [Act.put, sA, sZ, sS]
      refine tkA 29 2 hH ?_; try simp only [Act.put, sA, sZ, sS]
      refine wpAnyH_done (by kernel_rfl) ?_ _
      refine NoPanic.normal ?_
      go_wp2
      go_ret
      exact ⟨by have h := RES.out; subst h; rfl, b1.drew⟩
    | true =>
      rw [hk1] at KB1
      cases hk2 : kEq T.last el.key with
      | false =>
        rw [hk2] at KB2
        have RES : Hid (R = false) := by unfold Hid; rw [HR2.out]; unfold kEq at hk2; rw [hk2]; simp
        go_wp2_with fail
        refine wp_region_noPanic ?_
        refine wp_region_held_drew (S := fun w' => (w'.cell? ⟨w.heap.size, 0, none⟩ = some (.string T.first) ∧ w'.cell? ⟨w.heap.size, 1, none⟩ = some (.string T.last) ∧ w'.cell? ⟨w.heap.size, 2, none⟩ = some vb) ∧ EntAt w' b off e0 ∧ EntAt w' b (off + m * 4) el) (by kernel_rfl) ⟨⟨t0, t1, t2⟩, hc0, hcl⟩ (fun hH => ?_)
        refine tkA 0 10 hH ?_; try simp only [Act.put, sA, sZ, sS]
        refine tkA 1 11 hH ?_; try simp only [Act.put, sA, sZ, sS]
        refine tkA 2 12 hH ?_; try simp only [Act.put, sA, sZ, sS]
        refine tkA 3 13 hH ?_; try simp only [Act.put, sA, sZ, sS]
        refine tkA 4 14 hH ?_; try simp only [Act.put, sA, sZ, sS]
        refine tkA 5 15 hH ?_; try simp only [Act.put, sA, sZ, sS]
        refine tkA 6 16 hH ?_; try simp only [Act.put, sA, sZ, sS]
        refine tkA 7 17 hH ?_; try simp only [Act.put, sA, sZ, sS]
        refine tkA 8 18 hH ?_; try simp only [Act.put, sA, sZ, sS]
        refine tkA 9 19 hH ?_; try simp only [Act.put, sA, sZ, sS]
        refine tkA 10 20 hH ?_; try simp only [Act.put, sA, sZ, sS]
        refine tkA 11 21 hH ?_; try simp only [Act.put, sA, sZ, sS]
        refine tkA 12 22 hH ?_; try simp only [Act.put, sA, sZ, sS]
        refine tkA 13 23 hH ?_; try simp only [Act.put, sA, sZ, sS]
        refine tkA 14 24 hH ?_; try simp only [Act.put, sA, sZ, sS]
        refine tkA 15 25 hH ?_; try simp only [Act.put, sA, sZ, sS]
        refine tkA 16 26 hH ?_; try simp only [Act.put, sA, sZ, sS]
        refine tkA 17 27 hH ?_; try simp only [Act.put, sA, sZ, sS]
        refine tkA 18 28 hH ?_; try simp only [Act.put, sA, sZ, sS]
        refine tkA 19 29 hH ?_; try simp only [Act.put, sA, sZ, sS]
        refine tkA 20 30 hH ?_; try simp only [Act.put, sA, sZ, sS]
        refine tkA 21 31 hH ?_; try simp only [Act.put, sA, sZ, sS]
        refine tkA 22 32 hH ?_; try simp only [Act.put, sA, sZ, sS]
        refine tkS 23 33 hH ?_; try simp only [Act.put, sA, sZ, sS]
        refine tkS 24 34 hH ?_; try simp only [Act.put, sA, sZ, sS]
        refine tkS 25 35 hH ?_; try simp only [Act.put, sA, sZ, sS]
        refine tkS 26 36 hH ?_; try simp only [Act.put, sA, sZ, sS]
        refine tkS 27 37 hH ?_; try simp only [Act.put, sA, sZ, sS]
        refine tkA 28 38 hH ?_; try simp only [Act.put, sA, sZ, sS]
        refine tkA 29 2 hH ?_; try simp only [Act.put, sA, sZ, sS]
        refine wpAnyH_done (by kernel_rfl) ?_ _
        refine NoPanic.normal ?_
        go_wp2
        go_ret
        exact ⟨by have h := RES.out; subst h; rfl, b1.drew⟩
      | true =>
        rw [hk2] at KB2
        have RES : Hid (R = decide (T.bits = bitsL es)) := by unfold Hid; rw [HR2.out]; unfold kEq at hk1 hk2; rw [hk1, hk2]; simp
        go_wp2_with fail
        refine wp_region_noPanic ?_
        refine wp_region_held_drew (S := fun w' => (w'.cell? ⟨w.heap.size, 0, none⟩ = some (.string T.first) ∧ w'.cell? ⟨w.heap.size, 1, none⟩ = some (.string T.last) ∧ w'.cell? ⟨w.heap.size, 2, none⟩ = some vb) ∧ EntAt w' b off e0 ∧ EntAt w' b (off + m * 4) el) (by kernel_rfl) ⟨⟨t0, t1, t2⟩, hc0, hcl⟩ (fun hH => ?_)
        have qo : OwnE w1.drew _ _ es := ho1.drewN 1
        have qb := b1.drew
        have qi : RdI w1.drew vb T.bits := hi1.drewN 1
        clear ho1 b1 hi1 ht1 t0 t1 t2 t3 hc0 hcl
        revert qo
        revert qb
        revert qi
        revert hH
        generalize w1.drew = W0
        intro hH qi qb qo
        refine tkA 0 10 hH ?_; try simp only [Act.put, sA, sZ, sS]
        refine tkA 1 11 hH ?_; try simp only [Act.put, sA, sZ, sS]
        refine tkA 2 12 hH ?_; try simp only [Act.put, sA, sZ, sS]
        refine tkA 3 13 hH ?_; try simp only [Act.put, sA, sZ, sS]
        refine tkA 4 14 hH ?_; try simp only [Act.put, sA, sZ, sS]
        refine tkA 5 15 hH ?_; try simp only [Act.put, sA, sZ, sS]
        refine tkA 6 16 hH ?_; try simp only [Act.put, sA, sZ, sS]
        refine tkA 7 17 hH ?_; try simp only [Act.put, sA, sZ, sS]
        refine tkA 8 18 hH ?_; try simp only [Act.put, sA, sZ, sS]
        refine tkA 9 19 hH ?_; try simp only [Act.put, sA, sZ, sS]
        refine tkA 10 20 hH ?_; try simp only [Act.put, sA, sZ, sS]
        refine tkA 11 21 hH ?_; try simp only [Act.put, sA, sZ, sS]
        refine tkA 12 22 hH ?_; try simp only [Act.put, sA, sZ, sS]
        refine tkA 13 23 hH ?_; try simp only [Act.put, sA, sZ, sS]
        refine tkA 14 24 hH ?_; try simp only [Act.put, sA, sZ, sS]
        refine tkA 15 25 hH ?_; try simp only [Act.put, sA, sZ, sS]
        refine tkA 16 26 hH ?_; try simp only [Act.put, sA, sZ, sS]
        refine tkA 17 27 hH ?_; try simp only [Act.put, sA, sZ, sS]
        refine tkA 18 28 hH ?_; try simp only [Act.put, sA, sZ, sS]
        refine tkA 19 29 hH ?_; try simp only [Act.put, sA, sZ, sS]
        refine tkA 20 30 hH ?_; try simp only [Act.put, sA, sZ, sS]
        refine tkA 21 31 hH ?_; try simp only [Act.put, sA, sZ, sS]
        refine tkA 22 32 hH ?_; try simp only [Act.put, sA, sZ, sS]
        refine tkA 23 33 hH ?_; try simp only [Act.put, sA, sZ, sS]
        refine tkA 24 34 hH ?_; try simp only [Act.put, sA, sZ, sS]
        refine tkA 25 35 hH ?_; try simp only [Act.put, sA, sZ, sS]
        refine wpAnyH_ready (rs := [26]) (by kernel_rfl) (by simp) ?_
        refine AllReadyH.cons rfl (fun K hK => ?_) AllReadyH.nil
        go_simp
        refine (HCB.out _ qo).mono ?_
        rintro e w3 ⟨ub, rfl, hub, hb3⟩
        have hbc := (bcell hb3).1
        have hH3 : (fun w' => (w'.cell? ⟨w.heap.size, 0, none⟩ = some (.string T.first) ∧ w'.cell? ⟨w.heap.size, 1, none⟩ = some (.string T.last) ∧ w'.cell? ⟨w.heap.size, 2, none⟩ = some vb) ∧ EntAt w' b off e0 ∧ EntAt w' b (off + m * 4) el) w3 := ⟨⟨(hbc _ _ (World.block_lt_of_cell? W0 _ hH.1.1)).trans hH.1.1, (hbc _ _ (World.block_lt_of_cell? W0 _ hH.1.2.1)).trans hH.1.2.1, (hbc _ _ (World.block_lt_of_cell? W0 _ hH.1.2.2)).trans hH.1.2.2⟩, hH.2.1.below hb3, hH.2.2.below hb3⟩
        replace qi := qi.below hb3
        replace qb := qb.trans (hb3.mono qb.size)
        refine hK.out _ _ hH3 (fun h4 => ?_)
        clear hK K hH hH3 hb3 hbc
        try simp only [Act.put, sA, sZ, sS]
        refine wpAnyH_ready (rs := [27]) (by kernel_rfl) (by simp) ?_
        refine AllReadyH.cons rfl (fun K hK => ?_) AllReadyH.nil
        go_simp
        refine (l5Same_any vb ub T.bits (bitsL es) _ qi hub.rd).mono ?_
        rw [← RES.out]
        rintro e w4 ⟨rfl, n4, rfl⟩
        refine hK.out _ _ h4 (fun h5 => ?_)
        clear hK K h4
        try simp only [Act.put, sA, sZ, sS]
        refine tkA 28 38 h5 ?_; try simp only [Act.put, sA, sZ, sS]
        refine tkA 29 2 h5 ?_; try simp only [Act.put, sA, sZ, sS]
        refine wpAnyH_done (by kernel_rfl) ?_ _
        refine NoPanic.normal ?_
        go_wp2
        go_ret
        exact ⟨rfl, below_drewN qb n4⟩
open Go.RowKit
theorem entriesL_no {T : Tbl} (h : tableOk T = false) : entriesL T = [] := by unfold entriesL; rw [if_neg (by simp [h])]
theorem entriesL_yes {T : Tbl} (h : tableOk T = true) : entriesL T = (allL T).1 := by unfold entriesL; rw [if_pos h]
theorem specEntries_any (T : Tbl) (vb vk : Value) (w : World) (hi : RdI w vb T.bits) (hr : RdS w vk T.blocks) (hz : ∀ s ∈ T.blocks, s.size ≤ 1000000000) :
    Calls Tryz.prog 79 #[.agg #[.string T.first, .string T.last, vb, vk]] w fun e w' => ∃ u, e = .returned u ∧ OwnE w' w.heap.size u (entriesL T) ∧ Below w.heap.size w w' := by
  have ht0 := tblAt_new w T vb vk 72
  have b0 := below1 w (.cells #[.string T.first, .string T.last, vb, vk] 72)
  have HALL := l5All_any T vb vk _ (hr.below b0) hz
  have HA : Hid (Calls _ _ _ _ _) := HALL
  have HOK : Hid (∀ W, RdI W vb T.bits → RdS W vk T.blocks → Calls Tryz.prog 114 #[.agg #[.string T.first, .string T.last, vb, vk]] W fun e w' => e = .returned (.bool (tableOk T)) ∧ Below W.heap.size W w') := fun W h1 h2 => specTableOk_any T vb vk W h1 h2 hz
  have HE1 : Hid (tableOk T = false → entriesL T = []) := entriesL_no
  have HE2 : Hid (tableOk T = true → entriesL T = (allL T).1) := entriesL_yes
  clear HALL
  generalize entriesL T = E at HE1 HE2 ⊢
  generalize tableOk T = ok at HOK HE1 HE2
  generalize allL T = F at HA HE2
  obtain ⟨es, is⟩ := F
  simp only at HE2
  obtain ⟨d0, d1, d2, d3⟩ := id ht0
  go_enter Tryz.func79, Tryz.ntmps79
  go_wp2_with fail
  refine HA.out.mono ?_
  rintro e w1 ⟨u, rfl, ho1, hb1⟩
  simp only at ho1 ⊢
  have ht1 := ht0.below hb1
  have b1 := b0.trans (hb1.mono b0.size)
  have hs0 := b0.size
  clear HA ht0 b0 hb1 d0 d1 d2 d3
  obtain ⟨d0, d1, d2, d3⟩ := id ht1
  go_wp2_with fail
  refine (HOK.out _ (hi.below b1) (hr.below b1)).mono ?_
  rintro e w2 ⟨rfl, hb2⟩
  have ho2 := ho1.below hb2
  have b2 := b1.trans (hb2.mono b1.size)
  cases ok with
  | false =>
    have HE : Hid (E = []) := HE1.out rfl
    go_wp2
    go_ret
    exact ⟨_, rfl, by rw [HE.out]; exact (ownE_new w2).mono b2.size, b2.alloc b2.size _⟩
  | true =>
    have HE : Hid (E = es) := HE2.out rfl
    go_wp2
    go_ret
    exact ⟨_, rfl, by rw [HE.out]; exact ho2.mono hs0, b2⟩
end Go.Proofs.YtbefmbjlogkmbaaGreat
