/- The contract of the program's unpackedTable. -/
import Derived.Test.YtbefmbjlogkmbaaGreatG46
namespace Go.Proofs.YtbefmbjlogkmbaaGreat
set_option maxHeartbeats 16000000
set_option maxRecDepth 100000
open Go.RowKit
theorem allI_parts (T : Tbl) : ((allI T).2 = true → okL (allI T).1 = true ∧ (allI T).1 ≠ [] ∧ tableOk T = (decide (T.first = (nth (allI T).1 0).key) && decide (T.last = (nth (allI T).1 ((allI T).1.length - 1)).key) && decide (T.bits = bitsL (allI T).1)) ∧ (tableOk T = true → entriesL T = (allI T).1)) ∧ ((allI T).2 = false → tableOk T = false) := by
  unfold allI
  by_cases h : (allL T).2 = true
  · rw [if_pos h]
    have h2 := allL_true h
    refine ⟨fun _ => ⟨h2.1, h2.2, ?_, fun ht => ?_⟩, fun h3 => by rw [h] at h3; cases h3⟩
    · unfold tableOk; rw [h]; simp
    · unfold entriesL; rw [if_pos ht]
  · rw [if_neg h]
    refine ⟨(fun h3 => by cases h3), fun _ => ?_⟩
    unfold tableOk
    simp [h]
theorem ent_none {T : Tbl} (h : tableOk T = false) : entriesL T = [] := by unfold entriesL; rw [if_neg (by simp [h])]
theorem unpackedTable_any (T : Tbl) (vb vk : Value) (w : World) (hi : RdI w vb T.bits) (hr : RdS w vk T.blocks) (hz : ∀ s ∈ T.blocks, s.size ≤ 1000000000) :
    Calls Tryz.prog 84 #[.agg #[.string T.first, .string T.last, vb, vk]] w fun e w' => UnpPost w (entriesL T, tableOk T) e w' := by
  have ht0 := tblAt_new w T vb vk 72
  have b0 := below1 w (.cells #[.string T.first, .string T.last, vb, vk] 72)
  have HALL := unpackedBlocks_any T vk _ (hr.below b0) hz
  obtain ⟨P, hP⟩ : ∃ P, P = (entriesL T, tableOk T) := ⟨_, rfl⟩
  rw [← hP]
  obtain ⟨F, hF⟩ : ∃ F, F = allI T := ⟨_, rfl⟩
  have HT := allI_parts T
  rw [← hF] at HALL HT
  have HA : Hid (Calls _ _ _ _ _) := HALL
  have HNO : Hid (tableOk T = false → P = ([], false)) := fun h => by rw [hP, h, ent_none h]
  have HF0 : Hid (F.2 = false → P = ([], false)) := fun h => HNO.out (HT.2 h)
  have HT2 : Hid (F.2 = true → okL F.1 = true ∧ F.1 ≠ [] ∧ tableOk T = (decide (T.first = (nth F.1 0).key) && decide (T.last = (nth F.1 (F.1.length - 1)).key) && decide (T.bits = bitsL F.1)) ∧ (tableOk T = true → entriesL T = F.1)) := HT.1
  have HPP : Hid (P = (entriesL T, tableOk T)) := hP
  clear hF HALL HT hP
  obtain ⟨es, is⟩ := F
  simp only at HF0 HT2
  obtain ⟨d0, d1, d2, d3⟩ := id ht0
  obtain ⟨ak, ck, hvk, _⟩ := id hr
  generalize T.blocks.length = kn at hvk
  subst hvk
  go_enter Tryz.func84, Tryz.ntmps84
  go_wp2_with fail
  refine HA.out.mono ?_
  rintro e w1 ⟨u, rfl, ho1, hb1⟩
  simp only at ho1 ⊢
  have ht1 := ht0.below hb1
  have b1 := b0.trans (hb1.mono b0.size)
  have hi1 := hi.below b1
  clear HA ht0 b0 hb1 d0 d1 d2 d3
  cases is with
  | false =>
    have RES : Hid (P = ([], false)) := HF0.out rfl
    go_wp2_with fail
    refine wp_region_noPanic ?_
    refine wp_region_held_drew (S := fun _ => True) (by kernel_rfl) trivial (fun hH => ?_)
    refine tkA 0 12 hH ?_; try simp only [Act.put, sA, sZ, sS]
    refine tkA 1 13 hH ?_; try simp only [Act.put, sA, sZ, sS]
    refine tkA 2 14 hH ?_; try simp only [Act.put, sA, sZ, sS]
    refine tkS 3 15 hH ?_; try simp only [Act.put, sA, sZ, sS]
    refine tkS 4 16 hH ?_; try simp only [Act.put, sA, sZ, sS]
    refine tkS 5 17 hH ?_; try simp only [Act.put, sA, sZ, sS]
    refine tkS 6 18 hH ?_; try simp only [Act.put, sA, sZ, sS]
    refine tkS 7 19 hH ?_; try simp only [Act.put, sA, sZ, sS]
    refine tkS 8 20 hH ?_; try simp only [Act.put, sA, sZ, sS]
    refine tkS 9 21 hH ?_; try simp only [Act.put, sA, sZ, sS]
    refine tkA 10 22 hH ?_; try simp only [Act.put, sA, sZ, sS]
    refine tkA 11 23 hH ?_; try simp only [Act.put, sA, sZ, sS]
    refine tkS 12 24 hH ?_; try simp only [Act.put, sA, sZ, sS]
    refine tkS 13 25 hH ?_; try simp only [Act.put, sA, sZ, sS]
    refine tkS 14 26 hH ?_; try simp only [Act.put, sA, sZ, sS]
    refine tkS 15 27 hH ?_; try simp only [Act.put, sA, sZ, sS]
    refine tkS 16 28 hH ?_; try simp only [Act.put, sA, sZ, sS]
    refine tkS 17 29 hH ?_; try simp only [Act.put, sA, sZ, sS]
    refine tkS 18 30 hH ?_; try simp only [Act.put, sA, sZ, sS]
    refine tkS 19 31 hH ?_; try simp only [Act.put, sA, sZ, sS]
    refine tkS 20 32 hH ?_; try simp only [Act.put, sA, sZ, sS]
    refine tkS 21 33 hH ?_; try simp only [Act.put, sA, sZ, sS]
    refine tkA 22 34 hH ?_; try simp only [Act.put, sA, sZ, sS]
    refine wpAnyH_done (by kernel_rfl) ?_ _
    refine NoPanic.normal ?_
    go_wp2
    go_ret2
    exact unpPost_no RES.out (ownE_new _) b1.size (b1.drew.alloc b1.size _)
  | true =>
    obtain ⟨hok, hne, htk, hte⟩ := HT2.out rfl
    have HFT : Hid (∀ e ∈ es, e.key.size ≤ 1000000000) := fun e he => by have := okE_parts (okL_all hok e he); omega
    have HNE : Hid (es ≠ []) := hne
    have hl3 := okL_len hok
    have hlp : 0 < es.length := List.length_pos_iff.2 hne
    obtain ⟨aU, cU, hvU, hU1, hU2, _⟩ := id ho1.rd
    subst hvU
    obtain ⟨b, off, rfl, hc0⟩ := ho1.rd.at rfl 0 hlp
    obtain ⟨b', off', hb', hcl⟩ := ho1.rd.at rfl (es.length - 1) (by omega)
    cases hb'
    obtain ⟨m, hm⟩ : ∃ m, m = es.length - 1 := ⟨_, rfl⟩
    rw [← hm] at hcl htk
    rw [Nat.zero_mul, Nat.add_zero] at hc0
    obtain ⟨e0, he0⟩ : ∃ e0, e0 = nth es 0 := ⟨_, rfl⟩
    obtain ⟨el, hel⟩ : ∃ el, el = nth es m := ⟨_, rfl⟩
    rw [← he0] at hc0 htk
    rw [← hel] at hcl htk
    have HR2 : Hid (tableOk T = (decide (T.first = e0.key) && decide (T.last = el.key) && decide (T.bits = bitsL es))) := htk
    have HTE : Hid (tableOk T = true → P = (es, true)) := fun h => by rw [HPP.out, h, hte h]
    obtain ⟨nn, hnn⟩ : ∃ nn, nn = es.length := ⟨_, rfl⟩
    have HCK : Hid (∀ W, OwnE W (w.alloc (.cells #[.string T.first, .string T.last, vb, .slice ak kn ck] 72)).heap.size (.slice (some ⟨b, off, none⟩) nn cU) es → Calls Tryz.prog 74 #[.slice (some ⟨b, off, none⟩) nn cU] W fun e w' => e = .returned (MV (mKeys es)) ∧ Below W.heap.size W w') := fun W h => by rw [hnn] at h ⊢; exact marksOfKeys_any _ es W h.rd HFT.out
    have HMK : Hid (mBits T.bits = mKeys es ↔ T.bits = bitsL es) := mBits_keys hne
    have hML := mKeys_lt es
    have hBL := mBits_lt T.bits
    have HCM : Hid (∀ W, RdI W vb T.bits → Calls Tryz.prog 118 #[vb] W fun e w' => e = .returned (MV (mBits T.bits)) ∧ Below W.heap.size W w') := fun W h => marksOfBits_any _ _ W h
    rw [← hnn] at ho1 ⊢
    have hnm : (nn : Int) - 1 = (m : Int) := by omega
    have hwm : IntKind.i64.wrap (m : Int) = (m : Int) := by rw [IntKind.wrap_i64]; omega
    have hmn : m < nn := by omega
    have hn0 : 0 < nn := by omega
    have hn3 : nn ≤ 300 := by omega
    clear HF0 HT2 hok hne hnn hm he0 hel hl3 hlp hU1 htk hte HNE HFT HPP
    obtain ⟨t0, t1, t2, t3⟩ := id ht1
    have KB1 := beq_kEq T.first e0.key
    have KB2 := beq_kEq T.last el.key
    cases hk1 : kEq T.first e0.key with
    | false =>
      rw [hk1] at KB1
      have RES : Hid (P = ([], false)) := HNO.out (by rw [HR2.out]; unfold kEq at hk1; rw [hk1]; rfl)
      go_wp2_with fail
      refine wp_region_noPanic ?_
      refine wp_region_held_drew (S := fun w' => (w'.cell? ⟨w.heap.size, 0, none⟩ = some (.string T.first) ∧ w'.cell? ⟨w.heap.size, 1, none⟩ = some (.string T.last) ∧ w'.cell? ⟨w.heap.size, 2, none⟩ = some vb) ∧ EntAt w' b off e0 ∧ EntAt w' b (off + m * 4) el) (by kernel_rfl) ⟨⟨t0, t1, t2⟩, hc0, hcl⟩ (fun hH => ?_)
      refine tkA 0 12 hH ?_; try simp only [Act.put, sA, sZ, sS]
      refine tkA 1 13 hH ?_; try simp only [Act.put, sA, sZ, sS]
      refine tkA 2 14 hH ?_; try simp only [Act.put, sA, sZ, sS]
      refine tkA 3 15 hH ?_; try simp only [Act.put, sA, sZ, sS]
      refine tkA 4 16 hH ?_; try simp only [Act.put, sA, sZ, sS]
      refine tkA 5 17 hH ?_; try simp only [Act.put, sA, sZ, sS]
      refine tkA 6 18 hH ?_; try simp only [Act.put, sA, sZ, sS]
      refine tkA 7 19 hH ?_; try simp only [Act.put, sA, sZ, sS]
      refine tkA 8 20 hH ?_; try simp only [Act.put, sA, sZ, sS]
      refine tkA 9 21 hH ?_; try simp only [Act.put, sA, sZ, sS]
      refine tkA 10 22 hH ?_; try simp only [Act.put, sA, sZ, sS]
      refine tkA 11 23 hH ?_; try simp only [Act.put, sA, sZ, sS]
      refine tkS 12 24 hH ?_; try simp only [Act.put, sA, sZ, sS]
      refine tkS 13 25 hH ?_; try simp only [Act.put, sA, sZ, sS]
      refine tkS 14 26 hH ?_; try simp only [Act.put, sA, sZ, sS]
      refine tkS 15 27 hH ?_; try simp only [Act.put, sA, sZ, sS]
      refine tkS 16 28 hH ?_; try simp only [Act.put, sA, sZ, sS]
      refine tkS 17 29 hH ?_; try simp only [Act.put, sA, sZ, sS]
      refine tkS 18 30 hH ?_; try simp only [Act.put, sA, sZ, sS]
      refine tkS 19 31 hH ?_; try simp only [Act.put, sA, sZ, sS]
      refine tkS 20 32 hH ?_; try simp only [Act.put, sA, sZ, sS]
      refine tkS 21 33 hH ?_; try simp only [Act.put, sA, sZ, sS]
      refine tkA 22 34 hH ?_; try simp only [Act.put, sA, sZ, sS]
      refine wpAnyH_done (by kernel_rfl) ?_ _
      refine NoPanic.normal ?_
      go_wp2
      go_ret2
      exact unpPost_no RES.out (ownE_new _) b1.size (b1.drew.alloc b1.size _)
    | true =>
      rw [hk1] at KB1
      cases hk2 : kEq T.last el.key with
      | false =>
        rw [hk2] at KB2
        have RES : Hid (P = ([], false)) := HNO.out (by rw [HR2.out]; unfold kEq at hk2; rw [hk2]; simp)
        go_wp2_with fail
        refine wp_region_noPanic ?_
        refine wp_region_held_drew (S := fun w' => (w'.cell? ⟨w.heap.size, 0, none⟩ = some (.string T.first) ∧ w'.cell? ⟨w.heap.size, 1, none⟩ = some (.string T.last) ∧ w'.cell? ⟨w.heap.size, 2, none⟩ = some vb) ∧ EntAt w' b off e0 ∧ EntAt w' b (off + m * 4) el) (by kernel_rfl) ⟨⟨t0, t1, t2⟩, hc0, hcl⟩ (fun hH => ?_)
        refine tkA 0 12 hH ?_; try simp only [Act.put, sA, sZ, sS]
        refine tkA 1 13 hH ?_; try simp only [Act.put, sA, sZ, sS]
        refine tkA 2 14 hH ?_; try simp only [Act.put, sA, sZ, sS]
        refine tkA 3 15 hH ?_; try simp only [Act.put, sA, sZ, sS]
        refine tkA 4 16 hH ?_; try simp only [Act.put, sA, sZ, sS]
        refine tkA 5 17 hH ?_; try simp only [Act.put, sA, sZ, sS]
        refine tkA 6 18 hH ?_; try simp only [Act.put, sA, sZ, sS]
        refine tkA 7 19 hH ?_; try simp only [Act.put, sA, sZ, sS]
        refine tkA 8 20 hH ?_; try simp only [Act.put, sA, sZ, sS]
        refine tkA 9 21 hH ?_; try simp only [Act.put, sA, sZ, sS]
        refine tkA 10 22 hH ?_; try simp only [Act.put, sA, sZ, sS]
        refine tkA 11 23 hH ?_; try simp only [Act.put, sA, sZ, sS]
        refine tkA 12 24 hH ?_; try simp only [Act.put, sA, sZ, sS]
        refine tkA 13 25 hH ?_; try simp only [Act.put, sA, sZ, sS]
        refine tkA 14 26 hH ?_; try simp only [Act.put, sA, sZ, sS]
        refine tkA 15 27 hH ?_; try simp only [Act.put, sA, sZ, sS]
        refine tkA 16 28 hH ?_; try simp only [Act.put, sA, sZ, sS]
        refine tkA 17 29 hH ?_; try simp only [Act.put, sA, sZ, sS]
        refine tkA 18 30 hH ?_; try simp only [Act.put, sA, sZ, sS]
        refine tkA 19 31 hH ?_; try simp only [Act.put, sA, sZ, sS]
        refine tkA 20 32 hH ?_; try simp only [Act.put, sA, sZ, sS]
        refine tkA 21 33 hH ?_; try simp only [Act.put, sA, sZ, sS]
        refine tkA 22 34 hH ?_; try simp only [Act.put, sA, sZ, sS]
        refine wpAnyH_done (by kernel_rfl) ?_ _
        refine NoPanic.normal ?_
        go_wp2
        go_ret2
        exact unpPost_no RES.out (ownE_new _) b1.size (b1.drew.alloc b1.size _)
      | true =>
        rw [hk2] at KB2
        have RES : Hid (tableOk T = decide (mBits T.bits = mKeys es)) := by unfold Hid; rw [HR2.out]; unfold kEq at hk1 hk2; rw [hk1, hk2]; simp [HMK.out]
        have hE := run_eq_marks (mBits T.bits) (mKeys es) hBL hML
        generalize decide (mBits T.bits = mKeys es) = r at hE RES
        generalize mBits T.bits = M1 at hE HCM
        generalize mKeys es = M2 at hE HCK
        clear HMK hML hBL
        go_wp2_with fail
        refine wp_region_noPanic ?_
        refine wp_region_held_drew (S := fun w' => (w'.cell? ⟨w.heap.size, 0, none⟩ = some (.string T.first) ∧ w'.cell? ⟨w.heap.size, 1, none⟩ = some (.string T.last) ∧ w'.cell? ⟨w.heap.size, 2, none⟩ = some vb) ∧ EntAt w' b off e0 ∧ EntAt w' b (off + m * 4) el) (by kernel_rfl) ⟨⟨t0, t1, t2⟩, hc0, hcl⟩ (fun hH => ?_)
        have qo : OwnE w1.drew _ _ es := ho1.drewN 1
        have qb := b1.drew
        have qi : RdI w1.drew vb T.bits := hi1.drewN 1
        clear ho1 b1 hi1 ht1 t0 t1 t2 t3 hc0 hcl
        revert qo
        revert qb
        revert qi
        revert hH
        generalize w1.drew = W0
        intro hH qi qb qo
        refine tkA 0 12 hH ?_; try simp only [Act.put, sA, sZ, sS]
        refine tkA 1 13 hH ?_; try simp only [Act.put, sA, sZ, sS]
        refine tkA 2 14 hH ?_; try simp only [Act.put, sA, sZ, sS]
        refine tkA 3 15 hH ?_; try simp only [Act.put, sA, sZ, sS]
        refine tkA 4 16 hH ?_; try simp only [Act.put, sA, sZ, sS]
        refine tkA 5 17 hH ?_; try simp only [Act.put, sA, sZ, sS]
        refine tkA 6 18 hH ?_; try simp only [Act.put, sA, sZ, sS]
        refine tkA 7 19 hH ?_; try simp only [Act.put, sA, sZ, sS]
        refine tkA 8 20 hH ?_; try simp only [Act.put, sA, sZ, sS]
        refine tkA 9 21 hH ?_; try simp only [Act.put, sA, sZ, sS]
        refine tkA 10 22 hH ?_; try simp only [Act.put, sA, sZ, sS]
        refine tkA 11 23 hH ?_; try simp only [Act.put, sA, sZ, sS]
        refine tkA 12 24 hH ?_; try simp only [Act.put, sA, sZ, sS]
        refine tkA 13 25 hH ?_; try simp only [Act.put, sA, sZ, sS]
        refine tkA 14 26 hH ?_; try simp only [Act.put, sA, sZ, sS]
        refine tkA 15 27 hH ?_; try simp only [Act.put, sA, sZ, sS]
        refine tkA 16 28 hH ?_; try simp only [Act.put, sA, sZ, sS]
        refine tkA 17 29 hH ?_; try simp only [Act.put, sA, sZ, sS]
        refine tkA 18 30 hH ?_; try simp only [Act.put, sA, sZ, sS]
        refine tkA 19 31 hH ?_; try simp only [Act.put, sA, sZ, sS]
        refine tkA 20 32 hH ?_; try simp only [Act.put, sA, sZ, sS]
        refine tkA 21 33 hH ?_; try simp only [Act.put, sA, sZ, sS]
        refine tkA 22 34 hH ?_; try simp only [Act.put, sA, sZ, sS]
        refine wpAnyH_done (by kernel_rfl) ?_ _
        refine NoPanic.normal ?_
        obtain ⟨⟨t0, t1, t2⟩, _⟩ := hH
        obtain ⟨ab, cb, hvb, _⟩ := id qi
        generalize T.bits.length = bn at hvb
        subst hvb
        go_wp2_with fail
        refine (HCM.out _ qi).mono ?_
        rintro e w3 ⟨rfl, hb3⟩
        replace qb := qb.trans (hb3.mono qb.size)
        replace qo := qo.below hb3
        clear hb3 qi t0 t1 t2 HCM
        unfold MV
        go_wp2_with fail
        refine (HCK.out _ qo).mono ?_
        rintro e w4 ⟨rfl, hb4⟩
        replace qb := qb.trans (hb4.mono qb.size)
        replace qo := qo.below hb4
        clear hb4 HCK
        unfold MV
        cases r with
        | true =>
          have RES2 : Hid (P = (es, true)) := HTE.out RES.out
          clear RES
          go_wp2
          go_ret2
          exact unpPost_yes RES2.out qo (by simp) qb
        | false =>
          have RES2 : Hid (P = ([], false)) := HNO.out RES.out
          clear RES
          go_wp2
          go_ret2
          exact unpPost_no RES2.out (ownE_new _) qb.size (qb.alloc qb.size _)
end Go.Proofs.YtbefmbjlogkmbaaGreat
