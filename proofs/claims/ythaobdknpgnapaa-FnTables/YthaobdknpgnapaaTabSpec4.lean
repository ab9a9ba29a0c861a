/- The contracts of the model's Entries, May and Found. -/
import Derived.Test.YthaobdknpgnapaaTabSpec3
namespace Go.Proofs.Ythaobdknpgnapaa
open Go.RowKit
theorem entriesL_no {T : Tbl} (h : tableOk T = false) : entriesL T = [] := by unfold entriesL; rw [if_neg (by simp [h])]
theorem entriesL_yes {T : Tbl} (h : tableOk T = true) : entriesL T = (allL T).1 := by unfold entriesL; rw [if_pos h]
set_option maxHeartbeats 1000000 in
set_option maxRecDepth 100000 in
theorem specEntries_any (T : Tbl) (vb vk : Value) (w : World) (hi : RdI w vb T.bits) (hr : RdS w vk T.blocks) (hz : ∀ s ∈ T.blocks, s.size ≤ 1000000000) :
    Calls Try.prog 28 #[.agg #[.string T.first, .string T.last, vb, vk]] w fun e w' => ∃ u, e = .returned u ∧ OwnE w' w.heap.size u (entriesL T) ∧ Below w.heap.size w w' := by
  have ht0 := tblAt_new w T vb vk 41
  have b0 := below1 w (.cells #[.string T.first, .string T.last, vb, vk] 41)
  have HALL := l5All_any T vb vk _ (hr.below b0) hz
  have HA : Hid (Calls _ _ _ _ _) := HALL
  have HOK : Hid (∀ W, RdI W vb T.bits → RdS W vk T.blocks → Calls Try.prog 30 #[.agg #[.string T.first, .string T.last, vb, vk]] W fun e w' => e = .returned (.bool (tableOk T)) ∧ Below W.heap.size W w') := fun W h1 h2 => specTableOk_any T vb vk W h1 h2 hz
  have HE1 : Hid (tableOk T = false → entriesL T = []) := entriesL_no
  have HE2 : Hid (tableOk T = true → entriesL T = (allL T).1) := entriesL_yes
  clear HALL
  generalize entriesL T = E at HE1 HE2 ⊢
  generalize tableOk T = ok at HOK HE1 HE2
  generalize allL T = F at HA HE2
  obtain ⟨es, is⟩ := F
  simp only at HE2
  obtain ⟨d0, d1, d2, d3⟩ := id ht0
  go_enter Try.func28, Try.ntmps28
  go_wp2_with fail
  refine HA.out.mono ?_
  rintro e w1 ⟨u, rfl, ho1, hb1⟩
  simp only at ho1 ⊢
  have ht1 := ht0.below hb1
  have b1 := b0.trans (hb1.mono b0.size)
  have hs0 := b0.size
  clear HA ht0 b0 hb1 d0 d1 d2 d3
  obtain ⟨d0, d1, d2, d3⟩ := id ht1
  go_wp2_with fail
  refine (HOK.out _ (hi.below b1) (hr.below b1)).mono ?_
  rintro e w2 ⟨rfl, hb2⟩
  have ho2 := ho1.below hb2
  have b2 := b1.trans (hb2.mono b1.size)
  cases ok with
  | false =>
    have HE : Hid (E = []) := HE1.out rfl
    go_wp2
    go_ret
    exact ⟨_, rfl, by rw [HE.out]; exact (ownE_new w2).mono b2.size, b2.alloc b2.size _⟩
  | true =>
    have HE : Hid (E = es) := HE2.out rfl
    go_wp2
    go_ret
    exact ⟨_, rfl, by rw [HE.out]; exact ho2.mono hs0, b2⟩
theorem gtr_kLt (a b : ByteArray) : (!Op.bytesLess a.toList b.toList && !a.toList == b.toList) = kLt b a := by
  rw [beq_kEq]
  show (!kLt a b && !kEq a b) = kLt b a
  cases h1 : kLt a b with
  | true => rw [kLt_asymm h1]; rfl
  | false =>
    cases h2 : kLt b a with
    | true =>
      have : kEq a b = false := by
        unfold kEq
        refine decide_eq_false fun e => ?_
        rw [e, kLt_irrefl] at h2
        cases h2
      rw [this]; rfl
    | false => rw [kLt_tri h1 h2]; simp [kEq]
theorem mayL_eq (T : Tbl) (key : ByteArray) : mayL T key = (tableOk T && !kLt key T.first && !kLt T.last key && (marksL key).all (fun m => decide (m ∈ T.bits))) := rfl
set_option maxHeartbeats 4000000 in
set_option maxRecDepth 100000 in
theorem specMay_any (T : Tbl) (vb vk : Value) (key : ByteArray) (w : World) (hi : RdI w vb T.bits) (hr : RdS w vk T.blocks) (hz : ∀ s ∈ T.blocks, s.size ≤ 1000000000) (hk : key.size ≤ 1000000000) :
    Calls Try.prog 26 #[.agg #[.string T.first, .string T.last, vb, vk], .string key] w fun e w' => e = .returned (.bool (mayL T key)) ∧ Below w.heap.size w w' := by
  have ht0 := tblAt_new w T vb vk 41
  have b0 := below1 w (.cells #[.string T.first, .string T.last, vb, vk] 41)
  have HOK : Hid (Calls _ _ _ _ _) := specTableOk_any T vb vk _ (hi.below b0) (hr.below b0) hz
  obtain ⟨R, hR⟩ : ∃ R, R = mayL T key := ⟨_, rfl⟩
  rw [← hR]
  rw [mayL_eq] at hR
  have HR : Hid (R = (tableOk T && !kLt key T.first && !kLt T.last key && (marksL key).all (fun m => decide (m ∈ T.bits)))) := hR
  clear hR
  generalize tableOk T = ok at HOK HR
  obtain ⟨d0, d1, d2, d3⟩ := id ht0
  go_enter Try.func26, Try.ntmps26
  go_wp2_with fail
  refine HOK.out.mono ?_
  rintro e w1 ⟨rfl, hb1⟩
  have ht1 := ht0.below hb1
  have b1 := b0.trans (hb1.mono b0.size)
  have hi1 := hi.below b1
  clear HOK ht0 b0 hb1 d0 d1 d2 d3
  obtain ⟨d0, d1, d2, d3⟩ := id ht1
  cases ok with
  | false =>
    have RES : Hid (R = false) := by unfold Hid; rw [HR.out]; rfl
    go_wp2
    go_ret
    exact ⟨by have h := RES.out; subst h; rfl, b1⟩
  | true =>
    cases hk1 : kLt key T.first with
    | true =>
      have RES : Hid (R = false) := by unfold Hid; rw [HR.out, hk1]; rfl
      have hq : Op.bytesLess key.toList T.first.toList = true := hk1
      clear hk1
      go_wp2
      go_ret
      exact ⟨by have h := RES.out; subst h; rfl, b1⟩
    | false =>
      have hq : Op.bytesLess key.toList T.first.toList = false := hk1
      cases hk2 : kLt T.last key with
      | true =>
        have RES : Hid (R = false) := by unfold Hid; rw [HR.out, hk1, hk2]; rfl
        have hq2 := gtr_kLt key T.last
        rw [hk2] at hq2
        clear hk1 hk2
        go_wp2
        go_ret
        exact ⟨by have h := RES.out; subst h; rfl, b1⟩
      | false =>
        have hq2 := gtr_kLt key T.last
        rw [hk2] at hq2
        have RES : Hid (R = (marksL key).all (fun m => decide (m ∈ T.bits))) := by unfold Hid; rw [HR.out, hk1, hk2]; simp
        clear hk1 hk2 HR
        go_wp2_with fail
        refine (l5Marks_any key _ hk).mono ?_
        have hml := marksL_len key
        generalize marksL key = ms at RES hml ⊢
        rintro e w2 ⟨um, rfl, hom, hb2⟩
        have ht2 := ht1.below hb2
        have hi2 := hi1.below hb2
        have b2 := b1.trans (hb2.mono b1.size)
        obtain ⟨am, cm, hvm, hm1, hm2, _⟩ := id hom.rd
        obtain ⟨mn, hmn⟩ : ∃ mn, mn = ms.length := ⟨_, rfl⟩
        have HMN : Hid (mn = ms.length) := hmn
        rw [← hmn] at hvm hml
        subst hvm
        unfold maxLen at hm2
        clear ht1 hi1 b1 hb2 hmn d0 d1 d2 d3
        go_wp2
        go_loopw [6] (fun i wr => ∃ k : Nat, k ≤ mn ∧ i = .int .i64 k ∧ Hid (∀ j (h : j < ms.length), j < k → ms[j] ∈ T.bits) ∧ TblAt wr w.heap.size T vb vk ∧ RdI wr vb T.bits ∧ RdI wr (.slice am mn cm) ms ∧ Below w.heap.size w wr) (fun i _ => mn - (intOf i).toNat)
        case atStart => exact ⟨0, Nat.zero_le _, rfl, (fun j _ hj => absurd hj (Nat.not_lt_zero _)), ht2, hi2, hom.rd, b2⟩
        case round =>
          obtain ⟨k, hkm, rfl, HO, ht, hib, him, hb⟩ := hrel
          clear ht2 hi2 hom b2
          by_cases hlt : k < mn
          · have hltm : k < ms.length := by rw [← HMN.out]; exact hlt
            obtain ⟨b, off, rfl, hcm⟩ := him.at k hltm
            obtain ⟨x, hx⟩ : ∃ x, x = ms[k] := ⟨_, rfl⟩
            rw [← hx] at hcm
            have HX : Hid (x = ms[k]) := hx
            clear hx
            go_wp2_with fail
            refine wp_region_noPanic ?_
            refine wp_region_held_drew (S := fun w' => w'.cell? ⟨w.heap.size, 2, none⟩ = some vb ∧ w'.cell? ⟨b, off + k, none⟩ = some (.int .i64 x)) (by kernel_rfl) ⟨ht.2.2.1, hcm⟩ (fun hH => ?_)
            have qt : TblAt wr.drew _ T vb vk := ht
            have qi : RdI wr.drew vb T.bits := hib.drewN 1
            have qm : RdI wr.drew _ ms := him.drewN 1
            have qb := hb.drew
            clear ht hib him hb hcm
            revert qt
            revert qi
            revert qm
            revert qb
            revert hH
            generalize wr.drew = W0
            intro hH qb qm qi qt
            refine tkA 0 30 hH ?_
            try simp only [Act.put, List.setIfInBounds_toArray, List.set_cons_zero, List.set_cons_succ]
            refine tkA 1 31 hH ?_
            try simp only [Act.put, List.setIfInBounds_toArray, List.set_cons_zero, List.set_cons_succ]
            refine tkA 2 32 hH ?_
            try simp only [Act.put, List.setIfInBounds_toArray, List.set_cons_zero, List.set_cons_succ]
            refine tkA 3 33 hH ?_
            try simp only [Act.put, List.setIfInBounds_toArray, List.set_cons_zero, List.set_cons_succ]
            refine tkA 4 34 hH ?_
            try simp only [Act.put, List.setIfInBounds_toArray, List.set_cons_zero, List.set_cons_succ]
            refine tkA 5 35 hH ?_
            try simp only [Act.put, List.setIfInBounds_toArray, List.set_cons_zero, List.set_cons_succ]
            refine wpAnyH_ready (rs := [6]) (by kernel_rfl) (by simp) ?_
            refine AllReadyH.cons rfl (fun K hK => ?_) AllReadyH.nil
            go_simp
            refine (l5Has_any vb T.bits x _ qi).mono ?_
            by_cases hin : x ∈ T.bits
            · rw [decide_eq_true hin]
              rintro e w4 ⟨rfl, hw4⟩
              obtain rfl := hw4.symm
              refine hK.out _ _ hH (fun h5 => ?_)
              clear hK K
              try simp only [Act.put, List.setIfInBounds_toArray, List.set_cons_zero, List.set_cons_succ]
              refine tkA 7 37 h5 ?_
              try simp only [Act.put, List.setIfInBounds_toArray, List.set_cons_zero, List.set_cons_succ]
              refine wpAnyH_done (by kernel_rfl) ?_ _
              refine NoPanic.normal ?_
              have HO2 : Hid (∀ j (h : j < ms.length), j < k + 1 → ms[j] ∈ T.bits) := by
                intro j h hj
                by_cases hjk : j = k
                · subst hjk; rw [← HX.out]; exact hin
                · exact HO.out j h (by omega)
              clear hin
              go_wp2
              go_roundw
              case rel => exact ⟨k + 1, by omega, by go_num, HO2, qt, qi, qm, qb⟩
              case measure => simp [intOf]; omega
            · rw [decide_eq_false hin]
              rintro e w4 ⟨rfl, hw4⟩
              obtain rfl := hw4.symm
              refine hK.out _ _ hH (fun h5 => ?_)
              clear hK K
              try simp only [Act.put, List.setIfInBounds_toArray, List.set_cons_zero, List.set_cons_succ]
              refine tkA 7 37 h5 ?_
              try simp only [Act.put, List.setIfInBounds_toArray, List.set_cons_zero, List.set_cons_succ]
              refine wpAnyH_done (by kernel_rfl) ?_ _
              refine NoPanic.normal ?_
              have RF : Hid (R = false) := by
                unfold Hid
                rw [RES.out, List.all_eq_false]
                exact ⟨x, by rw [HX.out]; exact List.getElem_mem hltm, by simpa using hin⟩
              clear hin
              go_wp2
              go_ret
              exact ⟨by have h := RF.out; subst h; rfl, qb⟩
          · have RF : Hid (R = true) := by
              unfold Hid
              rw [RES.out, List.all_eq_true]
              intro x hx
              obtain ⟨j, hj, hjx⟩ := List.getElem_of_mem hx
              rw [← hjx]
              exact decide_eq_true (HO.out j hj (by have := HMN.out; omega))
            have hlt2 : ¬ (k : Int) < (mn : Int) := by omega
            go_wp2
            go_ret
            exact ⟨by have h := RF.out; subst h; rfl, hb⟩
set_option maxHeartbeats 1000000 in
set_option maxRecDepth 100000 in
theorem specFound_any (T : Tbl) (vb vk : Value) (key : ByteArray) (q : Int) (w : World) (hi : RdI w vb T.bits) (hr : RdS w vk T.blocks) (hz : ∀ s ∈ T.blocks, s.size ≤ 1000000000) :
    Calls Try.prog 31 #[.agg #[.string T.first, .string T.last, vb, vk], .string key, .int .i64 q] w fun e w' => SeenPost w (foundL T key q) e w' := by
  have ht0 := tblAt_new w T vb vk 41
  have b0 := below1 w (.cells #[.string T.first, .string T.last, vb, vk] 41)
  have hz0 := box_zero (w.alloc (.cells #[.string T.first, .string T.last, vb, vk] 41)) 26
  have bz1 := b0.alloc b0.size (.cells #[.string ⟨#[]⟩, .string ⟨#[]⟩, .int .i64 0, .bool false] 26)
  have ht1 := ht0.below (below1 _ (.cells #[.string ⟨#[]⟩, .string ⟨#[]⟩, .int .i64 0, .bool false] 26))
  rw [show (w.alloc (.cells #[.string T.first, .string T.last, vb, vk] 41)).heap.size = w.heap.size + 1 by simp] at hz0
  have HE : Hid (∀ W, RdI W vb T.bits → RdS W vk T.blocks → Calls Try.prog 28 #[.agg #[.string T.first, .string T.last, vb, vk]] W fun e w' => ∃ u, e = .returned u ∧ OwnE w' W.heap.size u (entriesL T) ∧ Below W.heap.size W w') := fun W h1 h2 => specEntries_any T vb vk W h1 h2 hz
  obtain ⟨o, ho⟩ : ∃ o, o = foundL T key q := ⟨_, rfl⟩
  rw [← ho]
  unfold foundL at ho
  have HO : Hid (o = seenL (entriesL T) key q) := ho
  clear ho ht0 b0
  generalize entriesL T = es at HE HO
  obtain ⟨x, hx⟩ : ∃ x, o.getD zeroE = x := ⟨_, rfl⟩
  obtain ⟨s, hs⟩ : ∃ s, o.isSome = s := ⟨_, rfl⟩
  have HX : Hid (o.getD zeroE = x) := hx
  have HS : Hid (o.isSome = s) := hs
  clear hx hs
  obtain ⟨d0, d1, d2, d3⟩ := id ht1
  go_enter Try.func31, Try.ntmps31
  go_wp2_with fail
  refine (HE.out _ (hi.below bz1) (hr.below bz1)).mono ?_
  rintro e w1 ⟨u, rfl, ho1, hb1⟩
  have hz1 := hz0.below hb1
  have b1 := bz1.trans (hb1.mono bz1.size)
  clear hz0 ht1 hb1 bz1 d0 d1 d2 d3
  go_wp2_with fail
  refine (l3Seen_any u es key q _ ho1.rd).mono ?_
  rw [← HO.out]
  unfold SeenPost
  rw [HX.out, HS.out]
  rintro e w2 ⟨rfl, hb2⟩
  obtain ⟨z0, z1, z2, z3, f0, f1, f2, f3⟩ := (hz1.below hb2).facts
  have b2 := b1.trans (hb2.mono b1.size)
  go_wp2
  exact bodyPost_ret (v := .tuple #[.agg #[.string x.key, .string x.val, .int .i64 x.seq, .bool x.gone], .bool s]) (by simp [results, Try.results31, go_sem, z0, z1, z2, z3]) rfl ⟨by rw [← HX.out, ← HS.out], below4 b2 (Nat.le_succ _) _ _ _ _ _ _ _ _⟩
end Go.Proofs.Ythaobdknpgnapaa
