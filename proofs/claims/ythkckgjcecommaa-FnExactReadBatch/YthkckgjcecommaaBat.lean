/- The contracts of both Batches over any list of writes that can be read. -/
import Derived.Test.YthkckgjcecommaaBatMath
import Derived.Test.YthkckgjcecommaaFmtL
import Derived.Test.YthkckgjcecommaaGen
import Derived.Test.YthkckgjcecommaaPackSpec
namespace Go.Proofs.Ythkckgjcecommaa
open Go.RowKit
-- UNF Gen
theorem itoa_flag (b : Bool) : itoaS (if b = true then 1 else 0) = flT b := by
  cases b
  · show itoaS 0 = nilT
    unfold itoaS Lib.itoa
    rw [if_neg (by omega), show Int.toNat 0 = 0 from rfl, dec_left]
    rfl
  · show itoaS 1 = oneT
    unfold itoaS Lib.itoa
    rw [if_neg (by omega), show Int.toNat 1 = 1 from rfl, dec_left]
    rfl
theorem tri_rd (w : World) (a b c : ByteArray) : RdS (w.alloc (.cells #[.string a, .string b, .string c] 9)) (.slice (some ⟨w.heap.size, 0, none⟩) 3 3) [a, b, c] := by
  refine ⟨_, _, rfl, by simp, by unfold maxLen; omega, .inr ⟨w.heap.size, 0, rfl, fun i hi => ?_⟩⟩
  have h3 : i < 3 := hi
  match i, h3 with
  | 0, _ => simp
  | 1, _ => simp
  | 2, _ => simp
theorem nilOk_tri (b : Nat) (n c : Nat) : NilOk (.slice (some ⟨b, 0, none⟩) n c) := by intro n c e; cases e
set_option maxHeartbeats 4000000 in
set_option maxRecDepth 100000 in
theorem l10Batch_any (v : Value) (xs : List Wri) (w : World) (hr : RdW w v xs) (hk : batchOk xs = true) :
    Calls Try.prog 16 #[v] w fun e w' => e = .returned (.string (batT xs)) ∧ Below w.heap.size w w' := by
  have hlen := (batchOk_iff.1 hk).1
  have HSM : Hid (∀ s ∈ batTx xs, s.size ≤ 1048576) := fun s hs => by have := batTx_small (ok_small hk) s hs; omega
  obtain ⟨a, cap, hv, hl, hm, _⟩ := id hr
  unfold maxLen at hm
  obtain ⟨n, hn⟩ : ∃ n, n = xs.length := ⟨_, rfl⟩
  rw [← hn] at hv hl hlen
  have HN : Hid (n = xs.length) := hn
  subst hv
  have HLN : Hid (∀ k, (batTx (xs.take k)).length ≤ 3 * n) := fun k => by rw [batTx_len, List.length_take, HN.out]; omega
  have HT : Hid (batT xs = ⟨(textsOf (batTx xs)).toArray⟩) := rfl
  have o0 := ownS_none w
  have b0 := below1 w (.cells #[] 9)
  clear hn hk
  go_enter Try.func16, Try.ntmps16
  go_wp2
  go_loopw [3, 4] (fun oo ii wr => ∃ k : Nat, k ≤ n ∧ ii = .int .i64 k ∧ OwnS wr w.heap.size oo (batTx (xs.take k)) ∧ Below w.heap.size w wr) (fun _ ii _ => n - (intOf ii).toNat)
  case atStart => exact ⟨0, Nat.zero_le _, rfl, o0, b0⟩
  case round =>
    clear o0 b0
    obtain ⟨k, hk, rfl, ho, hb⟩ := hrel
    by_cases hlt : k < n
    · have hkl : k < xs.length := by rw [← HN.out]; exact hlt
      have hkc : k < cap := by omega
      obtain ⟨b, off, rfl, hc0⟩ := hr.at HN.out k hkl
      have HM : Hid (batTx (xs.take (k + 1)) = batTx (xs.take k) ++ trio (nthW xs k)) := batTx_more hkl
      have hyl := HLN.out k
      generalize nthW xs k = x at hc0 HM
      have hc := hc0.below hb
      generalize batTx (xs.take k) = ys at ho HM hyl
      have c1 : (0 : Int) ≤ (k : Int) := by omega
      have c2 : (k : Int) < (n : Int) := by omega
      clear hkl
      go_wp2_with fail
      refine wp_region_noPanic ?_
      refine wp_region_held_drew (S := fun w' => w'.cell? ⟨b, off + k * 3, none⟩ = some (.string x.key) ∧ w'.cell? ⟨b, off + k * 3 + 1, none⟩ = some (.string x.val) ∧ w'.cell? ⟨b, off + k * 3 + 2, none⟩ = some (.bool x.gone)) (by kernel_rfl) hc (fun hH => ?_)
      have qo : OwnS wr.drew _ _ ys := ho.drewN 1
      have qb := hb.drew
      clear ho hb hc
      revert hH qo qb
      generalize wr.drew = W0
      intro hH qo qb
      refine tkG 0 12 hH ?_
      try simp only [Act.put, List.setIfInBounds_toArray, List.set_cons_zero, List.set_cons_succ]
      refine tkG 1 13 hH ?_
      try simp only [Act.put, List.setIfInBounds_toArray, List.set_cons_zero, List.set_cons_succ]
      refine tkG 2 14 hH ?_
      try simp only [Act.put, List.setIfInBounds_toArray, List.set_cons_zero, List.set_cons_succ]
      refine tkG 3 15 hH ?_
      try simp only [Act.put, List.setIfInBounds_toArray, List.set_cons_zero, List.set_cons_succ]
      refine tkG 4 16 hH ?_
      try simp only [Act.put, List.setIfInBounds_toArray, List.set_cons_zero, List.set_cons_succ]
      refine tkG 5 17 hH ?_
      try simp only [Act.put, List.setIfInBounds_toArray, List.set_cons_zero, List.set_cons_succ]
      refine tkG 6 18 hH ?_
      try simp only [Act.put, List.setIfInBounds_toArray, List.set_cons_zero, List.set_cons_succ]
      refine tkG 7 19 hH ?_
      try simp only [Act.put, List.setIfInBounds_toArray, List.set_cons_zero, List.set_cons_succ]
      refine tkG 8 20 hH ?_
      try simp only [Act.put, List.setIfInBounds_toArray, List.set_cons_zero, List.set_cons_succ]
      refine tkG 9 21 hH ?_
      try simp only [Act.put, List.setIfInBounds_toArray, List.set_cons_zero, List.set_cons_succ]
      refine tkG 10 22 hH ?_
      try simp only [Act.put, List.setIfInBounds_toArray, List.set_cons_zero, List.set_cons_succ]
      refine tkG 11 23 hH ?_
      try simp only [Act.put, List.setIfInBounds_toArray, List.set_cons_zero, List.set_cons_succ]
      refine tkG 12 24 hH ?_
      try simp only [Act.put, List.setIfInBounds_toArray, List.set_cons_zero, List.set_cons_succ]
      refine tkG 13 25 hH ?_
      try simp only [Act.put, List.setIfInBounds_toArray, List.set_cons_zero, List.set_cons_succ]
      refine tkG 14 26 hH ?_
      try simp only [Act.put, List.setIfInBounds_toArray, List.set_cons_zero, List.set_cons_succ]
      refine tkG 15 27 hH ?_
      try simp only [Act.put, List.setIfInBounds_toArray, List.set_cons_zero, List.set_cons_succ]
      refine wpAnyH_ready (rs := [16]) (by kernel_rfl) (by simp) ?_
      refine AllReadyH.cons rfl (fun K hK => ?_) AllReadyH.nil
      go_simp
      refine (l4Flag_any _ _).mono ?_
      rintro e w1 ⟨rfl, hw1⟩
      obtain rfl := hw1.symm
      refine hK.out _ _ hH (fun hA => ?_)
      clear hK K
      try simp only [Act.put, List.setIfInBounds_toArray, List.set_cons_zero, List.set_cons_succ]
      refine wpAnyH_ready (rs := [17]) (by kernel_rfl) (by simp) ?_
      refine AllReadyH.cons rfl (fun K hK => ?_) AllReadyH.nil
      go_simp
      refine (l2Int_any _ _ (by split <;> omega) (by split <;> omega)).mono ?_
      rw [itoa_flag]
      rintro e w2 ⟨rfl, b2⟩
      have s0 := qb.size
      replace qo := qo.below b2
      replace qb := qb.trans (b2.mono s0)
      refine hK.out _ _ (WriAt.below (e := x) hH b2) (fun hB => ?_)
      clear hK K
      try simp only [Act.put, List.setIfInBounds_toArray, List.set_cons_zero, List.set_cons_succ]
      have hr3 := tri_rd w2 x.key x.val (flT x.gone)
      have o3 := qo.below (below1 w2 (.cells #[.string x.key, .string x.val, .string (flT x.gone)] 9))
      have b3 := qb.trans ((below1 w2 (.cells #[.string x.key, .string x.val, .string (flT x.gone)] 9)).mono qb.size)
      have hB2 := WriAt.below (e := x) hB (below1 w2 (.cells #[.string x.key, .string x.val, .string (flT x.gone)] 9))
      refine wpAnyH_ready (rs := [18]) (by kernel_rfl) (by simp) ?_
      refine AllReadyH.cons rfl (fun K hK => ?_) AllReadyH.nil
      go_simp
      refine hK.out _ _ hB2 (fun hC => ?_)
      clear hK K
      try simp only [Act.put, List.setIfInBounds_toArray, List.set_cons_zero, List.set_cons_succ]
      generalize w2.alloc (.cells #[.string x.key, .string x.val, .string (flT x.gone)] 9) = W3 at hr3 o3 b3 hB2 hC ⊢
      refine wpAnyH_ready (rs := [19]) (by kernel_rfl) (by simp) ?_
      refine AllReadyH.cons rfl (fun K hK => ?_) AllReadyH.nil
      refine step_append_txts rfl 31 rfl _ _ rfl w.heap.size _ _ ys [x.key, x.val, flT x.gone] rfl rfl o3 hr3 (nilOk_tri _ _ _) (by simp; omega) b3.size ?_
      intro v4 w4 ho4 hg4
      have b4 : Below w.heap.size w w4 := b3.grown hg4 b3.size (fun k hk => (World.ownsRow.lt o3 k hk).1)
      have hc4 := hc0.below b4
      refine hK.out _ _ hc4 (fun hD => ?_)
      clear hK K
      try simp only [Act.put, List.setIfInBounds_toArray, List.set_cons_zero, List.set_cons_succ]
      refine tkG 20 3 hD ?_
      try simp only [Act.put, List.setIfInBounds_toArray, List.set_cons_zero, List.set_cons_succ]
      refine wpAnyH_done (by kernel_rfl) ?_ _
      refine NoPanic.normal ?_
      clear hH hA hB hB2 hC hD hg4 o3 hr3 b3 qo qb b2 hc4 hc0
      have e5 : Hid (ys ++ [x.key, x.val, flT x.gone] = batTx (xs.take (k + 1))) := HM.out.symm
      rw [e5.out] at ho4
      go_wp2
      go_roundw
      case rel => exact ⟨k + 1, by omega, by go_num, ho4, b4⟩
      case measure => simp [intOf]; omega
    · have hke : k = n := by omega
      have HE : Hid (batTx (xs.take k) = batTx xs) := by unfold Hid; rw [hke, HN.out, List.take_length]
      rw [HE.out] at ho
      clear hke
      go_wp2_with fail
      refine (specTexts_any _ (batTx xs) _ ho.rd HSM.out).mono ?_
      rintro e w1 ⟨u, rfl, ho1, hb1⟩
      have hb2 := hb.trans (hb1.mono hb.size)
      have hcv := conv_own ho1
      rw [← HT.out] at hcv
      clear ho hb hb1
      obtain ⟨au, cu, hu⟩ := ho1.rd.shape
      subst hu
      go_wp2
      go_ret
      exact ⟨rfl, hb2⟩
set_option maxHeartbeats 2000000 in
set_option maxRecDepth 100000 in
theorem specBatch_any (v : Value) (xs : List Wri) (w : World) (hr : RdW w v xs) (hf : ∀ x ∈ xs, FitsW x) :
    Calls Try.prog 6 #[v] w fun e w' => e = .returned (.string (batS xs)) ∧ Below w.heap.size w w' := by
  have HL : Hid (Calls Try.prog 15 #[v] w fun e w' => e = .returned (.bool (batchOk xs)) ∧ Below w.heap.size w w') := l7Batch_any v xs w hr hf
  have HB : Hid (batchOk xs = true → ∀ W, Below w.heap.size w W → Calls Try.prog 16 #[v] W fun e w' => e = .returned (.string (batT xs)) ∧ Below W.heap.size W w') := fun h W hb => l10Batch_any v xs W (hr.below hb) h
  obtain ⟨a, cap, hv, hl, hm, _⟩ := id hr
  unfold maxLen at hm
  obtain ⟨n, hn⟩ : ∃ n, n = xs.length := ⟨_, rfl⟩
  rw [← hn] at hv hl
  have HN : Hid (n = xs.length) := hn
  subst hv
  clear hn hr hf
  cases hk : batchOk xs with
  | false =>
    have END : Hid (batS xs = ⟨#[]⟩) := batS_no (fun h => by rw [hk] at h; cases h.1)
    rw [hk] at HL
    clear HB
    go_enter Try.func6, Try.ntmps6
    go_wp2_with fail
    refine HL.out.mono ?_
    rintro e w1 ⟨rfl, b1⟩
    go_wp2
    go_ret
    exact ⟨by rw [END.out]; rfl, b1⟩
  | true =>
    rw [hk] at HL
    by_cases hz : n = 0
    · have END : Hid (batS xs = ⟨#[]⟩) := batS_no (fun h => h.2 (List.length_eq_zero_iff.1 (by rw [← HN.out]; exact hz)))
      subst hz
      clear HB
      go_enter Try.func6, Try.ntmps6
      go_wp2_with fail
      refine HL.out.mono ?_
      rintro e w1 ⟨rfl, b1⟩
      go_wp2
      go_ret
      exact ⟨by rw [END.out]; rfl, b1⟩
    · have END : Hid (batS xs = batT xs) := batS_yes hk (fun h => hz (by rw [HN.out, h]; rfl))
      have HB2 : Hid (∀ W, Below w.heap.size w W → Calls Try.prog 16 _ W fun e w' => e = .returned (.string (batT xs)) ∧ Below W.heap.size W w') := HB.out hk
      have hq : ((n : Int) == 0) = false := by simp; omega
      clear HB hk hz
      go_enter Try.func6, Try.ntmps6
      go_wp2_with fail
      refine HL.out.mono ?_
      rintro e w1 ⟨rfl, b1⟩
      go_wp2_with fail
      refine (HB2.out _ b1).mono ?_
      rintro e w2 ⟨rfl, b2⟩
      have b3 := b1.trans (b2.mono b1.size)
      clear b1 b2
      go_wp2
      go_ret
      exact ⟨by rw [END.out]; rfl, b3⟩
set_option maxHeartbeats 2000000 in
set_option maxRecDepth 100000 in
theorem implBatchOk_any (v : Value) (xs : List Wri) (w : World) (hr : RdW w v xs) (hf : ∀ x ∈ xs, FitsW x) :
    Calls Try.prog 18 #[v] w fun e w' => e = .returned (.bool (batchOk xs)) ∧ Below w.heap.size w w' := by
  obtain ⟨a, cap, hv, hl, hm, _⟩ := id hr
  unfold maxLen at hm
  obtain ⟨n, hn⟩ : ∃ n, n = xs.length := ⟨_, rfl⟩
  rw [← hn] at hv hl
  have HN : Hid (n = xs.length) := hn
  have HF : Hid (∀ x ∈ xs, FitsW x) := hf
  subst hv
  clear hn hf
  by_cases hbig : 20 < n
  · have END : Hid (batchOk xs = false) := by unfold Hid batchOk; rw [decide_eq_false (by rw [← HN.out]; omega)]; rfl
    go_enter Try.func18, Try.ntmps18
    go_wp2
    go_ret
    exact ⟨by rw [END.out]; rfl, Below.refl _ _⟩
  · have HB : Hid (∀ b, xs.all wriOk = b → batchOk xs = b) := fun b h => by unfold batchOk; rw [decide_eq_true (by rw [← HN.out]; omega), h]; rfl
    go_enter Try.func18, Try.ntmps18
    go_wp2
    go_loopw [10] (fun i wr => ∃ k : Nat, k ≤ n ∧ i = .int .i64 k ∧ Hid ((xs.take k).all wriOk = true) ∧ Below w.heap.size w wr) (fun i _ => n - (intOf i).toNat)
    case atStart => exact ⟨0, Nat.zero_le _, rfl, rfl, Below.refl _ _⟩
    case round =>
      obtain ⟨k, hk, rfl, HA, hb⟩ := hrel
      by_cases hlt : k < n
      · have hkl : k < xs.length := by rw [← HN.out]; exact hlt
        have hkc : k < cap := by omega
        obtain ⟨b, off, rfl, hc⟩ := (hr.below hb).at HN.out k hkl
        have hfx := HF.out (nthW xs k) (by rw [nthW_eq hkl]; exact List.getElem_mem hkl)
        have HM : Hid (wriOk (nthW xs k) = true → (xs.take (k + 1)).all wriOk = true) := fun h => batch_more hkl HA.out h
        have HNO : Hid (wriOk (nthW xs k) = false → batchOk xs = false) := fun h => HB.out false (batch_not hkl h)
        generalize nthW xs k = x at hc hfx HM HNO
        obtain ⟨c0, c1, c2⟩ := hc
        have HE : Hid (∀ W, Calls Try.prog 29 #[.agg #[.string x.key, .string x.val, .int .i64 1, .bool x.gone]] W fun e w' => e = .returned (.bool (wriOk x)) ∧ Below W.heap.size W w') := fun W => entryOk_any (wriE x 1) W ⟨hfx.1, hfx.2, by show (-9223372036854775808 : Int) ≤ 1; omega, by show (1 : Int) ≤ 9223372036854775807; omega⟩
        have hx1 := boxW_new wr x 37
        have bb := hb.alloc hb.size (.cells #[.string x.key, .string x.val, .bool x.gone] 37)
        obtain ⟨d0, d1, d2⟩ := id hx1
        clear hkl hfx
        go_wp2_with fail
        refine (entryOf_any x 1 _).mono ?_
        rintro e w0 ⟨rfl, hb0⟩
        have bc := bb.trans (hb0.mono bb.size)
        clear hx1 d0 d1 d2 bb hb0
        go_wp2_with fail
        refine (HE.out _).mono ?_
        rintro e w1 ⟨rfl, hb1⟩
        have b1 := bc.trans (hb1.mono bc.size)
        clear bc hb1 hb HA
        cases hwx : wriOk x with
        | false =>
          have END : Hid (batchOk xs = false) := HNO.out hwx
          clear HM HNO HE hwx
          go_wp2
          go_ret
          exact ⟨by rw [END.out]; rfl, b1⟩
        | true =>
          have HA2 : Hid ((xs.take (k + 1)).all wriOk = true) := HM.out hwx
          clear HM HNO HE hwx
          go_wp2
          go_roundw
          case rel => exact ⟨k + 1, by omega, by go_num, HA2, b1⟩
          case measure => simp [intOf]; omega
      · have hke : k = n := by omega
        have END : Hid (batchOk xs = true) := HB.out true (by have := HA.out; rwa [hke, HN.out, List.take_length] at this)
        clear hke HA
        go_wp2
        go_ret
        exact ⟨by rw [END.out]; rfl, hb⟩
set_option maxHeartbeats 4000000 in
set_option maxRecDepth 100000 in
theorem implBatch_any (v : Value) (xs : List Wri) (w : World) (hr : RdW w v xs) (hf : ∀ x ∈ xs, FitsW x) :
    Calls Try.prog 8 #[v] w fun e w' => e = .returned (.string (batS xs)) ∧ Below w.heap.size w w' := by
  have HL : Hid (Calls Try.prog 18 #[v] w fun e w' => e = .returned (.bool (batchOk xs)) ∧ Below w.heap.size w w') := implBatchOk_any v xs w hr hf
  obtain ⟨a, cap, hv, hl, hm, _⟩ := id hr
  unfold maxLen at hm
  obtain ⟨n, hn⟩ : ∃ n, n = xs.length := ⟨_, rfl⟩
  rw [← hn] at hv hl
  have HN : Hid (n = xs.length) := hn
  subst hv
  clear hf
  by_cases hz : n = 0
  · have END : Hid (batS xs = ⟨#[]⟩) := batS_no (fun h => h.2 (List.length_eq_zero_iff.1 (by rw [← HN.out]; exact hz)))
    clear HL hr hn
    subst hz
    go_enter Try.func8, Try.ntmps8
    go_wp2
    go_ret
    exact ⟨by rw [END.out]; rfl, Below.refl _ _⟩
  have hq : ((n : Int) == 0) = false := by simp; omega
  cases hk : batchOk xs with
  | false =>
    have END : Hid (batS xs = ⟨#[]⟩) := batS_no (fun h => by rw [hk] at h; cases h.1)
    rw [hk] at HL
    clear hn hr hz
    go_enter Try.func8, Try.ntmps8
    go_wp2_with fail
    refine HL.out.mono ?_
    rintro e w1 ⟨rfl, b1⟩
    go_wp2
    go_ret
    exact ⟨by rw [END.out]; rfl, b1⟩
  | true =>
    rw [hk] at HL
    have HSM : Hid (∀ s ∈ batTx xs, s.size ≤ 1048576) := fun s hs => by have := batTx_small (ok_small hk) s hs; omega
    have hlen := (batchOk_iff.1 hk).1
    rw [← HN.out] at hlen
    have HLN : Hid (∀ k, (batTx (xs.take k)).length ≤ 3 * n) := fun k => by rw [batTx_len, List.length_take, HN.out]; omega
    have HT : Hid (batS xs = ⟨(textsOf (batTx xs)).toArray⟩) := batS_yes hk (fun h => hz (by rw [HN.out, h]; rfl))
    clear hk hn
    go_enter Try.func8, Try.ntmps8
    go_wp2_with fail
    refine HL.out.mono ?_
    rintro e w1 ⟨rfl, b1⟩
    have o0 := ownS_none w1
    have b0 := b1.trans ((below1 w1 (.cells #[] 9)).mono b1.size)
    have o0' := o0.mono b1.size
    clear o0 b1 HL hz
    go_wp2
    go_loopw [3, 18] (fun oo ii wr => ∃ k : Nat, k ≤ n ∧ ii = .int .i64 k ∧ OwnS wr w.heap.size oo (batTx (xs.take k)) ∧ Below w.heap.size w wr) (fun _ ii _ => n - (intOf ii).toNat)
    case atStart => exact ⟨0, Nat.zero_le _, rfl, o0', b0⟩
    case round =>
      clear o0' b0
      obtain ⟨k, hk, rfl, ho, hb⟩ := hrel
      by_cases hlt : k < n
      · have hkl : k < xs.length := by rw [← HN.out]; exact hlt
        have hkc : k < cap := by omega
        obtain ⟨b, off, rfl, hc0⟩ := hr.at HN.out k hkl
        have HM : Hid (batTx (xs.take (k + 1)) = batTx (xs.take k) ++ trio (nthW xs k)) := batTx_more hkl
        have hyl := HLN.out k
        generalize nthW xs k = x at hc0 HM
        have hc := hc0.below hb
        generalize batTx (xs.take k) = ys at ho HM hyl
        have c1 : (0 : Int) ≤ (k : Int) := by omega
        have c2 : (k : Int) < (n : Int) := by omega
        obtain ⟨k0, k1, k2⟩ := id hc
        have hx1 := boxW_new wr x 37
        obtain ⟨V, hV⟩ : ∃ V, V = wr.alloc (.cells #[.string x.key, .string x.val, .bool x.gone] 37) := ⟨_, rfl⟩
        have hbV : Below w.heap.size w V := by rw [hV]; exact hb.alloc hb.size _
        have hoV := ho.below (below1 wr (.cells #[.string x.key, .string x.val, .bool x.gone] 37))
        rw [← hV] at hoV
        obtain ⟨d0, d1, d2⟩ := id hx1
        obtain ⟨fl, hfl⟩ : ∃ fl, fl = flT x.gone := ⟨_, rfl⟩
        have hr3 := tri_rd V x.key x.val fl
        have hsz : V.heap.size = wr.heap.size + 1 := by rw [hV]; simp
        rw [hsz] at hr3
        have o3 := hoV.below (below1 V (.cells #[.string x.key, .string x.val, .string fl] 9))
        have b3 := hbV.trans ((below1 V (.cells #[.string x.key, .string x.val, .string fl] 9)).mono hbV.size)
        have s3 := b3.size
        have hlen3 : ys.length + [x.key, x.val, fl].length ≤ 1000000000 := by simp; omega
        have HN2 : Hid (∀ v' w4, OwnS w4 w.heap.size v' (ys ++ [x.key, x.val, fl]) → OwnS w4 w.heap.size v' (batTx (xs.take (k + 1)))) := fun v' w4 h => by rw [HM.out]; unfold trio; rw [← hfl]; exact h
        rw [hV] at hr3 o3 b3 s3
        clear hkl hc hV hbV hoV ho hb hsz
        cases hg : x.gone with
        | true =>
          rw [hg] at hfl d2 k2
          have hfl2 : fl = ⟨#[49]⟩ := hfl
          subst hfl2
          rw [hg] at hr3 o3 b3 s3
          clear hfl hg
          go_wp2_with (at_builtin; (refine wpList_append_txts rfl _ _ rfl w.heap.size _ _ ys _ rfl rfl o3 hr3 (nilOk_tri _ _ _) hlen3 s3 ?_))
          intro v' w4 hown' hgrow
          have b4 : Below w.heap.size w w4 := b3.grown hgrow s3 (fun k hk => (World.ownsRow.lt o3 k hk).1)
          have o4 := HN2.out _ _ hown'
          clear hgrow b3 o3 hr3 hown' HN2 s3 hc0 d0 d1 d2 hx1
          go_wp2
          go_roundw
          case rel => exact ⟨k + 1, by omega, by go_num, o4, b4⟩
          case measure => simp [intOf]; omega
        | false =>
          rw [hg] at hfl d2 k2
          have hfl2 : fl = ⟨#[48]⟩ := hfl
          subst hfl2
          rw [hg] at hr3 o3 b3 s3
          clear hfl hg
          go_wp2_with (at_builtin; (refine wpList_append_txts rfl _ _ rfl w.heap.size _ _ ys _ rfl rfl o3 hr3 (nilOk_tri _ _ _) hlen3 s3 ?_))
          intro v' w4 hown' hgrow
          have b4 : Below w.heap.size w w4 := b3.grown hgrow s3 (fun k hk => (World.ownsRow.lt o3 k hk).1)
          have o4 := HN2.out _ _ hown'
          clear hgrow b3 o3 hr3 hown' HN2 s3 hc0 d0 d1 d2 hx1
          go_wp2
          go_roundw
          case rel => exact ⟨k + 1, by omega, by go_num, o4, b4⟩
          case measure => simp [intOf]; omega
      · have hke : k = n := by omega
        have HE : Hid (batTx (xs.take k) = batTx xs) := by unfold Hid; rw [hke, HN.out, List.take_length]
        rw [HE.out] at ho
        clear hke
        go_wp2_with fail
        refine (implTexts_any _ (batTx xs) _ ho.rd HSM.out).mono ?_
        rintro e w1 ⟨u, rfl, ho1, hb1⟩
        have hb2 := hb.trans (hb1.mono hb.size)
        have hcv := conv_own ho1
        rw [← HT.out] at hcv
        clear ho hb hb1
        obtain ⟨au, cu, hu⟩ := ho1.rd.shape
        subst hu
        go_wp2
        go_ret
        exact ⟨rfl, hb2⟩
end Go.Proofs.Ythkckgjcecommaa
