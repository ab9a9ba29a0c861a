/- The contracts of both Batches over any list of writes that can be read. The contracts of the draw's own cursor: a byte, a number below another, true once in some: what they are hangs on the code, and nothing but the cursor's own block turns. The contracts of the draws of a text and of some texts: each is some text, or some texts, of a bounded size; nothing but the cursor's own block turns. -/
import Derived.Test.YtpbbahpndgigjaaGreatDoorPackSpec
import Derived.BigQuiet
namespace Go.Proofs.YtpbbahpndgigjaaGreatDoor
set_option maxHeartbeats 16000000
set_option maxRecDepth 100000
open Go.RowKit
-- UNF Gen
theorem itoa_flag (b : Bool) : itoaS (if b = true then 1 else 0) = flT b := by
  cases b
  · show itoaS 0 = nilT
    unfold itoaS Lib.itoa
    rw [if_neg (by omega), show Int.toNat 0 = 0 from rfl, dec_left]
    rfl
  · show itoaS 1 = oneT
    unfold itoaS Lib.itoa
    rw [if_neg (by omega), show Int.toNat 1 = 1 from rfl, dec_left]
    rfl
theorem tri_rd (w : World) (a b c : ByteArray) : RdS (w.alloc (.cells #[.string a, .string b, .string c] 9)) (.slice (some ⟨w.heap.size, 0, none⟩) 3 3) [a, b, c] := by
  refine ⟨_, _, rfl, by simp, by unfold maxLen; omega, .inr ⟨w.heap.size, 0, rfl, fun i hi => ?_⟩⟩
  have h3 : i < 3 := hi
  match i, h3 with
  | 0, _ => simp
  | 1, _ => simp
  | 2, _ => simp
theorem nilOk_tri (b : Nat) (n c : Nat) : NilOk (.slice (some ⟨b, 0, none⟩) n c) := by intro n c e; cases e
theorem l10Batch_any (v : Value) (xs : List Wri) (w : World) (hr : RdW w v xs) (hk : batchOk xs = true) :
    Calls Tryz.prog 40 #[v] w fun e w' => e = .returned (.string (batT xs)) ∧ Below w.heap.size w w' := by
  have hlen := (batchOk_iff.1 hk).1
  have HSM : Hid (∀ s ∈ batTx xs, s.size ≤ 1048576) := fun s hs => by have := batTx_small (ok_small hk) s hs; omega
  obtain ⟨a, cap, hv, hl, hm, _⟩ := id hr
  unfold maxLen at hm
  obtain ⟨n, hn⟩ : ∃ n, n = xs.length := ⟨_, rfl⟩
  rw [← hn] at hv hl hlen
  have HN : Hid (n = xs.length) := hn
  subst hv
  have HLN : Hid (∀ k, (batTx (xs.take k)).length ≤ 3 * n) := fun k => by rw [batTx_len, List.length_take, HN.out]; omega
  have HT : Hid (batT xs = ⟨(textsOf (batTx xs)).toArray⟩) := rfl
  have o0 := ownS_none w
  have b0 := below1 w (.cells #[] 9)
  clear hn hk
  go_enter Tryz.func40, Tryz.ntmps40
  go_wp2
  go_loopw [3, 4] (fun oo ii wr => ∃ k : Nat, k ≤ n ∧ ii = .int .i64 k ∧ OwnS wr w.heap.size oo (batTx (xs.take k)) ∧ Below w.heap.size w wr) (fun _ ii _ => n - (intOf ii).toNat)
  case atStart => exact ⟨0, Nat.zero_le _, rfl, o0, b0⟩
  case round =>
    clear o0 b0
    obtain ⟨k, hk, rfl, ho, hb⟩ := hrel
    by_cases hlt : k < n
    · have hkl : k < xs.length := by rw [← HN.out]; exact hlt
      have hkc : k < cap := by omega
      obtain ⟨b, off, rfl, hc0⟩ := hr.at HN.out k hkl
      have HM : Hid (batTx (xs.take (k + 1)) = batTx (xs.take k) ++ trio (nthW xs k)) := batTx_more hkl
      have hyl := HLN.out k
      generalize nthW xs k = x at hc0 HM
      have hc := hc0.below hb
      generalize batTx (xs.take k) = ys at ho HM hyl
      have c1 : (0 : Int) ≤ (k : Int) := by omega
      have c2 : (k : Int) < (n : Int) := by omega
      clear hkl
      go_wp2_with fail
      refine wp_region_noPanic ?_
      refine wp_region_held_drew (S := fun w' => w'.cell? ⟨b, off + k * 3, none⟩ = some (.string x.key) ∧ w'.cell? ⟨b, off + k * 3 + 1, none⟩ = some (.string x.val) ∧ w'.cell? ⟨b, off + k * 3 + 2, none⟩ = some (.bool x.gone)) (by kernel_rfl) hc (fun hH => ?_)
      have qo : OwnS wr.drew _ _ ys := ho.drewN 1
      have qb := hb.drew
      clear ho hb hc
      revert hH qo qb
      generalize wr.drew = W0
      intro hH qo qb
      refine tkG 0 12 hH ?_; try simp only [Act.put, sA, sZ, sS]
      refine tkG 1 13 hH ?_; try simp only [Act.put, sA, sZ, sS]
      refine tkG 2 14 hH ?_; try simp only [Act.put, sA, sZ, sS]
      refine tkG 3 15 hH ?_; try simp only [Act.put, sA, sZ, sS]
      refine tkG 4 16 hH ?_; try simp only [Act.put, sA, sZ, sS]
      refine tkG 5 17 hH ?_; try simp only [Act.put, sA, sZ, sS]
      refine tkG 6 18 hH ?_; try simp only [Act.put, sA, sZ, sS]
      refine tkG 7 19 hH ?_; try simp only [Act.put, sA, sZ, sS]
      refine tkG 8 20 hH ?_; try simp only [Act.put, sA, sZ, sS]
      refine tkG 9 21 hH ?_; try simp only [Act.put, sA, sZ, sS]
      refine tkG 10 22 hH ?_; try simp only [Act.put, sA, sZ, sS]
      refine tkG 11 23 hH ?_; try simp only [Act.put, sA, sZ, sS]
      refine tkG 12 24 hH ?_; try simp only [Act.put, sA, sZ, sS]
      refine tkG 13 25 hH ?_; try simp only [Act.put, sA, sZ, sS]
      refine tkG 14 26 hH ?_; try simp only [Act.put, sA, sZ, sS]
      refine tkG 15 27 hH ?_; try simp only [Act.put, sA, sZ, sS]
      refine wpAnyH_ready (rs := [16]) (by kernel_rfl) (by simp) ?_
      refine AllReadyH.cons rfl (fun K hK => ?_) AllReadyH.nil
      go_simp
      refine (l4Flag_any _ _).mono ?_
      rintro e w1 ⟨rfl, hw1⟩
      obtain rfl := hw1.symm
      refine hK.out _ _ hH (fun hA => ?_)
      clear hK K
      try simp only [Act.put, sA, sZ, sS]
      refine wpAnyH_ready (rs := [17]) (by kernel_rfl) (by simp) ?_
      refine AllReadyH.cons rfl (fun K hK => ?_) AllReadyH.nil
      go_simp
      refine (l2Int_any _ _ (by split <;> omega) (by split <;> omega)).mono ?_
      rw [itoa_flag]
      rintro e w2 ⟨rfl, b2⟩
      have s0 := qb.size
      replace qo := qo.below b2
      replace qb := qb.trans (b2.mono s0)
      refine hK.out _ _ (WriAt.below (e := x) hH b2) (fun hB => ?_)
      clear hK K
      try simp only [Act.put, sA, sZ, sS]
      have hr3 := tri_rd w2 x.key x.val (flT x.gone)
      have o3 := qo.below (below1 w2 (.cells #[.string x.key, .string x.val, .string (flT x.gone)] 9))
      have b3 := qb.trans ((below1 w2 (.cells #[.string x.key, .string x.val, .string (flT x.gone)] 9)).mono qb.size)
      have hB2 := WriAt.below (e := x) hB (below1 w2 (.cells #[.string x.key, .string x.val, .string (flT x.gone)] 9))
      refine wpAnyH_ready (rs := [18]) (by kernel_rfl) (by simp) ?_
      refine AllReadyH.cons rfl (fun K hK => ?_) AllReadyH.nil
      go_simp
      refine hK.out _ _ hB2 (fun hC => ?_)
      clear hK K
      try simp only [Act.put, sA, sZ, sS]
      generalize w2.alloc (.cells #[.string x.key, .string x.val, .string (flT x.gone)] 9) = W3 at hr3 o3 b3 hB2 hC ⊢
      refine wpAnyH_ready (rs := [19]) (by kernel_rfl) (by simp) ?_
      refine AllReadyH.cons rfl (fun K hK => ?_) AllReadyH.nil
      refine step_append_txts rfl 31 rfl _ _ rfl w.heap.size _ _ ys [x.key, x.val, flT x.gone] rfl rfl o3 hr3 (nilOk_tri _ _ _) (by simp; omega) b3.size ?_
      intro v4 w4 ho4 hg4
      have b4 : Below w.heap.size w w4 := b3.grown hg4 b3.size (fun k hk => (World.ownsRow.lt o3 k hk).1)
      have hc4 := hc0.below b4
      refine hK.out _ _ hc4 (fun hD => ?_)
      clear hK K
      try simp only [Act.put, sA, sZ, sS]
      refine tkG 20 3 hD ?_; try simp only [Act.put, sA, sZ, sS]
      refine wpAnyH_done (by kernel_rfl) ?_ _
      refine NoPanic.normal ?_
      clear hH hA hB hB2 hC hD hg4 o3 hr3 b3 qo qb b2 hc4 hc0
      have e5 : Hid (ys ++ [x.key, x.val, flT x.gone] = batTx (xs.take (k + 1))) := HM.out.symm
      rw [e5.out] at ho4
      go_wp2
      go_roundw
      case rel => exact ⟨k + 1, by omega, by go_num, ho4, b4⟩
      case measure => simp [intOf]; omega
    · have hke : k = n := by omega
      have HE : Hid (batTx (xs.take k) = batTx xs) := by unfold Hid; rw [hke, HN.out, List.take_length]
      rw [HE.out] at ho
      clear hke
      go_wp2_with fail
      refine (specTexts_any _ (batTx xs) _ ho.rd HSM.out).mono ?_
      rintro e w1 ⟨u, rfl, ho1, hb1⟩
      have hb2 := hb.trans (hb1.mono hb.size)
      have hcv := conv_own ho1
      rw [← HT.out] at hcv
      clear ho hb hb1
      obtain ⟨au, cu, hu⟩ := ho1.rd.shape
      subst hu
      go_wp2
      go_ret
      exact ⟨rfl, hb2⟩
theorem specBatch_any (v : Value) (xs : List Wri) (w : World) (hr : RdW w v xs) (hf : ∀ x ∈ xs, FitsW x) :
    Calls Tryz.prog 16 #[v] w fun e w' => e = .returned (.string (batS xs)) ∧ Below w.heap.size w w' := by
  have HL : Hid (Calls Tryz.prog 39 #[v] w fun e w' => e = .returned (.bool (batchOk xs)) ∧ Below w.heap.size w w') := l7Batch_any v xs w hr hf
  have HB : Hid (batchOk xs = true → ∀ W, Below w.heap.size w W → Calls Tryz.prog 40 #[v] W fun e w' => e = .returned (.string (batT xs)) ∧ Below W.heap.size W w') := fun h W hb => l10Batch_any v xs W (hr.below hb) h
  obtain ⟨a, cap, hv, hl, hm, _⟩ := id hr
  unfold maxLen at hm
  obtain ⟨n, hn⟩ : ∃ n, n = xs.length := ⟨_, rfl⟩
  rw [← hn] at hv hl
  have HN : Hid (n = xs.length) := hn
  subst hv
  clear hn hr hf
  cases hk : batchOk xs with
  | false =>
    have END : Hid (batS xs = ⟨#[]⟩) := batS_no (fun h => by rw [hk] at h; cases h.1)
    rw [hk] at HL
    clear HB
    go_enter Tryz.func16, Tryz.ntmps16
    go_wp2_with fail
    refine HL.out.mono ?_
    rintro e w1 ⟨rfl, b1⟩
    go_wp2
    go_ret
    exact ⟨by rw [END.out]; rfl, b1⟩
  | true =>
    rw [hk] at HL
    by_cases hz : n = 0
    · have END : Hid (batS xs = ⟨#[]⟩) := batS_no (fun h => h.2 (List.length_eq_zero_iff.1 (by rw [← HN.out]; exact hz)))
      subst hz
      clear HB
      go_enter Tryz.func16, Tryz.ntmps16
      go_wp2_with fail
      refine HL.out.mono ?_
      rintro e w1 ⟨rfl, b1⟩
      go_wp2
      go_ret
      exact ⟨by rw [END.out]; rfl, b1⟩
    · have END : Hid (batS xs = batT xs) := batS_yes hk (fun h => hz (by rw [HN.out, h]; rfl))
      have HB2 : Hid (∀ W, Below w.heap.size w W → Calls Tryz.prog 40 _ W fun e w' => e = .returned (.string (batT xs)) ∧ Below W.heap.size W w') := HB.out hk
      have hq : ((n : Int) == 0) = false := by simp; omega
      clear HB hk hz
      go_enter Tryz.func16, Tryz.ntmps16
      go_wp2_with fail
      refine HL.out.mono ?_
      rintro e w1 ⟨rfl, b1⟩
      go_wp2_with fail
      refine (HB2.out _ b1).mono ?_
      rintro e w2 ⟨rfl, b2⟩
      have b3 := b1.trans (b2.mono b1.size)
      clear b1 b2
      go_wp2
      go_ret
      exact ⟨by rw [END.out]; rfl, b3⟩
theorem implBatchOk_any (v : Value) (xs : List Wri) (w : World) (hr : RdW w v xs) (hf : ∀ x ∈ xs, FitsW x) :
    Calls Tryz.prog 28 #[v] w fun e w' => e = .returned (.bool (batchOk xs)) ∧ Below w.heap.size w w' := by
  obtain ⟨a, cap, hv, hl, hm, _⟩ := id hr
  unfold maxLen at hm
  obtain ⟨n, hn⟩ : ∃ n, n = xs.length := ⟨_, rfl⟩
  rw [← hn] at hv hl
  have HN : Hid (n = xs.length) := hn
  have HF : Hid (∀ x ∈ xs, FitsW x) := hf
  subst hv
  clear hn hf
  by_cases hbig : 20 < n
  · have END : Hid (batchOk xs = false) := by unfold Hid batchOk; rw [decide_eq_false (by rw [← HN.out]; omega)]; rfl
    go_enter Tryz.func28, Tryz.ntmps28
    go_wp2
    go_ret
    exact ⟨by rw [END.out]; rfl, Below.refl _ _⟩
  · have HB : Hid (∀ b, xs.all wriOk = b → batchOk xs = b) := fun b h => by unfold batchOk; rw [decide_eq_true (by rw [← HN.out]; omega), h]; rfl
    go_enter Tryz.func28, Tryz.ntmps28
    go_wp2
    go_loopw [10] (fun i wr => ∃ k : Nat, k ≤ n ∧ i = .int .i64 k ∧ Hid ((xs.take k).all wriOk = true) ∧ Below w.heap.size w wr) (fun i _ => n - (intOf i).toNat)
    case atStart => exact ⟨0, Nat.zero_le _, rfl, rfl, Below.refl _ _⟩
    case round =>
      obtain ⟨k, hk, rfl, HA, hb⟩ := hrel
      by_cases hlt : k < n
      · have hkl : k < xs.length := by rw [← HN.out]; exact hlt
        have hkc : k < cap := by omega
        obtain ⟨b, off, rfl, hc⟩ := (hr.below hb).at HN.out k hkl
        have hfx := HF.out (nthW xs k) (by rw [nthW_eq hkl]; exact List.getElem_mem hkl)
        have HM : Hid (wriOk (nthW xs k) = true → (xs.take (k + 1)).all wriOk = true) := fun h => batch_more hkl HA.out h
        have HNO : Hid (wriOk (nthW xs k) = false → batchOk xs = false) := fun h => HB.out false (batch_not hkl h)
        generalize nthW xs k = x at hc hfx HM HNO
        obtain ⟨c0, c1, c2⟩ := hc
        have HE : Hid (∀ W, Calls Tryz.prog 46 #[.agg #[.string x.key, .string x.val, .int .i64 1, .bool x.gone]] W fun e w' => e = .returned (.bool (wriOk x)) ∧ Below W.heap.size W w') := fun W => entryOk_any (wriE x 1) W ⟨hfx.1, hfx.2, by show (-9223372036854775808 : Int) ≤ 1; omega, by show (1 : Int) ≤ 9223372036854775807; omega⟩
        have hx1 := boxW_new wr x 54
        have bb := hb.alloc hb.size (.cells #[.string x.key, .string x.val, .bool x.gone] 54)
        obtain ⟨d0, d1, d2⟩ := id hx1
        clear hkl hfx
        go_wp2_with fail
        refine (entryOf_any x 1 _).mono ?_
        rintro e w0 ⟨rfl, hb0⟩
        have bc := bb.trans (hb0.mono bb.size)
        clear hx1 d0 d1 d2 bb hb0
        go_wp2_with fail
        refine (HE.out _).mono ?_
        rintro e w1 ⟨rfl, hb1⟩
        have b1 := bc.trans (hb1.mono bc.size)
        clear bc hb1 hb HA
        cases hwx : wriOk x with
        | false =>
          have END : Hid (batchOk xs = false) := HNO.out hwx
          clear HM HNO HE hwx
          go_wp2
          go_ret
          exact ⟨by rw [END.out]; rfl, b1⟩
        | true =>
          have HA2 : Hid ((xs.take (k + 1)).all wriOk = true) := HM.out hwx
          clear HM HNO HE hwx
          go_wp2
          go_roundw
          case rel => exact ⟨k + 1, by omega, by go_num, HA2, b1⟩
          case measure => simp [intOf]; omega
      · have hke : k = n := by omega
        have END : Hid (batchOk xs = true) := HB.out true (by have := HA.out; rwa [hke, HN.out, List.take_length] at this)
        clear hke HA
        go_wp2
        go_ret
        exact ⟨by rw [END.out]; rfl, hb⟩
theorem implBatch_any (v : Value) (xs : List Wri) (w : World) (hr : RdW w v xs) (hf : ∀ x ∈ xs, FitsW x) :
    Calls Tryz.prog 9 #[v] w fun e w' => e = .returned (.string (batS xs)) ∧ Below w.heap.size w w' := by
  have HL : Hid (Calls Tryz.prog 28 #[v] w fun e w' => e = .returned (.bool (batchOk xs)) ∧ Below w.heap.size w w') := implBatchOk_any v xs w hr hf
  obtain ⟨a, cap, hv, hl, hm, _⟩ := id hr
  unfold maxLen at hm
  obtain ⟨n, hn⟩ : ∃ n, n = xs.length := ⟨_, rfl⟩
  rw [← hn] at hv hl
  have HN : Hid (n = xs.length) := hn
  subst hv
  clear hf
  by_cases hz : n = 0
  · have END : Hid (batS xs = ⟨#[]⟩) := batS_no (fun h => h.2 (List.length_eq_zero_iff.1 (by rw [← HN.out]; exact hz)))
    clear HL hr hn
    subst hz
    go_enter Tryz.func9, Tryz.ntmps9
    go_wp2
    go_ret
    exact ⟨by rw [END.out]; rfl, Below.refl _ _⟩
  have hq : ((n : Int) == 0) = false := by simp; omega
  cases hk : batchOk xs with
  | false =>
    have END : Hid (batS xs = ⟨#[]⟩) := batS_no (fun h => by rw [hk] at h; cases h.1)
    rw [hk] at HL
    clear hn hr hz
    go_enter Tryz.func9, Tryz.ntmps9
    go_wp2_with fail
    refine HL.out.mono ?_
    rintro e w1 ⟨rfl, b1⟩
    go_wp2
    go_ret
    exact ⟨by rw [END.out]; rfl, b1⟩
  | true =>
    rw [hk] at HL
    have HSM : Hid (∀ s ∈ batTx xs, s.size ≤ 1048576) := fun s hs => by have := batTx_small (ok_small hk) s hs; omega
    have hlen := (batchOk_iff.1 hk).1
    rw [← HN.out] at hlen
    have HLN : Hid (∀ k, (batTx (xs.take k)).length ≤ 3 * n) := fun k => by rw [batTx_len, List.length_take, HN.out]; omega
    have HT : Hid (batS xs = ⟨(textsOf (batTx xs)).toArray⟩) := batS_yes hk (fun h => hz (by rw [HN.out, h]; rfl))
    clear hk hn
    go_enter Tryz.func9, Tryz.ntmps9
    go_wp2_with fail
    refine HL.out.mono ?_
    rintro e w1 ⟨rfl, b1⟩
    have o0 := ownS_none w1
    have b0 := b1.trans ((below1 w1 (.cells #[] 9)).mono b1.size)
    have o0' := o0.mono b1.size
    clear o0 b1 HL hz
    go_wp2
    go_loopw [3, 18] (fun oo ii wr => ∃ k : Nat, k ≤ n ∧ ii = .int .i64 k ∧ OwnS wr w.heap.size oo (batTx (xs.take k)) ∧ Below w.heap.size w wr) (fun _ ii _ => n - (intOf ii).toNat)
    case atStart => exact ⟨0, Nat.zero_le _, rfl, o0', b0⟩
    case round =>
      clear o0' b0
      obtain ⟨k, hk, rfl, ho, hb⟩ := hrel
      by_cases hlt : k < n
      · have hkl : k < xs.length := by rw [← HN.out]; exact hlt
        have hkc : k < cap := by omega
        obtain ⟨b, off, rfl, hc0⟩ := hr.at HN.out k hkl
        have HM : Hid (batTx (xs.take (k + 1)) = batTx (xs.take k) ++ trio (nthW xs k)) := batTx_more hkl
        have hyl := HLN.out k
        generalize nthW xs k = x at hc0 HM
        have hc := hc0.below hb
        generalize batTx (xs.take k) = ys at ho HM hyl
        have c1 : (0 : Int) ≤ (k : Int) := by omega
        have c2 : (k : Int) < (n : Int) := by omega
        obtain ⟨k0, k1, k2⟩ := id hc
        have hx1 := boxW_new wr x 54
        obtain ⟨V, hV⟩ : ∃ V, V = wr.alloc (.cells #[.string x.key, .string x.val, .bool x.gone] 54) := ⟨_, rfl⟩
        have hbV : Below w.heap.size w V := by rw [hV]; exact hb.alloc hb.size _
        have hoV := ho.below (below1 wr (.cells #[.string x.key, .string x.val, .bool x.gone] 54))
        rw [← hV] at hoV
        obtain ⟨d0, d1, d2⟩ := id hx1
        obtain ⟨fl, hfl⟩ : ∃ fl, fl = flT x.gone := ⟨_, rfl⟩
        have hr3 := tri_rd V x.key x.val fl
        have hsz : V.heap.size = wr.heap.size + 1 := by rw [hV]; simp
        rw [hsz] at hr3
        have o3 := hoV.below (below1 V (.cells #[.string x.key, .string x.val, .string fl] 9))
        have b3 := hbV.trans ((below1 V (.cells #[.string x.key, .string x.val, .string fl] 9)).mono hbV.size)
        have s3 := b3.size
        have hlen3 : ys.length + [x.key, x.val, fl].length ≤ 1000000000 := by simp; omega
        have HN2 : Hid (∀ v' w4, OwnS w4 w.heap.size v' (ys ++ [x.key, x.val, fl]) → OwnS w4 w.heap.size v' (batTx (xs.take (k + 1)))) := fun v' w4 h => by rw [HM.out]; unfold trio; rw [← hfl]; exact h
        rw [hV] at hr3 o3 b3 s3
        clear hkl hc hV hbV hoV ho hb hsz
        cases hg : x.gone with
        | true =>
          rw [hg] at hfl d2 k2
          have hfl2 : fl = ⟨#[49]⟩ := hfl
          subst hfl2
          rw [hg] at hr3 o3 b3 s3
          clear hfl hg
          go_wp2_with (at_builtin; (refine wpList_append_txts rfl _ _ rfl w.heap.size _ _ ys _ rfl rfl o3 hr3 (nilOk_tri _ _ _) hlen3 s3 ?_))
          intro v' w4 hown' hgrow
          have b4 : Below w.heap.size w w4 := b3.grown hgrow s3 (fun k hk => (World.ownsRow.lt o3 k hk).1)
          have o4 := HN2.out _ _ hown'
          clear hgrow b3 o3 hr3 hown' HN2 s3 hc0 d0 d1 d2 hx1
          go_wp2
          go_roundw
          case rel => exact ⟨k + 1, by omega, by go_num, o4, b4⟩
          case measure => simp [intOf]; omega
        | false =>
          rw [hg] at hfl d2 k2
          have hfl2 : fl = ⟨#[48]⟩ := hfl
          subst hfl2
          rw [hg] at hr3 o3 b3 s3
          clear hfl hg
          go_wp2_with (at_builtin; (refine wpList_append_txts rfl _ _ rfl w.heap.size _ _ ys _ rfl rfl o3 hr3 (nilOk_tri _ _ _) hlen3 s3 ?_))
          intro v' w4 hown' hgrow
          have b4 : Below w.heap.size w w4 := b3.grown hgrow s3 (fun k hk => (World.ownsRow.lt o3 k hk).1)
          have o4 := HN2.out _ _ hown'
          clear hgrow b3 o3 hr3 hown' HN2 s3 hc0 d0 d1 d2 hx1
          go_wp2
          go_roundw
          case rel => exact ⟨k + 1, by omega, by go_num, o4, b4⟩
          case measure => simp [intOf]; omega
      · have hke : k = n := by omega
        have HE : Hid (batTx (xs.take k) = batTx xs) := by unfold Hid; rw [hke, HN.out, List.take_length]
        rw [HE.out] at ho
        clear hke
        go_wp2_with fail
        refine (implTexts_any _ (batTx xs) _ ho.rd HSM.out).mono ?_
        rintro e w1 ⟨u, rfl, ho1, hb1⟩
        have hb2 := hb.trans (hb1.mono hb.size)
        have hcv := conv_own ho1
        rw [← HT.out] at hcv
        clear ho hb hb1
        obtain ⟨au, cu, hu⟩ := ho1.rd.shape
        subst hu
        go_wp2
        go_ret
        exact ⟨rfl, hb2⟩
open Go.RowKit
theorem and_low (x : Int) (m : Nat) (hm : m < 4611686018427387904) : 0 ≤ bits .and .i64 x (m : Int) ∧ bits .and .i64 x (m : Int) ≤ (m : Int) := by
  have e : bits .and .i64 x (m : Int) = IntKind.i64.wrap ((BitVec.ofInt 64 x &&& BitVec.ofInt 64 (m : Int)).toNat : Int) := rfl
  have h2 : (BitVec.ofInt 64 (m : Int)).toNat = m := by rw [BitVec.ofInt_natCast, BitVec.toNat_ofNat]; exact Nat.mod_eq_of_lt (by omega)
  have h3 : (BitVec.ofInt 64 x &&& BitVec.ofInt 64 (m : Int)).toNat ≤ m := by rw [BitVec.toNat_and, h2]; exact Nat.and_le_right
  rw [e, IntKind.wrap_i64]
  omega
def DCur (w0 w : World) (g : Nat) : Prop :=
  ∃ (v : Value) (bs : List UInt8) (i : Nat) (h : Int), Rd w0 v bs ∧ bs.length ≤ 4096 ∧ w0.heap.size ≤ g ∧ w.heap[g]? = some (.cells #[v, .int .i64 (i : Int), .int .i64 h] 65 (0, 0)) ∧ Below w0.heap.size w0 w ∧ i ≤ bs.length
theorem DCur.ge {w0 w : World} {g : Nat} (h : DCur w0 w g) : w0.heap.size ≤ g := by obtain ⟨_, _, _, _, _, _, h, _⟩ := h; exact h
theorem DCur.lt {w0 w : World} {g : Nat} (h : DCur w0 w g) : g < w.heap.size := by obtain ⟨_, _, _, _, _, _, _, h, _⟩ := h; exact (Array.getElem?_eq_some_iff.1 h).1
theorem DCur.bel {w0 w : World} {g : Nat} (h : DCur w0 w g) : Below w0.heap.size w0 w := by obtain ⟨_, _, _, _, _, _, _, _, h, _⟩ := h; exact h
theorem DCur.alloc {w0 w : World} {g : Nat} (h : DCur w0 w g) (o : Obj) : DCur w0 (w.alloc o) g := by
  have hl := h.lt
  obtain ⟨v, bs, i, x, h1, h2, h3, h4, h5, h6⟩ := h
  exact ⟨v, bs, i, x, h1, h2, h3, by rw [Below.heap_alloc w o g hl]; exact h4, h5.alloc (by omega) o, h6⟩
theorem DCur.grow {w0 w w' : World} {g : Nat} {row : Option Nat} (h : DCur w0 w g) (hg : w.grownBy w' row) (hr : ∀ k, row = some k → g < k) : DCur w0 w' g := by
  have hl := h.lt
  obtain ⟨v, bs, i, x, h1, h2, h3, h4, h5, h6⟩ := h
  exact ⟨v, bs, i, x, h1, h2, h3, by rw [hg.block g hl (fun e => by have := hr g e.symm; omega)]; exact h4, h5.grown hg (by omega) (fun k hk => by have := hr k hk; omega), h6⟩
theorem DCur.drewN {w0 w : World} {g : Nat} (h : DCur w0 w g) (q : Nat) : DCur w0 (w.drewN q) g := by
  obtain ⟨v, bs, i, x, h1, h2, h3, h4, h5, h6⟩ := h
  exact ⟨v, bs, i, x, h1, h2, h3, h4, below_drewN h5 q, h6⟩
def DrawPost (w0 w : World) (g : Nat) (m : Int) (e : Ending) (w' : World) : Prop :=
  ∃ x : Int, e = .returned (.int .i64 x) ∧ 0 ≤ x ∧ x < m ∧ DCur w0 w' g ∧ w.grownBy w' (some g)
theorem set_grown {w : World} {g j : Nat} (u : Value) : w.grownBy (w.setCell ⟨g, j, none⟩ u) (some g) :=
  ⟨rfl, rfl, rfl, by simp, fun k _ hk => heap_setCell_other w ⟨g, j, none⟩ k u (fun e => hk (by simp [e]))⟩
theorem gr_trans {a b c : World} {row : Option Nat} (h : a.grownBy b row) (k : b.grownBy c row) : a.grownBy c row :=
  ⟨k.os.trans h.os, k.tape.trans h.tape, k.output.trans h.output, Nat.le_trans h.size k.size, fun i hi hr => (k.block i (Nat.lt_of_lt_of_le hi h.size) hr).trans (h.block i hi hr)⟩
theorem gr_drewN {a w : World} {row : Option Nat} (h : a.grownBy w row) (q : Nat) : a.grownBy (w.drewN q) row := ⟨h.os, h.tape, h.output, h.size, h.block⟩
theorem gr_refl (a : World) (row : Option Nat) : a.grownBy a row := ⟨rfl, rfl, rfl, Nat.le_refl _, fun _ _ _ => rfl⟩
theorem three_cells {w : World} {g : Nat} {v : Value} {i h : Int} (hb : w.heap[g]? = some (.cells #[v, .int .i64 i, .int .i64 h] 65 (0, 0))) :
    w.cell? ⟨g, 0, none⟩ = some v ∧ w.cell? ⟨g, 1, none⟩ = some (.int .i64 i) ∧ w.cell? ⟨g, 2, none⟩ = some (.int .i64 h) ∧ w.frozen? ⟨g, 1, none⟩ = false ∧ w.frozen? ⟨g, 2, none⟩ = false := by
  refine ⟨?_, ?_, ?_, ?_, ?_⟩ <;> simp [World.cell?, World.frozen?, hb]
theorem three_set2 {w : World} {g : Nat} {v : Value} {i h h' : Int} (hb : w.heap[g]? = some (.cells #[v, .int .i64 i, .int .i64 h] 65 (0, 0))) :
    (w.setCell ⟨g, 2, none⟩ (.int .i64 h')).heap[g]? = some (.cells #[v, .int .i64 i, .int .i64 h'] 65 (0, 0)) := by rw [heap_setCell_same w g 2 _ _ _ hb]; rfl
theorem three_set1 {w : World} {g : Nat} {v : Value} {i i' h : Int} (hb : w.heap[g]? = some (.cells #[v, .int .i64 i, .int .i64 h] 65 (0, 0))) :
    (w.setCell ⟨g, 1, none⟩ (.int .i64 i')).heap[g]? = some (.cells #[v, .int .i64 i', .int .i64 h] 65 (0, 0)) := by rw [heap_setCell_same w g 1 _ _ _ hb]; rfl

theorem l1Byte_any (w0 w : World) (g : Nat) (h : DCur w0 w g) :
    Calls Tryz.prog 42 #[.pointer (some ⟨g, 0, none⟩)] w fun e w' => DrawPost w0 w g 256 e w' := by
  obtain ⟨v, bs, i, x, hr, hbl, hge, hblk, hbel, hile⟩ := h
  obtain ⟨a, cap, hv, hl, hm, hA⟩ := hr
  have HRd : Hid (Rd w0 v bs) := ⟨a, cap, hv, hl, hm, hA⟩
  unfold maxLen at hm
  subst hv
  obtain ⟨c0, c1, c2, f1, f2⟩ := three_cells hblk
  go_enter Tryz.func42, Tryz.ntmps42
  go_wp2
  generalize wrap64 (wrap64 (x * 6364136223846793005) + 1442695040888963407) = y
  have hblk2 := three_set2 (h' := y) hblk
  have hgr : w.grownBy (w.setCell ⟨g, 2, none⟩ (.int .i64 y)) (some g) := set_grown _
  have hbel2 : Below w0.heap.size w0 (w.setCell ⟨g, 2, none⟩ (.int .i64 y)) := hbel.setCell hge _
  generalize w.setCell ⟨g, 2, none⟩ (.int .i64 y) = W at hblk2 hgr hbel2 ⊢
  clear c0 c1 c2 f1 f2 hblk hbel
  obtain ⟨c0, c1, c2, f1, f2⟩ := three_cells hblk2
  go_quiet (fail)
  have hx1 := fun z : Int => and_low z 255 (by omega)
  by_cases hi : i < bs.length
  · obtain ⟨b, off, ha, hcl⟩ : ∃ b off, a = some ⟨b, off, none⟩ ∧ W.cell? ⟨b, off + i, none⟩ = some (.int .u8 (bs[i].toNat : Int)) := by
      rcases hA with h | ⟨b, off, ha, hc⟩
      · subst h; simp at hi
      · exact ⟨b, off, ha, by rw [hbel2.cell (World.block_lt_of_cell? w0 _ (hc i hi))]; exact hc i hi⟩
    rw [ha] at c0
    have Hx1 : Hid (∀ z : Int, 0 ≤ bits .and .i64 z ((255 : Nat) : Int) ∧ bits .and .i64 z ((255 : Nat) : Int) ≤ ((255 : Nat) : Int)) := hx1
    have HI : Hid (i + 1 ≤ bs.length) := by show _ ≤ _; omega
    clear hA hx1
    go_wp2
    go_quiet (fail)
    go_wp2
    go_quiet (fail)
    go_wp2
    go_ret
    refine ⟨_, rfl, (Hx1.out _).1, Int.lt_of_le_of_lt (Hx1.out _).2 (by decide), ⟨_, bs, i + 1, y, HRd.out, hbl, hge, three_set1 hblk2, (below_drewN hbel2 _).setCell hge _, HI.out⟩, gr_trans (gr_drewN hgr _) (set_grown _)⟩
  · have Hx1 : Hid (∀ z : Int, 0 ≤ bits .and .i64 z ((255 : Nat) : Int) ∧ bits .and .i64 z ((255 : Nat) : Int) ≤ ((255 : Nat) : Int)) := hx1
    clear hA hx1
    go_wp2
    go_quiet (fail)
    go_wp2
    go_ret
    refine ⟨_, rfl, (Hx1.out _).1, Int.lt_of_le_of_lt (Hx1.out _).2 (by decide), ⟨_, bs, i, y, HRd.out, hbl, hge, hblk2, below_drewN (below_drewN hbel2 _) _, hile⟩, gr_drewN (gr_drewN hgr _) _⟩

theorem l1Below_any (w0 w : World) (g : Nat) (n : Int) (h : DCur w0 w g) (hn : 0 < n) (hn2 : n ≤ 4294967296) :
    Calls Tryz.prog 21 #[.pointer (some ⟨g, 0, none⟩), .int .i64 n] w fun e w' => DrawPost w0 w g n e w' := by
  by_cases h256 : n ≤ 256
  · go_enter Tryz.func21, Tryz.ntmps21
    go_wp2_with fail
    refine (l1Byte_any w0 _ g h).mono ?_
    rintro e w1 ⟨x, rfl, hx0, hx1, hc, hg⟩
    have hm0 := Int.emod_nonneg x (show n ≠ 0 by omega)
    have hm1 := Int.emod_lt_of_pos x hn
    go_wp2
    go_ret
    exact ⟨_, rfl, hm0, hm1, hc, hg⟩
  · go_enter Tryz.func21, Tryz.ntmps21
    go_wp2_with fail
    refine (l1Byte_any w0 _ g h).mono ?_
    rintro e w1 ⟨x1, rfl, hx0, hx1, hc1, hg1⟩
    go_wp2_with fail
    refine (l1Byte_any w0 _ g hc1).mono ?_
    rintro e w2 ⟨x2, rfl, hy0, hy1, hc2, hg2⟩
    have hg12 := gr_trans hg1 hg2
    clear hc1 hg1 hg2
    go_wp2_with fail
    refine (l1Byte_any w0 _ g hc2).mono ?_
    rintro e w3 ⟨x3, rfl, hz0, hz1, hc3, hg3⟩
    have hg13 := gr_trans hg12 hg3
    clear hc2 hg12 hg3
    go_wp2_with fail
    refine (l1Byte_any w0 _ g hc3).mono ?_
    rintro e w4 ⟨x4, rfl, hu0, hu1, hc4, hg4⟩
    have hg14 := gr_trans hg13 hg4
    clear hc3 hg13 hg4
    have hm0 := Int.emod_nonneg (x1 * 16777216 + x2 * 65536 + x3 * 256 + x4) (show n ≠ 0 by omega)
    have hm1 := Int.emod_lt_of_pos (x1 * 16777216 + x2 * 65536 + x3 * 256 + x4) hn
    go_wp2
    go_ret
    exact ⟨_, rfl, hm0, hm1, hc4, hg14⟩
def OncePost (w0 w : World) (g : Nat) (e : Ending) (w' : World) : Prop := ∃ b : Bool, e = .returned (.bool b) ∧ DCur w0 w' g ∧ w.grownBy w' (some g)
theorem l1Once_any (w0 w : World) (g : Nat) (n : Int) (h : DCur w0 w g) (hn : 0 < n) (hn2 : n ≤ 4294967296) :
    Calls Tryz.prog 23 #[.pointer (some ⟨g, 0, none⟩), .int .i64 n] w fun e w' => OncePost w0 w g e w' := by
  go_enter Tryz.func23, Tryz.ntmps23
  go_wp2_with fail
  refine (l1Below_any w0 _ g n h hn hn2).mono ?_
  rintro e w1 ⟨x, rfl, hx0, hx1, hc, hg⟩
  go_wp2
  go_ret
  exact ⟨_, rfl, hc, hg⟩
def NewPost (w : World) (e : Ending) (w' : World) : Prop := ∃ g, e = .returned (.pointer (some ⟨g, 0, none⟩)) ∧ DCur w w' g
theorem l1New_any (v : Value) (bs : List UInt8) (w : World) (hr : Rd w v bs) (hb : bs.length ≤ 4096) :
    Calls Tryz.prog 20 #[v] w fun e w' => NewPost w e w' := by
  have HRd : Hid (Rd w v bs) := hr
  obtain ⟨a, cap, hv, hl, hm, hA⟩ := hr
  unfold maxLen at hm
  subst hv
  go_enter Tryz.func20, Tryz.ntmps20
  go_wp2
  go_loop [3, 4] (fun hh ii => ∃ (k : Nat) (y : Int), k ≤ bs.length ∧ ii = .int .i64 k ∧ hh = .int .i64 y ∧ 0 ≤ y ∧ y ≤ 1073741823) (fun _ ii => bs.length - (intOf ii).toNat)
  case atStart => exact ⟨0, _, Nat.zero_le _, rfl, rfl, by omega, by omega⟩
  case round =>
    obtain ⟨k, y, hk, rfl, rfl, hy0, hy1⟩ := hrel
    by_cases hlt : k < bs.length
    · obtain ⟨b, off, ha, hc⟩ : ∃ b off, a = some ⟨b, off, none⟩ ∧ w.cell? ⟨b, off + k, none⟩ = some (.int .u8 (bs[k].toNat : Int)) := by
        rcases hA with h | ⟨b, off, ha, hc⟩
        · subst h; simp at hlt
        · exact ⟨b, off, ha, hc k hlt⟩
      rw [ha]
      have Hx1 : Hid (∀ z : Int, 0 ≤ bits .and .i64 z ((1073741823 : Nat) : Int) ∧ bits .and .i64 z ((1073741823 : Nat) : Int) ≤ ((1073741823 : Nat) : Int)) := fun z => and_low z 1073741823 (by omega)
      obtain ⟨d, hd⟩ : ∃ d : Nat, d = bs[k].toNat := ⟨_, rfl⟩
      have hd8 : d < 256 := by rw [hd]; exact UInt8.toNat_lt _
      rw [← hd] at hc
      clear hA hd
      go_wp2
      go_round
      case rel => exact ⟨k + 1, _, by omega, by go_num, rfl, (Hx1.out _).1, (Hx1.out _).2⟩
      case measure => simp [intOf]; omega
    · clear hA
      go_wp2
      go_ret
      exact ⟨w.heap.size, rfl, _, bs, 0, y, HRd.out, hb, Nat.le_refl _, heap_alloc_new w _, (Below.refl _ _).alloc (Nat.le_refl _) _, Nat.zero_le _⟩
open Go.RowKit
def TextD (w0 w : World) (g m : Nat) (e : Ending) (w' : World) : Prop := ∃ s : ByteArray, e = .returned (.string s) ∧ s.size ≤ m ∧ DCur w0 w' g ∧ w.grownBy w' (some g)
theorem gr_alloc {a w : World} {row : Option Nat} (h : a.grownBy w row) (o : Obj) : a.grownBy (w.alloc o) row := by
  have := h.size
  exact ⟨h.os, h.tape, h.output, by simp; omega, fun k hk hr => (Below.heap_alloc w o k (by omega)).trans (h.block k hk hr)⟩
theorem gr_young {a w w' : World} {row row2 : Option Nat} (h : a.grownBy w row) (hg : w.grownBy w' row2) (hy : ∀ k, row2 = some k → a.heap.size ≤ k) : a.grownBy w' row := by
  have := h.size
  exact ⟨hg.os.trans h.os, hg.tape.trans h.tape, hg.output.trans h.output, Nat.le_trans h.size hg.size, fun k hk hr => (hg.block k (by omega) (fun e => by have := hy k e.symm; omega)).trans (h.block k hk hr)⟩

theorem l1DrawText_any (w0 w : World) (g : Nat) (h : DCur w0 w g) :
    Calls Tryz.prog 22 #[.pointer (some ⟨g, 0, none⟩)] w fun e w' => TextD w0 w g 9 e w' := by
  obtain ⟨i0, hi, hz0, hz1, hz2⟩ := info_parts Tryz.info5
  have hlt := h.lt
  have hst := own_none w
  have hdc := h.alloc (.cells #[] 5)
  have hgr := gr_alloc (gr_refl w (some g)) (.cells #[] 5)
  go_enter Tryz.func22, Tryz.ntmps22
  go_wp2_with fail
  refine (l1Below_any w0 _ g 8 hdc (by omega) (by omega)).mono ?_
  rintro e w1 ⟨x, rfl, hx0, hx1, hc, hg⟩
  have ho1 : Own w1 w.heap.size _ [] := row_kept hst hg (fun k hk e => by have := (World.ownsRow.lt hst k hk).1; simp at e; omega)
  have hgr1 := gr_trans hgr hg
  clear hst hdc hgr h hg
  go_wp2
  go_loopw [3, 4] (fun oo nn wr => ∃ (m : Nat) (ys : List UInt8), nn = .int .i64 m ∧ ys.length + m ≤ 8 ∧ Own wr w.heap.size oo ys ∧ DCur w0 wr g ∧ w.grownBy wr (some g)) (fun _ nn _ => (intOf nn).toNat)
  case atStart =>
    obtain ⟨m, rfl⟩ := Int.eq_ofNat_of_zero_le hx0
    exact ⟨m, [], rfl, by simp; omega, ho1, hc, hgr1⟩
  case round =>
    obtain ⟨m, ys, rfl, hym, ho, hdc, hgw⟩ := hrel
    clear ho1 hc hgr1
    have hs := hgw.size
    by_cases hm : 0 < m
    · go_wp2_with fail
      refine (l1Below_any w0 _ g 4 hdc (by omega) (by omega)).mono ?_
      rintro e w2 ⟨y, rfl, hy0, hy1, hc2, hg2⟩
      have ho2 : Own w2 w.heap.size _ ys := row_kept ho hg2 (fun k hk e => by have := (World.ownsRow.lt ho k hk).1; simp at e; omega)
      have hgw2 := gr_trans hgw hg2
      have hs2 := hg2.size
      clear ho hdc hgw hg2
      go_wp2_with (at_builtin; (refine wpList_append_own _ rfl _ _ 22 rfl w.heap.size 5 i0 (.int .u8 0) 1 1 Tryz.underlying22 hi hz0 hz1 hz2 rfl (by decide) _ _ _ rfl (World.ownsRow.alloc ho2 _) ⟨w2.heap.size, 0, none⟩ 1 1 [.int .u8 (97 + y)] rfl rfl ?c1 ?c2 ?c3 ?c4 ?c5 ?_))
      case c1 => exact one_new _ _ _
      case c2 => intro u hu; simp at hu; subst hu; rfl
      case c3 => unfold maxLen; omega
      case c4 => omega
      case c5 => simp; omega
      intro v' w3 hown' hgrow _
      have R1 := own_push _ (some_byte (97 + y) (by omega) (by omega)) hown'
      have R2 := (hc2.alloc _).grow hgrow (fun k hk => by have := (World.ownsRow.lt ho2 k hk).1; omega)
      have R3 := gr_young (gr_alloc hgw2 _) hgrow (fun k hk => (World.ownsRow.lt ho2 k hk).1)
      clear hown' hgrow ho2 hc2 hgw2
      go_wp2
      go_roundw
      case rel => exact ⟨m - 1, _, by go_num, by rw [List.length_append]; simp; omega, R1, R2, R3⟩
      case measure => simp [intOf]; omega
    · have hm0 : m = 0 := by omega
      subst hm0
      go_wp2_with fail
      refine (l1Once_any w0 _ g 6 hdc (by omega) (by omega)).mono ?_
      rintro e w2 ⟨b, rfl, hc2, hg2⟩
      have ho2 : Own w2 w.heap.size _ ys := row_kept ho hg2 (fun k hk e => by have := (World.ownsRow.lt ho k hk).1; simp at e; omega)
      have hgw2 := gr_trans hgw hg2
      have hs2 := hg2.size
      clear ho hdc hgw hg2
      cases b
      · have hcv := conv_own ho2
        go_wp2
        go_ret
        exact ⟨_, rfl, by show ys.toArray.size ≤ 9; simp; omega, hc2, hgw2⟩
      · go_wp2_with fail
        refine (l1Byte_any w0 _ g hc2).mono ?_
        rintro e w3 ⟨y, rfl, hy0, hy1, hc3, hg3⟩
        have ho3 : Own w3 w.heap.size _ ys := row_kept ho2 hg3 (fun k hk e => by have := (World.ownsRow.lt ho2 k hk).1; simp at e; omega)
        have hgw3 := gr_trans hgw2 hg3
        have hs3 := hg3.size
        clear ho2 hc2 hgw2 hg3
        go_wp2_with (at_builtin; (refine wpList_append_own _ rfl _ _ 22 rfl w.heap.size 5 i0 (.int .u8 0) 1 1 Tryz.underlying22 hi hz0 hz1 hz2 rfl (by decide) _ _ _ rfl (World.ownsRow.alloc ho3 _) ⟨w3.heap.size, 0, none⟩ 1 1 [.int .u8 y] rfl rfl ?d1 ?d2 ?d3 ?d4 ?d5 ?_))
        case d1 => exact one_new _ _ _
        case d2 => intro u hu; simp at hu; subst hu; rfl
        case d3 => unfold maxLen; omega
        case d4 => omega
        case d5 => simp; omega
        intro v' w4 hown' hgrow _
        have R1 := own_push _ (some_byte y (by omega) (by omega)) hown'
        have R2 := (hc3.alloc _).grow hgrow (fun k hk => by have := (World.ownsRow.lt ho3 k hk).1; omega)
        have R3 := gr_young (gr_alloc hgw3 _) hgrow (fun k hk => (World.ownsRow.lt ho3 k hk).1)
        have hcv := conv_own R1
        have hyl : (ys ++ [UInt8.ofNat y.toNat]).length ≤ 9 := by rw [List.length_append]; simp; omega
        generalize ys ++ [UInt8.ofNat y.toNat] = zs at R1 hcv hyl
        clear hown' hgrow ho3 hc3 hgw3
        go_wp2
        go_ret
        exact ⟨_, rfl, by show zs.toArray.size ≤ 9; simpa using hyl, R2, R3⟩
end Go.Proofs.YtpbbahpndgigjaaGreatDoor
