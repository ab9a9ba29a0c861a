/- Whatever code it is called with, laws.FnMerged returns true and its argument reads as before: merged lists have all their entries in order, and what is seen of the merged is the newest of what is seen of each, by the program as by the model. No condition. -/
import Derived.Test.YtihacdfchmobpaaRows
import Derived.Test.YtihacdfchmobpaaMrgDraw2
import Derived.ProofKit
import Derived.OpenShut
import Derived.ShutString
import Derived.ChangeOld
namespace Go.Proofs.Ytihacdfchmobpaa
open Go.ChangeShapes Go.WideShapes Go.ChangeAt Go.RowKit
theorem specSeen_atM (v : Value) (es : List Ent) (key : ByteArray) (q : Int) (x : Ent) (w : World) (hr : RdE w v es) (hf : ∀ e ∈ es, Fits e) (hok : okL es = true) (ho : seenL es key q = some x) :
    Calls Try.prog 14 #[v, .string key, .int .i64 q] w fun e w' => e = .returned (.tuple #[.agg #[.string x.key, .string x.val, .int .i64 x.seq, .bool x.gone], .bool true]) ∧ Below w.heap.size w w' := by
  have h := specSeen_any v es key q w hr hf
  have ha : seenA es key q = some x := by unfold seenA; rw [if_pos hok]; exact ho
  unfold SeenPost at h
  rw [ha] at h
  exact h
theorem mergedL_fits {ls : List (List Ent)} (h : ∀ l ∈ ls, ∀ e ∈ l, Fits e) : ∀ e ∈ mergedL ls, Fits e := fun e he => by
  rcases mF_mem ls [] e he with h0 | ⟨l, hl, hel⟩
  · cases h0
  · exact h l hl e hel
theorem mergedR_no {ls : List (List Ent)} (h : (mergedR ls).2 = false) : (mergedR ls).1 = [] := by
  unfold mergedR at h ⊢
  split
  · rename_i hk; rw [if_pos hk] at h; cases h
  · rfl
theorem mergedR_yes {ls : List (List Ent)} (h : (mergedR ls).2 = true) : mergedOk ls = true ∧ (mergedR ls).1 = mergedL ls := by
  unfold mergedR at h ⊢
  split
  · rename_i hk; exact ⟨hk, rfl⟩
  · rename_i hk; rw [if_neg hk] at h; cases h
theorem lsum_le {ls : List (List Ent)} (h : ∀ l ∈ ls, l.length ≤ 400) : lsum ls ≤ 400 * ls.length := by
  induction ls with
  | nil => simp [lsum]
  | cons a r ih =>
    have h1 := ih (fun s hs => h s (List.mem_cons_of_mem _ hs))
    have h2 := h a List.mem_cons_self
    simp only [lsum, List.map_cons, List.sum_cons, List.length_cons] at h1 ⊢
    omega
theorem lsum_take_le (ls : List (List Ent)) (k : Nat) : lsum (ls.take k) ≤ lsum ls := by
  have : lsum ls = lsum (ls.take k) + lsum (ls.drop k) := by
    unfold lsum
    rw [← List.sum_append, ← List.map_append, List.take_append_drop]
  omega
set_option maxHeartbeats 8000000 in
set_option maxRecDepth 100000 in
theorem lawMergedF (v : Value) (bs : List UInt8) (w : World) (hr : Rd w v bs) :
    Calls Try.prog 3 #[v] w fun e w' => e = .returned (.bool true) ∧ Below w.heap.size w w' := by
  by_cases hbig : 4096 < bs.length
  · have hb2 : decide (4096 < (bs.length : Int)) = true := by simp; omega
    go_enter Try.func3, Try.ntmps3
    go_wp2_with fail
    refine (big_any v bs w hr).mono ?_
    rw [hb2]
    rintro e wb ⟨rfl, hwb⟩
    obtain rfl := hwb.symm
    go_wp2
    go_ret
    exact ⟨rfl, Below.refl _ _⟩
  have hb2 : decide (4096 < (bs.length : Int)) = false := by simp; omega
  go_enter Try.func3, Try.ntmps3
  go_wp2_with fail
  refine (big_any v bs w hr).mono ?_
  rw [hb2]
  rintro e wb ⟨rfl, hwb⟩
  obtain rfl := hwb.symm
  clear hb2
  go_wp2_with fail
  refine (drawMerged_any v bs _ hr (by omega)).mono ?_
  rintro e w1 ⟨u, us, rfl, hp1, hul, hsm, b1⟩
  obtain ⟨ls, hls⟩ : ∃ ls, ls = us.map (·.2) := ⟨_, rfl⟩
  have HFL : Hid (∀ l ∈ ls, ∀ e ∈ l, Fits e) := fun l hl e he => by
    rw [hls] at hl
    obtain ⟨p, hp', rfl⟩ := List.mem_map.1 hl
    exact ((hsm p hp').2 e he).fits
  have HL4 : Hid (∀ l ∈ ls, l.length ≤ 400) := fun l hl => by
    rw [hls] at hl
    obtain ⟨p, hp', rfl⟩ := List.mem_map.1 hl
    exact (hsm p hp').1
  have hln : ls.length = us.length := by rw [hls, List.length_map]
  have HFP : Hid (∀ p ∈ us, ∀ e ∈ p.2, Fits e) := fun p hp' e he => ((hsm p hp').2 e he).fits
  have CI : Hid (∀ W, Pieces W u us → Calls Try.prog 10 #[u] W fun e w' => MergedPost W ls e w') := fun W h => by rw [hls]; exact implMerged_any u us W h HFP.out
  have CS : Hid (∀ W, Pieces W u us → Calls Try.prog 11 #[u] W fun e w' => MergedPost W ls e w') := fun W h => by rw [hls]; exact specMerged_any u us W h HFP.out
  unfold MergedPost at CI CS
  have HNO : Hid ((mergedR ls).2 = false → (mergedR ls).1 = []) := mergedR_no
  have HYES : Hid ((mergedR ls).2 = true → mergedOk ls = true ∧ (mergedR ls).1 = mergedL ls) := mergedR_yes
  generalize (mergedR ls).1 = M at CI CS HNO HYES
  generalize (mergedR ls).2 = ok at CI CS HNO HYES
  have hqb : (ok != ok) = false := by simp
  have HUS : Hid (ls = us.map (·.2)) := hls
  clear hsm hls
  go_wp2_with fail
  refine (CI.out _ hp1).mono ?_
  rintro e w2 ⟨vm, rfl, hm2, hb2⟩
  have b2 := b1.trans (hb2.mono b1.size)
  have hp2 := hp1.below hb2
  clear hp1 hb2 b1 CI
  go_wp2_with fail
  refine (CS.out _ hp2).mono ?_
  rintro e w3 ⟨vx, rfl, hx3, hb3⟩
  have b3 := b2.trans (hb3.mono b2.size)
  have hp3 := hp2.below hb3
  have hm3 := hm2.below hb3
  clear hp2 hm2 hb3 b2 CS
  go_wp2_with fail
  refine (likeEnts_same _ _ M _ hm3.rd hx3.rd).mono ?_
  rintro e w4 ⟨rfl, n4, rfl⟩
  have b4 := belowN b3 n4
  have hp4 : Pieces (w3.drewN n4) u us := hp3
  have hm4 := hm3.drewN n4
  generalize w3.drewN n4 = W4 at b4 hp4 hm4 ⊢
  clear hp3 hm3 hx3 b3
  obtain ⟨am, cm, hvm, hlm, hmm, -⟩ := id hm4.rd
  obtain ⟨mn, hmn⟩ : ∃ mn, mn = M.length := ⟨_, rfl⟩
  rw [← hmn] at hvm hlm
  subst hvm
  unfold maxLen at hmm
  have HMN : Hid (mn = M.length) := hmn
  clear hmn
  cases ok with
  | false =>
    have hm0 : mn = 0 := by rw [HMN.out, HNO.out rfl]; rfl
    subst hm0
    clear HNO HYES
    go_wp2
    go_ret
    exact ⟨rfl, b4⟩
  | true =>
    obtain ⟨hmok, hML⟩ := HYES.out rfl
    have HOK : Hid (okL M = true) := by rw [hML]; exact merged_ok hmok
    have HFM : Hid (∀ e ∈ M, Fits e) := by rw [hML]; exact mergedL_fits HFL.out
    have HSEE : Hid (∀ l ∈ ls, ∀ z ∈ l, ∃ uv ug, seenL M z.key z.seq = some ⟨z.key, uv, z.seq, ug⟩) := fun l hl z hz => by
      obtain ⟨x, h1, h2, h3⟩ := merged_seen hmok hl hz
      refine ⟨x.val, x.gone, ?_⟩
      rw [hML, h1]
      cases x
      simp only at h2 h3
      rw [h2, h3]
    have HLE : Hid (mn ≤ lsum ls) := by unfold Hid; rw [HMN.out, hML]; exact mergedL_len ls
    have HTOT : Hid (lsum ls ≤ 8400) := by have := lsum_le HL4.out; unfold Hid; omega
    clear HNO HYES hmok hML HMN
    go_wp2_with fail
    refine (implOk_yes _ M _ hm4.rd HFM.out HOK.out).mono ?_
    rintro e w5 ⟨rfl, hb5⟩
    have b5 := b4.trans (hb5.mono b4.size)
    have hp5 := hp4.below hb5
    have hm5 := hm4.below hb5
    clear hp4 hm4 hb5 b4
    obtain ⟨al, cl, hvl, hll, hml, hat⟩ := hp5.at
    rw [← HUS.out] at hat
    obtain ⟨nn, hnn⟩ : ∃ nn, nn = us.length := ⟨_, rfl⟩
    rw [← hnn] at hvl hll hat hul hln
    have AT : Hid (∀ k, k < nn → _) := hat
    have HLN : Hid (ls.length = nn) := hln
    unfold maxLen at hml
    subst hvl
    clear hat hnn hp5 hln
    go_wp2
    go_loopw [8, 9] (fun t i wr => ∃ (k a : Nat), k ≤ nn ∧ i = .int .i64 k ∧ t = .int .i64 a ∧ a ≤ 8400 ∧ Hid (a = lsum (ls.take k)) ∧ Below w5.heap.size w5 wr) (fun _ i _ => nn - (intOf i).toNat)
    case atStart => exact ⟨0, 0, Nat.zero_le _, rfl, rfl, by omega, by unfold Hid; simp [lsum], Below.refl _ _⟩
    case round =>
      obtain ⟨k, a, hk, rfl, rfl, ha8, HA, hb⟩ := hrel
      by_cases hlt : k < nn
      · obtain ⟨bl, ol, aa, zn, cc, zs, rfl, hc5, hrz5, hlz⟩ := AT.out k hlt w5 (Below.refl _ _)
        have hc := (hb.cell (World.block_lt_of_cell? w5 _ hc5)).trans hc5
        have hrz := hrz5.below hb
        have HLZ : Hid (ls[k]? = some zs) := hlz
        obtain ⟨aa', cc', hvv, hzc, hzm, -⟩ := id hrz
        simp only [Value.slice.injEq] at hvv
        obtain ⟨-, hzn, rfl⟩ := hvv
        have HZN : Hid (zn = zs.length) := hzn
        rw [← hzn] at hzc
        unfold maxLen at hzm
        have HA2 : Hid (a + zn = lsum (ls.take (k + 1))) := by unfold Hid; rw [lsum_take hlz, HA.out, hzn]
        have ha9 : a + zn ≤ 8400 := by rw [HA2.out]; exact Nat.le_trans (lsum_take_le ls (k + 1)) HTOT.out
        have HSZ : Hid (∀ z ∈ zs, ∃ uv ug, seenL M z.key z.seq = some ⟨z.key, uv, z.seq, ug⟩) := HSEE.out zs (List.mem_of_getElem? hlz)
        have hkc : k < cl := by omega
        clear hlz hzn HA hrz
        go_wp2
        go_loopw [10] (fun j wr => ∃ jn : Nat, jn ≤ zn ∧ j = .int .i64 jn ∧ Below w5.heap.size w5 wr) (fun j _ => zn - (intOf j).toNat)
        case atStart => exact ⟨0, Nat.zero_le _, rfl, hb⟩
        case round =>
          obtain ⟨jn, hjn, rfl, hb2⟩ := hrel
          clear hb hc
          have hcw := (hb2.cell (World.block_lt_of_cell? w5 _ hc5)).trans hc5
          by_cases hjl : jn < zn
          · obtain ⟨b, off, rfl, hz⟩ := (hrz5.below hb2).at HZN.out jn (by rw [← HZN.out]; exact hjl)
            obtain ⟨z, hzz⟩ : ∃ z, z = nth zs jn := ⟨_, rfl⟩
            rw [← hzz] at hz
            obtain ⟨uv, ug, hsee⟩ := HSZ.out z (by rw [hzz, nth_eq (by rw [← HZN.out]; exact hjl)]; exact List.getElem_mem _)
            have HCS : Hid (∀ W B, OwnE W B (.slice am mn cm) M → Calls Try.prog 14 #[.slice am mn cm, .string z.key, .int .i64 z.seq] W fun e w' => e = .returned (.tuple #[.agg #[.string z.key, .string uv, .int .i64 z.seq, .bool ug], .bool true]) ∧ Below W.heap.size W w') := fun W B h => specSeen_atM _ M z.key z.seq ⟨z.key, uv, z.seq, ug⟩ W h.rd HFM.out HOK.out hsee
            have hjc : jn < cc := by omega
            clear hzz hsee
            go_wp2_with fail
            refine wp_region_noPanic ?_
            refine wp_region_held_drew (S := fun W => W.cell? ⟨bl, ol + k, none⟩ = some (.slice (some ⟨b, off, none⟩) zn cc) ∧ EntAt W b (off + jn * 4) z) (by kernel_rfl) ⟨hcw, hz⟩ (fun hH => ?_)
            have qm := hm5.below hb2.drew
            have qb := hb2.drew
            clear hb2 hcw hz
            revert hH qm qb
            generalize wr.drew = W0
            intro hH qm qb
            refine takeH (i := 0) (d := 67) (v := ?_) rfl rfl (by kernel_rfl) (by kernel_rfl) (by kernel_rfl) (fun _ _ _ h => h) (Or.inl ⟨by kernel_rfl, ?_⟩) hH ?_
            rotate_left 1
            · intro w hS; (try dsimp only [EntAt, Nat.zero_add] at hS); go_simp; (try with_reducible rfl)
            try simp only [Act.put, List.setIfInBounds_toArray, List.set_cons_zero, List.set_cons_succ]
            refine takeH (i := 1) (d := 68) (v := ?_) rfl rfl (by kernel_rfl) (by kernel_rfl) (by kernel_rfl) (fun _ _ _ h => h) (Or.inl ⟨by kernel_rfl, ?_⟩) hH ?_
            rotate_left 1
            · intro w hS; (try dsimp only [EntAt, Nat.zero_add] at hS); go_simp; (try with_reducible rfl)
            try simp only [Act.put, List.setIfInBounds_toArray, List.set_cons_zero, List.set_cons_succ]
            refine takeH (i := 2) (d := 69) (v := ?_) rfl rfl (by kernel_rfl) (by kernel_rfl) (by kernel_rfl) (fun _ _ _ h => h) (Or.inl ⟨by kernel_rfl, ?_⟩) hH ?_
            rotate_left 1
            · intro w hS; (try dsimp only [EntAt, Nat.zero_add] at hS); go_simp; (try with_reducible rfl)
            try simp only [Act.put, List.setIfInBounds_toArray, List.set_cons_zero, List.set_cons_succ]
            refine takeH (i := 3) (d := 70) (v := ?_) rfl rfl (by kernel_rfl) (by kernel_rfl) (by kernel_rfl) (fun _ _ _ h => h) (Or.inl ⟨by kernel_rfl, ?_⟩) hH ?_
            rotate_left 1
            · intro w hS; (try dsimp only [EntAt, Nat.zero_add] at hS); go_simp; (try with_reducible rfl)
            try simp only [Act.put, List.setIfInBounds_toArray, List.set_cons_zero, List.set_cons_succ]
            refine takeH (i := 4) (d := 71) (v := ?_) rfl rfl (by kernel_rfl) (by kernel_rfl) (by kernel_rfl) (fun _ _ _ h => h) (Or.inl ⟨by kernel_rfl, ?_⟩) hH ?_
            rotate_left 1
            · intro w hS; (try dsimp only [EntAt, Nat.zero_add] at hS); go_simp; (try with_reducible rfl)
            try simp only [Act.put, List.setIfInBounds_toArray, List.set_cons_zero, List.set_cons_succ]
            refine takeH (i := 5) (d := 72) (v := ?_) rfl rfl (by kernel_rfl) (by kernel_rfl) (by kernel_rfl) (fun _ _ _ h => h) (Or.inl ⟨by kernel_rfl, ?_⟩) hH ?_
            rotate_left 1
            · intro w hS; (try dsimp only [EntAt, Nat.zero_add] at hS); go_simp; (try with_reducible rfl)
            try simp only [Act.put, List.setIfInBounds_toArray, List.set_cons_zero, List.set_cons_succ]
            refine takeH (i := 6) (d := 73) (v := ?_) rfl rfl (by kernel_rfl) (by kernel_rfl) (by kernel_rfl) (fun _ _ _ h => h) (Or.inl ⟨by kernel_rfl, ?_⟩) hH ?_
            rotate_left 1
            · intro w hS; (try dsimp only [EntAt, Nat.zero_add] at hS); go_simp; (try with_reducible rfl)
            try simp only [Act.put, List.setIfInBounds_toArray, List.set_cons_zero, List.set_cons_succ]
            refine takeH (i := 7) (d := 74) (v := ?_) rfl rfl (by kernel_rfl) (by kernel_rfl) (by kernel_rfl) (fun _ _ _ h => h) (Or.inl ⟨by kernel_rfl, ?_⟩) hH ?_
            rotate_left 1
            · intro w hS; (try dsimp only [EntAt, Nat.zero_add] at hS); go_simp; (try with_reducible rfl)
            try simp only [Act.put, List.setIfInBounds_toArray, List.set_cons_zero, List.set_cons_succ]
            refine takeH (i := 8) (d := 75) (v := ?_) rfl rfl (by kernel_rfl) (by kernel_rfl) (by kernel_rfl) (fun _ _ _ h => h) (Or.inl ⟨by kernel_rfl, ?_⟩) hH ?_
            rotate_left 1
            · intro w hS; (try dsimp only [EntAt, Nat.zero_add] at hS); go_simp; (try with_reducible rfl)
            try simp only [Act.put, List.setIfInBounds_toArray, List.set_cons_zero, List.set_cons_succ]
            refine takeH (i := 9) (d := 76) (v := ?_) rfl rfl (by kernel_rfl) (by kernel_rfl) (by kernel_rfl) (fun _ _ _ h => h) (Or.inl ⟨by kernel_rfl, ?_⟩) hH ?_
            rotate_left 1
            · intro w hS; (try dsimp only [EntAt, Nat.zero_add] at hS); go_simp; (try with_reducible rfl)
            try simp only [Act.put, List.setIfInBounds_toArray, List.set_cons_zero, List.set_cons_succ]
            refine takeH (i := 10) (d := 77) (v := ?_) rfl rfl (by kernel_rfl) (by kernel_rfl) (by kernel_rfl) (fun _ _ _ h => h) (Or.inl ⟨by kernel_rfl, ?_⟩) hH ?_
            rotate_left 1
            · intro w hS; (try dsimp only [EntAt, Nat.zero_add] at hS); go_simp; (try with_reducible rfl)
            try simp only [Act.put, List.setIfInBounds_toArray, List.set_cons_zero, List.set_cons_succ]
            refine takeH (i := 11) (d := 78) (v := ?_) rfl rfl (by kernel_rfl) (by kernel_rfl) (by kernel_rfl) (fun _ _ _ h => h) (Or.inl ⟨by kernel_rfl, ?_⟩) hH ?_
            rotate_left 1
            · intro w hS; (try dsimp only [EntAt, Nat.zero_add] at hS); go_simp; (try with_reducible rfl)
            try simp only [Act.put, List.setIfInBounds_toArray, List.set_cons_zero, List.set_cons_succ]
            refine takeH (i := 12) (d := 79) (v := ?_) rfl rfl (by kernel_rfl) (by kernel_rfl) (by kernel_rfl) (fun _ _ _ h => h) (Or.inl ⟨by kernel_rfl, ?_⟩) hH ?_
            rotate_left 1
            · intro w hS; (try dsimp only [EntAt, Nat.zero_add] at hS); go_simp; (try with_reducible rfl)
            try simp only [Act.put, List.setIfInBounds_toArray, List.set_cons_zero, List.set_cons_succ]
            refine takeH (i := 13) (d := 80) (v := ?_) rfl rfl (by kernel_rfl) (by kernel_rfl) (by kernel_rfl) (fun _ _ _ h => h) (Or.inl ⟨by kernel_rfl, ?_⟩) hH ?_
            rotate_left 1
            · intro w hS; (try dsimp only [EntAt, Nat.zero_add] at hS); go_simp; (try with_reducible rfl)
            try simp only [Act.put, List.setIfInBounds_toArray, List.set_cons_zero, List.set_cons_succ]
            refine takeH (i := 14) (d := 81) (v := ?_) rfl rfl (by kernel_rfl) (by kernel_rfl) (by kernel_rfl) (fun _ _ _ h => h) (Or.inl ⟨by kernel_rfl, ?_⟩) hH ?_
            rotate_left 1
            · intro w hS; (try dsimp only [EntAt, Nat.zero_add] at hS); go_simp; (try with_reducible rfl)
            try simp only [Act.put, List.setIfInBounds_toArray, List.set_cons_zero, List.set_cons_succ]
            refine takeH (i := 15) (d := 82) (v := ?_) rfl rfl (by kernel_rfl) (by kernel_rfl) (by kernel_rfl) (fun _ _ _ h => h) (Or.inl ⟨by kernel_rfl, ?_⟩) hH ?_
            rotate_left 1
            · intro w hS; (try dsimp only [EntAt, Nat.zero_add] at hS); go_simp; (try with_reducible rfl)
            try simp only [Act.put, List.setIfInBounds_toArray, List.set_cons_zero, List.set_cons_succ]
            refine takeH (i := 16) (d := 83) (v := ?_) rfl rfl (by kernel_rfl) (by kernel_rfl) (by kernel_rfl) (fun _ _ _ h => h) (Or.inl ⟨by kernel_rfl, ?_⟩) hH ?_
            rotate_left 1
            · intro w hS; (try dsimp only [EntAt, Nat.zero_add] at hS); go_simp; (try with_reducible rfl)
            try simp only [Act.put, List.setIfInBounds_toArray, List.set_cons_zero, List.set_cons_succ]
            refine wpAnyH_ready (rs := [17, 21]) (by kernel_rfl) (by simp) ?_
            refine AllReadyH.cons rfl (fun K hK => ?_) ?_
            go_simp
            refine (HCS.out _ _ qm).mono ?_
            rintro e W1 ⟨rfl, hb1⟩
            have bA := hb1.trans ((below1 W1 (.cells #[.string ⟨#[]⟩, .string ⟨#[]⟩, .int .i64 0, .bool false] 32)).mono hb1.size)
            have bB := hb1.trans ((below1 W1 (.cells #[.string z.key, .string uv, .int .i64 z.seq, .bool ug] 32)).mono hb1.size)
            have cl := World.block_lt_of_cell? W0 _ hH.1
            have hA1 : (fun W : World => W.cell? ⟨bl, ol + k, none⟩ = some (.slice (some ⟨b, off, none⟩) zn cc) ∧ EntAt W b (off + jn * 4) z) W1 := ⟨(hb1.cell cl).trans hH.1, hH.2.below hb1⟩
            have hA2 : (fun W : World => W.cell? ⟨bl, ol + k, none⟩ = some (.slice (some ⟨b, off, none⟩) zn cc) ∧ EntAt W b (off + jn * 4) z) (W1.alloc (.cells #[.string ⟨#[]⟩, .string ⟨#[]⟩, .int .i64 0, .bool false] 32)) := ⟨(bA.cell cl).trans hH.1, hH.2.below bA⟩
            have hA3 : (fun W : World => W.cell? ⟨bl, ol + k, none⟩ = some (.slice (some ⟨b, off, none⟩) zn cc) ∧ EntAt W b (off + jn * 4) z) (W1.alloc (.cells #[.string z.key, .string uv, .int .i64 z.seq, .bool ug] 32)) := ⟨(bB.cell cl).trans hH.1, hH.2.below bB⟩
            refine hK.out _ _ hA1 (fun h1 => ?_)
            clear hK K
            try simp only [Act.put, List.setIfInBounds_toArray, List.set_cons_zero, List.set_cons_succ]
            refine takeH (i := 18) (d := 66) (v := ?_) rfl rfl (by kernel_rfl) (by kernel_rfl) (by kernel_rfl) (fun _ _ _ h => h) (Or.inl ⟨by kernel_rfl, ?_⟩) h1 ?_
            rotate_left 1
            · intro w hS; (try dsimp only [EntAt, Nat.zero_add] at hS); go_simp; (try with_reducible rfl)
            try simp only [Act.put, List.setIfInBounds_toArray, List.set_cons_zero, List.set_cons_succ]
            refine takeH (i := 19) (d := 85) (v := ?_) rfl rfl (by kernel_rfl) (by kernel_rfl) (by kernel_rfl) (fun _ _ _ h => h) (Or.inl ⟨by kernel_rfl, ?_⟩) h1 ?_
            rotate_left 1
            · intro w hS; (try dsimp only [EntAt, Nat.zero_add] at hS); go_simp; (try with_reducible rfl)
            try simp only [Act.put, List.setIfInBounds_toArray, List.set_cons_zero, List.set_cons_succ]
            refine takeH (i := 20) (d := 86) (v := ?_) rfl rfl (by kernel_rfl) (by kernel_rfl) (by kernel_rfl) (fun _ _ _ h => h) (Or.inl ⟨by kernel_rfl, ?_⟩) h1 ?_
            rotate_left 1
            · intro w hS; (try dsimp only [EntAt, Nat.zero_add] at hS); go_simp; (try with_reducible rfl)
            try simp only [Act.put, List.setIfInBounds_toArray, List.set_cons_zero, List.set_cons_succ]
            refine wpAnyH_ready (rs := [21]) (by kernel_rfl) (by simp) ?_
            refine AllReadyH.cons rfl (fun K hK => ?_) AllReadyH.nil
            go_simp
            refine hK.out _ _ hA2 (fun h2 => ?_)
            clear hK K
            try simp only [Act.put, List.setIfInBounds_toArray, List.set_cons_zero, List.set_cons_succ]
            obtain ⟨⟨z0, z1, z2, z3⟩, zf⟩ := box_zero W1 32
            have f0 := zf 0
            have f1 := zf 1
            have f2 := zf 2
            have f3 := zf 3
            rw [Nat.zero_add] at z1 z2 z3
            refine wpAnyH_ready (rs := [22]) (by kernel_rfl) (by simp) ?_
            refine AllReadyH.cons rfl (fun K hK => ?_) AllReadyH.nil
            go_simp
            refine hK.out _ _ hA3 (fun h3 => ?_)
            clear hK K
            try simp only [Act.put, List.setIfInBounds_toArray, List.set_cons_zero, List.set_cons_succ]
            refine takeH (i := 23) (d := 12) (v := ?_) rfl rfl (by kernel_rfl) (by kernel_rfl) (by kernel_rfl) (fun _ _ _ h => h) (Or.inl ⟨by kernel_rfl, ?_⟩) h3 ?_
            rotate_left 1
            · intro w hS; (try dsimp only [EntAt, Nat.zero_add] at hS); go_simp; (try with_reducible rfl)
            try simp only [Act.put, List.setIfInBounds_toArray, List.set_cons_zero, List.set_cons_succ]
            refine wpAnyH_done (by kernel_rfl) ?_ _
            refine NoPanic.normal ?_
            have qx := entAt_new W1 ⟨z.key, uv, z.seq, ug⟩ 32
            have qE := hA3
            replace qb := qb.trans (bB.mono qb.size)
            clear h1 h2 h3 hA1 hA2 hA3 hH hb1 bA bB cl z0 z1 z2 z3 zf f0 f1 f2 f3 qm
            generalize W1.alloc (.cells #[.string z.key, .string uv, .int .i64 z.seq, .bool ug] 32) = W6 at qb qx qE ⊢
            generalize W1.heap.size = B3 at qx ⊢
            clear W1 W0
            revert qx
            revert qE
            revert qb
            revert B3
            revert W6
            refine ?tailq
            rotate_left 1
            refine AllReadyH.cons rfl (fun K hK => ?_) AllReadyH.nil
            go_simp
            have bZ := below1 W0 (.cells #[.string ⟨#[]⟩, .string ⟨#[]⟩, .int .i64 0, .bool false] 32)
            have hz0 := box_zero W0 32
            have qm0 := qm.below bZ
            have cl := World.block_lt_of_cell? W0 _ hH.1
            have hA0 : (fun W : World => W.cell? ⟨bl, ol + k, none⟩ = some (.slice (some ⟨b, off, none⟩) zn cc) ∧ EntAt W b (off + jn * 4) z) (W0.alloc (.cells #[.string ⟨#[]⟩, .string ⟨#[]⟩, .int .i64 0, .bool false] 32)) := ⟨(bZ.cell cl).trans hH.1, hH.2.below bZ⟩
            refine hK.out _ _ hA0 (fun h0 => ?_)
            clear hK K
            try simp only [Act.put, List.setIfInBounds_toArray, List.set_cons_zero, List.set_cons_succ]
            refine wpAnyH_ready (rs := [17]) (by kernel_rfl) (by simp) ?_
            refine AllReadyH.cons rfl (fun K hK => ?_) AllReadyH.nil
            go_simp
            refine (HCS.out _ _ qm0).mono ?_
            rintro e W1 ⟨rfl, hb1⟩
            have bA := bZ.trans (hb1.mono bZ.size)
            have hz1 := hz0.below hb1
            have bB : Below W0.heap.size W0 ((((W1.setCell ⟨W0.heap.size, 0, none⟩ (.string z.key)).setCell ⟨W0.heap.size, 1, none⟩ (.string uv)).setCell ⟨W0.heap.size, 2, none⟩ (.int .i64 z.seq)).setCell ⟨W0.heap.size, 3, none⟩ (.bool ug)) := below4 bA (Nat.le_refl _) _ _ _ _ _ _ _ _
            have hA1 : (fun W : World => W.cell? ⟨bl, ol + k, none⟩ = some (.slice (some ⟨b, off, none⟩) zn cc) ∧ EntAt W b (off + jn * 4) z) W1 := ⟨(bA.cell cl).trans hH.1, hH.2.below bA⟩
            have hA3 : (fun W : World => W.cell? ⟨bl, ol + k, none⟩ = some (.slice (some ⟨b, off, none⟩) zn cc) ∧ EntAt W b (off + jn * 4) z) ((((W1.setCell ⟨W0.heap.size, 0, none⟩ (.string z.key)).setCell ⟨W0.heap.size, 1, none⟩ (.string uv)).setCell ⟨W0.heap.size, 2, none⟩ (.int .i64 z.seq)).setCell ⟨W0.heap.size, 3, none⟩ (.bool ug)) := ⟨(bB.cell cl).trans hH.1, hH.2.below bB⟩
            refine hK.out _ _ hA1 (fun h1 => ?_)
            clear hK K
            try simp only [Act.put, List.setIfInBounds_toArray, List.set_cons_zero, List.set_cons_succ]
            refine takeH (i := 18) (d := 66) (v := ?_) rfl rfl (by kernel_rfl) (by kernel_rfl) (by kernel_rfl) (fun _ _ _ h => h) (Or.inl ⟨by kernel_rfl, ?_⟩) h1 ?_
            rotate_left 1
            · intro w hS; (try dsimp only [EntAt, Nat.zero_add] at hS); go_simp; (try with_reducible rfl)
            try simp only [Act.put, List.setIfInBounds_toArray, List.set_cons_zero, List.set_cons_succ]
            refine takeH (i := 19) (d := 85) (v := ?_) rfl rfl (by kernel_rfl) (by kernel_rfl) (by kernel_rfl) (fun _ _ _ h => h) (Or.inl ⟨by kernel_rfl, ?_⟩) h1 ?_
            rotate_left 1
            · intro w hS; (try dsimp only [EntAt, Nat.zero_add] at hS); go_simp; (try with_reducible rfl)
            try simp only [Act.put, List.setIfInBounds_toArray, List.set_cons_zero, List.set_cons_succ]
            refine takeH (i := 20) (d := 86) (v := ?_) rfl rfl (by kernel_rfl) (by kernel_rfl) (by kernel_rfl) (fun _ _ _ h => h) (Or.inl ⟨by kernel_rfl, ?_⟩) h1 ?_
            rotate_left 1
            · intro w hS; (try dsimp only [EntAt, Nat.zero_add] at hS); go_simp; (try with_reducible rfl)
            try simp only [Act.put, List.setIfInBounds_toArray, List.set_cons_zero, List.set_cons_succ]
            obtain ⟨z0, z1, z2, z3, f0, f1, f2, f3⟩ := hz1.facts
            refine wpAnyH_ready (rs := [22]) (by kernel_rfl) (by simp) ?_
            refine AllReadyH.cons rfl (fun K hK => ?_) AllReadyH.nil
            go_simp
            refine hK.out _ _ hA3 (fun h3 => ?_)
            clear hK K
            try simp only [Act.put, List.setIfInBounds_toArray, List.set_cons_zero, List.set_cons_succ]
            refine takeH (i := 23) (d := 12) (v := ?_) rfl rfl (by kernel_rfl) (by kernel_rfl) (by kernel_rfl) (fun _ _ _ h => h) (Or.inl ⟨by kernel_rfl, ?_⟩) h3 ?_
            rotate_left 1
            · intro w hS; (try dsimp only [EntAt, Nat.zero_add] at hS); go_simp; (try with_reducible rfl)
            try simp only [Act.put, List.setIfInBounds_toArray, List.set_cons_zero, List.set_cons_succ]
            refine wpAnyH_done (by kernel_rfl) ?_ _
            refine NoPanic.normal ?_
            have qx := entAt_putsM hz1.1 ⟨z.key, uv, z.seq, ug⟩
            have qE := hA3
            replace qb := qb.trans (bB.mono qb.size)
            clear h0 h1 h3 hA0 hA1 hA3 hH hb1 bA bB bZ hz0 hz1 qm0 qm cl z0 z1 z2 z3 f0 f1 f2 f3
            generalize ((((W1.setCell ⟨W0.heap.size, 0, none⟩ (.string z.key)).setCell ⟨W0.heap.size, 1, none⟩ (.string uv)).setCell ⟨W0.heap.size, 2, none⟩ (.int .i64 z.seq)).setCell ⟨W0.heap.size, 3, none⟩ (.bool ug)) = W6 at qb qx qE ⊢
            generalize W0.heap.size = B3 at qx ⊢
            clear W1 W0
            revert qx
            revert qE
            revert qb
            revert B3
            revert W6
            refine ?tailq
            intro W6 B3 qb qE qx
            obtain ⟨qc, qz⟩ := qE
            have hseq : (z.seq != z.seq) = false := by simp
            go_wp2_with fail
            refine wp_region_noPanic ?_
            refine wp_region_held_drew (S := fun W => W.cell? ⟨bl, ol + k, none⟩ = some (.slice (some ⟨b, off, none⟩) zn cc) ∧ EntAt W b (off + jn * 4) z ∧ EntAt W B3 0 ⟨z.key, uv, z.seq, ug⟩) (by kernel_rfl) ⟨qc, qz, qx⟩ (fun hI => ?_)
            refine takeH (i := 0) (d := 87) (v := ?_) rfl rfl (by kernel_rfl) (by kernel_rfl) (by kernel_rfl) (fun _ _ _ h => h) (Or.inl ⟨by kernel_rfl, ?_⟩) hI ?_
            rotate_left 1
            · intro w hS; (try dsimp only [EntAt, Nat.zero_add] at hS); go_simp; (try with_reducible rfl)
            try simp only [Act.put, List.setIfInBounds_toArray, List.set_cons_zero, List.set_cons_succ]
            refine takeH (i := 1) (d := 88) (v := ?_) rfl rfl (by kernel_rfl) (by kernel_rfl) (by kernel_rfl) (fun _ _ _ h => h) (Or.inl ⟨by kernel_rfl, ?_⟩) hI ?_
            rotate_left 1
            · intro w hS; (try dsimp only [EntAt, Nat.zero_add] at hS); go_simp; (try with_reducible rfl)
            try simp only [Act.put, List.setIfInBounds_toArray, List.set_cons_zero, List.set_cons_succ]
            refine takeH (i := 2) (d := 89) (v := ?_) rfl rfl (by kernel_rfl) (by kernel_rfl) (by kernel_rfl) (fun _ _ _ h => h) (Or.inl ⟨by kernel_rfl, ?_⟩) hI ?_
            rotate_left 1
            · intro w hS; (try dsimp only [EntAt, Nat.zero_add] at hS); go_simp; (try with_reducible rfl)
            try simp only [Act.put, List.setIfInBounds_toArray, List.set_cons_zero, List.set_cons_succ]
            refine takeH (i := 3) (d := 90) (v := ?_) rfl rfl (by kernel_rfl) (by kernel_rfl) (by kernel_rfl) (fun _ _ _ h => h) (Or.inl ⟨by kernel_rfl, ?_⟩) hI ?_
            rotate_left 1
            · intro w hS; (try dsimp only [EntAt, Nat.zero_add] at hS); go_simp; (try with_reducible rfl)
            try simp only [Act.put, List.setIfInBounds_toArray, List.set_cons_zero, List.set_cons_succ]
            refine takeH (i := 4) (d := 91) (v := ?_) rfl rfl (by kernel_rfl) (by kernel_rfl) (by kernel_rfl) (fun _ _ _ h => h) (Or.inl ⟨by kernel_rfl, ?_⟩) hI ?_
            rotate_left 1
            · intro w hS; (try dsimp only [EntAt, Nat.zero_add] at hS); go_simp; (try with_reducible rfl)
            try simp only [Act.put, List.setIfInBounds_toArray, List.set_cons_zero, List.set_cons_succ]
            refine takeH (i := 5) (d := 92) (v := ?_) rfl rfl (by kernel_rfl) (by kernel_rfl) (by kernel_rfl) (fun _ _ _ h => h) (Or.inl ⟨by kernel_rfl, ?_⟩) hI ?_
            rotate_left 1
            · intro w hS; (try dsimp only [EntAt, Nat.zero_add] at hS); go_simp; (try with_reducible rfl)
            try simp only [Act.put, List.setIfInBounds_toArray, List.set_cons_zero, List.set_cons_succ]
            refine takeH (i := 6) (d := 93) (v := ?_) rfl rfl (by kernel_rfl) (by kernel_rfl) (by kernel_rfl) (fun _ _ _ h => h) (Or.inl ⟨by kernel_rfl, ?_⟩) hI ?_
            rotate_left 1
            · intro w hS; (try dsimp only [EntAt, Nat.zero_add] at hS); go_simp; (try with_reducible rfl)
            try simp only [Act.put, List.setIfInBounds_toArray, List.set_cons_zero, List.set_cons_succ]
            refine takeH (i := 7) (d := 94) (v := ?_) rfl rfl (by kernel_rfl) (by kernel_rfl) (by kernel_rfl) (fun _ _ _ h => h) (Or.inl ⟨by kernel_rfl, ?_⟩) hI ?_
            rotate_left 1
            · intro w hS; (try dsimp only [EntAt, Nat.zero_add] at hS); go_simp; (try with_reducible rfl)
            try simp only [Act.put, List.setIfInBounds_toArray, List.set_cons_zero, List.set_cons_succ]
            refine takeH (i := 8) (d := 95) (v := ?_) rfl rfl (by kernel_rfl) (by kernel_rfl) (by kernel_rfl) (fun _ _ _ h => h) (Or.inl ⟨by kernel_rfl, ?_⟩) hI ?_
            rotate_left 1
            · intro w hS; (try dsimp only [EntAt, Nat.zero_add] at hS); go_simp; (try with_reducible rfl)
            try simp only [Act.put, List.setIfInBounds_toArray, List.set_cons_zero, List.set_cons_succ]
            refine takeH (i := 9) (d := 96) (v := ?_) rfl rfl (by kernel_rfl) (by kernel_rfl) (by kernel_rfl) (fun _ _ _ h => h) (Or.inl ⟨by kernel_rfl, ?_⟩) hI ?_
            rotate_left 1
            · intro w hS; (try dsimp only [EntAt, Nat.zero_add] at hS); go_simp; (try with_reducible rfl)
            try simp only [Act.put, List.setIfInBounds_toArray, List.set_cons_zero, List.set_cons_succ]
            refine takeH (i := 10) (d := 97) (v := ?_) rfl rfl (by kernel_rfl) (by kernel_rfl) (by kernel_rfl) (fun _ _ _ h => h) (Or.inl ⟨by kernel_rfl, ?_⟩) hI ?_
            rotate_left 1
            · intro w hS; (try dsimp only [EntAt, Nat.zero_add] at hS); go_simp; (try with_reducible rfl)
            try simp only [Act.put, List.setIfInBounds_toArray, List.set_cons_zero, List.set_cons_succ]
            refine takeH (i := 11) (d := 98) (v := ?_) rfl rfl (by kernel_rfl) (by kernel_rfl) (by kernel_rfl) (fun _ _ _ h => h) (Or.inl ⟨by kernel_rfl, ?_⟩) hI ?_
            rotate_left 1
            · intro w hS; (try dsimp only [EntAt, Nat.zero_add] at hS); go_simp; (try with_reducible rfl)
            try simp only [Act.put, List.setIfInBounds_toArray, List.set_cons_zero, List.set_cons_succ]
            refine takeH (i := 12) (d := 99) (v := ?_) rfl rfl (by kernel_rfl) (by kernel_rfl) (by kernel_rfl) (fun _ _ _ h => h) (Or.inl ⟨by kernel_rfl, ?_⟩) hI ?_
            rotate_left 1
            · intro w hS; (try dsimp only [EntAt, Nat.zero_add] at hS); go_simp; (try with_reducible rfl)
            try simp only [Act.put, List.setIfInBounds_toArray, List.set_cons_zero, List.set_cons_succ]
            refine takeH (i := 13) (d := 100) (v := ?_) rfl rfl (by kernel_rfl) (by kernel_rfl) (by kernel_rfl) (fun _ _ _ h => h) (Or.inl ⟨by kernel_rfl, ?_⟩) hI ?_
            rotate_left 1
            · intro w hS; (try dsimp only [EntAt, Nat.zero_add] at hS); go_simp; (try with_reducible rfl)
            try simp only [Act.put, List.setIfInBounds_toArray, List.set_cons_zero, List.set_cons_succ]
            refine takeH (i := 14) (d := 101) (v := ?_) rfl rfl (by kernel_rfl) (by kernel_rfl) (by kernel_rfl) (fun _ _ _ h => h) (Or.inl ⟨by kernel_rfl, ?_⟩) hI ?_
            rotate_left 1
            · intro w hS; (try dsimp only [EntAt, Nat.zero_add] at hS); go_simp; (try with_reducible rfl)
            try simp only [Act.put, List.setIfInBounds_toArray, List.set_cons_zero, List.set_cons_succ]
            refine takeH (i := 15) (d := 102) (v := ?_) rfl rfl (by kernel_rfl) (by kernel_rfl) (by kernel_rfl) (fun _ _ _ h => h) (Or.inl ⟨by kernel_rfl, ?_⟩) hI ?_
            rotate_left 1
            · intro w hS; (try dsimp only [EntAt, Nat.zero_add] at hS); go_simp; (try with_reducible rfl)
            try simp only [Act.put, List.setIfInBounds_toArray, List.set_cons_zero, List.set_cons_succ]
            refine takeH (i := 16) (d := 103) (v := ?_) rfl rfl (by kernel_rfl) (by kernel_rfl) (by kernel_rfl) (fun _ _ _ h => h) (Or.inl ⟨by kernel_rfl, ?_⟩) hI ?_
            rotate_left 1
            · intro w hS; (try dsimp only [EntAt, Nat.zero_add] at hS); go_simp; (try with_reducible rfl)
            try simp only [Act.put, List.setIfInBounds_toArray, List.set_cons_zero, List.set_cons_succ]
            refine takeH (i := 17) (d := 104) (v := ?_) rfl rfl (by kernel_rfl) (by kernel_rfl) (by kernel_rfl) (fun _ _ _ h => h) (Or.inl ⟨by kernel_rfl, ?_⟩) hI ?_
            rotate_left 1
            · intro w hS; (try dsimp only [EntAt, Nat.zero_add] at hS); go_simp; (try with_reducible rfl)
            try simp only [Act.put, List.setIfInBounds_toArray, List.set_cons_zero, List.set_cons_succ]
            refine takeH (i := 18) (d := 105) (v := ?_) rfl rfl (by kernel_rfl) (by kernel_rfl) (by kernel_rfl) (fun _ _ _ h => h) (Or.inl ⟨by kernel_rfl, ?_⟩) hI ?_
            rotate_left 1
            · intro w hS; (try dsimp only [EntAt, Nat.zero_add] at hS); go_simp; (try with_reducible rfl)
            try simp only [Act.put, List.setIfInBounds_toArray, List.set_cons_zero, List.set_cons_succ]
            refine takeH (i := 19) (d := 106) (v := ?_) rfl rfl (by kernel_rfl) (by kernel_rfl) (by kernel_rfl) (fun _ _ _ h => h) (Or.inl ⟨by kernel_rfl, ?_⟩) hI ?_
            rotate_left 1
            · intro w hS; (try dsimp only [EntAt, Nat.zero_add] at hS); go_simp; (try with_reducible rfl)
            try simp only [Act.put, List.setIfInBounds_toArray, List.set_cons_zero, List.set_cons_succ]
            refine takeH (i := 20) (d := 107) (v := ?_) rfl rfl (by kernel_rfl) (by kernel_rfl) (by kernel_rfl) (fun _ _ _ h => h) (Or.inl ⟨by kernel_rfl, ?_⟩) hI ?_
            rotate_left 1
            · intro w hS; (try dsimp only [EntAt, Nat.zero_add] at hS); go_simp; (try with_reducible rfl)
            try simp only [Act.put, List.setIfInBounds_toArray, List.set_cons_zero, List.set_cons_succ]
            refine takeH (i := 21) (d := 108) (v := ?_) rfl rfl (by kernel_rfl) (by kernel_rfl) (by kernel_rfl) (fun _ _ _ h => h) (Or.inl ⟨by kernel_rfl, ?_⟩) hI ?_
            rotate_left 1
            · intro w hS; (try dsimp only [EntAt, Nat.zero_add] at hS); go_simp; (try with_reducible rfl)
            try simp only [Act.put, List.setIfInBounds_toArray, List.set_cons_zero, List.set_cons_succ]
            refine takeH (i := 22) (d := 109) (v := ?_) rfl rfl (by kernel_rfl) (by kernel_rfl) (by kernel_rfl) (fun _ _ _ h => h) (Or.inl ⟨by kernel_rfl, ?_⟩) hI ?_
            rotate_left 1
            · intro w hS; (try dsimp only [EntAt, Nat.zero_add] at hS); go_simp; (try with_reducible rfl)
            try simp only [Act.put, List.setIfInBounds_toArray, List.set_cons_zero, List.set_cons_succ]
            refine takeH (i := 23) (d := 110) (v := ?_) rfl rfl (by kernel_rfl) (by kernel_rfl) (by kernel_rfl) (fun _ _ _ h => h) (Or.inl ⟨by kernel_rfl, ?_⟩) hI ?_
            rotate_left 1
            · intro w hS; (try dsimp only [EntAt, Nat.zero_add] at hS); go_simp; (try with_reducible rfl)
            try simp only [Act.put, List.setIfInBounds_toArray, List.set_cons_zero, List.set_cons_succ]
            refine takeH (i := 24) (d := 111) (v := ?_) rfl rfl (by kernel_rfl) (by kernel_rfl) (by kernel_rfl) (fun _ _ _ h => h) (Or.inl ⟨by kernel_rfl, ?_⟩) hI ?_
            rotate_left 1
            · intro w hS; (try dsimp only [EntAt, Nat.zero_add] at hS); go_simp; (try with_reducible rfl)
            try simp only [Act.put, List.setIfInBounds_toArray, List.set_cons_zero, List.set_cons_succ]
            refine takeH (i := 25) (d := 112) (v := ?_) rfl rfl (by kernel_rfl) (by kernel_rfl) (by kernel_rfl) (fun _ _ _ h => h) (Or.inl ⟨by kernel_rfl, ?_⟩) hI ?_
            rotate_left 1
            · intro w hS; (try dsimp only [EntAt, Nat.zero_add] at hS); go_simp; (try with_reducible rfl)
            try simp only [Act.put, List.setIfInBounds_toArray, List.set_cons_zero, List.set_cons_succ]
            refine takeH (i := 26) (d := 113) (v := ?_) rfl rfl (by kernel_rfl) (by kernel_rfl) (by kernel_rfl) (fun _ _ _ h => h) (Or.inl ⟨by kernel_rfl, ?_⟩) hI ?_
            rotate_left 1
            · intro w hS; (try dsimp only [EntAt, Nat.zero_add] at hS); go_simp; (try with_reducible rfl)
            try simp only [Act.put, List.setIfInBounds_toArray, List.set_cons_zero, List.set_cons_succ]
            refine takeH (i := 27) (d := 114) (v := ?_) rfl rfl (by kernel_rfl) (by kernel_rfl) (by kernel_rfl) (fun _ _ _ h => h) (Or.inl ⟨by kernel_rfl, ?_⟩) hI ?_
            rotate_left 1
            · intro w hS; (try dsimp only [EntAt, Nat.zero_add] at hS); go_simp; (try with_reducible rfl)
            try simp only [Act.put, List.setIfInBounds_toArray, List.set_cons_zero, List.set_cons_succ]
            refine wpAnyH_done (by kernel_rfl) ?_ _
            refine NoPanic.normal ?_
            have qb2 := qb.drew
            clear qb qc qz qx hI
            go_wp2
            go_roundw
            case rel => exact ⟨jn + 1, by omega, by go_num, qb2⟩
            case measure => simp [intOf]; omega
          · skip
            have hje : jn = zn := by omega
            clear hje
            go_wp2
            go_roundw
            case rel => exact ⟨k + 1, a + zn, by omega, by go_num, by go_num, ha9, HA2, hb2⟩
            case measure => simp [intOf]; omega
      · skip
        have hke : k = nn := by omega
        have hme : mn ≤ a := by rw [HA.out, hke, ← HLN.out, List.take_length]; exact HLE.out
        have bz := b5.trans (hb.mono b5.size)
        clear hke
        go_wp2
        go_ret
        exact ⟨rfl, bz⟩
theorem own_fnMerged : ownKnob Try.prog.godebug = none := by kernel_rfl
theorem laidOut_fnMerged : laidOutB Try.prog = true := by kernel_rfl
set_option maxRecDepth 100000 in
theorem lifted_fnMerged (os : Os) (started : os.Started) (H : Type) (enc : TypeId × Value → H) :
    ReturnsInHanded {} Try.checked os 3 .any (Rows.fnMergedSpec.pre6 enc Try.prog Try.f3 Rows.fnMergedRow.domain false) (Rows.fnMergedSpec.post enc Try.prog Try.f3 false true false false) := by
  refine returnsInHanded_of_change (C := Try.checked) own_fnMerged started (by kernel_rfl) Try.func3
    (ChangeSpec.witness6 (enc := enc) (C := Try.checked) false ⟨#[], #[.slice none 0 0], []⟩ 8 (by kernel_rfl) (by kernel_rfl) (by kernel_rfl) (by kernel_rfl)) ?_
  intro W base args ds gs before hval0 hW hcnd _
  have hval : ∀ (j : Nat) t v, Try.f3.params[j]? = some t → args[j]? = some v → Value.okWide Try.prog W .any base t v := hval0
  have hW' := hW
  obtain ⟨p, q, hA0, hV, rfl, hfz, hnd⟩ := hW
  have hA : DataW.TrodAll enc Try.prog W 0 (fun _ => true) true Try.f3.params.toList args.toList ds p := hA0
  rw [Try.params3] at hA hval
  obtain ⟨v0, vs0, d0, ds0, p0, q0, hargs, rfl, rfl, h0, r0⟩ := trodAll_cons hA
  obtain ⟨rfl, rfl, rfl⟩ := trodAll_nil r0
  obtain rfl : args = #[v0] := by cases args; simp_all
  obtain ⟨rfl, rfl⟩ := trodVars_none hV
  obtain ⟨a0, len0, cap0, rfl⟩ := okWide_slice Try.underlying22 (hval 0 22 v0 rfl rfl)
  have k0 := h0
  have lt0 : ∀ x ∈ p0, x.block < W.heap.size := by obtain ⟨m, hm⟩ := k0; exact DataW.trod_lt m _ _ _ hm
  obtain ⟨bs0, hr0⟩ : ∃ bs, Rd W (.slice a0 len0 cap0) bs := by
    obtain ⟨fuel, hf⟩ := h0
    rcases open_ints Try.underlying22 Try.underlying5 (by kernel_rfl) hf with ⟨hcs, _⟩ | ⟨x, l, c, zs, hcs, _, hl, hm, hz, _, hcell, hwz⟩
    · simp [Value.cells] at hcs
      obtain ⟨rfl, rfl, rfl⟩ := hcs
      exact ⟨[], rd_nil W⟩
    · simp [Value.cells] at hcs
      obtain ⟨rfl, rfl, rfl⟩ := hcs
      exact rd_of hl hm (by simpa using hz) hcell hwz
  clear hA0 hval0
  refine (lawMergedF _ bs0 W hr0).mono fun e W' ⟨he, bel⟩ => ?_
  subst he
  exact ⟨_, rfl, _, _, _, [], _, [], hW', trodAll_mk1 (shut_bool Try.underlying4 _), (trodAll_cons_mk (Below.trod laidOut_fnMerged (by kernel_rfl) (of_decide_eq_true (by kernel_rfl)) k0 bel lt0) trodAll_mk0), rfl, bel.frame _, fun h => by cases h⟩
theorem over_fnMerged : Rows.fnMergedRow.holds Try.pinned (OpenSpec.ofChange Rows.fnMergedSpec) :=
  OpenClaim.holds_of_wide 3 Try.f3 rfl rfl rfl rfl rfl rfl rfl ⟨rfl, rfl, rfl, rfl, rfl⟩ rfl rfl rfl rfl rfl (by kernel_rfl) Try.func3 (by kernel_rfl)
    (of_decide_eq_true (by kernel_rfl)) (by unfold Func.isWrapper; first | (rw [if_pos (by decide +kernel)]; kernel_rfl) | (rw [if_neg (by decide +kernel)]; exact ⟨rfl, rfl⟩))
    (fun os started H enc _ => lifted_fnMerged os started H enc)
theorem fnMerged_holds : Rows.FnMergedSaid := over_fnMerged
#print axioms fnMerged_holds

end Go.Proofs.Ytihacdfchmobpaa
