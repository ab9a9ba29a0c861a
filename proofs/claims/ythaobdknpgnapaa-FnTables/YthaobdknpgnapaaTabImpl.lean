/- The contracts of the program's TableOk, Built, Entries, May, Found. -/
import Derived.Test.YthaobdknpgnapaaTabSpec4
import Derived.Test.YthaobdknpgnapaaG27
import Derived.Test.YthaobdknpgnapaaTabUnp
import Derived.Test.YthaobdknpgnapaaEntImplSeen
namespace Go.Proofs.Ythaobdknpgnapaa
open Go.RowKit
set_option maxHeartbeats 1000000 in
set_option maxRecDepth 100000 in
theorem implTableOk_any (T : Tbl) (vb vk : Value) (w : World) (hi : RdI w vb T.bits) (hr : RdS w vk T.blocks) (hz : ∀ s ∈ T.blocks, s.size ≤ 1000000000) :
    Calls Try.prog 29 #[.agg #[.string T.first, .string T.last, vb, vk]] w fun e w' => e = .returned (.bool (tableOk T)) ∧ Below w.heap.size w w' := by
  have b0 := below1 w (.cells #[.string T.first, .string T.last, vb, vk] 41)
  have HA : Hid (Calls _ _ _ _ _) := unpackedTable_any T vb vk _ (hi.below b0) (hr.below b0) hz
  obtain ⟨P, hP⟩ : ∃ P, P = (entriesL T, tableOk T) := ⟨_, rfl⟩
  have HP : Hid (tableOk T = P.2) := by rw [hP]; rfl
  rw [← hP] at HA
  clear hP
  obtain ⟨es, is⟩ := P
  simp only at HP
  rw [HP.out]
  clear HP
  obtain ⟨ak, ck, hvk, _⟩ := id hr
  generalize T.blocks.length = kn at hvk
  subst hvk
  obtain ⟨ab, cb, hvb, _⟩ := id hi
  generalize T.bits.length = bn at hvb
  subst hvb
  go_enter Try.func29, Try.ntmps29
  go_wp2_with fail
  refine HA.out.mono ?_
  rintro e w1 ⟨u, rfl, ho1, hb1⟩
  have b1 := b0.trans (hb1.mono b0.size)
  simp only
  go_wp2
  go_ret
  exact ⟨rfl, b1⟩
set_option maxHeartbeats 1000000 in
set_option maxRecDepth 100000 in
theorem implEntries_any (T : Tbl) (vb vk : Value) (w : World) (hi : RdI w vb T.bits) (hr : RdS w vk T.blocks) (hz : ∀ s ∈ T.blocks, s.size ≤ 1000000000) :
    Calls Try.prog 27 #[.agg #[.string T.first, .string T.last, vb, vk]] w fun e w' => ∃ u, e = .returned u ∧ OwnE w' w.heap.size u (entriesL T) ∧ Below w.heap.size w w' := by
  have b0 := below1 w (.cells #[.string T.first, .string T.last, vb, vk] 41)
  have HA : Hid (Calls _ _ _ _ _) := unpackedTable_any T vb vk _ (hi.below b0) (hr.below b0) hz
  obtain ⟨P, hP⟩ : ∃ P, P = (entriesL T, tableOk T) := ⟨_, rfl⟩
  have HP : Hid (entriesL T = P.1) := by rw [hP]; rfl
  rw [← hP] at HA
  clear hP
  obtain ⟨es, is⟩ := P
  simp only at HP
  rw [HP.out]
  clear HP
  obtain ⟨ak, ck, hvk, _⟩ := id hr
  generalize T.blocks.length = kn at hvk
  subst hvk
  obtain ⟨ab, cb, hvb, _⟩ := id hi
  generalize T.bits.length = bn at hvb
  subst hvb
  go_enter Try.func27, Try.ntmps27
  go_wp2_with fail
  refine HA.out.mono ?_
  rintro e w1 ⟨u, rfl, ho1, hb1⟩
  have b1 := b0.trans (hb1.mono b0.size)
  simp only at ho1 ⊢
  go_wp2
  go_ret
  exact ⟨u, rfl, ho1.mono (by simp), b1⟩
theorem ent_ok (T : Tbl) : okL (entriesL T) = true ∨ entriesL T = [] := by
  cases h : tableOk T with
  | true => exact .inl (tableOk_parts h).1
  | false => exact .inr (ent_none h)
theorem ent_fits (T : Tbl) : ∀ e ∈ entriesL T, Fits e := by
  rcases ent_ok T with h | h
  · exact okL_fitsT h
  · rw [h]; intro e he; cases he
theorem found_A (T : Tbl) (key : ByteArray) (q : Int) : seenA (entriesL T) key q = foundL T key q := by
  unfold seenA foundL
  rcases ent_ok T with h | h
  · rw [if_pos h]
  · rw [h]; split <;> rfl
set_option maxHeartbeats 1000000 in
set_option maxRecDepth 100000 in
theorem implFound_any (T : Tbl) (vb vk : Value) (key : ByteArray) (q : Int) (w : World) (hi : RdI w vb T.bits) (hr : RdS w vk T.blocks) (hz : ∀ s ∈ T.blocks, s.size ≤ 1000000000) (_ : key.size ≤ 1000000000) (_ : -9223372036854775808 ≤ q ∧ q ≤ 9223372036854775807) :
    Calls Try.prog 21 #[.agg #[.string T.first, .string T.last, vb, vk], .string key, .int .i64 q] w fun e w' => SeenPost w (foundL T key q) e w' := by
  have bA := below1 w (.cells #[.string T.first, .string T.last, vb, vk] 41)
  have b0 := below2 w (.cells #[.string T.first, .string T.last, vb, vk] 41) (.cells #[.string ⟨#[]⟩, .string ⟨#[]⟩, .int .i64 0, .bool false] 26)
  have hbz := box_zero (w.alloc (.cells #[.string T.first, .string T.last, vb, vk] 41)) 26
  have hs1 : (w.alloc (.cells #[.string T.first, .string T.last, vb, vk] 41)).heap.size = w.heap.size + 1 := by simp
  rw [hs1] at hbz
  have HA : Hid (Calls _ _ _ _ _) := implEntries_any T vb vk _ (hi.below b0) (hr.below b0) hz
  have HS : Hid (∀ W u, RdE W u (entriesL T) → Calls Try.prog 11 #[u, .string key, .int .i64 q] W fun e w' => SeenPost W (foundL T key q) e w') := fun W u h => by
    have := implSeen_any u (entriesL T) key q W h (ent_fits T)
    rwa [found_A] at this
  generalize foundL T key q = o at HS
  generalize entriesL T = es at HS HA
  obtain ⟨x, hx⟩ : ∃ x, x = o.getD zeroE := ⟨_, rfl⟩
  obtain ⟨y, hy⟩ : ∃ y, y = o.isSome := ⟨_, rfl⟩
  unfold SeenPost at HS ⊢
  rw [← hx, ← hy] at HS ⊢
  clear hx hy bA hs1
  obtain ⟨ak, ck, hvk, _⟩ := id hr
  generalize T.blocks.length = kn at hvk
  subst hvk
  obtain ⟨ab, cb, hvb, _⟩ := id hi
  generalize T.bits.length = bn at hvb
  subst hvb
  go_enter Try.func21, Try.ntmps21
  go_wp2_with fail
  refine HA.out.mono ?_
  rintro e w1 ⟨u, rfl, ho1, hb1⟩
  have b1 := b0.trans (hb1.mono b0.size)
  have hz1 := hbz.below hb1
  clear hbz hb1 HA
  go_wp2_with fail
  refine (HS.out _ _ ho1.rd).mono ?_
  rintro e w2 ⟨rfl, hb2⟩
  have b2 := b1.trans (hb2.mono b1.size)
  obtain ⟨z0, z1, z2, z3, f0, f1, f2, f3⟩ := (hz1.below hb2).facts
  clear hz1 hb2 HS b1
  go_wp2
  exact bodyPost_ret (v := .tuple #[.agg #[.string x.key, .string x.val, .int .i64 x.seq, .bool x.gone], .bool y]) (by simp [results, Try.results21, go_sem, z0, z1, z2, z3]) rfl ⟨rfl, below4 b2 (Nat.le_succ _) _ _ _ _ _ _ _ _⟩
set_option maxHeartbeats 4000000 in
set_option maxRecDepth 100000 in
theorem implMay_any (T : Tbl) (vb vk : Value) (key : ByteArray) (w : World) (hi : RdI w vb T.bits) (hr : RdS w vk T.blocks) (hz : ∀ s ∈ T.blocks, s.size ≤ 1000000000) (hk : key.size ≤ 1000000000) :
    Calls Try.prog 25 #[.agg #[.string T.first, .string T.last, vb, vk], .string key] w fun e w' => e = .returned (.bool (mayL T key)) ∧ Below w.heap.size w w' := by
  have ht0 := tblAt_new w T vb vk 41
  have b0 := below1 w (.cells #[.string T.first, .string T.last, vb, vk] 41)
  have HOK : Hid (Calls _ _ _ _ _) := implTableOk_any T vb vk _ (hi.below b0) (hr.below b0) hz
  obtain ⟨R, hR⟩ : ∃ R, R = mayL T key := ⟨_, rfl⟩
  rw [← hR]
  rw [mayL_eq] at hR
  have HR : Hid (R = (tableOk T && !kLt key T.first && !kLt T.last key && (marksL key).all (fun m => decide (m ∈ T.bits)))) := hR
  have HMB : Hid (tableOk T = true → (decide (mBits T.bits = mkey (mBits T.bits) key)) = (marksL key).all (fun m => decide (m ∈ T.bits))) := fun h => may_bits h key
  clear hR
  generalize tableOk T = ok at HOK HR HMB
  obtain ⟨ak, ck, hvk, _⟩ := id hr
  generalize T.blocks.length = kn at hvk
  subst hvk
  obtain ⟨ab, cb, hvb, _⟩ := id hi
  generalize T.bits.length = bn at hvb
  subst hvb
  obtain ⟨d0, d1, d2, d3⟩ := id ht0
  go_enter Try.func25, Try.ntmps25
  go_wp2_with fail
  refine HOK.out.mono ?_
  rintro e w1 ⟨rfl, hb1⟩
  have ht1 := ht0.below hb1
  have b1 := b0.trans (hb1.mono b0.size)
  have hi1 := hi.below b1
  clear HOK ht0 b0 hb1 d0 d1 d2 d3
  obtain ⟨d0, d1, d2, d3⟩ := id ht1
  cases ok with
  | false =>
    have RES : Hid (R = false) := by unfold Hid; rw [HR.out]; rfl
    go_wp2
    go_ret
    exact ⟨by have h := RES.out; subst h; rfl, b1⟩
  | true =>
    cases hk1 : kLt key T.first with
    | true =>
      have RES : Hid (R = false) := by unfold Hid; rw [HR.out, hk1]; rfl
      have hq : Op.bytesLess key.toList T.first.toList = true := hk1
      clear hk1
      go_wp2
      go_ret
      exact ⟨by have h := RES.out; subst h; rfl, b1⟩
    | false =>
      have hq : Op.bytesLess key.toList T.first.toList = false := hk1
      cases hk2 : kLt T.last key with
      | true =>
        have RES : Hid (R = false) := by unfold Hid; rw [HR.out, hk1, hk2]; rfl
        have hq2 := gtr_kLt key T.last
        rw [hk2] at hq2
        clear hk1 hk2
        go_wp2
        go_ret
        exact ⟨by have h := RES.out; subst h; rfl, b1⟩
      | false =>
        have hq2 := gtr_kLt key T.last
        rw [hk2] at hq2
        have RES : Hid (R = decide (mBits T.bits = mkey (mBits T.bits) key)) := by unfold Hid; rw [HMB.out rfl, HR.out, hk1, hk2]; simp
        have HCM : Hid (∀ W, RdI W (.slice ab bn cb) T.bits → Calls Try.prog 66 #[.slice ab bn cb] W fun e w' => e = .returned (MV (mBits T.bits)) ∧ Below W.heap.size W w') := fun W h => marksOfBits_any _ _ W h
        have hML := mBits_lt T.bits
        have hML2 := mkey_lt hML key
        generalize mBits T.bits = M at RES HCM hML hML2
        have hE := run_eq_marks M (mkey M key) hML hML2
        have HCW : Hid (∀ W, Calls Try.prog 67 #[.agg #[.int .u64 (mw M 0 : Int), .int .u64 (mw M 1 : Int), .int .u64 (mw M 2 : Int), .int .u64 (mw M 3 : Int)], .string key] W fun e w' => e = .returned (MV (mkey M key)) ∧ Below W.heap.size W w') := fun W => withKey_any M key W (by omega)
        rw [← RES.out] at hE
        clear hk1 hk2 HR HMB hML hML2 RES
        generalize mkey M key = M2 at hE HCW
        go_wp2_with fail
        refine (HCM.out _ hi1).mono ?_
        rintro e w2 ⟨rfl, hb2⟩
        have b2 := b1.trans (hb2.mono b1.size)
        clear b1 hb2 HCM ht1 hi1 d0 d1 d2 d3
        unfold MV
        go_wp2_with fail
        refine wp_region_noPanic ?_
        refine wp_region_held_drew (S := fun W => MAt W w2.heap.size M) (by kernel_rfl) (mAt_new _ _ _) (fun hH => ?_)
        refine takeH (i := 0) (d := 24) (v := ?_) rfl rfl (by kernel_rfl) (by kernel_rfl) (by kernel_rfl) (fun _ _ _ h => h) (Or.inl ⟨by kernel_rfl, ?_⟩) hH ?_
        rotate_left 1
        · intro w hS; (try dsimp only [EntAt, MAt, Nat.zero_add] at hS); go_simp; (try with_reducible rfl)
        try simp only [Act.put, List.setIfInBounds_toArray, List.set_cons_zero, List.set_cons_succ]
        refine takeH (i := 1) (d := 25) (v := ?_) rfl rfl (by kernel_rfl) (by kernel_rfl) (by kernel_rfl) (fun _ _ _ h => h) (Or.inl ⟨by kernel_rfl, ?_⟩) hH ?_
        rotate_left 1
        · intro w hS; (try dsimp only [EntAt, MAt, Nat.zero_add] at hS); go_simp; (try with_reducible rfl)
        try simp only [Act.put, List.setIfInBounds_toArray, List.set_cons_zero, List.set_cons_succ]
        refine takeH (i := 2) (d := 26) (v := ?_) rfl rfl (by kernel_rfl) (by kernel_rfl) (by kernel_rfl) (fun _ _ _ h => h) (Or.inl ⟨by kernel_rfl, ?_⟩) hH ?_
        rotate_left 1
        · intro w hS; (try dsimp only [EntAt, MAt, Nat.zero_add] at hS); go_simp; (try with_reducible rfl)
        try simp only [Act.put, List.setIfInBounds_toArray, List.set_cons_zero, List.set_cons_succ]
        refine wpAnyH_ready (rs := [3]) (by kernel_rfl) (by simp) ?_
        refine AllReadyH.cons rfl (fun K hK => ?_) AllReadyH.nil
        go_simp
        refine (HCW.out _).mono ?_
        rintro e w' ⟨rfl, hb'⟩
        unfold MV
        refine hK.out _ _ (hH.below hb') (fun hA => ?_)
        clear hK K
        try simp only [Act.put, List.setIfInBounds_toArray, List.set_cons_zero, List.set_cons_succ]
        refine takeH (i := 4) (d := 28) (v := ?_) rfl rfl (by kernel_rfl) (by kernel_rfl) (by kernel_rfl) (fun _ _ _ h => h) (Or.inl ⟨by kernel_rfl, ?_⟩) hA ?_
        rotate_left 1
        · intro w hS; (try dsimp only [EntAt, MAt, Nat.zero_add] at hS); go_simp; (try with_reducible rfl)
        try simp only [Act.put, List.setIfInBounds_toArray, List.set_cons_zero, List.set_cons_succ]
        refine takeH (i := 5) (d := 4) (v := ?_) rfl rfl (by kernel_rfl) (by kernel_rfl) (by kernel_rfl) (fun _ _ _ h => h) (Or.inl ⟨by kernel_rfl, ?_⟩) hA ?_
        rotate_left 1
        · intro w hS; (try dsimp only [EntAt, MAt, Nat.zero_add] at hS); go_simp; (try with_reducible rfl)
        try simp only [Act.put, List.setIfInBounds_toArray, List.set_cons_zero, List.set_cons_succ]
        refine wpAnyH_done (by kernel_rfl) ?_ _
        refine NoPanic.normal ?_
        have bb := (b2.alloc b2.size (.cells #[.int .u64 (mw M 0 : Int), .int .u64 (mw M 1 : Int), .int .u64 (mw M 2 : Int), .int .u64 (mw M 3 : Int)] 82)).drew.trans (hb'.mono (by simp; have := b2.size; omega))
        go_wp2
        go_ret
        exact ⟨rfl, bb⟩
set_option maxHeartbeats 4000000 in
set_option maxRecDepth 100000 in
theorem implBuilt_any (v : Value) (es : List Ent) (w : World) (hr : RdE w v es) (hf : ∀ e ∈ es, Fits e) :
    Calls Try.prog 18 #[v] w fun e w' => BuiltPost w (builtL es) (builtOk es) e w' := by
  have HF : Hid (∀ e ∈ es, Fits e) := hf
  clear hf
  obtain ⟨a, cap, hv, hl, hm, _⟩ := id hr
  obtain ⟨nn, hnn⟩ : ∃ nn, nn = es.length := ⟨_, rfl⟩
  have HNN : Hid (nn = es.length) := hnn
  rw [← hnn] at hv hl
  subst hv
  clear hnn
  unfold maxLen at hm
  have hz := boxT_new w ⟨#[]⟩ ⟨#[]⟩ (.slice none 0 0) (.slice none 0 0)
  have b0 := below1 w (.cells #[.string ⟨#[]⟩, .string ⟨#[]⟩, .slice none 0 0, .slice none 0 0] 41)
  have hr0 := hr.below b0
  cases hok : okL es with
  | false =>
    have HCE : Hid (∀ W, RdE W (.slice a nn cap) es → Calls Try.prog 14 #[.slice a nn cap] W fun e w' => e = .returned (.bool false) ∧ Below W.heap.size W w') := fun W h => by have := implEntriesOk_any _ es W h HF.out; rwa [hok] at this
    have RES : Hid (builtOk es = false) := by unfold Hid builtOk; rw [hok]; rfl
    clear hok
    go_enter Try.func18, Try.ntmps18
    go_wp2_with fail
    refine (HCE.out _ hr0).mono ?_
    rintro e w1 ⟨rfl, hb1⟩
    obtain ⟨z0, z1, z2, z3, f0, f1, f2, f3⟩ := (hz.below hb1).facts
    have b1 := b0.trans (hb1.mono b0.size)
    clear hz hb1
    go_wp2
    exact bodyPost_ret (v := .tuple #[.agg #[.string ⟨#[]⟩, .string ⟨#[]⟩, .slice none 0 0, .slice none 0 0], .bool false]) (by simp [results, Try.results18, go_sem, z0, z1, z2, z3]) rfl (builtPost_no RES.out (below4 b1 (Nat.le_refl _) _ _ _ _ _ _ _ _))
  | true =>
    have HCE : Hid (∀ W, RdE W (.slice a nn cap) es → Calls Try.prog 14 #[.slice a nn cap] W fun e w' => e = .returned (.bool true) ∧ Below W.heap.size W w') := fun W h => by have := implEntriesOk_any _ es W h HF.out; rwa [hok] at this
    have hlen := okL_len hok
    rw [← HNN.out] at hlen
    by_cases h0 : nn = 0
    · have RES : Hid (builtOk es = false) := by unfold Hid builtOk; rw [← HNN.out, h0]; simp
      have hd : ((nn : Int) == 0) = true := by simp; omega
      clear hok h0
      go_enter Try.func18, Try.ntmps18
      go_wp2_with fail
      refine (HCE.out _ hr0).mono ?_
      rintro e w1 ⟨rfl, hb1⟩
      obtain ⟨z0, z1, z2, z3, f0, f1, f2, f3⟩ := (hz.below hb1).facts
      have b1 := b0.trans (hb1.mono b0.size)
      clear hz hb1
      go_wp2
      exact bodyPost_ret (v := .tuple #[.agg #[.string ⟨#[]⟩, .string ⟨#[]⟩, .slice none 0 0, .slice none 0 0], .bool false]) (by simp [results, Try.results18, go_sem, z0, z1, z2, z3]) rfl (builtPost_no RES.out (below4 b1 (Nat.le_refl _) _ _ _ _ _ _ _ _))
    · skip
      have RES : Hid (builtOk es = true) := by unfold Hid builtOk; rw [hok, ← HNN.out]; simp [h0]
      have hd : ((nn : Int) == 0) = false := by simp; omega
      have hpos : 0 < es.length := by rw [← HNN.out]; omega
      obtain ⟨b, off, rfl, hc0⟩ := hr.at HNN.out 0 hpos
      obtain ⟨b', off', hb', hcl⟩ := hr.at HNN.out (es.length - 1) (by omega)
      cases hb'
      have nbb : b ≠ w.heap.size := Nat.ne_of_lt hc0.lt
      obtain ⟨m, hm'⟩ : ∃ m, m = es.length - 1 := ⟨_, rfl⟩
      rw [← hm'] at hcl
      rw [Nat.zero_mul, Nat.add_zero] at hc0
      obtain ⟨e0, he0⟩ : ∃ e0, e0 = nth es 0 := ⟨_, rfl⟩
      obtain ⟨el, hel⟩ : ∃ el, el = nth es m := ⟨_, rfl⟩
      rw [← he0] at hc0
      rw [← hel] at hcl
      have HKS : Hid (∀ e ∈ es, e.key.size ≤ 1000000000) := fun e he => by have := okE_parts (okL_all hok e he); omega
      have HBT : Hid (builtT es = ⟨e0.key, el.key, bitsL es, blksL es⟩) := by unfold Hid builtT; rw [he0, hel, hm']
      have HY : Hid (∀ W vb vk, OwnI W w.heap.size vb (bitsL es) → OwnS W w.heap.size vk (blksL es) → Below w.heap.size w W → BuiltPost w (builtL es) (builtOk es) (.returned (.tuple #[.agg #[.string e0.key, .string el.key, vb, vk], .bool true])) W) := fun W vb vk h1 h2 h3 => by
        have := builtPost_yes (vb := vb) (vk := vk) RES.out (by rw [HBT.out]; exact h1) (by rw [HBT.out]; exact h2) h3
        rwa [HBT.out] at this
      have HCK : Hid (∀ W, RdE W (.slice (some ⟨b, off, none⟩) nn cap) es → Calls Try.prog 57 #[.slice (some ⟨b, off, none⟩) nn cap] W fun e w' => e = .returned (MV (mKeys es)) ∧ Below W.heap.size W w') := fun W h => marksOfKeys_any _ es W h HKS.out
      have HCB : Hid (∀ W, Calls Try.prog 58 #[MV (mKeys es)] W fun e w' => ∃ u, e = .returned u ∧ OwnI w' W.heap.size u (bitsL es) ∧ Below W.heap.size W w') := fun W => by have := bits_any (mKeys es) W (mKeys_lt es); rwa [bits_of_keys] at this
      have HCP : Hid (∀ W, RdE W (.slice (some ⟨b, off, none⟩) nn cap) es → Calls Try.prog 59 #[.slice (some ⟨b, off, none⟩) nn cap] W fun e w' => ∃ u, e = .returned u ∧ OwnS w' W.heap.size u (blksL es) ∧ Below W.heap.size W w') := fun W h => packedBlocks_any _ es W h hok
      have hnm : (nn : Int) - 1 = (m : Int) := by have := HNN.out; omega
      have hwm : IntKind.i64.wrap (m : Int) = (m : Int) := by rw [IntKind.wrap_i64]; omega
      have hmn : m < nn := by have := HNN.out; omega
      have hn0 : 0 < nn := by omega
      clear RES hok h0 hpos hm' he0 hel HKS HBT
      generalize mKeys es = M at HCK HCB
      unfold MV at HCK HCB
      generalize bitsL es = bts at HCB HY
      generalize blksL es = bks at HCP HY
      have hc00 := hc0.below b0
      have hcl0 := hcl.below b0
      go_enter Try.func18, Try.ntmps18
      go_wp2_with fail
      refine (HCE.out _ hr0).mono ?_
      rintro e w1 ⟨rfl, hb1⟩
      have hz1 := hz.below hb1
      have b1 := b0.trans (hb1.mono b0.size)
      have hr1 := hr0.below hb1
      have hc1 := hc00.below hb1
      have hcl1 := hcl0.below hb1
      clear hz hr0 hc00 hcl0 hb1 b0 hc0 hcl HCE
      go_wp2_with fail
      refine wp_region_noPanic ?_
      refine wp_region_held_drew (S := fun w' => EntAt w' b off e0 ∧ EntAt w' b (off + m * 4) el) (by kernel_rfl) ⟨hc1, hcl1⟩ (fun hH => ?_)
      have qz : BoxT w1.drew w.heap.size ⟨#[]⟩ ⟨#[]⟩ (.slice none 0 0) (.slice none 0 0) := hz1
      have qb := b1.drew
      have qr : RdE w1.drew _ es := hr1.drewN 1
      clear hz1 b1 hr1 hc1 hcl1
      revert qz
      revert qb
      revert qr
      revert hH
      generalize w1.drew = W0
      intro hH qr qb qz
      refine takeH (i := 0) (d := 13) (v := ?_) rfl rfl (by kernel_rfl) (by kernel_rfl) (by kernel_rfl) (fun _ _ _ h => h) (Or.inl ⟨by kernel_rfl, ?_⟩) hH ?_
      rotate_left 1
      · intro w hS; (try dsimp only [EntAt, MAt, Nat.zero_add] at hS); go_simp; (try with_reducible rfl)
      try simp only [Act.put, List.setIfInBounds_toArray, List.set_cons_zero, List.set_cons_succ]
      refine takeH (i := 1) (d := 14) (v := ?_) rfl rfl (by kernel_rfl) (by kernel_rfl) (by kernel_rfl) (fun _ _ _ h => h) (Or.inl ⟨by kernel_rfl, ?_⟩) hH ?_
      rotate_left 1
      · intro w hS; (try dsimp only [EntAt, MAt, Nat.zero_add] at hS); go_simp; (try with_reducible rfl)
      try simp only [Act.put, List.setIfInBounds_toArray, List.set_cons_zero, List.set_cons_succ]
      refine takeH (i := 2) (d := 15) (v := ?_) rfl rfl (by kernel_rfl) (by kernel_rfl) (by kernel_rfl) (fun _ _ _ h => h) (Or.inl ⟨by kernel_rfl, ?_⟩) hH ?_
      rotate_left 1
      · intro w hS; (try dsimp only [EntAt, MAt, Nat.zero_add] at hS); go_simp; (try with_reducible rfl)
      try simp only [Act.put, List.setIfInBounds_toArray, List.set_cons_zero, List.set_cons_succ]
      refine takeH (i := 3) (d := 16) (v := ?_) rfl rfl (by kernel_rfl) (by kernel_rfl) (by kernel_rfl) (fun _ _ _ h => h) (Or.inl ⟨by kernel_rfl, ?_⟩) hH ?_
      rotate_left 1
      · intro w hS; (try dsimp only [EntAt, MAt, Nat.zero_add] at hS); go_simp; (try with_reducible rfl)
      try simp only [Act.put, List.setIfInBounds_toArray, List.set_cons_zero, List.set_cons_succ]
      refine takeH (i := 4) (d := 17) (v := ?_) rfl rfl (by kernel_rfl) (by kernel_rfl) (by kernel_rfl) (fun _ _ _ h => h) (Or.inl ⟨by kernel_rfl, ?_⟩) hH ?_
      rotate_left 1
      · intro w hS; (try dsimp only [EntAt, MAt, Nat.zero_add] at hS); go_simp; (try with_reducible rfl)
      try simp only [Act.put, List.setIfInBounds_toArray, List.set_cons_zero, List.set_cons_succ]
      refine takeH (i := 5) (d := 18) (v := ?_) rfl rfl (by kernel_rfl) (by kernel_rfl) (by kernel_rfl) (fun _ _ _ h => h) (Or.inl ⟨by kernel_rfl, ?_⟩) hH ?_
      rotate_left 1
      · intro w hS; (try dsimp only [EntAt, MAt, Nat.zero_add] at hS); go_simp; (try with_reducible rfl)
      try simp only [Act.put, List.setIfInBounds_toArray, List.set_cons_zero, List.set_cons_succ]
      refine takeH (i := 6) (d := 19) (v := ?_) rfl rfl (by kernel_rfl) (by kernel_rfl) (by kernel_rfl) (fun _ _ _ h => h) (Or.inl ⟨by kernel_rfl, ?_⟩) hH ?_
      rotate_left 1
      · intro w hS; (try dsimp only [EntAt, MAt, Nat.zero_add] at hS); go_simp; (try with_reducible rfl)
      try simp only [Act.put, List.setIfInBounds_toArray, List.set_cons_zero, List.set_cons_succ]
      refine takeH (i := 7) (d := 20) (v := ?_) rfl rfl (by kernel_rfl) (by kernel_rfl) (by kernel_rfl) (fun _ _ _ h => h) (Or.inl ⟨by kernel_rfl, ?_⟩) hH ?_
      rotate_left 1
      · intro w hS; (try dsimp only [EntAt, MAt, Nat.zero_add] at hS); go_simp; (try with_reducible rfl)
      try simp only [Act.put, List.setIfInBounds_toArray, List.set_cons_zero, List.set_cons_succ]
      refine takeH (i := 8) (d := 21) (v := ?_) rfl rfl (by kernel_rfl) (by kernel_rfl) (by kernel_rfl) (fun _ _ _ h => h) (Or.inl ⟨by kernel_rfl, ?_⟩) hH ?_
      rotate_left 1
      · intro w hS; (try dsimp only [EntAt, MAt, Nat.zero_add] at hS); go_simp; (try with_reducible rfl)
      try simp only [Act.put, List.setIfInBounds_toArray, List.set_cons_zero, List.set_cons_succ]
      refine takeH (i := 9) (d := 22) (v := ?_) rfl rfl (by kernel_rfl) (by kernel_rfl) (by kernel_rfl) (fun _ _ _ h => h) (Or.inl ⟨by kernel_rfl, ?_⟩) hH ?_
      rotate_left 1
      · intro w hS; (try dsimp only [EntAt, MAt, Nat.zero_add] at hS); go_simp; (try with_reducible rfl)
      try simp only [Act.put, List.setIfInBounds_toArray, List.set_cons_zero, List.set_cons_succ]
      refine takeH (i := 10) (d := 23) (v := ?_) rfl rfl (by kernel_rfl) (by kernel_rfl) (by kernel_rfl) (fun _ _ _ h => h) (Or.inl ⟨by kernel_rfl, ?_⟩) hH ?_
      rotate_left 1
      · intro w hS; (try dsimp only [EntAt, MAt, Nat.zero_add] at hS); go_simp; (try with_reducible rfl)
      try simp only [Act.put, List.setIfInBounds_toArray, List.set_cons_zero, List.set_cons_succ]
      refine takeH (i := 11) (d := 24) (v := ?_) rfl rfl (by kernel_rfl) (by kernel_rfl) (by kernel_rfl) (fun _ _ _ h => h) (Or.inl ⟨by kernel_rfl, ?_⟩) hH ?_
      rotate_left 1
      · intro w hS; (try dsimp only [EntAt, MAt, Nat.zero_add] at hS); go_simp; (try with_reducible rfl)
      try simp only [Act.put, List.setIfInBounds_toArray, List.set_cons_zero, List.set_cons_succ]
      refine takeH (i := 14) (d := 27) (v := ?_) rfl rfl (by kernel_rfl) (by kernel_rfl) (by kernel_rfl) (fun _ _ _ h => h) (Or.inl ⟨by kernel_rfl, ?_⟩) hH ?_
      rotate_left 1
      · intro w hS; (try dsimp only [EntAt, MAt, Nat.zero_add] at hS); go_simp; (try with_reducible rfl)
      try simp only [Act.put, List.setIfInBounds_toArray, List.set_cons_zero, List.set_cons_succ]
      refine wpAnyH_ready (rs := [12]) (by kernel_rfl) (by simp) ?_
      refine AllReadyH.cons rfl (fun K hK => ?_) AllReadyH.nil
      go_simp
      refine (HCK.out _ qr).mono ?_
      rintro e W1 ⟨rfl, hb1⟩
      have qz1 := qz.below hb1
      have qb1 := qb.trans (hb1.mono qb.size)
      have qr1 := qr.below hb1
      have hH1 : (fun w' => EntAt w' b off e0 ∧ EntAt w' b (off + m * 4) el) W1 := ⟨hH.1.below hb1, hH.2.below hb1⟩
      clear qz qb qr hb1
      refine hK.out _ _ hH1 (fun h1 => ?_)
      clear hK K
      try simp only [Act.put, List.setIfInBounds_toArray, List.set_cons_zero, List.set_cons_succ]
      clear hH hH1
      refine wpAnyH_ready (rs := [13]) (by kernel_rfl) (by simp) ?_
      refine AllReadyH.cons rfl (fun K hK => ?_) AllReadyH.nil
      go_simp
      refine (HCB.out _).mono ?_
      rintro e W2 ⟨ub, rfl, hub, hb2⟩
      have qz2 := qz1.below hb2
      have qb2 := qb1.trans (hb2.mono qb1.size)
      have qr2 := qr1.below hb2
      have hu2 := hub.mono qb1.size
      have hH2 : (fun w' => EntAt w' b off e0 ∧ EntAt w' b (off + m * 4) el) W2 := ⟨h1.1.below hb2, h1.2.below hb2⟩
      clear qz1 qb1 qr1 hb2 hub
      refine hK.out _ _ hH2 (fun h2 => ?_)
      clear hK K
      try simp only [Act.put, List.setIfInBounds_toArray, List.set_cons_zero, List.set_cons_succ]
      clear hH2 h1
      refine wpAnyH_ready (rs := [15]) (by kernel_rfl) (by simp) ?_
      refine AllReadyH.cons rfl (fun K hK => ?_) AllReadyH.nil
      go_simp
      refine (HCP.out _ qr2).mono ?_
      rintro e W3 ⟨uk, rfl, huk, hb3⟩
      have qz3 := qz2.below hb3
      have qb3 := qb2.trans (hb3.mono qb2.size)
      have hu3 := hu2.below hb3
      have hk3 := huk.mono qb2.size
      have hH3 : (fun w' => EntAt w' b off e0 ∧ EntAt w' b (off + m * 4) el) W3 := ⟨h2.1.below hb3, h2.2.below hb3⟩
      clear qz2 qb2 qr2 hb3 hu2 huk
      refine hK.out _ _ hH3 (fun h3 => ?_)
      clear hK K
      try simp only [Act.put, List.setIfInBounds_toArray, List.set_cons_zero, List.set_cons_succ]
      clear h2 hH3
      obtain ⟨ab, cb, hsb, _⟩ := id hu3.rd
      obtain ⟨ak, ck, hsk, _⟩ := id hk3.rd
      generalize bts.length = bn at hsb
      generalize bks.length = kn at hsk
      subst hsb
      subst hsk
      refine takeH (i := 16) (d := 29) (v := ?_) rfl rfl (by kernel_rfl) (by kernel_rfl) (by kernel_rfl) (fun _ _ _ h => h) (Or.inl ⟨by kernel_rfl, ?_⟩) h3 ?_
      rotate_left 1
      · intro w hS; (try dsimp only [EntAt, MAt, Nat.zero_add] at hS); go_simp; (try with_reducible rfl)
      try simp only [Act.put, List.setIfInBounds_toArray, List.set_cons_zero, List.set_cons_succ]
      have nb := boxT_row qz3 hu3 (by decide)
      have nk := boxT_row qz3 hk3 (by decide)
      obtain ⟨z0, z1, z2, z3, f0, f1, f2, f3⟩ := qz3.facts
      have hH4 : (fun w' => EntAt w' b off e0 ∧ EntAt w' b (off + m * 4) el) ((((W3.setCell ⟨w.heap.size, 0, none⟩ (.string e0.key)).setCell ⟨w.heap.size, 1, none⟩ (.string el.key)).setCell ⟨w.heap.size, 2, none⟩ (.slice ab bn cb)).setCell ⟨w.heap.size, 3, none⟩ (.slice ak kn ck)) := ⟨entAt_set4 h3.1 nbb _ _ _ _ _ _ _ _, entAt_set4 h3.2 nbb _ _ _ _ _ _ _ _⟩
      refine wpAnyH_ready (rs := [17]) (by kernel_rfl) (by simp) ?_
      refine AllReadyH.cons rfl (fun K hK => ?_) AllReadyH.nil
      go_simp
      refine hK.out _ _ hH4 (fun h4 => ?_)
      clear hK K
      try simp only [Act.put, List.setIfInBounds_toArray, List.set_cons_zero, List.set_cons_succ]
      refine takeH (i := 18) (d := 3) (v := ?_) rfl rfl (by kernel_rfl) (by kernel_rfl) (by kernel_rfl) (fun _ _ _ h => h) (Or.inl ⟨by kernel_rfl, ?_⟩) h4 ?_
      rotate_left 1
      · intro w hS; (try dsimp only [EntAt, MAt, Nat.zero_add] at hS); go_simp; (try with_reducible rfl)
      try simp only [Act.put, List.setIfInBounds_toArray, List.set_cons_zero, List.set_cons_succ]
      refine wpAnyH_done (by kernel_rfl) ?_ _
      refine NoPanic.normal ?_
      go_wp2
      exact bodyPost_ret (v := .tuple #[.agg #[.string e0.key, .string el.key, .slice ab bn cb, .slice ak kn ck], .bool true]) (by simp [results, Try.results18, go_sem, z0, z1, z2, z3]) rfl (HY.out _ _ _ (row_set (row_set (row_set (row_set hu3 nb) nb) nb) nb) (row_set (row_set (row_set (row_set hk3 nk) nk) nk) nk) (below4 qb3 (Nat.le_refl _) _ _ _ _ _ _ _ _))
end Go.Proofs.Ythaobdknpgnapaa
