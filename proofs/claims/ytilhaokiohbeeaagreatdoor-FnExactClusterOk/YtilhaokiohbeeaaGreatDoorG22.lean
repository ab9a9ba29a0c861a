/- The contracts of the two Texts: each returns a slice of its own that holds the number of the text's bytes and these. Plain facts: what is written as a number or a text is read as that, whatever stands behind it, no part of it is read as any, and what is read is what it is written as. The contracts of both Texts over any slice of texts that can be read. What a block is as bytes: plain facts. -/
import Derived.Test.YtilhaokiohbeeaaGreatDoorNum
import Derived.Lib.AppendStr
import Derived.Test.YtilhaokiohbeeaaGreatDoorG06
import Derived.Test.YtilhaokiohbeeaaGreatDoorG00
import Derived.Test.YtilhaokiohbeeaaGreatDoorG04
namespace Go.Proofs.YtilhaokiohbeeaaGreatDoor
open Go.RowKit
def textOf (s : ByteArray) : List UInt8 := if s.size ≤ 3000 then enc s.size ++ s.data.toList else []
theorem strCells_BV (s : ByteArray) : Lib.strCells s = BV s.data.toList := rfl
theorem own_text {w1 : World} {B : Nat} {v' : Value} {ys : List UInt8} {s : ByteArray} (h : w1.ownsRow B 5 1 v' (ys.length + s.size) (BV ys ++ Lib.strCells s)) : Own w1 B v' (ys ++ s.data.toList) := by
  unfold Own
  rw [BV_append, List.length_append, size_length, ← strCells_BV]
  exact h
theorem text_below {w wr w1 : World} {B : Nat} {v : Value} {ys : List UInt8} (hown : Own wr B v ys) (hb : Below B w wr) (hB : B ≤ wr.heap.size) (hg : wr.grownBy w1 v.ownBlock) : Below B w w1 :=
  hb.grown hg hB (fun k hk => (World.ownsRow.lt hown k hk).1)

set_option maxHeartbeats 400000 in
set_option maxRecDepth 100000 in
theorem l1Text_any (s : ByteArray) (w : World) (hs : s.size ≤ 1099511627776) :
    Calls Tryz.prog 231 #[.string s] w fun e w' => ∃ v, e = .returned v ∧ Own w' w.heap.size v (enc s.size ++ s.data.toList) ∧ Below w.heap.size w w' := by
  obtain ⟨i0, hi, hz0, hz1, hz2⟩ := info_parts Tryz.info5
  have hL := enc_len9 s.size (by omega)
  go_enter Tryz.func231, Tryz.ntmps231
  go_wp2_with fail
  refine (l1Number_any _ _ (by omega) (by omega)).mono ?_
  rw [Int.toNat_natCast]
  rintro e w1 ⟨v, rfl, ho, hb⟩
  have hsz := hb.size
  go_wp2_with (at_builtin; (refine Lib.wpList_append_own_string _ rfl _ _ 22 9 rfl w.heap.size 5 i0 Tryz.underlying22 Tryz.underlying9 hi hz0 hz1 hz2 _ _ _ rfl ho s rfl ?c1 ?c2 ?c3 ?_))
  case c1 => unfold maxLen; omega
  case c2 => omega
  case c3 => omega
  · intro v' w2 hown' hgrow _
    have R1 := own_text hown'
    have R2 := text_below ho hb hsz hgrow
    clear hown' hgrow ho hb
    go_wp2
    go_ret
    exact ⟨_, rfl, R1, R2⟩
theorem text_in (s : ByteArray) (h : s.size ≤ 3000) : textOf s = enc s.size ++ s.data.toList := by unfold textOf; rw [if_pos h]
theorem text_out (s : ByteArray) (h : 3000 < s.size) : textOf s = [] := by unfold textOf; rw [if_neg (by omega)]
theorem textOf_len (s : ByteArray) : (textOf s).length ≤ 3009 := by
  by_cases h : s.size ≤ 3000
  · rw [text_in s h, List.length_append, size_length]
    have := enc_len9 s.size (by omega)
    omega
  · rw [text_out s (by omega)]; simp

set_option maxHeartbeats 400000 in
set_option maxRecDepth 100000 in
theorem implText_any (s : ByteArray) (w : World) (hs : s.size ≤ 1099511627776) :
    Calls Tryz.prog 252 #[.string s] w fun e w' => ∃ v, e = .returned v ∧ Own w' w.heap.size v (textOf s) ∧ Below w.heap.size w w' := by
  by_cases h : s.size ≤ 3000
  · rw [text_in s h]
    obtain ⟨i0, hi, hz0, hz1, hz2⟩ := info_parts Tryz.info5
    have hL := enc_len9 s.size (by omega)
    have hn := num_in (s.size : Int) (by omega) (by omega)
    rw [Int.toNat_natCast] at hn
    have Hn : Hid (num (s.size : Int) = enc s.size) := hn
    clear hn
    go_enter Tryz.func252, Tryz.ntmps252
    go_wp2_with fail
    refine (implNumber_any _ _).mono ?_
    rw [Hn.out]
    rintro e w1 ⟨v, rfl, ho, hb⟩
    have hsz := hb.size
    go_wp2_with (at_builtin; (refine Lib.wpList_append_own_string _ rfl _ _ 22 9 rfl w.heap.size 5 i0 Tryz.underlying22 Tryz.underlying9 hi hz0 hz1 hz2 _ _ _ rfl ho s rfl ?c1 ?c2 ?c3 ?_))
    case c1 => unfold maxLen; omega
    case c2 => omega
    case c3 => omega
    · intro v' w2 hown' hgrow _
      have R1 := own_text hown'
      have R2 := text_below ho hb hsz hgrow
      clear hown' hgrow ho hb
      go_wp2
      go_ret
      exact ⟨_, rfl, R1, R2⟩
  · rw [text_out s (by omega)]
    go_enter Tryz.func252, Tryz.ntmps252
    go_wp2
    go_ret
    exact ⟨_, rfl, own_none _, (Below.refl _ _).alloc (Nat.le_refl _) _⟩
end Go.Proofs.YtilhaokiohbeeaaGreatDoor
namespace Go.Proofs.YtilhaokiohbeeaaGreatDoor
theorem enc_ne (n : Nat) : enc n ≠ [] := by
  by_cases h : n < 128
  · rw [enc_small n h]; simp
  · rw [enc_big n (by omega)]; simp
theorem rdText_len (bs : List UInt8) : (rdText bs).2 ≤ bs.length := by
  have := rdNum_len bs
  unfold rdText
  split
  · simp
  · simp only; omega
theorem byte_low (n : Nat) (h : n < 128) : (UInt8.ofNat n).toNat = n := by rw [UInt8.toNat_ofNat']; omega
theorem byte_high (n : Nat) : (UInt8.ofNat (n % 128 + 128)).toNat = n % 128 + 128 := by rw [UInt8.toNat_ofNat']; omega
theorem mul_split (n p : Nat) : n % 128 * p + n / 128 * (p * 128) = n * p := by
  have h : n % 128 + n / 128 * 128 = n := by omega
  have e : n / 128 * (p * 128) = n / 128 * 128 * p := by rw [Nat.mul_comm p 128, Nat.mul_assoc]
  rw [e, ← Nat.add_mul, h]
theorem rdF_cons (f i m p : Nat) (b : UInt8) (r : List UInt8) : rdF (f + 1) i m p (b :: r) = if b.toNat < 128 then (if 1099511627776 < m + b.toNat % 128 * p ∨ 0 < i ∧ b.toNat = 0 then (0, 0) else (m + b.toNat % 128 * p, i + 1)) else rdF f (i + 1) (m + b.toNat % 128 * p) (p * 128) r := rfl
/-- A number that is written is read, whatever stands behind it. -/
theorem rdF_enc (f : Nat) : ∀ (i m p n : Nat) (r : List UInt8), n < 128 ^ (f + 1) → (0 < i → 0 < n) → m + n * p ≤ 1099511627776 → rdF (f + 1) i m p (enc n ++ r) = (m + n * p, i + (enc n).length) := by
  induction f with
  | zero =>
    intro i m p n r h hi hm
    have hn : n < 128 := by simpa using h
    rw [enc_small n hn, List.singleton_append, rdF_cons, byte_low n hn, if_pos hn, Nat.mod_eq_of_lt hn, if_neg (by omega)]
    rfl
  | succ f ih =>
    intro i m p n r h hi hm
    by_cases hn : n < 128
    · rw [enc_small n hn, List.singleton_append, rdF_cons, byte_low n hn, if_pos hn, Nat.mod_eq_of_lt hn, if_neg (by omega)]
      rfl
    · have hs := mul_split n p
      rw [enc_big n (by omega), List.cons_append, rdF_cons, byte_high, if_neg (by omega), show (n % 128 + 128) % 128 = n % 128 by omega]
      rw [ih (i + 1) (m + n % 128 * p) (p * 128) (n / 128) r (by rw [Nat.pow_succ] at h; omega) (by omega) (by omega), List.length_cons]
      have e1 : m + n % 128 * p + n / 128 * (p * 128) = m + n * p := by omega
      have e2 : i + 1 + (enc (n / 128)).length = i + ((enc (n / 128)).length + 1) := by omega
      rw [e1, e2]
theorem rdNum_enc (n : Nat) (r : List UInt8) (h : n ≤ 1099511627776) : rdNum (enc n ++ r) = (n, (enc n).length) := by
  have := rdF_enc 5 0 0 1 n r (by omega) (by omega) (by omega)
  unfold rdNum
  rw [this]
  simp
/-- No part of a number is one. -/
theorem rdF_part (f : Nat) : ∀ (i m p n j : Nat), j < (enc n).length → rdF f i m p ((enc n).take j) = (0, 0) := by
  induction f with
  | zero => intro i m p n j _; rfl
  | succ f ih =>
    intro i m p n j hj
    by_cases hn : n < 128
    · rw [enc_small n hn] at hj ⊢
      have : j = 0 := by simpa using hj
      subst this
      rfl
    · rw [enc_big n (by omega)] at hj ⊢
      cases j with
      | zero => rfl
      | succ j =>
        rw [List.take_succ_cons, rdF_cons, byte_high, if_neg (by omega)]
        exact ih _ _ _ _ j (by simpa using hj)
theorem rdNum_part (n j : Nat) (h : j < (enc n).length) : rdNum ((enc n).take j) = (0, 0) := rdF_part 6 0 0 1 n j h
theorem enc_pos (n : Nat) : 0 < (enc n).length := List.length_pos_iff.2 (enc_ne n)
/-- A text that is written is read, whatever stands behind it. -/
theorem rdText_enc (s : ByteArray) (r : List UInt8) (h : s.size ≤ 3000) : rdText ((enc s.size ++ s.data.toList) ++ r) = (s.data.toList, (enc s.size ++ s.data.toList).length) := by
  have hp := enc_pos s.size
  unfold rdText
  rw [List.append_assoc, rdNum_enc s.size _ (by omega)]
  simp only
  rw [if_neg (by simp only [List.length_append, size_length]; omega), List.drop_left, List.take_append_of_le_length (by rw [size_length]; omega), List.take_of_length_le (by rw [size_length]; omega), List.length_append, size_length]
theorem rdText_part (s : ByteArray) (j : Nat) (h : s.size ≤ 3000) (hj : j < (enc s.size ++ s.data.toList).length) : (rdText ((enc s.size ++ s.data.toList).take j)).2 = 0 := by
  unfold rdText
  by_cases hk : j < (enc s.size).length
  · rw [List.take_append_of_le_length (by omega), rdNum_part _ _ hk]
    rfl
  · have e : (enc s.size ++ s.data.toList).take j = enc s.size ++ s.data.toList.take (j - (enc s.size).length) := by rw [List.take_append, List.take_of_length_le (by omega)]
    rw [List.length_append, size_length] at hj
    rw [e, rdNum_enc s.size _ (by omega)]
    simp only
    rw [if_pos (.inr (.inr (by rw [List.length_append, List.length_take, size_length]; omega)))]
theorem back (s : ByteArray) : (⟨s.data.toList.toArray⟩ : ByteArray) = s := by cases s; simp
theorem byte_of_toNat (b : UInt8) : UInt8.ofNat b.toNat = b := by simp
/-- What is read as a number is what it is written as. -/
theorem rdF_back (f : Nat) : ∀ (i m p : Nat) (bs : List UInt8), (rdF f i m p bs).2 ≠ 0 → ∃ n j, rdF f i m p bs = (m + n * p, i + j) ∧ bs.take j = enc n ∧ (0 < i → 0 < n) ∧ j = (enc n).length := by
  induction f with
  | zero => intro i m p bs h; exact absurd rfl h
  | succ f ih =>
    intro i m p bs h
    cases bs with
    | nil => exact absurd rfl h
    | cons b r =>
      rw [rdF_cons] at h ⊢
      by_cases hb : b.toNat < 128
      · rw [if_pos hb] at h ⊢
        by_cases hc : 1099511627776 < m + b.toNat % 128 * p ∨ 0 < i ∧ b.toNat = 0
        · rw [if_pos hc] at h; exact absurd rfl h
        · rw [if_neg hc, Nat.mod_eq_of_lt hb]
          refine ⟨b.toNat, 1, rfl, ?_, by omega, ?_⟩
          · rw [enc_small _ hb, byte_of_toNat]; rfl
          · rw [enc_small _ hb]; rfl
      · rw [if_neg hb] at h ⊢
        obtain ⟨n, j, h1, h2, h3, h4⟩ := ih _ _ _ _ h
        have hn := h3 (by omega)
        have hb8 := UInt8.toNat_lt b
        have e1 : (b.toNat % 128 + 128 * n) % 128 = b.toNat % 128 := by omega
        have e2 : (b.toNat % 128 + 128 * n) / 128 = n := by omega
        have e3 : b.toNat % 128 + 128 = b.toNat := by omega
        have hE : enc (b.toNat % 128 + 128 * n) = b :: enc n := by rw [enc_big _ (by omega), e1, e2, e3, byte_of_toNat]
        have hs := mul_split (b.toNat % 128 + 128 * n) p
        rw [e1, e2] at hs
        refine ⟨b.toNat % 128 + 128 * n, j + 1, ?_, ?_, by omega, ?_⟩
        · rw [h1]
          have a1 : m + b.toNat % 128 * p + n * (p * 128) = m + (b.toNat % 128 + 128 * n) * p := by omega
          have a2 : i + 1 + j = i + (j + 1) := by omega
          rw [a1, a2]
        · rw [List.take_succ_cons, h2, hE]
        · rw [hE, List.length_cons, h4]
theorem rdNum_back (bs : List UInt8) (h : (rdNum bs).2 ≠ 0) : bs.take (rdNum bs).2 = enc (rdNum bs).1 ∧ (rdNum bs).2 = (enc (rdNum bs).1).length := by
  obtain ⟨n, j, h1, h2, _, h4⟩ := rdF_back 6 0 0 1 bs h
  have e : rdNum bs = (n, j) := by unfold rdNum; rw [h1]; simp
  rw [e]
  exact ⟨h2, h4⟩
theorem rdText_back (bs : List UInt8) (h : (rdText bs).2 ≠ 0) : (rdText bs).1.length ≤ 3000 ∧ bs.take (rdText bs).2 = enc (rdText bs).1.length ++ (rdText bs).1 ∧ (rdText bs).2 ≤ bs.length := by
  have hl := rdText_len bs
  unfold rdText at h hl ⊢
  by_cases hc : (rdNum bs).2 = 0 ∨ 3000 < (rdNum bs).1 ∨ bs.length < (rdNum bs).2 + (rdNum bs).1
  · rw [if_pos hc] at h; exact absurd rfl h
  · rw [if_neg hc] at hl ⊢
    simp only at hl ⊢
    have hb := rdNum_back bs (by omega)
    have hlen : ((bs.drop (rdNum bs).2).take (rdNum bs).1).length = (rdNum bs).1 := by rw [List.length_take, List.length_drop]; omega
    rw [hlen]
    refine ⟨by omega, ?_, hl⟩
    rw [List.take_add, hb.1]
end Go.Proofs.YtilhaokiohbeeaaGreatDoor
namespace Go.Proofs.YtilhaokiohbeeaaGreatDoor
open Go.RowKit
/-- The bytes of each text, one behind the other. -/
def tx : List ByteArray → List UInt8
  | [] => []
  | s :: r => enc s.size ++ s.data.toList ++ tx r
def textsOf (ss : List ByteArray) : List UInt8 := if ss.length ≤ 200 ∧ ∀ s ∈ ss, s.size ≤ 3000 then enc ss.length ++ tx ss else []
theorem tx_append (a b : List ByteArray) : tx (a ++ b) = tx a ++ tx b := by
  induction a with
  | nil => rfl
  | cons s r ih => simp only [List.cons_append, tx, ih, List.append_assoc]
theorem tx_snoc (ss : List ByteArray) (k : Nat) (h : k < ss.length) : tx (ss.take (k + 1)) = tx (ss.take k) ++ (enc ss[k].size ++ ss[k].data.toList) := by
  rw [List.take_succ_eq_append_getElem h, tx_append]
  simp [tx]
theorem tx_len (ss : List ByteArray) (h : ∀ s ∈ ss, s.size ≤ 3000) : (tx ss).length ≤ 3009 * ss.length := by
  induction ss with
  | nil => simp [tx]
  | cons s r ih =>
    have h1 := ih fun t ht => h t (List.mem_cons_of_mem _ ht)
    have h2 := h s List.mem_cons_self
    have h3 := enc_len9 s.size (by omega)
    simp only [tx, List.length_append, size_length, List.length_cons]
    omega
theorem textsOf_many (ss : List ByteArray) (h : 200 < ss.length) : textsOf ss = [] := by unfold textsOf; rw [if_neg (by omega)]
theorem textsOf_long (ss : List ByteArray) (k : Nat) (hk : k < ss.length) (h : 3000 < ss[k].size) : textsOf ss = [] := by
  unfold textsOf
  rw [if_neg fun hh => by have := hh.2 _ (List.getElem_mem hk); omega]
theorem textsOf_in (ss : List ByteArray) (h : ss.length ≤ 200) (hs : ∀ s ∈ ss, s.size ≤ 3000) : textsOf ss = enc ss.length ++ tx ss := by unfold textsOf; rw [if_pos ⟨h, hs⟩]
theorem textsOf_len (ss : List ByteArray) : (textsOf ss).length ≤ 700000 := by
  unfold textsOf
  split
  · rename_i h
    have h1 := tx_len ss h.2
    have h2 := enc_len9 ss.length (by omega)
    rw [List.length_append]
    omega
  · simp
set_option maxHeartbeats 1000000 in
set_option maxRecDepth 100000 in
theorem specTexts_any (v : Value) (ss : List ByteArray) (w : World) (hr : RdS w v ss) (hsz : ∀ s ∈ ss, s.size ≤ 1048576) :
    Calls Tryz.prog 207 #[v] w fun e w' => ∃ u, e = .returned u ∧ Own w' w.heap.size u (textsOf ss) ∧ Below w.heap.size w w' := by
  obtain ⟨i0, hi, hz0, hz1, hz2⟩ := info_parts Tryz.info5
  obtain ⟨T, hT⟩ : ∃ T, T = textsOf ss := ⟨_, rfl⟩
  rw [← hT]
  have HT : Hid (T = textsOf ss) := hT
  have HSZ : Hid (∀ s ∈ ss, s.size ≤ 1048576) := hsz
  clear hT hsz
  obtain ⟨a, cap, rfl, hl, hm, hA⟩ := hr
  unfold maxLen at hm
  by_cases hbig : 200 < ss.length
  · have HF : Hid (T = []) := HT.out.trans (textsOf_many ss hbig)
    clear hA
    go_enter Tryz.func207, Tryz.ntmps207
    go_wp2
    go_ret
    rw [HF.out]
    exact ⟨_, rfl, own_none _, (Below.refl _ _).alloc (Nat.le_refl _) _⟩
  have hL := enc_len9 ss.length (by omega)
  go_enter Tryz.func207, Tryz.ntmps207
  go_wp2_with fail
  refine (l1Number_any _ _ (by omega) (by omega)).mono ?_
  rw [Int.toNat_natCast]
  rintro e w1 ⟨v1, rfl, ho1, hb1⟩
  go_wp2
  go_loopw [3, 4] (fun oo ii wr => ∃ k : Nat, k ≤ ss.length ∧ ii = .int .i64 k ∧ Own wr w.heap.size oo (enc ss.length ++ tx (ss.take k)) ∧ Below w.heap.size w wr ∧ Hid (∀ j (h : j < ss.length), j < k → ss[j].size ≤ 3000)) (fun _ ii _ => ss.length - (intOf ii).toNat)
  case atStart => exact ⟨0, Nat.zero_le _, rfl, by simpa [tx] using ho1, hb1, fun j h h' => by omega⟩
  case round =>
    obtain ⟨k, hk, rfl, ho, hb, HJ⟩ := hrel
    have hs := hb.size
    clear ho1 hb1
    by_cases hlt : k < ss.length
    · obtain ⟨b, off, ha, hc⟩ : ∃ b off, a = some ⟨b, off, none⟩ ∧ wr.cell? ⟨b, off + k, none⟩ = some (.string ss[k]) := by
        rcases hA with h | ⟨b, off, ha, hc⟩
        · subst h; simp at hlt
        · exact ⟨b, off, ha, by rw [hb.cell (World.block_lt_of_cell? w _ (hc k hlt))]; exact hc k hlt⟩
      rw [ha]
      have hyl : (enc ss.length ++ tx (ss.take k)).length ≤ 700000 := by
        have h1 := tx_len (ss.take k) (fun s hs => by
          obtain ⟨j, hj, rfl⟩ := List.getElem_of_mem hs
          rw [List.length_take] at hj
          rw [List.getElem_take]
          exact HJ.out j (by omega) (by omega))
        rw [List.length_take] at h1
        rw [List.length_append]
        omega
      have hsn := tx_snoc ss k hlt
      obtain ⟨s, hs'⟩ : ∃ s, s = ss[k] := ⟨_, rfl⟩
      have hsk := HSZ.out _ (List.getElem_mem hlt)
      have H0 : Hid (3000 < s.size → T = []) := fun h => HT.out.trans (textsOf_long ss k hlt (by rw [← hs']; exact h))
      rw [← hs'] at hc hsk hsn
      have Hs : Hid (s = ss[k]) := hs'
      have Hsn : Hid (tx (ss.take (k + 1)) = tx (ss.take k) ++ (enc s.size ++ s.data.toList)) := hsn
      clear hs' hA hsn ha
      by_cases hlong : 3000 < s.size
      · have HF : Hid (T = []) := H0.out hlong
        clear H0
        go_wp2
        go_ret
        rw [HF.out]
        exact ⟨_, rfl, (own_none _).mono hs, hb.alloc hs _⟩
      · generalize hys : enc ss.length ++ tx (ss.take k) = ys at ho hyl
        have Hys : Hid (enc ss.length ++ tx (ss.take k) = ys) := hys
        have hel := enc_len9 s.size (by omega)
        have hz : (enc s.size ++ s.data.toList).length ≤ 3009 := by rw [List.length_append, size_length]; omega
        clear hys H0
        go_wp2_with fail
        refine (l1Text_any s _ (by omega)).mono ?_
        rintro e w2 ⟨v2, rfl, ho2, hb2⟩
        obtain ⟨g2, c2, hv2, hcl⟩ := own_some ho2 (by simp [enc_ne])
        have ho' := ho.below hb2
        have hb' := hb.trans (hb2.mono hs)
        have hs2 := hb2.size
        generalize enc s.size ++ s.data.toList = zs at hz ho2 hv2 hcl Hsn
        subst hv2
        have Hcl : Hid (∀ j u, (BV zs)[j]? = some u → w2.cell? ((⟨g2, 0, none⟩ : Addr).add j) = some u) := hcl
        clear ho hb hb2 hcl ho2
        go_wp2_with (at_builtin; (refine wpList_append_own _ rfl _ _ 22 rfl w.heap.size 5 i0 (.int .u8 0) 1 1 Tryz.underlying22 hi hz0 hz1 hz2 rfl (by decide) _ _ _ rfl ho' ⟨g2, 0, none⟩ zs.length c2 (BV zs) rfl (by rw [BV_length, Nat.mul_one]) Hcl.out (BV_oneCell zs) ?c3 ?c4 ?c5 ?_))
        case c3 => unfold maxLen; omega
        case c4 => omega
        case c5 => omega
        intro v' w3 hown' hgrow _
        have R1 := own_more hown'
        have R2 := text_below ho' hb' (by omega) hgrow
        have e3 : ys ++ zs = enc ss.length ++ tx (ss.take (k + 1)) := by rw [Hsn.out, ← Hys.out, List.append_assoc]
        rw [e3] at R1
        clear hown' hgrow ho' hb' e3
        go_wp2
        go_roundw
        case rel =>
          refine ⟨k + 1, by omega, by go_num, R1, R2, fun j h h' => ?_⟩
          by_cases hjk : j = k
          · subst hjk; rw [← Hs.out]; omega
          · exact HJ.out j h (by omega)
        case measure => simp [intOf]; omega
    · have hke : k = ss.length := by omega
      subst hke
      have HF : Hid (T = enc ss.length ++ tx ss) := HT.out.trans (textsOf_in ss (by omega) (fun s hs => by obtain ⟨j, hj, rfl⟩ := List.getElem_of_mem hs; exact HJ.out j hj hj))
      rw [List.take_length] at ho
      go_wp2
      go_ret
      rw [HF.out]
      exact ⟨_, rfl, ho, hb⟩
set_option maxHeartbeats 1000000 in
set_option maxRecDepth 100000 in
theorem implTexts_any (v : Value) (ss : List ByteArray) (w : World) (hr : RdS w v ss) (hsz : ∀ s ∈ ss, s.size ≤ 1048576) :
    Calls Tryz.prog 243 #[v] w fun e w' => ∃ u, e = .returned u ∧ Own w' w.heap.size u (textsOf ss) ∧ Below w.heap.size w w' := by
  obtain ⟨i0, hi, hz0, hz1, hz2⟩ := info_parts Tryz.info5
  obtain ⟨T, hT⟩ : ∃ T, T = textsOf ss := ⟨_, rfl⟩
  rw [← hT]
  have HT : Hid (T = textsOf ss) := hT
  have HSZ : Hid (∀ s ∈ ss, s.size ≤ 1048576) := hsz
  clear hT hsz
  obtain ⟨a, cap, rfl, hl, hm, hA⟩ := hr
  unfold maxLen at hm
  by_cases hbig : 200 < ss.length
  · have HF : Hid (T = []) := HT.out.trans (textsOf_many ss hbig)
    clear hA
    go_enter Tryz.func243, Tryz.ntmps243
    go_wp2
    go_ret
    rw [HF.out]
    exact ⟨_, rfl, own_none _, (Below.refl _ _).alloc (Nat.le_refl _) _⟩
  have hL := enc_len9 ss.length (by omega)
  have hn := num_in (ss.length : Int) (by omega) (by omega)
  rw [Int.toNat_natCast] at hn
  have Hn : Hid (num (ss.length : Int) = enc ss.length) := hn
  clear hn
  go_enter Tryz.func243, Tryz.ntmps243
  go_wp2_with fail
  refine (implNumber_any _ _).mono ?_
  rw [Hn.out]
  rintro e w1 ⟨v1, rfl, ho1, hb1⟩
  go_wp2
  go_loopw [3, 15] (fun oo ii wr => ∃ k : Nat, k ≤ ss.length ∧ ii = .int .i64 k ∧ Own wr w.heap.size oo (enc ss.length ++ tx (ss.take k)) ∧ Below w.heap.size w wr ∧ Hid (∀ j (h : j < ss.length), j < k → ss[j].size ≤ 3000)) (fun _ ii _ => ss.length - (intOf ii).toNat)
  case atStart => exact ⟨0, Nat.zero_le _, rfl, by simpa [tx] using ho1, hb1, fun j h h' => by omega⟩
  case round =>
    obtain ⟨k, hk, rfl, ho, hb, HJ⟩ := hrel
    have hs := hb.size
    clear ho1 hb1
    by_cases hlt : k < ss.length
    · obtain ⟨b, off, ha, hc⟩ : ∃ b off, a = some ⟨b, off, none⟩ ∧ wr.cell? ⟨b, off + k, none⟩ = some (.string ss[k]) := by
        rcases hA with h | ⟨b, off, ha, hc⟩
        · subst h; simp at hlt
        · exact ⟨b, off, ha, by rw [hb.cell (World.block_lt_of_cell? w _ (hc k hlt))]; exact hc k hlt⟩
      rw [ha]
      have hyl : (enc ss.length ++ tx (ss.take k)).length ≤ 700000 := by
        have h1 := tx_len (ss.take k) (fun s hs => by
          obtain ⟨j, hj, rfl⟩ := List.getElem_of_mem hs
          rw [List.length_take] at hj
          rw [List.getElem_take]
          exact HJ.out j (by omega) (by omega))
        rw [List.length_take] at h1
        rw [List.length_append]
        omega
      have hsn := tx_snoc ss k hlt
      obtain ⟨s, hs'⟩ : ∃ s, s = ss[k] := ⟨_, rfl⟩
      have hsk := HSZ.out _ (List.getElem_mem hlt)
      have H0 : Hid (3000 < s.size → T = []) := fun h => HT.out.trans (textsOf_long ss k hlt (by rw [← hs']; exact h))
      rw [← hs'] at hc hsk hsn
      have Hs : Hid (s = ss[k]) := hs'
      have Hsn : Hid (tx (ss.take (k + 1)) = tx (ss.take k) ++ (enc s.size ++ s.data.toList)) := hsn
      clear hs' hA hsn ha
      by_cases hlong : 3000 < s.size
      · have HF : Hid (T = []) := H0.out hlong
        clear H0
        go_wp2
        go_ret
        rw [HF.out]
        exact ⟨_, rfl, (own_none _).mono hs, hb.alloc hs _⟩
      · generalize hys : enc ss.length ++ tx (ss.take k) = ys at ho hyl
        have Hys : Hid (enc ss.length ++ tx (ss.take k) = ys) := hys
        have hel := enc_len9 s.size (by omega)
        have hz : (enc s.size ++ s.data.toList).length ≤ 3009 := by rw [List.length_append, size_length]; omega
        clear hys H0
        go_wp2_with fail
        refine (implText_any s _ (by omega)).mono ?_
        rw [text_in s (by omega)]
        rintro e w2 ⟨v2, rfl, ho2, hb2⟩
        obtain ⟨g2, c2, hv2, hcl⟩ := own_some ho2 (by simp [enc_ne])
        have ho' := ho.below hb2
        have hb' := hb.trans (hb2.mono hs)
        have hs2 := hb2.size
        generalize enc s.size ++ s.data.toList = zs at hz ho2 hv2 hcl Hsn
        subst hv2
        have Hcl : Hid (∀ j u, (BV zs)[j]? = some u → w2.cell? ((⟨g2, 0, none⟩ : Addr).add j) = some u) := hcl
        clear ho hb hb2 hcl ho2
        go_wp2_with (at_builtin; (refine wpList_append_own _ rfl _ _ 22 rfl w.heap.size 5 i0 (.int .u8 0) 1 1 Tryz.underlying22 hi hz0 hz1 hz2 rfl (by decide) _ _ _ rfl ho' ⟨g2, 0, none⟩ zs.length c2 (BV zs) rfl (by rw [BV_length, Nat.mul_one]) Hcl.out (BV_oneCell zs) ?c3 ?c4 ?c5 ?_))
        case c3 => unfold maxLen; omega
        case c4 => omega
        case c5 => omega
        intro v' w3 hown' hgrow _
        have R1 := own_more hown'
        have R2 := text_below ho' hb' (by omega) hgrow
        have e3 : ys ++ zs = enc ss.length ++ tx (ss.take (k + 1)) := by rw [Hsn.out, ← Hys.out, List.append_assoc]
        rw [e3] at R1
        clear hown' hgrow ho' hb' e3
        go_wp2
        go_roundw
        case rel =>
          refine ⟨k + 1, by omega, by go_num, R1, R2, fun j h h' => ?_⟩
          by_cases hjk : j = k
          · subst hjk; rw [← Hs.out]; omega
          · exact HJ.out j h (by omega)
        case measure => simp [intOf]; omega
    · have hke : k = ss.length := by omega
      subst hke
      have HF : Hid (T = enc ss.length ++ tx ss) := HT.out.trans (textsOf_in ss (by omega) (fun s hs => by obtain ⟨j, hj, rfl⟩ := List.getElem_of_mem hs; exact HJ.out j hj hj))
      rw [List.take_length] at ho
      go_wp2
      go_ret
      rw [HF.out]
      exact ⟨_, rfl, ho, hb⟩
end Go.Proofs.YtilhaokiohbeeaaGreatDoor
namespace Go.Proofs.YtilhaokiohbeeaaGreatDoor
open Go.RowKit
/-- Two lists of numbers in turn. -/
def altI : List Int → List Int → List Int
  | x :: xs, y :: ys => x :: y :: altI xs ys
  | _, _ => []
theorem altI_len : ∀ (xs ys : List Int), xs.length = ys.length → (altI xs ys).length = 2 * xs.length
  | [], [], _ => rfl
  | x :: xs, y :: ys, h => by
    have := altI_len xs ys (by simpa using h)
    simp only [altI, List.length_cons, this]; omega
theorem altI_snoc : ∀ (xs ys : List Int) (k : Nat) (h : k < xs.length) (h' : k < ys.length), altI (xs.take (k + 1)) (ys.take (k + 1)) = altI (xs.take k) (ys.take k) ++ [xs[k], ys[k]]
  | x :: xs, y :: ys, 0, _, _ => by simp [altI]
  | x :: xs, y :: ys, k + 1, h, h' => by
    have := altI_snoc xs ys k (by simpa using h) (by simpa using h')
    rw [List.take_succ_cons, List.take_succ_cons, altI, this]
    simp [altI]
/-- The numbers of a proof, of a block up to its moves. -/
def prN (p : Prf) : List Int := p.vw :: p.nm :: (p.sv.length : Int) :: altI p.sv p.tg
def blN (b : Blk) : List Int := b.vw :: b.pa :: prN b.p
def inO (n : Int) : Bool := decide (0 ≤ n ∧ n ≤ 1099511627776)
theorem inO_yes {n : Int} (h : inO n = true) : 0 ≤ n ∧ n ≤ 1099511627776 := of_decide_eq_true h
theorem num_yes {n : Int} (h : inO n = true) : num n = enc n.toNat := num_in n (inO_yes h).1 (inO_yes h).2
theorem num_no {n : Int} (h : inO n = false) : num n = [] := num_out n (by have := of_decide_eq_false h; omega)
theorem num_emp (n : Int) : (num n).isEmpty = !inO n := by
  cases h : inO n with
  | false => rw [num_no h]; rfl
  | true =>
    rw [num_yes h]
    have := enc_ne n.toNat
    cases he : enc n.toNat with
    | nil => exact absurd he this
    | cons a l => rfl
def numL (ns : List Int) : List UInt8 := ns.flatMap num
theorem numL_append (a b : List Int) : numL (a ++ b) = numL a ++ numL b := by simp [numL]
theorem numL_snoc (ns : List Int) (k : Nat) (h : k < ns.length) : numL (ns.take (k + 1)) = numL (ns.take k) ++ num ns[k] := by
  rw [List.take_succ_eq_append_getElem h, numL_append]
  simp [numL]
theorem num_len (n : Int) : (num n).length ≤ 9 := by
  unfold num
  split
  · exact enc_len9 _ (by omega)
  · simp
theorem numL_len : ∀ ns : List Int, (numL ns).length ≤ 9 * ns.length
  | [] => by simp [numL]
  | n :: ns => by
    have h1 := numL_len ns
    have h2 := num_len n
    simp only [numL, List.flatMap_cons, List.length_append, List.length_cons] at h1 ⊢
    omega
/-- Has a proof as many tags as servers, no more than seven? -/
def prB7 (p : Prf) : Bool := decide (p.sv.length = p.tg.length ∧ p.sv.length ≤ 7)
def shwO (b : Blk) : Bool := prB7 b.p && (blN b).all inO && !(textsOf b.mo).isEmpty && inO b.sv
/-- The bytes of a block; none where it cannot be shown. -/
def shwB (b : Blk) : List UInt8 := if shwO b = true then numL (blN b) ++ textsOf b.mo ++ num b.sv else []
theorem shwB_many {b : Blk} (h : prB7 b.p = false) : shwB b = [] := by unfold shwB shwO; rw [h]; rfl
theorem all_not {ns : List Int} {k : Nat} (hk : k < ns.length) (h : inO ns[k] = false) : ns.all inO = false := by
  rw [List.all_eq_false]; exact ⟨ns[k], List.getElem_mem hk, by simp [h]⟩
theorem all_yes {ns : List Int} (h : ∀ k (hk : k < ns.length), inO ns[k] = true) : ns.all inO = true := by
  rw [List.all_eq_true]
  intro n hn
  obtain ⟨k, hk, rfl⟩ := List.getElem_of_mem hn
  exact h k hk
theorem shwB_num {b : Blk} {k : Nat} (hk : k < (blN b).length) (h : inO (blN b)[k] = false) : shwB b = [] := by unfold shwB shwO; rw [all_not hk h]; simp
theorem shwB_txt {b : Blk} (h : textsOf b.mo = []) : shwB b = [] := by unfold shwB shwO; rw [h]; simp
theorem shwB_by {b : Blk} (h : inO b.sv = false) : shwB b = [] := by unfold shwB shwO; rw [h]; simp
theorem shwB_yes {b : Blk} (h1 : prB7 b.p = true) (h2 : (blN b).all inO = true) (h3 : textsOf b.mo ≠ []) (h4 : inO b.sv = true) : shwB b = numL (blN b) ++ textsOf b.mo ++ num b.sv := by
  unfold shwB shwO
  have h5 : (textsOf b.mo).isEmpty = false := by cases h : textsOf b.mo with | nil => exact absurd h h3 | cons a l => rfl
  rw [h1, h2, h4, h5]; rfl
theorem blN_len {b : Blk} (h : prB7 b.p = true) : (blN b).length = 5 + 2 * b.p.sv.length ∧ b.p.sv.length ≤ 7 ∧ b.p.tg.length = b.p.sv.length := by
  have h1 := of_decide_eq_true h
  have h2 := altI_len b.p.sv b.p.tg h1.1
  refine ⟨?_, h1.2, h1.1.symm⟩
  simp only [blN, prN, List.length_cons, h2]; omega
theorem shwB_len (b : Blk) : (shwB b).length ≤ 800000 := by
  unfold shwB
  split
  · rename_i h
    have hb : prB7 b.p = true := by unfold shwO at h; simp only [Bool.and_eq_true] at h; exact h.1.1.1
    have h1 := numL_len (blN b)
    have h2 := blN_len hb
    have h3 := textsOf_len b.mo
    have h4 := num_len b.sv
    simp only [List.length_append]; omega
  · simp
/-- Rows of bytes one behind the other; nothing where one is empty. -/
def inR (bss : List (List UInt8)) : List UInt8 := if bss.any List.isEmpty = true then [] else bss.flatten
theorem inR_empty {bss : List (List UInt8)} {k : Nat} (hk : k < bss.length) (h : bss[k] = []) : inR bss = [] := by
  unfold inR
  rw [if_pos]
  rw [List.any_eq_true]
  exact ⟨bss[k], List.getElem_mem hk, by rw [h]; rfl⟩
theorem inR_full {bss : List (List UInt8)} (h : ∀ k (hk : k < bss.length), bss[k] ≠ []) : inR bss = bss.flatten := by
  unfold inR
  rw [if_neg]
  intro hh
  rw [List.any_eq_true] at hh
  obtain ⟨x, hx, he⟩ := hh
  obtain ⟨k, hk, rfl⟩ := List.getElem_of_mem hx
  exact h k hk (List.isEmpty_iff.1 he)
theorem flat_snoc (bss : List (List UInt8)) (k : Nat) (h : k < bss.length) : (bss.take (k + 1)).flatten = (bss.take k).flatten ++ bss[k] := by
  rw [List.take_succ_eq_append_getElem h, List.flatten_append]
  simp
theorem any_nums (ns : List Int) : (ns.map num).any List.isEmpty = !ns.all inO := by
  induction ns with
  | nil => rfl
  | cons n ns ih => simp only [List.map_cons, List.any_cons, List.all_cons, ih, num_emp]; cases inO n <;> simp
theorem flat_nums (ns : List Int) : (ns.map num).flatten = numL ns := by simp [numL, List.flatMap]
/-- A proof in a row. -/
def prW (p : Prf) : List UInt8 := if prB7 p = true then inR ((prN p).map num) else []
theorem prW_len (p : Prf) : (prW p).length ≤ 200 := by
  unfold prW
  split
  · rename_i h
    have h1 := of_decide_eq_true h
    have h2 := altI_len p.sv p.tg h1.1
    have h3 := numL_len (prN p)
    unfold inR
    split
    · simp
    · rw [flat_nums]
      simp only [prN, List.length_cons, h2] at h3 ⊢
      omega
  · simp
theorem shw_rows (b : Blk) : inR [num b.vw, num b.pa, prW b.p, textsOf b.mo, num b.sv] = shwB b := by
  have hp : prW b.p = if (prB7 b.p && (prN b.p).all inO) = true then numL (prN b.p) else [] := by
    unfold prW inR
    rw [any_nums, flat_nums]
    cases prB7 b.p <;> cases (prN b.p).all inO <;> rfl
  have he : (prW b.p).isEmpty = !(prB7 b.p && (prN b.p).all inO) := by
    rw [hp]
    cases h : (prB7 b.p && (prN b.p).all inO) with
    | false => rfl
    | true =>
      have h1 : inO b.p.vw = true := by
        simp only [Bool.and_eq_true, prN, List.all_cons] at h
        exact h.2.1
      rw [if_pos rfl]
      have h2 := num_emp b.p.vw
      rw [h1] at h2
      simp only [prN, numL, List.flatMap_cons]
      cases hn : num b.p.vw with
      | nil => rw [hn] at h2; cases h2
      | cons a l => rfl
  have hc : ([num b.vw, num b.pa, prW b.p, textsOf b.mo, num b.sv].any List.isEmpty) = !shwO b := by
    unfold shwO
    simp only [List.any_cons, List.any_nil, num_emp, he, blN, List.all_cons]
    cases inO b.vw <;> cases inO b.pa <;> cases prB7 b.p <;> cases (prN b.p).all inO <;> cases (textsOf b.mo).isEmpty <;> cases inO b.sv <;> rfl
  unfold inR shwB
  rw [hc]
  cases hs : shwO b with
  | false => rfl
  | true =>
    have hq : (prB7 b.p && (prN b.p).all inO) = true := by
      unfold shwO at hs
      simp only [blN, List.all_cons, Bool.and_eq_true] at hs ⊢
      exact ⟨hs.1.1.1, hs.1.1.2.2.2⟩
    rw [hp, if_pos hq]
    simp [numL, blN]
end Go.Proofs.YtilhaokiohbeeaaGreatDoor
