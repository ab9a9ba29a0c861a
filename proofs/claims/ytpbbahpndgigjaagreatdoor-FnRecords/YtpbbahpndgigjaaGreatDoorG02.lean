/- The contracts of both Records of one text, of isDigit and of strings.Clone. Plain facts on lists of entries: their order, where one is put, which one is seen, which ones are shown; no function of the program is walked here. Plain facts on merged lists, on what some snapshots see, and on what goes at the bottom: no function of the program is walked here. -/
import Derived.Test.YtpbbahpndgigjaaGreatDoorG01
import Derived.WalkKit
namespace Go.Proofs.YtpbbahpndgigjaaGreatDoor
set_option maxHeartbeats 16000000
set_option maxRecDepth 100000
open Go.RowKit
theorem itoa_any (n : Int) (w : World) (h0 : -9223372036854775808 ≤ n) (h1 : n ≤ 9223372036854775807) (ht : Tab w) :
    Calls Tryz.prog 34 #[.int .i64 n] w fun e w' => e = .returned (.string (itoaS n)) ∧ Below w.heap.size w w' := by
  refine (Tryz.strconv_Itoa n h0 h1 w ht).mono ?_
  rintro e w' ⟨rfl, k, os, rfl⟩
  exact ⟨rfl, Lib.below_grow _ w (Nat.le_refl _) k os⟩
theorem clone_any (s : ByteArray) (w : World) (hs : s.size ≤ 281474976710656) :
    Calls Tryz.prog 44 #[.string s] w fun e w' => e = .returned (.string s) ∧ Below w.heap.size w w' := by
  go_enter Tryz.func44, Tryz.ntmps44
  go_wp2_with fail
  refine (Tryz.stringslite_Clone s _ hs).mono ?_
  rintro e w1 ⟨rfl, b1⟩
  go_wp2
  go_ret
  exact ⟨rfl, b1⟩
theorem isDigit_any (b : UInt8) (w : World) :
    Calls Tryz.prog 43 #[.int .u8 (b.toNat : Int)] w fun e w' => e = .returned (.bool (decide (48 ≤ b.toNat) && decide (b.toNat ≤ 57))) ∧ w' = w := by
  by_cases h1 : 48 ≤ b.toNat
  · have c1 : (48 : Int) ≤ (b.toNat : Int) := by omega
    by_cases h2 : b.toNat ≤ 57
    · have c2 : (b.toNat : Int) ≤ 57 := by omega
      go_enter Tryz.func43, Tryz.ntmps43
      go_wp2
      go_ret
      exact ⟨by simp [h1, h2], rfl⟩
    · have c2 : ¬ (b.toNat : Int) ≤ 57 := by omega
      go_enter Tryz.func43, Tryz.ntmps43
      go_wp2
      go_ret
      exact ⟨rfl, rfl⟩
  · have c1 : ¬ (48 : Int) ≤ (b.toNat : Int) := by omega
    go_enter Tryz.func43, Tryz.ntmps43
    go_wp2
    go_ret
    exact ⟨rfl, rfl⟩
theorem recS_in {t : ByteArray} (h : t.size ≤ 3000) : recS t = recT t := by unfold recS; rw [if_pos h]
theorem recS_out {t : ByteArray} (h : 3000 < t.size) : recS t = ⟨#[]⟩ := by unfold recS; rw [if_neg (by omega)]
theorem specRecord_any (t : ByteArray) (w : World) (ht : t.size ≤ 1099511627776) :
    Calls Tryz.prog 15 #[.string t] w fun e w' => e = .returned (.string (recS t)) ∧ Below w.heap.size w w' := by
  by_cases h : 3000 < t.size
  · rw [recS_out h]
    go_enter Tryz.func15, Tryz.ntmps15
    go_wp2
    go_ret
    exact ⟨rfl, Below.refl _ _⟩
  · rw [recS_in (by omega)]
    have HT : Hid (recT t = itoaS (t.size : Int) ++ blankB ++ itoaS (dig 1 t.data.toList : Int) ++ lfB ++ t ++ lfB) := rfl
    have HD : Hid (dig 1 t.data.toList < 2147483647) := dig_lt' 1 _ (by decide)
    have hsa := itoaS_size (t.size : Int) (by omega) (by omega)
    go_enter Tryz.func15, Tryz.ntmps15
    go_wp2_with fail
    refine (l2Int_any (t.size : Int) _ (by omega) (by omega)).mono ?_
    rintro e w1 ⟨rfl, b1⟩
    go_wp2_with fail
    refine (specDigest_any t _ ht).mono ?_
    obtain ⟨D, hD⟩ : ∃ D, D = dig 1 t.data.toList := ⟨_, rfl⟩
    rw [← hD]
    have HE : Hid (D = dig 1 t.data.toList) := hD
    have hlt : D < 2147483647 := by rw [hD]; exact HD.out
    clear hD
    rintro e w2 ⟨rfl, hw2⟩
    obtain rfl := hw2.symm
    go_wp2_with fail
    refine (l2Int_any (D : Int) _ (by omega) (by omega)).mono ?_
    rintro e w3 ⟨rfl, b3⟩
    have hsb := itoaS_size (D : Int) (by omega) (by omega)
    have bb := b1.trans (b3.mono b1.size)
    clear b1 b3
    go_wp2
    go_ret
    exact ⟨by rw [HT.out, HE.out]; rfl, bb⟩
theorem implRecord_any (t : ByteArray) (w : World) (ht : t.size ≤ 1099511627776) (hT : Tab w) :
    Calls Tryz.prog 14 #[.string t] w fun e w' => e = .returned (.string (recS t)) ∧ Below w.heap.size w w' := by
  by_cases h : 3000 < t.size
  · rw [recS_out h]
    clear hT
    go_enter Tryz.func14, Tryz.ntmps14
    go_wp2
    go_ret
    exact ⟨rfl, Below.refl _ _⟩
  · rw [recS_in (by omega)]
    have HT : Hid (recT t = itoaS (t.size : Int) ++ blankB ++ itoaS (dig 1 t.data.toList : Int) ++ lfB ++ t ++ lfB) := rfl
    have HD : Hid (dig 1 t.data.toList < 2147483647) := dig_lt' 1 _ (by decide)
    have hsa := itoaS_size (t.size : Int) (by omega) (by omega)
    go_enter Tryz.func14, Tryz.ntmps14
    go_wp2_with fail
    refine (itoa_any (t.size : Int) _ (by omega) (by omega) hT).mono ?_
    rintro e w1 ⟨rfl, b1⟩
    have hT1 := hT.on b1
    go_wp2_with fail
    refine (implDigest_any t _ ht).mono ?_
    obtain ⟨D, hD⟩ : ∃ D, D = dig 1 t.data.toList := ⟨_, rfl⟩
    rw [← hD]
    have HE : Hid (D = dig 1 t.data.toList) := hD
    have hlt : D < 2147483647 := by rw [hD]; exact HD.out
    clear hD
    rintro e w2 ⟨rfl, b2⟩
    have hT2 := hT1.on b2
    go_wp2_with fail
    refine (fmt_any (D : Int) _ (by omega) (by omega) hT2).mono ?_
    rintro e w3 ⟨rfl, b3⟩
    have hsb := itoaS_size (D : Int) (by omega) (by omega)
    have b12 := b1.trans (b2.mono b1.size)
    have bb := b12.trans (b3.mono b12.size)
    clear b1 b2 b3 b12 hT hT1 hT2
    go_wp2
    go_ret
    exact ⟨by rw [HT.out, HE.out]; rfl, bb⟩
theorem number_zero (w : World) :
    Calls Tryz.prog 56 #[.string ⟨#[48]⟩] w fun e w' => e = .returned (.tuple #[.int .i64 0, .bool true]) ∧ w' = w := by
  obtain ⟨s, hs⟩ : ∃ s : ByteArray, s = ⟨#[48]⟩ := ⟨_, rfl⟩
  have hz : s.size = 1 := by rw [hs]; rfl
  have h0 : ∀ h : 0 < s.size, s[0].toNat = 48 := by subst hs; intro _; rfl
  rw [← hs]
  clear hs
  have hp : 0 < s.size := by omega
  have hc := h0 hp
  have hne := toList_ne hp
  have hq : ((s[0].toNat : Int) == 45) = false := by simp only [beq_eq_false_iff_ne]; omega
  have hz2 : ((s[0].toNat : Int) == 48) = true := by simp only [beq_iff_eq]; omega
  have c1 : ¬ ((s.size : Int) - 0 < 1) := by omega
  have c2 : ¬ (10 < (s.size : Int) - 0) := by omega
  have c3 : ¬ (1 < (s.size : Int)) := by omega
  have HC : Hid (s[0].toNat = 48) := hc
  have HZ : Hid (s.size = 1) := hz
  clear h0 hc hz
  go_enter Tryz.func56, Tryz.ntmps56
  go_wp2
  clear c1 c2 hq
  go_loop [6, 7] (fun nn kk => ∃ k : Nat, k ≤ s.size ∧ kk = .int .i64 k ∧ nn = .int .i64 0) (fun _ kk => s.size - (intOf kk).toNat)
  case atStart => exact ⟨0, Nat.zero_le _, rfl, rfl⟩
  case round =>
    obtain ⟨k, hk2, rfl, rfl⟩ := hrel
    by_cases hlt : k < s.size
    · have hk0 : k = 0 := by have := HZ.out; omega
      subst hk0
      have d1 : ¬ (s[0].toNat : Int) < 48 := by have := HC.out; omega
      have d2 : ¬ 57 < (s[0].toNat : Int) := by have := HC.out; omega
      have d3 : (s[0].toNat : Int) - 48 = 0 := by have := HC.out; omega
      go_wp2
      go_round
      case rel => exact ⟨0 + 1, by omega, by go_num, by go_num⟩
      case measure => simp [intOf]; omega
    · go_wp2
      go_ret2
      exact ⟨rfl, rfl⟩

structure Ent where
  key : ByteArray
  val : ByteArray
  seq : Int
  gone : Bool
deriving DecidableEq
instance : Inhabited Ent := ⟨⟨ByteArray.empty, ByteArray.empty, 0, false⟩⟩
def nth (es : List Ent) (i : Nat) : Ent := es.getD i default
theorem nth_eq {es : List Ent} {i : Nat} (h : i < es.length) : nth es i = es[i] := by simp [nth, List.getD, List.getElem?_eq_getElem h]
theorem nth_zero (a : Ent) (r : List Ent) : nth (a :: r) 0 = a := rfl
theorem nth_succ (a : Ent) (r : List Ent) (i : Nat) : nth (a :: r) (i + 1) = nth r i := by simp [nth, List.getD]
def kEq (a b : ByteArray) : Bool := decide (a = b)

def kLt (a b : ByteArray) : Bool := Op.bytesLess a.toList b.toList
theorem bl_irrefl : ∀ x : List UInt8, Op.bytesLess x x = false
  | [] => rfl
  | a :: x => by simp [Op.bytesLess, bl_irrefl x, UInt8.lt_irrefl]
theorem bl_trans : ∀ x y z : List UInt8, Op.bytesLess x y = true → Op.bytesLess y z = true → Op.bytesLess x z = true
  | _, [], _, h, _ => by simp [Op.bytesLess] at h
  | _, _ :: _, [], _, h => by simp [Op.bytesLess] at h
  | [], _ :: _, _ :: _, _, _ => rfl
  | a :: x, b :: y, c :: z, h, k => by
    simp only [Op.bytesLess, Bool.or_eq_true, decide_eq_true_eq, Bool.and_eq_true, beq_iff_eq] at h k ⊢
    rcases h with h | ⟨h, h'⟩ <;> rcases k with k | ⟨k, k'⟩
    · exact .inl (UInt8.lt_trans h k)
    · subst k; exact .inl h
    · subst h; exact .inl k
    · subst h; subst k; exact .inr ⟨rfl, bl_trans x y z h' k'⟩
theorem bl_tri : ∀ x y : List UInt8, Op.bytesLess x y = false → Op.bytesLess y x = false → x = y
  | [], [], _, _ => rfl
  | [], _ :: _, h, _ => by simp [Op.bytesLess] at h
  | _ :: _, [], _, h => by simp [Op.bytesLess] at h
  | a :: x, b :: y, h, k => by
    simp only [Op.bytesLess, Bool.or_eq_false_iff, decide_eq_false_iff_not, Bool.and_eq_false_iff, decide_eq_false_iff_not] at h k
    have hab : a = b := by
      apply UInt8.toNat_inj.1
      have h1 := h.1; have k1 := k.1
      rw [UInt8.lt_iff_toNat_lt] at h1 k1
      omega
    subst hab
    rcases h.2 with h2 | h2
    · simp at h2
    · rcases k.2 with k2 | k2
      · simp at k2
      · rw [bl_tri x y h2 k2]
theorem ba_toList_inj {a b : ByteArray} (h : a.toList = b.toList) : a = b := by
  have e : ∀ c : ByteArray, c.toList = c.data.toList := fun c => ByteArray.toList_eq c
  rw [e, e] at h
  cases a; cases b; simp_all
theorem kLt_irrefl (a : ByteArray) : kLt a a = false := bl_irrefl _
theorem kLt_trans {a b c : ByteArray} (h : kLt a b = true) (k : kLt b c = true) : kLt a c = true := bl_trans _ _ _ h k
theorem kLt_tri {a b : ByteArray} (h : kLt a b = false) (k : kLt b a = false) : a = b := ba_toList_inj (bl_tri _ _ h k)
def ahd (a b : Ent) : Bool := kLt a.key b.key || (kEq a.key b.key && decide (b.seq < a.seq))
def sameKS (a b : Ent) : Bool := kEq a.key b.key && decide (a.seq = b.seq)
theorem ahd_iff (a b : Ent) : ahd a b = true ↔ kLt a.key b.key = true ∨ (a.key = b.key ∧ b.seq < a.seq) := by simp [ahd, kEq]
theorem ahd_trans {a b c : Ent} (h : ahd a b = true) (k : ahd b c = true) : ahd a c = true := by
  rw [ahd_iff] at h k ⊢
  rcases h with h | ⟨h, h'⟩ <;> rcases k with k | ⟨k, k'⟩
  · exact .inl (kLt_trans h k)
  · exact .inl (k ▸ h)
  · exact .inl (h ▸ k)
  · exact .inr ⟨h.trans k, by omega⟩
theorem ahd_irrefl (a : Ent) : ahd a a = false := by simp [ahd, kEq, kLt_irrefl]
theorem ahd_tri {a b : Ent} (h : ahd a b = false) (k : sameKS a b = false) : ahd b a = true := by
  rw [ahd_iff]
  have h1 : kLt a.key b.key = false := by cases e : kLt a.key b.key with | false => rfl | true => simp [ahd, kEq, e] at h
  cases e : kLt b.key a.key with
  | true => exact .inl rfl
  | false =>
    have hk := kLt_tri h1 e
    refine .inr ⟨hk.symm, ?_⟩
    simp [ahd, kEq, hk, kLt_irrefl] at h
    simp [sameKS, kEq, hk] at k
    omega

def okE (e : Ent) : Bool := decide (1 ≤ e.key.size) && decide (e.key.size ≤ 40) && decide (e.val.size ≤ 200) && (!e.gone || decide (e.val.size = 0)) && decide (1 ≤ e.seq) && decide (e.seq ≤ 1000000)
def okAt (es : List Ent) (i : Nat) : Bool := okE (nth es i) && (decide (i = 0) || ahd (nth es (i - 1)) (nth es i))
def okTo (es : List Ent) (k : Nat) : Bool := (List.range k).all (okAt es)
def okL (es : List Ent) : Bool := decide (es.length ≤ 300) && okTo es es.length
theorem okTo_succ (es : List Ent) (k : Nat) : okTo es (k + 1) = (okTo es k && okAt es k) := by simp [okTo, List.range_succ]
theorem okTo_at {es : List Ent} {k i : Nat} (h : okTo es k = true) (hi : i < k) : okAt es i = true := by
  rw [okTo, List.all_eq_true] at h; exact h i (List.mem_range.2 hi)
theorem okTo_no {es : List Ent} {k i : Nat} (hi : i < k) (h : okAt es i = false) : okTo es k = false := by
  cases e : okTo es k with
  | false => rfl
  | true => rw [okTo_at e hi] at h; cases h
theorem okL_no_at {es : List Ent} {i : Nat} (hi : i < es.length) (h : okAt es i = false) : okL es = false := by
  unfold okL; rw [okTo_no hi h]; simp
theorem okL_len {es : List Ent} (h : okL es = true) : es.length ≤ 300 := by simp [okL] at h; exact h.1
theorem okL_to {es : List Ent} (h : okL es = true) : okTo es es.length = true := by simp [okL] at h; exact h.2
theorem okL_ent {es : List Ent} (h : okL es = true) {i : Nat} (hi : i < es.length) : okE (nth es i) = true := by
  have := okTo_at (okL_to h) hi; simp [okAt] at this; exact this.1
theorem okL_next {es : List Ent} (h : okL es = true) {i : Nat} (hi : i + 1 < es.length) : ahd (nth es i) (nth es (i + 1)) = true := by
  have := okTo_at (okL_to h) hi; simp [okAt] at this; simpa using this.2
theorem okL_lt {es : List Ent} (h : okL es = true) : ∀ (d i : Nat), i + d + 1 < es.length → ahd (nth es i) (nth es (i + d + 1)) = true
  | 0, i, hi => okL_next h hi
  | d + 1, i, hi => ahd_trans (okL_lt h d i (by omega)) (okL_next h hi)
theorem okL_ij {es : List Ent} (h : okL es = true) {i j : Nat} (hij : i < j) (hj : j < es.length) : ahd (nth es i) (nth es j) = true := by
  obtain ⟨d, rfl⟩ : ∃ d, j = i + d + 1 := ⟨j - i - 1, by omega⟩
  exact okL_lt h d i hj
theorem okL_iff (es : List Ent) : okL es = true ↔ es.length ≤ 300 ∧ (∀ e ∈ es, okE e = true) ∧ es.Pairwise (fun a b => ahd a b = true) := by
  constructor
  · intro h
    refine ⟨okL_len h, fun e he => ?_, ?_⟩
    · obtain ⟨i, hi, rfl⟩ := List.getElem_of_mem he
      have := okL_ent h hi
      rwa [nth_eq hi] at this
    · rw [List.pairwise_iff_getElem]
      intro i j hi hj hij
      have := okL_ij h hij hj
      rwa [nth_eq hi, nth_eq hj] at this
  · rintro ⟨h1, h2, h3⟩
    rw [List.pairwise_iff_getElem] at h3
    simp only [okL, okTo, Bool.and_eq_true, decide_eq_true_eq, List.all_eq_true, List.mem_range]
    refine ⟨h1, fun i hi => ?_⟩
    simp only [okAt, Bool.and_eq_true, Bool.or_eq_true, decide_eq_true_eq]
    refine ⟨by rw [nth_eq hi]; exact h2 _ (List.getElem_mem hi), ?_⟩
    by_cases h0 : i = 0
    · exact .inl h0
    · right
      rw [nth_eq hi, nth_eq (show i - 1 < es.length by omega)]
      exact h3 _ _ (by omega) hi (by omega)

def atE (es : List Ent) (t : Ent) : Nat := (es.takeWhile (fun a => ahd a t)).length
theorem atE_le (es : List Ent) (t : Ent) : atE es t ≤ es.length := by
  unfold atE; exact (List.takeWhile_sublist _).length_le
theorem tw_get (p : Ent → Bool) : ∀ (es : List Ent) (i : Nat), i < (es.takeWhile p).length → p (nth es i) = true
  | [], i, h => by simp at h
  | a :: r, i, h => by
    rw [List.takeWhile_cons] at h
    split at h
    · rename_i ha
      match i, h with
      | 0, _ => exact ha
      | i + 1, h => rw [nth_succ]; exact tw_get p r i (by simpa using h)
    · simp at h
theorem tw_stop (p : Ent → Bool) : ∀ (es : List Ent), (es.takeWhile p).length < es.length → p (nth es ((es.takeWhile p).length)) = false
  | [], h => by simp at h
  | a :: r, h => by
    rw [List.takeWhile_cons] at h ⊢
    split at h
    · rename_i ha
      rw [if_pos ha]
      rw [List.length_cons, nth_succ]; exact tw_stop p r (by simpa using h)
    · rename_i ha
      rw [if_neg ha]
      rw [List.length_nil, nth_zero]; simpa using ha
theorem atE_lo (es : List Ent) (t : Ent) {i : Nat} (h : i < atE es t) : ahd (nth es i) t = true := tw_get _ es i h
theorem atE_hi {es : List Ent} (hs : okL es = true) (t : Ent) {i : Nat} (h : atE es t ≤ i) (hi : i < es.length) : ahd (nth es i) t = false := by
  have h0 := tw_stop (fun a => ahd a t) es (show atE es t < es.length by omega)
  change ahd (nth es (atE es t)) t = false at h0
  by_cases he : atE es t = i
  · rw [← he]; exact h0
  · cases e : ahd (nth es i) t with
    | false => rfl
    | true => rw [ahd_trans (okL_ij hs (by omega) hi) e] at h0; cases h0
theorem atE_scan (es : List Ent) (t : Ent) (k : Nat) (hk : k ≤ es.length) (h1 : ∀ i, i < k → ahd (nth es i) t = true) (h2 : k < es.length → ahd (nth es k) t = false) : atE es t = k := by
  have h3 := atE_le es t
  rcases Nat.lt_trichotomy (atE es t) k with h | h | h
  · have := tw_stop (fun a => ahd a t) es (show atE es t < es.length by omega)
    change ahd (nth es (atE es t)) t = false at this
    rw [h1 _ h] at this; cases this
  · exact h
  · have := atE_lo es t h
    rw [h2 (by omega)] at this; cases this

def insE (es : List Ent) (e : Ent) : List Ent := es.take (atE es e) ++ e :: es.drop (atE es e)
def hasKS (es : List Ent) (e : Ent) : Bool := es.any (fun a => sameKS a e)
def putOk (es : List Ent) (e : Ent) : Bool := okL es && okE e && !decide (es.length = 300) && !hasKS es e
theorem insE_length (es : List Ent) (e : Ent) : (insE es e).length = es.length + 1 := by
  have := atE_le es e
  simp [insE]; omega
theorem insE_ok {es : List Ent} {e : Ent} (h : putOk es e = true) : okL (insE es e) = true := by
  simp only [putOk, Bool.and_eq_true, Bool.not_eq_true', decide_eq_false_iff_not] at h
  obtain ⟨⟨⟨hs, he⟩, hn⟩, hh⟩ := h
  have hl := okL_len hs
  rw [okL_iff]
  obtain ⟨h1, h2, h3⟩ := (okL_iff es).1 hs
  refine ⟨by rw [insE_length]; omega, ?_, ?_⟩
  · intro a ha
    simp only [insE, List.mem_append, List.mem_cons] at ha
    rcases ha with ha | rfl | ha
    · exact h2 a (List.mem_of_mem_take ha)
    · exact he
    · exact h2 a (List.mem_of_mem_drop ha)
  · have hA : ∀ a ∈ es.take (atE es e), ahd a e = true := by
      intro a ha
      obtain ⟨i, hi, rfl⟩ := List.getElem_of_mem ha
      rw [List.length_take] at hi
      have := atE_lo es e (show i < atE es e by omega)
      rw [nth_eq (by omega)] at this
      rw [List.getElem_take]
      exact this
    have hB : ∀ b ∈ es.drop (atE es e), ahd e b = true := by
      intro b hb
      obtain ⟨i, hi, rfl⟩ := List.getElem_of_mem hb
      rw [List.length_drop] at hi
      rw [List.getElem_drop]
      have h4 := atE_hi hs e (show atE es e ≤ atE es e + i by omega) (by omega)
      rw [nth_eq (by omega)] at h4
      refine ahd_tri h4 ?_
      cases hk : sameKS (es[atE es e + i]'(by omega)) e with
      | false => rfl
      | true =>
        have : hasKS es e = true := by
          simp only [hasKS, List.any_eq_true]
          exact ⟨_, List.getElem_mem (by omega), hk⟩
        rw [this] at hh; cases hh
    unfold insE
    rw [List.pairwise_append]
    refine ⟨h3.sublist (List.take_sublist _ _), ?_, ?_⟩
    · rw [List.pairwise_cons]
      exact ⟨hB, h3.sublist (List.drop_sublist _ _)⟩
    · intro a ha b hb
      rcases List.mem_cons.1 hb with rfl | hb
      · exact hA a ha
      · exact ahd_trans (hA a ha) (hB b hb)

def seenP (k : ByteArray) (q : Int) (e : Ent) : Bool := kEq e.key k && decide (e.seq ≤ q)
def seenL (es : List Ent) (k : ByteArray) (q : Int) : Option Ent := es.find? (seenP k q)
def zeroE : Ent := ⟨⟨#[]⟩, ⟨#[]⟩, 0, false⟩
theorem seenL_scan (es : List Ent) (k : ByteArray) (q : Int) (i : Nat) (hi : i < es.length) (h1 : ∀ j, j < i → seenP k q (nth es j) = false) (h2 : seenP k q (nth es i) = true) : seenL es k q = some (nth es i) := by
  unfold seenL
  rw [List.find?_eq_some_iff_getElem]
  refine ⟨h2, i, hi, by rw [nth_eq hi], fun j hj => ?_⟩
  have := h1 j hj
  rw [nth_eq (by omega)] at this
  simp [this]
theorem seenL_none (es : List Ent) (k : ByteArray) (q : Int) (h1 : ∀ j, j < es.length → seenP k q (nth es j) = false) : seenL es k q = none := by
  unfold seenL
  rw [List.find?_eq_none]
  intro a ha
  obtain ⟨i, hi, rfl⟩ := List.getElem_of_mem ha
  have := h1 i hi
  rw [nth_eq hi] at this
  simp [this]
theorem seenL_some {es : List Ent} {k : ByteArray} {q : Int} {e : Ent} (h : seenL es k q = some e) : e.key = k ∧ e.seq ≤ q := by
  have := List.find?_some h
  simpa [seenP, kEq] using this
def Sr (es : List Ent) : Prop := es.Pairwise (fun a b => ahd a b = true)
theorem okL_sr {es : List Ent} (h : okL es = true) : Sr es := ((okL_iff es).1 h).2.2
theorem ahd_asymm {a b : Ent} (h : ahd a b = true) : ahd b a = false := by
  cases e : ahd b a with
  | false => rfl
  | true => have := ahd_trans h e; rw [ahd_irrefl] at this; cases this
def mrg : List Ent → List Ent → List Ent
  | [], b => b
  | x :: r, [] => x :: r
  | x :: r, y :: s => if ahd x y = true then x :: mrg r (y :: s) else if ahd y x = true then y :: mrg (x :: r) s else mrg (x :: r) s
termination_by a b => a.length + b.length
theorem mrg_nil (a : List Ent) : mrg a [] = a := by cases a <;> rw [mrg]
theorem mrg_sub : ∀ (n : Nat) (a b : List Ent), a.length + b.length ≤ n → ∀ z, z ∈ mrg a b → z ∈ a ∨ z ∈ b := by
  intro n
  induction n with
  | zero =>
    intro a b h z hz
    have : a = [] := List.length_eq_zero_iff.1 (by omega)
    subst this
    rw [mrg] at hz
    exact .inr hz
  | succ n ih =>
    intro a b h z hz
    cases a with
    | nil => rw [mrg] at hz; exact .inr hz
    | cons x r =>
      cases b with
      | nil => rw [mrg] at hz; exact .inl hz
      | cons y s =>
        simp only [List.length_cons] at h
        rw [mrg] at hz
        split at hz
        · rcases List.mem_cons.1 hz with rfl | hz
          · exact .inl List.mem_cons_self
          · rcases ih r (y :: s) (by simp only [List.length_cons]; omega) z hz with h | h
            · exact .inl (List.mem_cons_of_mem _ h)
            · exact .inr h
        · split at hz
          · rcases List.mem_cons.1 hz with rfl | hz
            · exact .inr List.mem_cons_self
            · rcases ih (x :: r) s (by simp only [List.length_cons]; omega) z hz with h | h
              · exact .inl h
              · exact .inr (List.mem_cons_of_mem _ h)
          · rcases ih (x :: r) s (by simp only [List.length_cons]; omega) z hz with h | h
            · exact .inl h
            · exact .inr (List.mem_cons_of_mem _ h)
theorem mrg_mem {a b : List Ent} {z : Ent} (h : z ∈ mrg a b) : z ∈ a ∨ z ∈ b := mrg_sub _ a b (Nat.le_refl _) z h
theorem mrg_len : ∀ (n : Nat) (a b : List Ent), a.length + b.length ≤ n → (mrg a b).length ≤ a.length + b.length := by
  intro n
  induction n with
  | zero =>
    intro a b h
    have : a = [] := List.length_eq_zero_iff.1 (by omega)
    subst this
    rw [mrg]; omega
  | succ n ih =>
    intro a b h
    cases a with
    | nil => rw [mrg]; simp
    | cons x r =>
      cases b with
      | nil => rw [mrg]; simp
      | cons y s =>
        simp only [List.length_cons] at h
        rw [mrg]
        split
        · have := ih r (y :: s) (by simp only [List.length_cons]; omega)
          simp only [List.length_cons] at this ⊢; omega
        · split
          · have := ih (x :: r) s (by simp only [List.length_cons]; omega)
            simp only [List.length_cons] at this ⊢; omega
          · have := ih (x :: r) s (by simp only [List.length_cons]; omega)
            simp only [List.length_cons] at this ⊢; omega
theorem ahd_cases (x y : Ent) (h1 : ¬ ahd x y = true) (h2 : ¬ ahd y x = true) : sameKS x y = true := by
  cases h : sameKS x y with
  | true => rfl
  | false => exact absurd (ahd_tri (by simpa using h1) h) h2
theorem sameKS_iff (x y : Ent) : sameKS x y = true ↔ x.key = y.key ∧ x.seq = y.seq := by simp [sameKS, kEq]
theorem ahd_congr {x y z : Ent} (h : sameKS x y = true) (hz : ahd y z = true) : ahd x z = true := by
  rw [sameKS_iff] at h
  rw [ahd_iff] at hz ⊢
  rw [h.1, h.2]
  exact hz
theorem mrg_sr : ∀ (n : Nat) (a b : List Ent), a.length + b.length ≤ n → Sr a → Sr b → Sr (mrg a b) := by
  intro n
  induction n with
  | zero =>
    intro a b h _ hb
    have : a = [] := List.length_eq_zero_iff.1 (by omega)
    subst this
    rw [mrg]; exact hb
  | succ n ih =>
    intro a b h ha hb
    cases a with
    | nil => rw [mrg]; exact hb
    | cons x r =>
      cases b with
      | nil => rw [mrg]; exact ha
      | cons y s =>
        simp only [List.length_cons] at h
        have ha' := List.pairwise_cons.1 ha
        have hb' := List.pairwise_cons.1 hb
        rw [mrg]
        split
        · rename_i hxy
          refine List.pairwise_cons.2 ⟨fun z hz => ?_, ih r (y :: s) (by simp only [List.length_cons]; omega) ha'.2 hb⟩
          rcases mrg_mem hz with h | h
          · exact ha'.1 z h
          · rcases List.mem_cons.1 h with rfl | h
            · exact hxy
            · exact ahd_trans hxy (hb'.1 z h)
        · rename_i hxy
          split
          · rename_i hyx
            refine List.pairwise_cons.2 ⟨fun z hz => ?_, ih (x :: r) s (by simp only [List.length_cons]; omega) ha hb'.2⟩
            rcases mrg_mem hz with h | h
            · rcases List.mem_cons.1 h with rfl | h
              · exact hyx
              · exact ahd_trans hyx (ha'.1 z h)
            · exact hb'.1 z h
          · exact ih (x :: r) s (by simp only [List.length_cons]; omega) ha hb'.2
theorem mrg_has : ∀ (n : Nat) (a b : List Ent), a.length + b.length ≤ n → ∀ z, (z ∈ a → z ∈ mrg a b) ∧ (z ∈ b → ∃ u ∈ mrg a b, sameKS u z = true) := by
  have same : ∀ z : Ent, sameKS z z = true := fun z => by rw [sameKS_iff]; exact ⟨rfl, rfl⟩
  intro n
  induction n with
  | zero =>
    intro a b h z
    have : a = [] := List.length_eq_zero_iff.1 (by omega)
    subst this
    rw [mrg]
    exact ⟨(fun h => by cases h), fun h => ⟨z, h, same z⟩⟩
  | succ n ih =>
    intro a b h z
    cases a with
    | nil => rw [mrg]; exact ⟨(fun h => by cases h), fun h => ⟨z, h, same z⟩⟩
    | cons x r =>
      cases b with
      | nil => rw [mrg]; exact ⟨(fun h => h), (fun h => by cases h)⟩
      | cons y s =>
        simp only [List.length_cons] at h
        rw [mrg]
        split
        · obtain ⟨i1, i2⟩ := ih r (y :: s) (by simp only [List.length_cons]; omega) z
          refine ⟨fun hz => ?_, fun hz => ?_⟩
          · rcases List.mem_cons.1 hz with rfl | hz
            · exact List.mem_cons_self
            · exact List.mem_cons_of_mem _ (i1 hz)
          · obtain ⟨u, hu, hs⟩ := i2 hz
            exact ⟨u, List.mem_cons_of_mem _ hu, hs⟩
        · rename_i hxy
          split
          · obtain ⟨i1, i2⟩ := ih (x :: r) s (by simp only [List.length_cons]; omega) z
            refine ⟨fun hz => List.mem_cons_of_mem _ (i1 hz), fun hz => ?_⟩
            rcases List.mem_cons.1 hz with rfl | hz
            · exact ⟨_, List.mem_cons_self, same _⟩
            · obtain ⟨u, hu, hs⟩ := i2 hz
              exact ⟨u, List.mem_cons_of_mem _ hu, hs⟩
          · rename_i hyx
            obtain ⟨i1, i2⟩ := ih (x :: r) s (by simp only [List.length_cons]; omega) z
            refine ⟨i1, fun hz => ?_⟩
            rcases List.mem_cons.1 hz with rfl | hz
            · exact ⟨x, ((ih (x :: r) s (by simp only [List.length_cons]; omega) x).1 List.mem_cons_self), ahd_cases x z hxy hyx⟩
            · exact i2 hz
def mergedL (ls : List (List Ent)) : List Ent := ls.foldl mrg []
theorem mF_len (ls : List (List Ent)) : ∀ a : List Ent, (ls.foldl mrg a).length ≤ a.length + (ls.map List.length).sum := by
  induction ls with
  | nil => intro a; simp
  | cons l r ih =>
    intro a
    rw [List.foldl_cons, List.map_cons, List.sum_cons]
    have h1 := ih (mrg a l)
    have h2 := mrg_len _ a l (Nat.le_refl _)
    omega
theorem mF_sr (ls : List (List Ent)) (h : ∀ l ∈ ls, Sr l) : ∀ a : List Ent, Sr a → Sr (ls.foldl mrg a) := by
  induction ls with
  | nil => intro a ha; exact ha
  | cons l r ih =>
    intro a ha
    rw [List.foldl_cons]
    exact ih (fun x hx => h x (List.mem_cons_of_mem _ hx)) _ (mrg_sr _ a l (Nat.le_refl _) ha (h l List.mem_cons_self))
end Go.Proofs.YtpbbahpndgigjaaGreatDoor
