/- Plain facts on lists of entries: their order, where one is put, which one is seen, which ones are shown; no function of the program is walked here. Plain facts on rows of entries (four cells each) that a call owns or reads. -/
import Derived.WalkKit
import Derived.Test.YtilhaokiohbeeaaGreatDoorG00
import Derived.Deep.RegionLaw
namespace Go.Proofs.YtilhaokiohbeeaaGreatDoor

structure Ent where
  key : ByteArray
  val : ByteArray
  seq : Int
  gone : Bool
deriving DecidableEq
instance : Inhabited Ent := ⟨⟨ByteArray.empty, ByteArray.empty, 0, false⟩⟩
/-- Entry number i of a list. -/
def nth (es : List Ent) (i : Nat) : Ent := es.getD i default
theorem nth_eq {es : List Ent} {i : Nat} (h : i < es.length) : nth es i = es[i] := by simp [nth, List.getD, List.getElem?_eq_getElem h]
theorem nth_zero (a : Ent) (r : List Ent) : nth (a :: r) 0 = a := rfl
theorem nth_succ (a : Ent) (r : List Ent) (i : Nat) : nth (a :: r) (i + 1) = nth r i := by simp [nth, List.getD]
/-- Are two texts alike? -/
def kEq (a b : ByteArray) : Bool := decide (a = b)

/-- Is the one text ahead of the other? -/
def kLt (a b : ByteArray) : Bool := Op.bytesLess a.toList b.toList
theorem bl_irrefl : ∀ x : List UInt8, Op.bytesLess x x = false
  | [] => rfl
  | a :: x => by simp [Op.bytesLess, bl_irrefl x, UInt8.lt_irrefl]
theorem bl_trans : ∀ x y z : List UInt8, Op.bytesLess x y = true → Op.bytesLess y z = true → Op.bytesLess x z = true
  | _, [], _, h, _ => by simp [Op.bytesLess] at h
  | _, _ :: _, [], _, h => by simp [Op.bytesLess] at h
  | [], _ :: _, _ :: _, _, _ => rfl
  | a :: x, b :: y, c :: z, h, k => by
    simp only [Op.bytesLess, Bool.or_eq_true, decide_eq_true_eq, Bool.and_eq_true, beq_iff_eq] at h k ⊢
    rcases h with h | ⟨h, h'⟩ <;> rcases k with k | ⟨k, k'⟩
    · exact .inl (UInt8.lt_trans h k)
    · subst k; exact .inl h
    · subst h; exact .inl k
    · subst h; subst k; exact .inr ⟨rfl, bl_trans x y z h' k'⟩
theorem bl_tri : ∀ x y : List UInt8, Op.bytesLess x y = false → Op.bytesLess y x = false → x = y
  | [], [], _, _ => rfl
  | [], _ :: _, h, _ => by simp [Op.bytesLess] at h
  | _ :: _, [], _, h => by simp [Op.bytesLess] at h
  | a :: x, b :: y, h, k => by
    simp only [Op.bytesLess, Bool.or_eq_false_iff, decide_eq_false_iff_not, Bool.and_eq_false_iff, decide_eq_false_iff_not] at h k
    have hab : a = b := by
      apply UInt8.toNat_inj.1
      have h1 := h.1; have k1 := k.1
      rw [UInt8.lt_iff_toNat_lt] at h1 k1
      omega
    subst hab
    rcases h.2 with h2 | h2
    · simp at h2
    · rcases k.2 with k2 | k2
      · simp at k2
      · rw [bl_tri x y h2 k2]
theorem ba_toList_inj {a b : ByteArray} (h : a.toList = b.toList) : a = b := by
  have e : ∀ c : ByteArray, c.toList = c.data.toList := fun c => ByteArray.toList_eq c
  rw [e, e] at h
  cases a; cases b; simp_all
theorem kLt_irrefl (a : ByteArray) : kLt a a = false := bl_irrefl _
theorem kLt_trans {a b c : ByteArray} (h : kLt a b = true) (k : kLt b c = true) : kLt a c = true := bl_trans _ _ _ h k
theorem kLt_tri {a b : ByteArray} (h : kLt a b = false) (k : kLt b a = false) : a = b := ba_toList_inj (bl_tri _ _ h k)
theorem kLt_asymm {a b : ByteArray} (h : kLt a b = true) : kLt b a = false := by
  cases k : kLt b a with
  | false => rfl
  | true => have := kLt_trans h k; rw [kLt_irrefl] at this; cases this

/-- Is the one entry ahead of the other? -/
def ahd (a b : Ent) : Bool := kLt a.key b.key || (kEq a.key b.key && decide (b.seq < a.seq))
def sameKS (a b : Ent) : Bool := kEq a.key b.key && decide (a.seq = b.seq)
theorem ahd_iff (a b : Ent) : ahd a b = true ↔ kLt a.key b.key = true ∨ (a.key = b.key ∧ b.seq < a.seq) := by simp [ahd, kEq]
theorem ahd_trans {a b c : Ent} (h : ahd a b = true) (k : ahd b c = true) : ahd a c = true := by
  rw [ahd_iff] at h k ⊢
  rcases h with h | ⟨h, h'⟩ <;> rcases k with k | ⟨k, k'⟩
  · exact .inl (kLt_trans h k)
  · exact .inl (k ▸ h)
  · exact .inl (h ▸ k)
  · exact .inr ⟨h.trans k, by omega⟩
theorem ahd_irrefl (a : Ent) : ahd a a = false := by simp [ahd, kEq, kLt_irrefl]
theorem ahd_tri {a b : Ent} (h : ahd a b = false) (k : sameKS a b = false) : ahd b a = true := by
  rw [ahd_iff]
  have h1 : kLt a.key b.key = false := by cases e : kLt a.key b.key with | false => rfl | true => simp [ahd, kEq, e] at h
  cases e : kLt b.key a.key with
  | true => exact .inl rfl
  | false =>
    have hk := kLt_tri h1 e
    refine .inr ⟨hk.symm, ?_⟩
    simp [ahd, kEq, hk, kLt_irrefl] at h
    simp [sameKS, kEq, hk] at k
    omega

/-- Three ways of a comparison. -/
def cmpK (a b : ByteArray) : Int := if kLt a b = true then -1 else if kLt b a = true then 1 else 0
def cmpI (a b : Int) : Int := if a < b then -1 else if b < a then 1 else 0
def ordE (a b : Ent) : Int := if cmpK a.key b.key ≠ 0 then cmpK a.key b.key else cmpI b.seq a.seq
theorem cmpK_neg (a b : ByteArray) : cmpK a b < 0 ↔ kLt a b = true := by unfold cmpK; split <;> (try split) <;> simp_all
theorem cmpK_zero (a b : ByteArray) : cmpK a b = 0 ↔ a = b := by
  unfold cmpK
  constructor
  · intro h
    split at h
    · omega
    · split at h
      · omega
      · exact kLt_tri (by simp_all) (by simp_all)
  · rintro rfl; simp [kLt_irrefl]
theorem ordE_neg (a b : Ent) : ordE a b < 0 ↔ ahd a b = true := by
  rw [ahd_iff]
  unfold ordE
  by_cases h : cmpK a.key b.key = 0
  · rw [if_neg (by simp [h])]
    have hk := (cmpK_zero _ _).1 h
    rw [hk]
    unfold cmpI
    split
    · simp_all
    · simp [kLt_irrefl]; split <;> omega
  · rw [if_pos h, cmpK_neg]
    have hk : a.key ≠ b.key := fun e => h ((cmpK_zero _ _).2 e)
    simp [hk]
theorem ordE_zero (a b : Ent) : ordE a b = 0 ↔ sameKS a b = true := by
  unfold ordE sameKS
  by_cases h : cmpK a.key b.key = 0
  · rw [if_neg (by simp [h])]
    have hk := (cmpK_zero _ _).1 h
    simp only [hk, kEq, decide_true, Bool.true_and, decide_eq_true_eq]
    unfold cmpI
    split
    · omega
    · split <;> omega
  · rw [if_pos h]
    have hk : a.key ≠ b.key := fun e => h ((cmpK_zero _ _).2 e)
    simp [kEq, hk, h]

/-- Is an entry as told? -/
def okE (e : Ent) : Bool := decide (1 ≤ e.key.size) && decide (e.key.size ≤ 40) && decide (e.val.size ≤ 200) && (!e.gone || decide (e.val.size = 0)) && decide (1 ≤ e.seq) && decide (e.seq ≤ 1000000)
def okAt (es : List Ent) (i : Nat) : Bool := okE (nth es i) && (decide (i = 0) || ahd (nth es (i - 1)) (nth es i))
def okTo (es : List Ent) (k : Nat) : Bool := (List.range k).all (okAt es)
def okL (es : List Ent) : Bool := decide (es.length ≤ 300) && okTo es es.length
theorem okTo_succ (es : List Ent) (k : Nat) : okTo es (k + 1) = (okTo es k && okAt es k) := by simp [okTo, List.range_succ]
theorem okTo_at {es : List Ent} {k i : Nat} (h : okTo es k = true) (hi : i < k) : okAt es i = true := by
  rw [okTo, List.all_eq_true] at h; exact h i (List.mem_range.2 hi)
theorem okTo_no {es : List Ent} {k i : Nat} (hi : i < k) (h : okAt es i = false) : okTo es k = false := by
  cases e : okTo es k with
  | false => rfl
  | true => rw [okTo_at e hi] at h; cases h
theorem okL_no_at {es : List Ent} {i : Nat} (hi : i < es.length) (h : okAt es i = false) : okL es = false := by
  unfold okL; rw [okTo_no hi h]; simp
theorem okL_len {es : List Ent} (h : okL es = true) : es.length ≤ 300 := by simp [okL] at h; exact h.1
theorem okL_to {es : List Ent} (h : okL es = true) : okTo es es.length = true := by simp [okL] at h; exact h.2
theorem okL_ent {es : List Ent} (h : okL es = true) {i : Nat} (hi : i < es.length) : okE (nth es i) = true := by
  have := okTo_at (okL_to h) hi; simp [okAt] at this; exact this.1
theorem okL_next {es : List Ent} (h : okL es = true) {i : Nat} (hi : i + 1 < es.length) : ahd (nth es i) (nth es (i + 1)) = true := by
  have := okTo_at (okL_to h) hi; simp [okAt] at this; simpa using this.2
theorem okL_lt {es : List Ent} (h : okL es = true) : ∀ (d i : Nat), i + d + 1 < es.length → ahd (nth es i) (nth es (i + d + 1)) = true
  | 0, i, hi => okL_next h hi
  | d + 1, i, hi => ahd_trans (okL_lt h d i (by omega)) (okL_next h hi)
theorem okL_ij {es : List Ent} (h : okL es = true) {i j : Nat} (hij : i < j) (hj : j < es.length) : ahd (nth es i) (nth es j) = true := by
  obtain ⟨d, rfl⟩ : ∃ d, j = i + d + 1 := ⟨j - i - 1, by omega⟩
  exact okL_lt h d i hj
/-- A list is as told just where each entry is and each is ahead of all behind it. -/
theorem okL_iff (es : List Ent) : okL es = true ↔ es.length ≤ 300 ∧ (∀ e ∈ es, okE e = true) ∧ es.Pairwise (fun a b => ahd a b = true) := by
  constructor
  · intro h
    refine ⟨okL_len h, fun e he => ?_, ?_⟩
    · obtain ⟨i, hi, rfl⟩ := List.getElem_of_mem he
      have := okL_ent h hi
      rwa [nth_eq hi] at this
    · rw [List.pairwise_iff_getElem]
      intro i j hi hj hij
      have := okL_ij h hij hj
      rwa [nth_eq hi, nth_eq hj] at this
  · rintro ⟨h1, h2, h3⟩
    rw [List.pairwise_iff_getElem] at h3
    simp only [okL, okTo, Bool.and_eq_true, decide_eq_true_eq, List.all_eq_true, List.mem_range]
    refine ⟨h1, fun i hi => ?_⟩
    simp only [okAt, Bool.and_eq_true, Bool.or_eq_true, decide_eq_true_eq]
    refine ⟨by rw [nth_eq hi]; exact h2 _ (List.getElem_mem hi), ?_⟩
    by_cases h0 : i = 0
    · exact .inl h0
    · right
      rw [nth_eq hi, nth_eq (show i - 1 < es.length by omega)]
      exact h3 _ _ (by omega) hi (by omega)

/-- How many are ahead of an entry. -/
def atE (es : List Ent) (t : Ent) : Nat := (es.takeWhile (fun a => ahd a t)).length
theorem atE_le (es : List Ent) (t : Ent) : atE es t ≤ es.length := by
  unfold atE; exact (List.takeWhile_sublist _).length_le
theorem tw_get (p : Ent → Bool) : ∀ (es : List Ent) (i : Nat), i < (es.takeWhile p).length → p (nth es i) = true
  | [], i, h => by simp at h
  | a :: r, i, h => by
    rw [List.takeWhile_cons] at h
    split at h
    · rename_i ha
      match i, h with
      | 0, _ => exact ha
      | i + 1, h => rw [nth_succ]; exact tw_get p r i (by simpa using h)
    · simp at h
theorem tw_stop (p : Ent → Bool) : ∀ (es : List Ent), (es.takeWhile p).length < es.length → p (nth es ((es.takeWhile p).length)) = false
  | [], h => by simp at h
  | a :: r, h => by
    rw [List.takeWhile_cons] at h ⊢
    split at h
    · rename_i ha
      rw [if_pos ha]
      rw [List.length_cons, nth_succ]; exact tw_stop p r (by simpa using h)
    · rename_i ha
      rw [if_neg ha]
      rw [List.length_nil, nth_zero]; simpa using ha
theorem atE_lo (es : List Ent) (t : Ent) {i : Nat} (h : i < atE es t) : ahd (nth es i) t = true := tw_get _ es i h
theorem atE_hi {es : List Ent} (hs : okL es = true) (t : Ent) {i : Nat} (h : atE es t ≤ i) (hi : i < es.length) : ahd (nth es i) t = false := by
  have h0 := tw_stop (fun a => ahd a t) es (show atE es t < es.length by omega)
  change ahd (nth es (atE es t)) t = false at h0
  by_cases he : atE es t = i
  · rw [← he]; exact h0
  · cases e : ahd (nth es i) t with
    | false => rfl
    | true => rw [ahd_trans (okL_ij hs (by omega) hi) e] at h0; cases h0
/-- From a place on none is ahead, all in front of it are: that is the place. -/
theorem atE_of {es : List Ent} (hs : okL es = true) (t : Ent) (k : Nat) (hk : k ≤ es.length) (h1 : ∀ i, i < k → ahd (nth es i) t = true) (h2 : k < es.length → ahd (nth es k) t = false) : atE es t = k := by
  have h3 := atE_le es t
  rcases Nat.lt_trichotomy (atE es t) k with h | h | h
  · have := atE_hi hs t (Nat.le_refl _) (show atE es t < es.length by omega)
    rw [h1 _ h] at this; cases this
  · exact h
  · have := atE_lo es t h
    rw [h2 (by omega)] at this; cases this
theorem atE_scan (es : List Ent) (t : Ent) (k : Nat) (hk : k ≤ es.length) (h1 : ∀ i, i < k → ahd (nth es i) t = true) (h2 : k < es.length → ahd (nth es k) t = false) : atE es t = k := by
  have h3 := atE_le es t
  rcases Nat.lt_trichotomy (atE es t) k with h | h | h
  · have := tw_stop (fun a => ahd a t) es (show atE es t < es.length by omega)
    change ahd (nth es (atE es t)) t = false at this
    rw [h1 _ h] at this; cases this
  · exact h
  · have := atE_lo es t h
    rw [h2 (by omega)] at this; cases this

/-- With an entry in its place. -/
def insE (es : List Ent) (e : Ent) : List Ent := es.take (atE es e) ++ e :: es.drop (atE es e)
def hasKS (es : List Ent) (e : Ent) : Bool := es.any (fun a => sameKS a e)
def putOk (es : List Ent) (e : Ent) : Bool := okL es && okE e && !decide (es.length = 300) && !hasKS es e
/-- What is put. -/
def putL (es : List Ent) (e : Ent) : List Ent := if putOk es e = true then insE es e else []
theorem insE_length (es : List Ent) (e : Ent) : (insE es e).length = es.length + 1 := by
  have := atE_le es e
  simp [insE]; omega
/-- In a right list one with this key and number stands at the place, or nowhere. -/
theorem has_at {es : List Ent} (hs : okL es = true) (t : Ent) : hasKS es t = (decide (atE es t < es.length) && sameKS (nth es (atE es t)) t) := by
  rw [Bool.eq_iff_iff]
  simp only [hasKS, List.any_eq_true, Bool.and_eq_true, decide_eq_true_eq]
  constructor
  · rintro ⟨a, ha, hk⟩
    obtain ⟨i, hi, rfl⟩ := List.getElem_of_mem ha
    have hk' : sameKS (nth es i) t = true := by rw [nth_eq hi]; exact hk
    have hna : ahd (nth es i) t = false := by
      simp [sameKS, kEq] at hk'
      simp [ahd, kEq, hk'.1, hk'.2, kLt_irrefl]
    have hle : atE es t ≤ i := by
      rcases Nat.lt_or_ge i (atE es t) with h | h
      · rw [atE_lo es t h] at hna; cases hna
      · exact h
    by_cases he : atE es t = i
    · exact ⟨by omega, by rw [he]; exact hk'⟩
    · exfalso
      have h1 := okL_ij hs (show atE es t < i by omega) hi
      have h2 := atE_hi hs t (Nat.le_refl _) (show atE es t < es.length by omega)
      have h3 : ahd (nth es (atE es t)) t = ahd (nth es (atE es t)) (nth es i) := by
        simp [sameKS, kEq] at hk'
        simp [ahd, kEq, hk'.1, hk'.2]
      rw [h3, h1] at h2; cases h2
  · rintro ⟨h1, h2⟩
    exact ⟨nth es (atE es t), by rw [nth_eq h1]; exact List.getElem_mem h1, h2⟩

/-- What is put leaves a right list. -/
theorem insE_ok {es : List Ent} {e : Ent} (h : putOk es e = true) : okL (insE es e) = true := by
  simp only [putOk, Bool.and_eq_true, Bool.not_eq_true', decide_eq_false_iff_not] at h
  obtain ⟨⟨⟨hs, he⟩, hn⟩, hh⟩ := h
  have hl := okL_len hs
  rw [okL_iff]
  obtain ⟨h1, h2, h3⟩ := (okL_iff es).1 hs
  refine ⟨by rw [insE_length]; omega, ?_, ?_⟩
  · intro a ha
    simp only [insE, List.mem_append, List.mem_cons] at ha
    rcases ha with ha | rfl | ha
    · exact h2 a (List.mem_of_mem_take ha)
    · exact he
    · exact h2 a (List.mem_of_mem_drop ha)
  · have hA : ∀ a ∈ es.take (atE es e), ahd a e = true := by
      intro a ha
      obtain ⟨i, hi, rfl⟩ := List.getElem_of_mem ha
      rw [List.length_take] at hi
      have := atE_lo es e (show i < atE es e by omega)
      rw [nth_eq (by omega)] at this
      rw [List.getElem_take]
      exact this
    have hB : ∀ b ∈ es.drop (atE es e), ahd e b = true := by
      intro b hb
      obtain ⟨i, hi, rfl⟩ := List.getElem_of_mem hb
      rw [List.length_drop] at hi
      rw [List.getElem_drop]
      have h4 := atE_hi hs e (show atE es e ≤ atE es e + i by omega) (by omega)
      rw [nth_eq (by omega)] at h4
      refine ahd_tri h4 ?_
      cases hk : sameKS (es[atE es e + i]'(by omega)) e with
      | false => rfl
      | true =>
        have : hasKS es e = true := by
          simp only [hasKS, List.any_eq_true]
          exact ⟨_, List.getElem_mem (by omega), hk⟩
        rw [this] at hh; cases hh
    unfold insE
    rw [List.pairwise_append]
    refine ⟨h3.sublist (List.take_sublist _ _), ?_, ?_⟩
    · rw [List.pairwise_cons]
      exact ⟨hB, h3.sublist (List.drop_sublist _ _)⟩
    · intro a ha b hb
      rcases List.mem_cons.1 hb with rfl | hb
      · exact hA a ha
      · exact ahd_trans (hA a ha) (hB b hb)

/-- The one that is seen. -/
def seenP (k : ByteArray) (q : Int) (e : Ent) : Bool := kEq e.key k && decide (e.seq ≤ q)
def seenL (es : List Ent) (k : ByteArray) (q : Int) : Option Ent := es.find? (seenP k q)
def zeroE : Ent := ⟨⟨#[]⟩, ⟨#[]⟩, 0, false⟩
def seenA (es : List Ent) (k : ByteArray) (q : Int) : Option Ent := if okL es = true then seenL es k q else none
theorem seenL_scan (es : List Ent) (k : ByteArray) (q : Int) (i : Nat) (hi : i < es.length) (h1 : ∀ j, j < i → seenP k q (nth es j) = false) (h2 : seenP k q (nth es i) = true) : seenL es k q = some (nth es i) := by
  unfold seenL
  rw [List.find?_eq_some_iff_getElem]
  refine ⟨h2, i, hi, by rw [nth_eq hi], fun j hj => ?_⟩
  have := h1 j hj
  rw [nth_eq (by omega)] at this
  simp [this]
theorem seenL_none (es : List Ent) (k : ByteArray) (q : Int) (h1 : ∀ j, j < es.length → seenP k q (nth es j) = false) : seenL es k q = none := by
  unfold seenL
  rw [List.find?_eq_none]
  intro a ha
  obtain ⟨i, hi, rfl⟩ := List.getElem_of_mem ha
  have := h1 i hi
  rw [nth_eq hi] at this
  simp [this]
/-- In a right list the one that is seen stands at the place. -/
theorem seen_at {es : List Ent} (hs : okL es = true) (k : ByteArray) (q : Int) (t : Ent) (hk : t.key = k) (hq : t.seq = q) :
    seenL es k q = if atE es t < es.length ∧ (nth es (atE es t)).key = k then some (nth es (atE es t)) else none := by
  have hlo : ∀ j, j < atE es t → seenP k q (nth es j) = false := by
    intro j hj
    have := atE_lo es t hj
    rw [ahd_iff, hk, hq] at this
    rcases this with h | ⟨h, h'⟩
    · have hne : (nth es j).key ≠ k := fun e => by rw [e, kLt_irrefl] at h; cases h
      simp [seenP, kEq, hne]
    · simp [seenP, kEq]; intro _; omega
  split
  · rename_i h
    refine seenL_scan es k q _ h.1 hlo ?_
    have h2 := atE_hi hs t (Nat.le_refl _) h.1
    simp [ahd, kEq, hk, hq, h.2, kLt_irrefl] at h2
    simp [seenP, kEq, h.2]; omega
  · rename_i h
    refine seenL_none es k q fun j hj => ?_
    rcases Nat.lt_or_ge j (atE es t) with h1 | h1
    · exact hlo j h1
    · have h2 := atE_hi hs t h1 hj
      have hne : (nth es j).key ≠ k := by
        intro e
        apply h
        refine ⟨by omega, ?_⟩
        by_cases hje : atE es t = j
        · rw [hje]; exact e
        · have h3 := okL_ij hs (show atE es t < j by omega) hj
          have h4 := atE_hi hs t (Nat.le_refl _) (show atE es t < es.length by omega)
          rw [ahd_iff] at h3
          rcases h3 with h3 | h3
          · rw [e, ← hk] at h3
            simp [ahd, kEq, h3] at h4
          · rw [h3.1, e]
      simp [seenP, kEq, hne]
theorem seenL_some {es : List Ent} {k : ByteArray} {q : Int} {e : Ent} (h : seenL es k q = some e) : e.key = k ∧ e.seq ≤ q := by
  have := List.find?_some h
  simpa [seenP, kEq] using this
/-- Each of a right list is seen at its own number. -/
theorem seen_mem {es : List Ent} (hs : okL es = true) {e : Ent} (he : e ∈ es) : seenL es e.key e.seq = some e := by
  obtain ⟨i, hi, rfl⟩ := List.getElem_of_mem he
  have := seenL_scan es (es[i]).key (es[i]).seq i hi (fun j hj => ?_) (by rw [nth_eq hi]; simp [seenP, kEq])
  · rw [nth_eq hi] at this; exact this
  · have h := okL_ij hs hj hi
    rw [nth_eq hi, ahd_iff] at h
    rcases h with h | h
    · have hne : (nth es j).key ≠ (es[i]).key := fun e => by rw [e, kLt_irrefl] at h; cases h
      simp [seenP, kEq, hne]
    · simp [seenP, kEq]; intro _; omega

/-- Is number i shown at q? -/
def isShown (es : List Ent) (q : Int) (i : Nat) : Bool := decide ((nth es i).seq ≤ q) && (decide (i = 0) || !kEq (nth es (i - 1)).key (nth es i).key || decide (q < (nth es (i - 1)).seq))
def shAt (es : List Ent) (q : Int) (i : Nat) : Bool := isShown es q i && !(nth es i).gone
def shTo (es : List Ent) (q : Int) : Nat → List Ent
  | 0 => []
  | i + 1 => if shAt es q i = true then shTo es q i ++ [nth es i] else shTo es q i
def shownL (es : List Ent) (q : Int) : List Ent := if okL es = true then shTo es q es.length else []
theorem shTo_len (es : List Ent) (q : Int) : ∀ i, (shTo es q i).length ≤ i
  | 0 => Nat.le_refl _
  | i + 1 => by
    have := shTo_len es q i
    rw [shTo]; split
    · simp; omega
    · omega
theorem shTo_yes {es : List Ent} {q : Int} {i : Nat} (h : shAt es q i = true) : shTo es q (i + 1) = shTo es q i ++ [nth es i] := by rw [shTo, if_pos h]
theorem shTo_no {es : List Ent} {q : Int} {i : Nat} (h : shAt es q i = false) : shTo es q (i + 1) = shTo es q i := by rw [shTo, if_neg (by simp [h])]
theorem shTo_sub (es : List Ent) (q : Int) : ∀ i, i ≤ es.length → (shTo es q i).Sublist (es.take i)
  | 0, _ => by simp [shTo]
  | i + 1, h => by
    have ih := shTo_sub es q i (by omega)
    rw [List.take_succ_eq_append_getElem (by omega), shTo]
    split
    · rw [nth_eq (by omega)]; exact ih.append (List.Sublist.refl _)
    · exact ih.trans (List.sublist_append_left _ _)
theorem shownL_ok {es : List Ent} (hs : okL es = true) (q : Int) : okL (shTo es q es.length) = true := by
  have hsub := shTo_sub es q es.length (Nat.le_refl _)
  rw [List.take_length] at hsub
  rw [okL_iff] at hs ⊢
  obtain ⟨h1, h2, h3⟩ := hs
  exact ⟨Nat.le_trans hsub.length_le h1, fun e he => h2 e (hsub.subset he), h3.sublist hsub⟩
/-- The key that the model's loop bears behind its first i rounds. -/
def lastK (es : List Ent) (q : Int) : Nat → ByteArray
  | 0 => ⟨#[]⟩
  | i + 1 => if (nth es i).seq ≤ q then (nth es i).key else lastK es q i
theorem lastK_from (es : List Ent) (q : Int) : ∀ i, lastK es q i = ⟨#[]⟩ ∨ ∃ j, j < i ∧ (nth es j).key = lastK es q i ∧ (nth es j).seq ≤ q
  | 0 => .inl rfl
  | i + 1 => by
    rw [lastK]
    split
    · rename_i h; exact .inr ⟨i, by omega, rfl, h⟩
    · rcases lastK_from es q i with h | ⟨j, hj, h⟩
      · exact .inl h
      · exact .inr ⟨j, by omega, h⟩
/-- In a right list the loop's key is the entry's own just where the one ahead is of that key and not too late. -/
theorem lastK_iff {es : List Ent} (hs : okL es = true) (q : Int) (i : Nat) (hi : i < es.length) (hq : (nth es i).seq ≤ q) :
    isShown es q i = !kEq (nth es i).key (lastK es q i) := by
  unfold isShown
  rw [decide_eq_true hq, Bool.true_and]
  match i, hi, hq with
  | 0, hi, _ =>
    have h := okL_ent hs hi
    have hne : (nth es 0).key ≠ ⟨#[]⟩ := fun e => by
      simp only [okE, Bool.and_eq_true, decide_eq_true_eq] at h
      have h1 := h.1.1.1.1.1
      rw [e] at h1
      exact absurd h1 (by decide)
    have hb : kEq (nth es 0).key (lastK es q 0) = false := by exact decide_eq_false hne
    rw [hb]
    simp
  | i + 1, hi, hq =>
    simp only [Nat.add_one_sub_one]
    rw [show decide (i + 1 = 0) = false from by simp, Bool.false_or]
    by_cases h1 : (nth es i).seq ≤ q
    · rw [lastK, if_pos h1]
      have : decide (q < (nth es i).seq) = false := by simp; omega
      rw [this, Bool.or_false]
      by_cases hk : (nth es i).key = (nth es (i + 1)).key
      · simp [kEq, hk]
      · have h2 : kEq (nth es i).key (nth es (i + 1)).key = false := by simpa [kEq] using hk
        have h3 : kEq (nth es (i + 1)).key (nth es i).key = false := by simpa [kEq] using fun e => hk e.symm
        rw [h2, h3]
    · have h4 : decide (q < (nth es i).seq) = true := by simp; omega
      rw [h4, Bool.or_true]
      have hne : (nth es (i + 1)).key ≠ lastK es q (i + 1) := by
        intro e
        rw [lastK, if_neg h1] at e
        rcases lastK_from es q i with h | ⟨j, hj, hk, hjq⟩
        · have h5 := okL_ent hs hi
          simp only [okE, Bool.and_eq_true, decide_eq_true_eq] at h5
          have h6 := h5.1.1.1.1.1
          rw [e, h] at h6
          exact absurd h6 (by decide)
        · have h7 := okL_ij hs (show j < i by omega) (by omega)
          have h8 := okL_ij hs (show i < i + 1 by omega) hi
          rw [ahd_iff] at h7 h8
          rcases h7 with h7 | h7
          · rcases h8 with h8 | h8
            · have := kLt_trans h7 h8
              rw [hk, ← e, kLt_irrefl] at this; cases this
            · rw [h8.1, hk, ← e, kLt_irrefl] at h7; cases h7
          · omega
      simp [kEq, hne]
/-- In a right list number i is shown just where it is seen at q and not gone. -/
theorem shown_seen {es : List Ent} (hs : okL es = true) (q : Int) (i : Nat) (hi : i < es.length) : isShown es q i = decide (seenL es (nth es i).key q = some (nth es i)) := by
  rw [Bool.eq_iff_iff, decide_eq_true_eq]
  constructor
  · intro h
    simp only [isShown, kEq, Bool.and_eq_true, Bool.or_eq_true, decide_eq_true_eq, Bool.not_eq_true', decide_eq_false_iff_not] at h
    refine seenL_scan es _ q i hi (fun j hj => ?_) (by simp [seenP, kEq, h.1])
    have h1 := okL_ij hs hj hi
    rw [ahd_iff] at h1
    rcases h1 with h1 | h1
    · have hne : (nth es j).key ≠ (nth es i).key := fun e => by rw [e, kLt_irrefl] at h1; cases h1
      simp [seenP, kEq, hne]
    · have hi1 : i ≠ 0 := by omega
      have h2 : (nth es (i - 1)).key = (nth es i).key ∧ (nth es (i - 1)).seq ≤ (nth es j).seq := by
        by_cases hj1 : j = i - 1
        · subst hj1; exact ⟨h1.1, Int.le_refl _⟩
        · have h3 := okL_ij hs (show j < i - 1 by omega) (by omega)
          have h4 := okL_ij hs (show i - 1 < i by omega) hi
          rw [ahd_iff] at h3 h4
          rcases h3 with h3 | h3
          · rcases h4 with h4 | h4
            · have := kLt_trans h3 h4
              rw [h1.1, kLt_irrefl] at this; cases this
            · rw [h4.1, h1.1, kLt_irrefl] at h3; cases h3
          · exact ⟨h3.1.symm.trans h1.1, by omega⟩
      rcases h.2 with (h5 | h5) | h5
      · exact absurd h5 hi1
      · exact absurd h2.1 h5
      · simp [seenP, kEq]; intro _; omega
  · intro h
    have h0 := seenL_some h
    simp only [isShown, kEq, Bool.and_eq_true, Bool.or_eq_true, decide_eq_true_eq, Bool.not_eq_true', decide_eq_false_iff_not]
    refine ⟨h0.2, ?_⟩
    by_cases hi1 : i = 0
    · exact .inl (.inl hi1)
    by_cases hk : (nth es (i - 1)).key = (nth es i).key
    · right
      rcases Int.lt_or_le q (nth es (i - 1)).seq with h1 | h1
      · exact h1
      · exfalso
        unfold seenL at h
        rw [List.find?_eq_some_iff_getElem] at h
        obtain ⟨_, k, hk1, hk2, hk3⟩ := h
        rcases Nat.lt_trichotomy k i with h2 | h2 | h2
        · have h3 := okL_ij hs h2 hi
          rw [nth_eq hk1, hk2, ahd_irrefl] at h3; cases h3
        · have h3 := hk3 (i - 1) (by omega)
          rw [← nth_eq (show i - 1 < es.length by omega)] at h3
          simp [seenP, kEq, hk] at h3
          omega
        · have h3 := okL_ij hs h2 hk1
          rw [nth_eq hk1, hk2, ahd_irrefl] at h3; cases h3
    · exact .inl (.inr hk)
end Go.Proofs.YtilhaokiohbeeaaGreatDoor
namespace Go.Proofs.YtilhaokiohbeeaaGreatDoor
open Go.RowKit
/-- The four cells of an entry. -/
def EC (e : Ent) : List Value := [.string e.key, .string e.val, .int .i64 e.seq, .bool e.gone]
def EA (e : Ent) : Value := .agg #[.string e.key, .string e.val, .int .i64 e.seq, .bool e.gone]
def EV (es : List Ent) : List Value := es.flatMap EC
theorem EV_length : ∀ es : List Ent, (EV es).length = es.length * 4
  | [] => rfl
  | a :: r => by
    have := EV_length r
    unfold EV at this ⊢
    rw [List.flatMap_cons, List.length_append, this, List.length_cons]
    simp [EC]; omega
theorem EV_append (a b : List Ent) : EV (a ++ b) = EV a ++ EV b := by simp [EV]
theorem EV_one (e : Ent) : EV [e] = EC e := by simp [EV]
theorem EV_cons (a : Ent) (r : List Ent) : EV (a :: r) = EC a ++ EV r := by simp [EV]
theorem EV_get : ∀ (es : List Ent) (i : Nat), i < es.length → ∀ j, j < 4 → (EV es)[i * 4 + j]? = (EC (nth es i))[j]?
  | [], i, h, _, _ => by simp at h
  | a :: r, 0, _, j, hj => by
    rw [EV_cons, nth_zero, Nat.zero_mul, Nat.zero_add, List.getElem?_append_left (by simp [EC]; exact hj)]
  | a :: r, i + 1, h, j, hj => by
    rw [EV_cons, nth_succ, ← EV_get r i (by simpa using h) j hj, List.getElem?_append_right (by simp [EC]; omega)]
    congr 1
    simp [EC]; omega
theorem EV_oneCell (es : List Ent) : ∀ u ∈ EV es, u.oneCell' = true := by
  intro u hu
  simp only [EV, List.mem_flatMap] at hu
  obtain ⟨e, _, he⟩ := hu
  simp only [EC, List.mem_cons, List.not_mem_nil, or_false] at he
  rcases he with rfl | rfl | rfl | rfl <;> rfl
/-- The entry e lies at offset o of block b. -/
def EntAt (w : World) (b o : Nat) (e : Ent) : Prop :=
  w.cell? ⟨b, o, none⟩ = some (.string e.key) ∧ w.cell? ⟨b, o + 1, none⟩ = some (.string e.val) ∧ w.cell? ⟨b, o + 2, none⟩ = some (.int .i64 e.seq) ∧ w.cell? ⟨b, o + 3, none⟩ = some (.bool e.gone)
/-- The slice v can be read and holds the entries es. -/
def RdE (w : World) (v : Value) (es : List Ent) : Prop :=
  ∃ a cap, v = .slice a es.length cap ∧ es.length ≤ cap ∧ cap ≤ maxLen ∧ (a = none → cap = 0) ∧
    (es = [] ∨ ∃ b off, a = some ⟨b, off, none⟩ ∧ ∀ i, i < es.length → EntAt w b (off + i * 4) (nth es i))
theorem EntAt.lt {w : World} {b o : Nat} {e : Ent} (h : EntAt w b o e) : b < w.heap.size := World.block_lt_of_cell? w _ h.1
theorem EntAt.of_block {w w' : World} {b o : Nat} {e : Ent} (h : EntAt w b o e) (hb : w'.heap[b]? = w.heap[b]?) : EntAt w' b o e :=
  ⟨(World.cell?_of_block (a := ⟨b, o, none⟩) hb).trans h.1, (World.cell?_of_block (a := ⟨b, o + 1, none⟩) hb).trans h.2.1, (World.cell?_of_block (a := ⟨b, o + 2, none⟩) hb).trans h.2.2.1, (World.cell?_of_block (a := ⟨b, o + 3, none⟩) hb).trans h.2.2.2⟩
theorem EntAt.below {w w' : World} {b o : Nat} {e : Ent} (h : EntAt w b o e) (hb : Below w.heap.size w w') : EntAt w' b o e := h.of_block (hb.block b h.lt)
theorem RdE.below {w w' : World} {v : Value} {es : List Ent} (h : RdE w v es) (hb : Below w.heap.size w w') : RdE w' v es := by
  obtain ⟨a, cap, hv, h1, h2, h0, h3⟩ := h
  refine ⟨a, cap, hv, h1, h2, h0, ?_⟩
  rcases h3 with h3 | ⟨b, off, ha, hc⟩
  · exact .inl h3
  · exact .inr ⟨b, off, ha, fun i hi => (hc i hi).below hb⟩
theorem RdE.drewN {w : World} {v : Value} {es : List Ent} (h : RdE w v es) (q : Nat) : RdE (w.drewN q) v es := h
theorem rdE_nil (w : World) : RdE w (.slice none 0 0) [] := ⟨none, 0, rfl, Nat.le_refl _, Nat.zero_le _, fun _ => rfl, .inl rfl⟩
/-- Where an entry of a slice lies. -/
theorem RdE.at {w : World} {a : Option Addr} {n cap : Nat} {es : List Ent} (h : RdE w (.slice a n cap) es) (hn : n = es.length) (i : Nat) (hi : i < es.length) : ∃ b off, a = some ⟨b, off, none⟩ ∧ EntAt w b (off + i * 4) (nth es i) := by
  obtain ⟨a', cap', hv, _, _, _, h3⟩ := h
  simp only [Value.slice.injEq] at hv
  obtain ⟨rfl, _, _⟩ := hv
  rcases h3 with rfl | ⟨b, off, ha, hc⟩
  · simp at hi
  · exact ⟨b, off, ha, hc i hi⟩
theorem EV_nth {es : List Ent} {j : Nat} {u : Value} (h : (EV es)[j]? = some u) : j / 4 < es.length ∧ (EC (nth es (j / 4)))[j % 4]? = some u := by
  have hj : j < (EV es).length := (List.getElem?_eq_some_iff.1 h).1
  rw [EV_length] at hj
  have h1 : j / 4 < es.length := by omega
  refine ⟨h1, ?_⟩
  have h2 := EV_get es (j / 4) h1 (j % 4) (by omega)
  rw [show j / 4 * 4 + j % 4 = j by omega] at h2
  rw [← h2]; exact h
theorem EntAt.cellAt {w : World} {b o : Nat} {e : Ent} (h : EntAt w b o e) {j : Nat} {u : Value} (hu : (EC e)[j]? = some u) : w.cell? ⟨b, o + j, none⟩ = some u := by
  obtain ⟨h0, h1, h2, h3⟩ := h
  match j, hu with
  | 0, hu => simp [EC] at hu; subst hu; exact h0
  | 1, hu => simp [EC] at hu; subst hu; exact h1
  | 2, hu => simp [EC] at hu; subst hu; exact h2
  | 3, hu => simp [EC] at hu; subst hu; exact h3
/-- The cells of a slice of entries, in a row. -/
theorem entsAt_cells {w : World} {b off : Nat} {es : List Ent} (h : ∀ i, i < es.length → EntAt w b (off + i * 4) (nth es i)) : ∀ j u, (EV es)[j]? = some u → w.cell? ((⟨b, off, none⟩ : Addr).add j) = some u := by
  intro j u hu
  obtain ⟨h1, h2⟩ := EV_nth hu
  have := (h _ h1).cellAt h2
  rw [Addr.add_lit]
  rw [show off + j / 4 * 4 + j % 4 = off + j by omega] at this
  exact this
/-- Texts and numbers of an entry are such as a program can hold. -/
def Fits (e : Ent) : Prop := e.key.size ≤ 4503599627370496 ∧ e.val.size ≤ 4503599627370496 ∧ -9223372036854775808 ≤ e.seq ∧ e.seq ≤ 9223372036854775807
end Go.Proofs.YtilhaokiohbeeaaGreatDoor
