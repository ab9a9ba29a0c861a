/- What a record is, and of which text a disk begins with one: plain facts. -/
import Derived.Test.YthkckgjcecommaaDoorSltNum
import Derived.Test.YthkckgjcecommaaDoorSltWord
namespace Go.Proofs.YthkckgjcecommaaDoor
open Go.RowKit
abbrev lfB : ByteArray := ⟨#[10]⟩
/-- The text that Record writes. -/
def recT (t : ByteArray) : ByteArray := itoaS (t.size : Int) ++ blankB ++ itoaS (dig 1 t.data.toList : Int) ++ lfB ++ t ++ lfB
def recS (t : ByteArray) : ByteArray := if t.size ≤ 3000 then recT t else ⟨#[]⟩
/-- The digits of how many bytes a text has, and of its digest. -/
def szL (t : ByteArray) : List UInt8 := Lib.decDigits t.size
def dgL (t : ByteArray) : List UInt8 := Lib.decDigits (dig 1 t.data.toList)
theorem itoa_nat (n : Nat) : (itoaS (n : Int)).data.toList = Lib.decDigits n := by
  unfold itoaS
  rw [Lib.itoa_nonneg]
theorem ba_ext {a b : ByteArray} (h : a.data.toList = b.data.toList) : a = b := by
  cases a; cases b; simp_all
theorem recT_list (t : ByteArray) : (recT t).data.toList = szL t ++ 32 :: (dgL t ++ 10 :: (t.data.toList ++ [10])) := by
  unfold recT szL dgL
  rw [app_toList, app_toList, app_toList, app_toList, app_toList, itoa_nat, itoa_nat]
  simp
theorem szL_dig (t : ByteArray) : ∀ b ∈ szL t, isDig b := dec_digs _ _ (Nat.le_refl _)
theorem dgL_dig (t : ByteArray) : ∀ b ∈ dgL t, isDig b := dec_digs _ _ (Nat.le_refl _)
theorem szL_val (t : ByteArray) : valD 0 (szL t) = t.size := dec_val _ _ (Nat.le_refl _)
theorem no_dig {l : List UInt8} {c : UInt8} (h : ∀ b ∈ l, isDig b) (hc : ¬ isDig c) : c ∉ l := fun hm => hc (h c hm)
theorem not_dig_32 : ¬ isDig 32 := by unfold isDig; decide
theorem not_dig_10 : ¬ isDig 10 := by unfold isDig; decide
/-- A disk begins with the record of this text. -/
def isRec (d : List UInt8) (t : ByteArray) : Prop := t.size ≤ 3000 ∧ ∃ r, d = szL t ++ 32 :: (dgL t ++ 10 :: (t.data.toList ++ 10 :: r))
theorem isRec_iff {d : List UInt8} {t : ByteArray} : isRec d t ↔ t.size ≤ 3000 ∧ (recT t).data.toList <+: d := by
  unfold isRec
  refine and_congr_right fun _ => ⟨?_, ?_⟩
  · rintro ⟨r, rfl⟩
    exact ⟨r, by rw [recT_list]; simp⟩
  · rintro ⟨r, rfl⟩
    exact ⟨r, by rw [recT_list]; simp⟩
theorem split_one {c : UInt8} : ∀ (a a' x x' : List UInt8), c ∉ a → c ∉ a' → a ++ c :: x = a' ++ c :: x' → a = a' ∧ x = x'
  | [], [], x, x', _, _, h => by simpa using h
  | [], b :: a', x, x', _, h2, h => by
    injection h with h3 h4
    exact absurd (h3 ▸ List.mem_cons_self) h2
  | b :: a, [], x, x', h1, _, h => by
    injection h with h3 h4
    exact absurd (h3 ▸ List.mem_cons_self) h1
  | b :: a, b' :: a', x, x', h1, h2, h => by
    injection h with h3 h4
    obtain ⟨rfl, rfl⟩ := split_one a a' x x' (fun h => h1 (List.mem_cons_of_mem _ h)) (fun h => h2 (List.mem_cons_of_mem _ h)) h4
    exact ⟨by rw [h3], rfl⟩
theorem isRec_unique {d : List UInt8} {t t' : ByteArray} (h : isRec d t) (h' : isRec d t') : t = t' := by
  obtain ⟨_, r, rfl⟩ := h
  obtain ⟨_, r', e⟩ := h'
  obtain ⟨e1, e2⟩ := split_one _ _ _ _ (no_dig (szL_dig _) not_dig_32) (no_dig (szL_dig _) not_dig_32) e
  obtain ⟨_, e3⟩ := split_one _ _ _ _ (no_dig (dgL_dig _) not_dig_10) (no_dig (dgL_dig _) not_dig_10) e2
  have hs : t.size = t'.size := by rw [← szL_val t, e1, szL_val]
  have hl := size_length t
  have hl' := size_length t'
  exact ba_ext (List.append_inj e3 (by omega)).1
theorem szL_at {d : List UInt8} {t : ByteArray} (h : isRec d t) {k : Nat} (hk : k < (szL t).length) : ∃ hd : k < d.length, d[k] = (szL t)[k] := by
  obtain ⟨_, r, rfl⟩ := h
  exact ⟨by rw [List.length_append]; omega, List.getElem_append_left hk⟩
theorem rec_len {d : List UInt8} {t : ByteArray} (h : isRec d t) : (szL t).length + 1 + (dgL t).length + 1 + t.size + 1 ≤ d.length := by
  obtain ⟨_, r, rfl⟩ := h
  have := size_length t
  simp only [List.length_append, List.length_cons]
  omega
theorem blank_at {d : List UInt8} {t : ByteArray} (h : isRec d t) : d[(szL t).length]? = some 32 := by
  obtain ⟨_, r, rfl⟩ := h
  simp
theorem dgL_at {d : List UInt8} {t : ByteArray} (h : isRec d t) {k : Nat} (hk : k < (dgL t).length) : d[(szL t).length + 1 + k]? = some (dgL t)[k] := by
  obtain ⟨_, r, rfl⟩ := h
  rw [List.getElem?_append_right (by omega), show (szL t).length + 1 + k - (szL t).length = k + 1 by omega, List.getElem?_cons_succ, List.getElem?_append_left hk, List.getElem?_eq_getElem hk]
theorem lf_at {d : List UInt8} {t : ByteArray} (h : isRec d t) : d[(szL t).length + 1 + (dgL t).length]? = some 10 := by
  obtain ⟨_, r, rfl⟩ := h
  rw [List.getElem?_append_right (by omega), show (szL t).length + 1 + (dgL t).length - (szL t).length = (dgL t).length + 1 by omega, List.getElem?_cons_succ, List.getElem?_append_right (Nat.le_refl _)]
  simp
theorem text_at {d : List UInt8} {t : ByteArray} (h : isRec d t) : (d.drop ((szL t).length + 1 + (dgL t).length + 1)).take t.size = t.data.toList := by
  obtain ⟨_, r, rfl⟩ := h
  have e : szL t ++ 32 :: (dgL t ++ 10 :: (t.data.toList ++ 10 :: r)) = (szL t ++ 32 :: (dgL t ++ [10])) ++ (t.data.toList ++ 10 :: r) := by simp
  have hl : (szL t).length + 1 + (dgL t).length + 1 = (szL t ++ 32 :: (dgL t ++ [10])).length := by simp; omega
  rw [e, hl, List.drop_left, ← size_length t, List.take_left]
theorem take_at {d : List UInt8} {t : ByteArray} (h : isRec d t) : d.take ((szL t).length + 1 + (dgL t).length + 1 + t.size + 1) = (recT t).data.toList := by
  obtain ⟨r, rfl⟩ := (isRec_iff.1 h).2
  have hl : (szL t).length + 1 + (dgL t).length + 1 + t.size + 1 = (recT t).data.toList.length := by
    rw [recT_list, ← size_length t]
    simp; omega
  rw [hl, List.take_left]
theorem recT_len (t : ByteArray) : (recT t).size = (szL t).length + 1 + (dgL t).length + 1 + t.size + 1 := by
  rw [← size_length, recT_list, ← size_length t]
  simp; omega
/-- No record stands at the disk's head. -/
def S0 (d : List UInt8) : Prop := ∀ t, ¬ isRec d t
def S1 (d : List UInt8) (k n : Nat) : Prop := ∀ t, isRec d t → k ≤ (szL t).length ∧ n = valD 0 ((szL t).take k)
def S2 (d : List UInt8) (k n : Nat) : Prop := ∀ t, isRec d t → n = t.size ∧ (szL t).length + 1 ≤ k ∧ k ≤ (szL t).length + 1 + (dgL t).length
def S3 (d : List UInt8) (k n : Nat) : Prop := ∀ t, isRec d t → n = t.size ∧ k = (szL t).length + 1 + (dgL t).length + 1
theorem s1_start (d : List UInt8) : S1 d 0 0 := fun _ _ => ⟨Nat.zero_le _, rfl⟩
theorem s1_digit {d : List UInt8} {k n : Nat} (h : S1 d k n) (hk : k < d.length) (hd : isDig d[k]) : S1 d (k + 1) (10 * n + (d[k].toNat - 48)) := by
  intro t ht
  obtain ⟨h1, h2⟩ := h t ht
  have hlt : k < (szL t).length := by
    rcases Nat.lt_or_ge k (szL t).length with h | h
    · exact h
    · obtain rfl : k = (szL t).length := by omega
      have e := blank_at ht
      rw [List.getElem?_eq_getElem hk] at e
      rw [Option.some.inj e] at hd
      exact absurd hd not_dig_32
  obtain ⟨_, e⟩ := szL_at ht hlt
  refine ⟨hlt, ?_⟩
  rw [List.take_succ_eq_append_getElem hlt, valD_append, ← h2, e]
  show _ = n * 10 + _
  rw [Nat.mul_comm]
theorem s1_blank {d : List UInt8} {k n : Nat} (h : S1 d k n) (hk : k < d.length) (hd : d[k] = 32) : S2 d (k + 1) n := by
  intro t ht
  obtain ⟨h1, h2⟩ := h t ht
  have hlt : k = (szL t).length := by
    rcases Nat.lt_or_ge k (szL t).length with h | h
    · obtain ⟨_, e⟩ := szL_at ht h
      have := szL_dig t _ (List.getElem_mem h)
      rw [← e, hd] at this
      exact absurd this not_dig_32
    · omega
  subst hlt
  rw [List.take_of_length_le (Nat.le_refl _), szL_val] at h2
  exact ⟨h2, by omega, by omega⟩
theorem s1_end {d : List UInt8} {k n : Nat} (h : S1 d k n) (hk : d.length ≤ k) : S0 d := by
  intro t ht
  have := (h t ht).1
  have := rec_len ht
  omega
theorem s1_other {d : List UInt8} {k n : Nat} (h : S1 d k n) (hk : k < d.length) (h1 : ¬ isDig d[k]) (h2 : d[k] ≠ 32) : S0 d := by
  intro t ht
  have := (h t ht).1
  rcases Nat.lt_or_ge k (szL t).length with h3 | h3
  · obtain ⟨_, e⟩ := szL_at ht h3
    rw [e] at h1
    exact h1 (szL_dig t _ (List.getElem_mem h3))
  · obtain rfl : k = (szL t).length := by omega
    have e := blank_at ht
    rw [List.getElem?_eq_getElem hk] at e
    exact h2 (Option.some.inj e)
theorem s1_big {d : List UInt8} {k n : Nat} (h : S1 d k n) (hn : 3000 < n) : S0 d := by
  intro t ht
  have h2 := (h t ht).2
  have h3 := valD_le (szL t) k
  rw [szL_val] at h3
  have := ht.1
  omega
theorem s2_digit {d : List UInt8} {k n : Nat} (h : S2 d k n) (hk : k < d.length) (hd : isDig d[k]) : S2 d (k + 1) n := by
  intro t ht
  obtain ⟨h1, h2, h3⟩ := h t ht
  refine ⟨h1, by omega, ?_⟩
  rcases Nat.lt_or_ge k ((szL t).length + 1 + (dgL t).length) with h | h
  · omega
  · obtain rfl : k = (szL t).length + 1 + (dgL t).length := by omega
    have e := lf_at ht
    rw [List.getElem?_eq_getElem hk] at e
    rw [Option.some.inj e] at hd
    exact absurd hd not_dig_10
theorem s2_in {d : List UInt8} {t : ByteArray} {k : Nat} (ht : isRec d t) (hk : k < d.length) (h2 : (szL t).length + 1 ≤ k) (h3 : k < (szL t).length + 1 + (dgL t).length) : isDig d[k] := by
  have e := dgL_at ht (k := k - ((szL t).length + 1)) (by omega)
  rw [show (szL t).length + 1 + (k - ((szL t).length + 1)) = k by omega, List.getElem?_eq_getElem hk] at e
  rw [Option.some.inj e]
  exact dgL_dig t _ (List.getElem_mem _)
theorem s2_lf {d : List UInt8} {k n : Nat} (h : S2 d k n) (hk : k < d.length) (hd : d[k] = 10) : S3 d (k + 1) n := by
  intro t ht
  obtain ⟨h1, h2, h3⟩ := h t ht
  refine ⟨h1, ?_⟩
  rcases Nat.lt_or_ge k ((szL t).length + 1 + (dgL t).length) with h | h
  · have := s2_in ht hk h2 h
    rw [hd] at this
    exact absurd this not_dig_10
  · omega
theorem s2_end {d : List UInt8} {k n : Nat} (h : S2 d k n) (hk : d.length ≤ k) : S0 d := by
  intro t ht
  have := (h t ht).2.2
  have := rec_len ht
  omega
theorem s2_other {d : List UInt8} {k n : Nat} (h : S2 d k n) (hk : k < d.length) (hd : ¬ isDig d[k]) (hl : d[k] ≠ 10) : S0 d := by
  intro t ht
  obtain ⟨h1, h2, h3⟩ := h t ht
  rcases Nat.lt_or_ge k ((szL t).length + 1 + (dgL t).length) with h | h
  · exact hd (s2_in ht hk h2 h)
  · obtain rfl : k = (szL t).length + 1 + (dgL t).length := by omega
    have e := lf_at ht
    rw [List.getElem?_eq_getElem hk] at e
    exact hl (Option.some.inj e)
theorem s3_short {d : List UInt8} {k n : Nat} (h : S3 d k n) (hk : d.length ≤ k + n) : S0 d := by
  intro t ht
  obtain ⟨rfl, rfl⟩ := h t ht
  have := rec_len ht
  omega
theorem s3_no {d : List UInt8} {k n : Nat} (h : S3 d k n) {x : ByteArray} (hx : x.data.toList = (d.drop k).take n) (hne : d.take (k + n + 1) ≠ (recT x).data.toList) : S0 d := by
  intro t ht
  obtain ⟨rfl, rfl⟩ := h t ht
  rw [text_at ht] at hx
  obtain rfl := ba_ext hx
  exact hne (take_at ht)
theorem s3_yes {d : List UInt8} {x : ByteArray} {m : Nat} (hx : x.size ≤ 3000) (he : d.take m = (recT x).data.toList) : isRec d x :=
  isRec_iff.2 ⟨hx, by rw [← he]; exact List.take_prefix _ _⟩
/-- What both sides answer of the record with which a disk begins. -/
def RecP (d : List UInt8) (e : Ending) : Prop :=
  (∃ t, isRec d t ∧ e = .returned (.tuple #[.string t, .int .i64 ((recT t).size : Int)])) ∨ (S0 d ∧ e = .returned (.tuple #[.string ⟨#[]⟩, .int .i64 0]))
theorem recT_size {t : ByteArray} (h : t.size ≤ 3000) : 4 ≤ (recT t).size ∧ (recT t).size ≤ 4000 := by
  have hsa := itoaS_size (t.size : Int) (by omega) (by omega)
  have hD : dig 1 t.data.toList < 2147483647 := dig_lt' 1 _ (by decide)
  have hsb := itoaS_size (dig 1 t.data.toList : Int) (by omega) (by omega)
  rw [← size_length, itoa_nat] at hsa hsb
  rw [recT_len]
  unfold szL dgL
  have h1 : 1 ≤ (Lib.decDigits t.size).length := by rw [dec_left]; simp
  have h2 : 1 ≤ (Lib.decDigits (dig 1 t.data.toList)).length := by rw [dec_left]; simp
  omega
/-- The texts of all records with which a disk begins, and how many bytes they take. -/
def RecsP (d : List UInt8) (ts : List ByteArray) (n : Nat) : Prop :=
  (∀ t ∈ ts, t.size ≤ 3000) ∧ n ≤ d.length ∧ d.take n = (ts.map fun t => (recT t).data.toList).flatten ∧ S0 (d.drop n)
def lenR (ts : List ByteArray) : Nat := (ts.map fun t => (recT t).data.toList).flatten.length
theorem recs_nil {d : List UInt8} (h : S0 d) : RecsP d [] 0 := ⟨(fun t h => by cases h), Nat.zero_le _, rfl, h⟩
theorem recs_cons {d : List UInt8} {t : ByteArray} {ts : List ByteArray} {n : Nat} (h : isRec d t) (hr : RecsP (d.drop (recT t).size) ts n) : RecsP d (t :: ts) ((recT t).size + n) := by
  obtain ⟨h1, h2, h3, h4⟩ := hr
  obtain ⟨r, hd⟩ := (isRec_iff.1 h).2
  have hl := size_length (recT t)
  subst hd
  rw [← hl, List.drop_left] at h2 h3 h4
  refine ⟨fun s hs => ?_, ?_, ?_, ?_⟩
  · rcases List.mem_cons.1 hs with rfl | hs
    · exact h.1
    · exact h1 s hs
  · rw [List.length_append]; omega
  · rw [← hl, List.take_append, List.take_of_length_le (by omega), show (recT t).data.toList.length + n - (recT t).data.toList.length = n by omega, h3]
    rfl
  · rw [← hl, ← List.drop_drop, List.drop_left]
    exact h4
theorem recs_ex : ∀ (m : Nat) (d : List UInt8), d.length ≤ m → ∃ ts n, RecsP d ts n
  | 0, d, h => ⟨[], 0, recs_nil fun t ht => by have := rec_len ht; omega⟩
  | m + 1, d, h => by
    by_cases hr : ∃ t, isRec d t
    · obtain ⟨t, ht⟩ := hr
      have hs := recT_size ht.1
      obtain ⟨ts, n, hp⟩ := recs_ex m (d.drop (recT t).size) (by rw [List.length_drop]; omega)
      exact ⟨_, _, recs_cons ht hp⟩
    · exact ⟨[], 0, recs_nil fun t ht => hr ⟨t, ht⟩⟩
theorem lenR_ge : ∀ ts : List ByteArray, ts.length ≤ lenR ts
  | [] => Nat.zero_le _
  | t :: ts => by
    have ih := lenR_ge ts
    have h1 := recT_len t
    unfold lenR at ih ⊢
    rw [List.map_cons, List.flatten_cons, List.length_append, size_length, List.length_cons]
    omega
theorem recs_len {d : List UInt8} {ts : List ByteArray} {n : Nat} (h : RecsP d ts n) : ts.length ≤ n := by
  have h1 := lenR_ge ts
  unfold lenR at h1
  rw [← h.2.2.1, List.length_take] at h1
  omega
/-- What comes next: the first of the texts that are left, or none. -/
theorem recs_next {d : List UInt8} {ts : List ByteArray} {n : Nat} (h : RecsP d ts n) :
    (∃ t r m, ts = t :: r ∧ n = (recT t).size + m ∧ isRec d t ∧ RecsP (d.drop (recT t).size) r m) ∨ (ts = [] ∧ n = 0 ∧ S0 d) := by
  obtain ⟨h1, h2, h3, h4⟩ := h
  have hl : n = lenR ts := by
    unfold lenR
    rw [← h3, List.length_take]
    omega
  cases ts with
  | nil => 
    obtain rfl : n = 0 := hl
    exact .inr ⟨rfl, rfl, h4⟩
  | cons t r =>
    refine .inl ⟨t, r, lenR r, rfl, ?_, ?_, ?_, ?_, ?_, ?_⟩
    · rw [hl]
      unfold lenR
      rw [List.map_cons, List.flatten_cons, List.length_append, size_length]
    · refine isRec_iff.2 ⟨h1 t List.mem_cons_self, ?_⟩
      rw [List.map_cons, List.flatten_cons] at h3
      have := List.take_prefix n d
      rw [h3] at this
      exact (List.prefix_append _ _).trans this
    · exact fun s hs => h1 s (List.mem_cons_of_mem _ hs)
    · rw [List.length_drop]
      rw [hl] at h2
      unfold lenR at h2 ⊢
      rw [List.map_cons, List.flatten_cons, List.length_append, size_length] at h2
      omega
    · rw [hl] at h3
      unfold lenR at h3 ⊢
      rw [List.map_cons, List.flatten_cons, List.length_append, size_length] at h3
      rw [List.take_drop, h3]
      exact List.drop_left' (size_length _)
    · rw [List.drop_drop]
      rw [hl] at h4
      unfold lenR at h4 ⊢
      rw [List.map_cons, List.flatten_cons, List.length_append, size_length] at h4
      exact h4
end Go.Proofs.YthkckgjcecommaaDoor
