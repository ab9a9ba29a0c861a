/- Plain facts on tables: rising numbers, the marks of keys, blocks of eight entries, what a right table is; no function of the program is walked here. -/
import Derived.Test.YthkckgjcecommaaPackMath
import Derived.Test.YthkckgjcecommaaDig
namespace Go.Proofs.Ythkckgjcecommaa
/-- How many of the numbers ahead are below n. -/
def atI (ns : List Int) (n : Int) : Nat := (ns.takeWhile (fun a => decide (a < n))).length
/-- A number into a list that rises. -/
def putI (ns : List Int) (n : Int) : List Int := if ns[atI ns n]? = some n then ns else ns.take (atI ns n) ++ n :: ns.drop (atI ns n)
theorem atI_le (ns : List Int) (n : Int) : atI ns n ≤ ns.length := (List.takeWhile_sublist _).length_le
theorem atI_lo : ∀ (ns : List Int) (n : Int) (i : Nat) (h : i < ns.length), i < atI ns n → ns[i] < n
  | [], _, _, h, _ => by simp at h
  | a :: r, n, i, h, hi => by
    unfold atI at hi
    rw [List.takeWhile_cons] at hi
    split at hi
    · rename_i ha
      cases i with
      | zero => simpa using ha
      | succ i => rw [List.getElem_cons_succ]; exact atI_lo r n i (by simpa using h) (by simpa [atI] using hi)
    · simp at hi
theorem atI_stop : ∀ (ns : List Int) (n : Int) (h : atI ns n < ns.length), ¬ ns[atI ns n] < n
  | [], _, h => by simp at h
  | a :: r, n, h => by
    by_cases ha : a < n
    · have e : atI (a :: r) n = atI r n + 1 := by unfold atI; rw [List.takeWhile_cons, if_pos (by simpa using ha)]; rfl
      have h2 : atI r n < r.length := by rw [e, List.length_cons] at h; omega
      have := atI_stop r n h2
      simp only [e, List.getElem_cons_succ]
      exact this
    · have e : atI (a :: r) n = 0 := by unfold atI; rw [List.takeWhile_cons, if_neg (by simpa using ha)]; rfl
      simp only [e, List.getElem_cons_zero]
      exact ha
theorem atI_of (ns : List Int) (n : Int) (k : Nat) (hk : k ≤ ns.length) (h1 : ∀ i (h : i < ns.length), i < k → ns[i] < n) (h2 : ∀ (h : k < ns.length), ¬ ns[k] < n) : atI ns n = k := by
  have h3 := atI_le ns n
  rcases Nat.lt_trichotomy (atI ns n) k with h | h | h
  · exact absurd (h1 _ (by omega) h) (atI_stop ns n (by omega))
  · exact h
  · exact absurd (atI_lo ns n k (by omega) h) (h2 (by omega))
theorem putI_mem (ns : List Int) (n x : Int) : x ∈ putI ns n ↔ x = n ∨ x ∈ ns := by
  unfold putI
  split
  · rename_i h
    have hn : n ∈ ns := List.mem_of_getElem? h
    exact ⟨.inr, fun h => by rcases h with rfl | h; exact hn; exact h⟩
  · rw [List.mem_append, List.mem_cons]
    constructor
    · rintro (h | h | h)
      · exact .inr (List.mem_of_mem_take h)
      · exact .inl h
      · exact .inr (List.mem_of_mem_drop h)
    · rintro (h | h)
      · exact .inr (.inl h)
      · rw [← List.take_append_drop (atI ns n) ns] at h
        rcases List.mem_append.1 h with h | h
        · exact .inl h
        · exact .inr (.inr h)
theorem putI_len (ns : List Int) (n : Int) : (putI ns n).length ≤ ns.length + 1 := by
  have := atI_le ns n
  unfold putI
  split
  · omega
  · simp; omega
/-- The two marks of a key. -/
def mk1 (key : ByteArray) : Int := ((dig 1 key.data.toList % 256 : Nat) : Int)
def mk2 (key : ByteArray) : Int := ((dig 1 (key.data.toList ++ [42]) % 256 : Nat) : Int)
def marksL (key : ByteArray) : List Int := putI [mk1 key] (mk2 key)
theorem mk1_in (key : ByteArray) : 0 ≤ mk1 key ∧ mk1 key < 256 := by unfold mk1; omega
theorem mk2_in (key : ByteArray) : 0 ≤ mk2 key ∧ mk2 key < 256 := by unfold mk2; omega
theorem marksL_mem (key : ByteArray) (x : Int) : x ∈ marksL key ↔ x = mk2 key ∨ x = mk1 key := by unfold marksL; rw [putI_mem]; simp
theorem marksL_len (key : ByteArray) : (marksL key).length ≤ 2 := putI_len _ _
def bitsTo (ns : List Int) (ms : List Int) : List Int := ms.foldl putI ns
/-- The marks of entries, rising. -/
def bitsL (es : List Ent) : List Int := es.foldl (fun b e => bitsTo b (marksL e.key)) []
theorem bitsTo_mem (ms : List Int) : ∀ (ns : List Int) (x : Int), x ∈ bitsTo ns ms ↔ x ∈ ns ∨ x ∈ ms := by
  unfold bitsTo
  induction ms with
  | nil => intro ns x; simp
  | cons m r ih => intro ns x; rw [List.foldl_cons, ih, putI_mem, List.mem_cons]; grind
theorem bitsF_mem (es : List Ent) : ∀ (ns : List Int) (x : Int), x ∈ es.foldl (fun b e => bitsTo b (marksL e.key)) ns ↔ x ∈ ns ∨ ∃ e ∈ es, x ∈ marksL e.key := by
  induction es with
  | nil => intro ns x; simp
  | cons e r ih =>
    intro ns x
    rw [List.foldl_cons, ih, bitsTo_mem]
    constructor
    · rintro ((h | h) | ⟨y, hy, h⟩)
      · exact .inl h
      · exact .inr ⟨e, List.mem_cons_self, h⟩
      · exact .inr ⟨y, List.mem_cons_of_mem _ hy, h⟩
    · rintro (h | ⟨y, hy, h⟩)
      · exact .inl (.inl h)
      · rcases List.mem_cons.1 hy with rfl | hy
        · exact .inl (.inr h)
        · exact .inr ⟨y, hy, h⟩
theorem bitsL_mem (es : List Ent) (x : Int) : x ∈ bitsL es ↔ ∃ e ∈ es, x ∈ marksL e.key := by unfold bitsL; rw [bitsF_mem]; simp
theorem bitsTo_len (ms : List Int) : ∀ ns : List Int, (bitsTo ns ms).length ≤ ns.length + ms.length := by
  unfold bitsTo
  induction ms with
  | nil => intro ns; simp
  | cons m r ih => intro ns; rw [List.foldl_cons]; have := ih (putI ns m); have := putI_len ns m; rw [List.length_cons]; omega
theorem bitsF_len (es : List Ent) : ∀ ns : List Int, (es.foldl (fun b e => bitsTo b (marksL e.key)) ns).length ≤ ns.length + 2 * es.length := by
  induction es with
  | nil => intro ns; simp
  | cons e r ih =>
    intro ns
    rw [List.foldl_cons, List.length_cons]
    have h1 := ih (bitsTo ns (marksL e.key))
    have h2 := bitsTo_len (marksL e.key) ns
    have h3 := marksL_len e.key
    omega
theorem bitsL_len (es : List Ent) : (bitsL es).length ≤ 2 * es.length := by have := bitsF_len es []; simpa [bitsL] using this
/-- A table. -/
structure Tbl where
  first : ByteArray
  last : ByteArray
  bits : List Int
  blocks : List ByteArray
deriving DecidableEq
def zeroT : Tbl := ⟨⟨#[]⟩, ⟨#[]⟩, [], []⟩
/-- The entries of some blocks, behind those in acc. -/
def allF : List ByteArray → List Ent → Option (List Ent)
  | [], acc => some acc
  | b :: r, acc => if (unpI b.data.toList).2 = true ∧ 1 ≤ (unpI b.data.toList).1.length ∧ (unpI b.data.toList).1.length ≤ 8 then allF r (acc ++ (unpI b.data.toList).1) else none
def allL (T : Tbl) : List Ent × Bool := if T.blocks.length < 1 ∨ 40 < T.blocks.length then ([], false) else match allF T.blocks [] with
  | none => ([], false)
  | some es => (es, okL es)
def tableOk (T : Tbl) : Bool := (allL T).2 && decide (T.first = (nth (allL T).1 0).key) && decide (T.last = (nth (allL T).1 ((allL T).1.length - 1)).key) && decide (T.bits = bitsL (allL T).1)
/-- Eight entries from number i on. -/
def chunk (es : List Ent) (i : Nat) : List Ent := (es.drop i).take 8
def blkF (es : List Ent) : Nat → Nat → List ByteArray
  | 0, _ => []
  | n + 1, i => ⟨(packA (chunk es i)).toArray⟩ :: blkF es n (i + 8)
def blksL (es : List Ent) : List ByteArray := blkF es ((es.length + 7) / 8) 0
/-- What is built of right entries. -/
def builtT (es : List Ent) : Tbl := ⟨(nth es 0).key, (nth es (es.length - 1)).key, bitsL es, blksL es⟩
def builtOk (es : List Ent) : Bool := okL es && !decide (es.length = 0)
def builtL (es : List Ent) : Tbl := if builtOk es = true then builtT es else zeroT
def entriesL (T : Tbl) : List Ent := if tableOk T = true then (allL T).1 else []
def mayL (T : Tbl) (key : ByteArray) : Bool := tableOk T && !kLt key T.first && !kLt T.last key && (marksL key).all (fun m => decide (m ∈ T.bits))
def foundL (T : Tbl) (key : ByteArray) (q : Int) : Option Ent := seenL (entriesL T) key q
theorem okL_sub {es fs : List Ent} (h : okL es = true) (hs : fs.Sublist es) : okL fs = true := by
  rw [okL_iff] at h ⊢
  exact ⟨Nat.le_trans hs.length_le h.1, fun e he => h.2.1 e (hs.subset he), h.2.2.sublist hs⟩
theorem chunk_ok {es : List Ent} (h : okL es = true) (i : Nat) : okL (chunk es i) = true := okL_sub h ((List.take_sublist _ _).trans (List.drop_sublist _ _))
theorem allF_blk {es : List Ent} (h : okL es = true) : ∀ (n i : Nat) (acc : List Ent), i + 8 * n < es.length + 8 → i ≤ es.length → es.length ≤ i + 8 * n → allF (blkF es n i) acc = some (acc ++ es.drop i)
  | 0, i, acc, _, _, h2 => by rw [blkF, allF, List.drop_eq_nil_of_le (by omega), List.append_nil]
  | n + 1, i, acc, h0, h1, h2 => by
    have hu : unpI (packA (chunk es i)) = (chunk es i, true) := unpI_pack (chunk_ok h i)
    have hl : (chunk es i).length = min 8 (es.length - i) := by unfold chunk; rw [List.length_take, List.length_drop]
    have hd : (⟨(packA (chunk es i)).toArray⟩ : ByteArray).data.toList = packA (chunk es i) := by simp
    rw [blkF, allF, hd, hu, if_pos ⟨rfl, by simp only; omega, by simp only; omega⟩]
    simp only
    by_cases hlast : es.length ≤ i + 8
    · have hn : n = 0 := by omega
      subst hn
      rw [blkF, allF]
      unfold chunk
      rw [List.take_of_length_le (by rw [List.length_drop]; omega)]
    · rw [allF_blk h n (i + 8) _ (by omega) (by omega) (by omega), List.append_assoc]
      unfold chunk
      rw [← List.drop_drop, List.take_append_drop]
theorem blkF_len (es : List Ent) : ∀ n i, (blkF es n i).length = n
  | 0, _ => rfl
  | n + 1, i => by rw [blkF, List.length_cons, blkF_len es n]
theorem all_built {es : List Ent} (h : builtOk es = true) : allL (builtT es) = (es, true) := by
  simp only [builtOk, Bool.and_eq_true, Bool.not_eq_true', decide_eq_false_iff_not] at h
  have hl := okL_len h.1
  unfold allL builtT blksL
  rw [if_neg (by rw [blkF_len]; omega), allF_blk h.1 _ 0 [] (by omega) (by omega) (by omega)]
  simp [h.1]
theorem built_ok {es : List Ent} (h : builtOk es = true) : tableOk (builtT es) = true := by
  unfold tableOk
  rw [all_built h]
  simp [builtT]
theorem built_entries {es : List Ent} (h : builtOk es = true) : entriesL (builtT es) = es := by
  unfold entriesL
  rw [if_pos (built_ok h), all_built h]
theorem tableOk_parts {T : Tbl} (h : tableOk T = true) : okL (entriesL T) = true ∧ entriesL T ≠ [] ∧ T.first = (nth (entriesL T) 0).key ∧ T.last = (nth (entriesL T) ((entriesL T).length - 1)).key ∧ T.bits = bitsL (entriesL T) := by
  have he : entriesL T = (allL T).1 := by unfold entriesL; rw [if_pos h]
  unfold tableOk at h
  simp only [Bool.and_eq_true, decide_eq_true_eq] at h
  obtain ⟨⟨⟨h1, h2⟩, h3⟩, h4⟩ := h
  rw [he]
  refine ⟨?_, ?_, h2, h3, h4⟩
  · unfold allL at h1 ⊢
    split at h1
    · cases h1
    · rename_i hb
      rw [if_neg hb]
      split at h1
      · cases h1
      · exact h1
  · intro hn
    unfold allL at h1 hn
    split at h1
    · cases h1
    · rename_i hb
      rw [if_neg hb] at hn
      split at h1
      · cases h1
      · rename_i es hes
        rw [hes] at hn
        simp only at hn
        subst hn
        obtain ⟨b, r, hbr⟩ : ∃ b r, T.blocks = b :: r := by
          cases hT : T.blocks with
          | nil => rw [hT] at hb; simp at hb
          | cons b r => exact ⟨b, r, rfl⟩
        rw [hbr, allF] at hes
        split at hes
        · rename_i hq
          have := allF_grow r _ _ hes
          rw [List.nil_append] at this
          simp at this
          rw [this] at hq
          simp at hq
        · cases hes
where
  allF_grow : ∀ (bs : List ByteArray) (acc es : List Ent), allF bs acc = some es → ∃ t, es = acc ++ t
    | [], acc, es, h => by rw [allF] at h; cases h; exact ⟨[], by simp⟩
    | b :: r, acc, es, h => by
      rw [allF] at h
      split at h
      · obtain ⟨t, ht⟩ := allF_grow r _ _ h; exact ⟨_, by rw [ht, List.append_assoc]⟩
      · cases h
/-- A key of a right table may be there. -/
theorem may_of {T : Tbl} (h : tableOk T = true) {e : Ent} (he : e ∈ entriesL T) : mayL T e.key = true := by
  obtain ⟨h1, h2, h3, h4, h5⟩ := tableOk_parts h
  obtain ⟨i, hi, rfl⟩ := List.getElem_of_mem he
  have hle : ∀ a b : Nat, a ≤ b → b < (entriesL T).length → kLt (nth (entriesL T) b).key (nth (entriesL T) a).key = false := by
    intro a b hab hb
    by_cases e : a = b
    · subst e; exact kLt_irrefl _
    · have := okL_ij h1 (show a < b by omega) hb
      rw [ahd_iff] at this
      rcases this with h | h
      · exact kLt_asymm h
      · rw [h.1]; exact kLt_irrefl _
  unfold mayL
  rw [h, h3, h4, ← nth_eq hi, hle 0 i (Nat.zero_le _) hi, hle i _ (by omega) (by omega)]
  simp only [Bool.not_false, Bool.and_true, Bool.true_and, List.all_eq_true, decide_eq_true_eq]
  intro m hm
  rw [h5, bitsL_mem]
  exact ⟨_, List.getElem_mem hi, by rw [← nth_eq hi]; exact hm⟩
theorem found_may {T : Tbl} {key : ByteArray} {q : Int} {e : Ent} (h : foundL T key q = some e) : mayL T key = true := by
  unfold foundL at h
  have h1 := seenL_some h
  have h2 : e ∈ entriesL T := List.mem_of_find?_eq_some h
  have h3 : tableOk T = true := by
    refine Decidable.byContradiction fun hn => ?_
    unfold entriesL at h2
    rw [if_neg hn] at h2
    cases h2
  have := may_of h3 h2
  rw [h1.1] at this
  exact this
theorem found_built {es : List Ent} (h : builtOk es = true) {e : Ent} (he : e ∈ es) : foundL (builtT es) e.key e.seq = some e := by
  unfold foundL
  rw [built_entries h]
  simp only [builtOk, Bool.and_eq_true] at h
  exact seen_mem h.1 he
end Go.Proofs.Ythkckgjcecommaa
