/- Plain facts on packing: what two texts begin with alike, how entries are written leaning on the key ahead, how they are read, and that what is read is what is written; no function of the program is walked here. The digest of some bytes, and the contract of the model's Digest. Plain facts on tables: rising numbers, the marks of keys, blocks of eight entries, what a right table is; no function of the program is walked here. Plain facts on the marks as bits of four words: no function of the program is walked here. -/
import Derived.Test.YtjgcommffaplnaaGRd
import Derived.Test.YtjgcommffaplnaaGBase
import Derived.Test.YtjgcommffaplnaaAid
import Derived.Lib.ConvBytes
namespace Go.Proofs.Ytjgcommffaplnaa
/-- How many bytes two rows begin with alike. -/
def comB : List UInt8 → List UInt8 → Nat
  | a :: x, b :: y => if a = b then comB x y + 1 else 0
  | [], _ => 0
  | _ :: _, [] => 0
theorem comB_le : ∀ x y : List UInt8, comB x y ≤ x.length ∧ comB x y ≤ y.length
  | [], _ => by simp [comB]
  | _ :: _, [] => by simp [comB]
  | a :: x, b :: y => by
    have := comB_le x y
    rw [comB]
    split
    · simp only [List.length_cons]; omega
    · simp
theorem comB_take : ∀ x y : List UInt8, x.take (comB x y) = y.take (comB x y)
  | [], _ => by simp [comB]
  | _ :: _, [] => by simp [comB]
  | a :: x, b :: y => by
    rw [comB]
    split
    · rename_i h; subst h; rw [List.take_succ_cons, List.take_succ_cons, comB_take x y]
    · simp
theorem comB_stop : ∀ x y : List UInt8, ∀ (h : comB x y < x.length) (k : comB x y < y.length), x[comB x y] ≠ y[comB x y]
  | [], _, h, _ => by simp at h
  | _ :: _, [], _, k => by simp at k
  | a :: x, b :: y, h, k => by
    by_cases e : a = b
    · have hc : comB (a :: x) (b :: y) = comB x y + 1 := by rw [comB, if_pos e]
      simp only [hc, List.getElem_cons_succ]
      exact comB_stop x y (by rw [hc, List.length_cons] at h; omega) (by rw [hc, List.length_cons] at k; omega)
    · have hc : comB (a :: x) (b :: y) = 0 := by rw [comB, if_neg e]
      simp only [hc, List.getElem_cons_zero]
      exact e
theorem comB_end {x y : List UInt8} {k : Nat} (h : x.length ≤ k ∨ y.length ≤ k) : comB (x.drop k) (y.drop k) = 0 := by
  rcases h with h | h
  · rw [List.drop_eq_nil_of_le h]; simp [comB]
  · rw [List.drop_eq_nil_of_le h]; cases x.drop k <;> simp [comB]
theorem comB_ne {x y : List UInt8} {k : Nat} (h1 : k < x.length) (h2 : k < y.length) (h : x[k] ≠ y[k]) : comB (x.drop k) (y.drop k) = 0 := by
  rw [List.drop_eq_getElem_cons h1, List.drop_eq_getElem_cons h2, comB, if_neg h]
theorem comB_eq {x y : List UInt8} {k : Nat} (h1 : k < x.length) (h2 : k < y.length) (h : x[k] = y[k]) : comB (x.drop k) (y.drop k) = comB (x.drop (k + 1)) (y.drop (k + 1)) + 1 := by
  rw [List.drop_eq_getElem_cons h1, List.drop_eq_getElem_cons h2, comB, if_pos h]
/-- How many bytes two texts begin with alike. -/
def com (a b : ByteArray) : Nat := comB a.data.toList b.data.toList
theorem com_le (a b : ByteArray) : com a b ≤ a.size ∧ com a b ≤ b.size := by
  have := comB_le a.data.toList b.data.toList
  rw [size_length, size_length] at this
  exact this
/-- Number and Gone of an entry, in one number. -/
def stp (e : Ent) : Nat := 2 * e.seq.toNat + (if e.gone = true then 1 else 0)
/-- An entry as it is written behind a key. -/
def packE (last : ByteArray) (e : Ent) : List UInt8 :=
  enc (com last e.key) ++ ((enc (e.key.size - com last e.key) ++ e.key.data.toList.drop (com last e.key)) ++ (enc (stp e) ++ (enc e.val.size ++ e.val.data.toList)))
/-- The key ahead, where one counts: each eighth leans on none. -/
def ahead (i : Nat) (last : ByteArray) : ByteArray := if i % 8 = 0 then ⟨#[]⟩ else last
/-- Entries as they are written from number i on. -/
def packF : Nat → ByteArray → List Ent → List UInt8
  | _, _, [] => []
  | i, last, e :: r => packE (ahead i last) e ++ packF (i + 1) e.key r
def packA (es : List Ent) : List UInt8 := enc es.length ++ packF 0 ⟨#[]⟩ es
/-- What Packed makes. -/
def packL (es : List Ent) : List UInt8 := if okL es = true then packA es else []
theorem packF_at {es : List Ent} {k : Nat} (h : k < es.length) (last : ByteArray) : packF k last (es.drop k) = packE (ahead k last) (nth es k) ++ packF (k + 1) (nth es k).key (es.drop (k + 1)) := by
  rw [List.drop_eq_getElem_cons h, packF, nth_eq h]
theorem packF_end (es : List Ent) (last : ByteArray) : packF es.length last (es.drop es.length) = [] := by
  rw [List.drop_eq_nil_of_le (Nat.le_refl _), packF]
theorem okE_parts {e : Ent} (h : okE e = true) : 1 ≤ e.key.size ∧ e.key.size ≤ 40 ∧ e.val.size ≤ 200 ∧ 1 ≤ e.seq ∧ e.seq ≤ 1000000 := by
  simp only [okE, Bool.and_eq_true, decide_eq_true_eq] at h
  obtain ⟨⟨⟨⟨⟨h1, h2⟩, h3⟩, _⟩, h5⟩, h6⟩ := h
  exact ⟨h1, h2, h3, h5, h6⟩
theorem stp_le {e : Ent} (h : okE e = true) : stp e ≤ 2000001 := by
  have := okE_parts h
  unfold stp
  split <;> omega
theorem packE_len {last : ByteArray} {e : Ent} (h : okE e = true) : (packE last e).length ≤ 300 := by
  have hp := okE_parts h
  have hs := stp_le h
  have hc := com_le last e.key
  have h1 := enc_len9 (com last e.key) (by omega)
  have h2 := enc_len9 (e.key.size - com last e.key) (by omega)
  have h3 := enc_len9 (stp e) (by omega)
  have h4 := enc_len9 e.val.size (by omega)
  unfold packE
  simp only [List.length_append, List.length_drop, size_length]
  omega
/-- An entry that can be packed, right or not. -/
def PkE (e : Ent) : Prop := e.key.size ≤ 1000 ∧ e.val.size ≤ 1000 ∧ 0 ≤ e.seq ∧ e.seq ≤ 1000000000
theorem okE_pk {e : Ent} (h : okE e = true) : PkE e := by
  have := okE_parts h
  exact ⟨by omega, by omega, by omega, by omega⟩
theorem stpP_le {e : Ent} (h : PkE e) : stp e ≤ 2000000001 := by
  obtain ⟨_, _, _, _⟩ := h
  unfold stp
  split <;> omega
theorem packF_len : ∀ (es : List Ent) (i : Nat) (last : ByteArray), (∀ e ∈ es, okE e = true) → (packF i last es).length ≤ 300 * es.length
  | [], _, _, _ => by simp [packF]
  | e :: r, i, last, h => by
    have h1 := packE_len (last := ahead i last) (h e List.mem_cons_self)
    have h2 := packF_len r (i + 1) e.key (fun x hx => h x (List.mem_cons_of_mem _ hx))
    rw [packF, List.length_append, List.length_cons]
    omega
theorem okL_all {es : List Ent} (h : okL es = true) : ∀ e ∈ es, okE e = true := ((okL_iff es).1 h).2.1
theorem packA_len {es : List Ent} (h : okL es = true) : (packA es).length ≤ 90009 := by
  have h1 := packF_len es 0 ⟨#[]⟩ (okL_all h)
  have h2 := okL_len h
  have h3 := enc_len9 es.length (by omega)
  unfold packA
  rw [List.length_append]
  omega
theorem packL_len (es : List Ent) : (packL es).length ≤ 90009 := by
  unfold packL
  split
  · rename_i h; exact packA_len h
  · simp
/-- The entry with which the bytes go on behind a key, and how many bytes it takes; with chk only one that is written so. -/
def rdEnt (chk : Bool) (last : ByteArray) (bs : List UInt8) : Option (Ent × Nat) :=
  if (rdNum bs).2 = 0 ∨ last.size < (rdNum bs).1 ∨ (rdText (bs.drop (rdNum bs).2)).2 = 0 then none
  else if chk = true ∧ com last ⟨(last.data.toList.take (rdNum bs).1 ++ (rdText (bs.drop (rdNum bs).2)).1).toArray⟩ ≠ (rdNum bs).1 then none
  else if (rdNum (bs.drop ((rdNum bs).2 + (rdText (bs.drop (rdNum bs).2)).2))).2 = 0 ∨ (rdText (bs.drop ((rdNum bs).2 + (rdText (bs.drop (rdNum bs).2)).2 + (rdNum (bs.drop ((rdNum bs).2 + (rdText (bs.drop (rdNum bs).2)).2))).2))).2 = 0 then none
  else some (⟨⟨(last.data.toList.take (rdNum bs).1 ++ (rdText (bs.drop (rdNum bs).2)).1).toArray⟩,
    ⟨(rdText (bs.drop ((rdNum bs).2 + (rdText (bs.drop (rdNum bs).2)).2 + (rdNum (bs.drop ((rdNum bs).2 + (rdText (bs.drop (rdNum bs).2)).2))).2))).1.toArray⟩,
    (((rdNum (bs.drop ((rdNum bs).2 + (rdText (bs.drop (rdNum bs).2)).2))).1 / 2 : Nat) : Int), decide ((rdNum (bs.drop ((rdNum bs).2 + (rdText (bs.drop (rdNum bs).2)).2))).1 % 2 = 1)⟩,
    (rdNum bs).2 + (rdText (bs.drop (rdNum bs).2)).2 + (rdNum (bs.drop ((rdNum bs).2 + (rdText (bs.drop (rdNum bs).2)).2))).2 + (rdText (bs.drop ((rdNum bs).2 + (rdText (bs.drop (rdNum bs).2)).2 + (rdNum (bs.drop ((rdNum bs).2 + (rdText (bs.drop (rdNum bs).2)).2))).2))).2)
/-- The same over its parts, each under a name. -/
def rdParts (chk : Bool) (last : ByteArray) (a : Nat × Nat) (t : List UInt8 × Nat) (s : Nat × Nat) (v : List UInt8 × Nat) : Option (Ent × Nat) :=
  if a.2 = 0 ∨ last.size < a.1 ∨ t.2 = 0 then none
  else if chk = true ∧ com last ⟨(last.data.toList.take a.1 ++ t.1).toArray⟩ ≠ a.1 then none
  else if s.2 = 0 ∨ v.2 = 0 then none
  else some (⟨⟨(last.data.toList.take a.1 ++ t.1).toArray⟩, ⟨v.1.toArray⟩, ((s.1 / 2 : Nat) : Int), decide (s.1 % 2 = 1)⟩, a.2 + t.2 + s.2 + v.2)
theorem rdEnt_parts (chk : Bool) (last : ByteArray) (bs : List UInt8) (a : Nat × Nat) (t : List UInt8 × Nat) (s : Nat × Nat) (v : List UInt8 × Nat) (ha : rdNum bs = a) (ht : rdText (bs.drop a.2) = t) (hs : rdNum (bs.drop (a.2 + t.2)) = s) (hv : rdText (bs.drop (a.2 + t.2 + s.2)) = v) :
    rdEnt chk last bs = rdParts chk last a t s v := by
  subst ha; subst ht; subst hs; subst hv; rfl
theorem rdText_list (l r : List UInt8) (h : l.length ≤ 3000) : rdText ((enc l.length ++ l) ++ r) = (l, (enc l.length ++ l).length) := by
  have := rdText_enc ⟨l.toArray⟩ r (by show l.toArray.size ≤ 3000; simpa using h)
  simpa [ByteArray.size] using this
theorem drop_pre {a b : List UInt8} : (a ++ b).drop a.length = b := List.drop_left
/-- An entry that is written is read. -/
theorem rdEnt_pack (chk : Bool) (last : ByteArray) (e : Ent) (r : List UInt8) (h : okE e = true) : rdEnt chk last (packE last e ++ r) = some (e, (packE last e).length) := by
  have hp := okE_parts h
  have hs := stp_le h
  have hc := com_le last e.key
  have hkl := size_length e.key
  have hvl := size_length e.val
  obtain ⟨c, hcd⟩ : ∃ c, com last e.key = c := ⟨_, rfl⟩
  obtain ⟨l, hl⟩ : ∃ l, e.key.data.toList.drop c = l := ⟨_, rfl⟩
  have hll : l.length = e.key.size - c := by rw [← hl, List.length_drop, hkl]
  have hE : packE last e = enc c ++ ((enc l.length ++ l) ++ (enc (stp e) ++ (enc e.val.size ++ e.val.data.toList))) := by
    unfold packE; rw [hcd, hl, hll]
  rw [hcd] at hc
  have hb0 : packE last e ++ r = enc c ++ ((enc l.length ++ l) ++ (enc (stp e) ++ ((enc e.val.size ++ e.val.data.toList) ++ r))) := by rw [hE]; simp only [List.append_assoc]
  have ha := rdNum_enc c ((enc l.length ++ l) ++ (enc (stp e) ++ ((enc e.val.size ++ e.val.data.toList) ++ r))) (by omega)
  have ht := rdText_list l (enc (stp e) ++ ((enc e.val.size ++ e.val.data.toList) ++ r)) (by omega)
  have hst := rdNum_enc (stp e) ((enc e.val.size ++ e.val.data.toList) ++ r) (by omega)
  have hv := rdText_enc e.val r (by omega)
  rw [hb0]
  rw [rdEnt_parts chk last _ (c, (enc c).length) (l, (enc l.length ++ l).length) (stp e, (enc (stp e)).length) (e.val.data.toList, (enc e.val.size ++ e.val.data.toList).length) ha (by rw [drop_pre]; exact ht) (by rw [← List.drop_drop, drop_pre, drop_pre]; exact hst) (by rw [← List.drop_drop, ← List.drop_drop, drop_pre, drop_pre, drop_pre]; exact hv)]
  have hkey : (⟨(last.data.toList.take c ++ l).toArray⟩ : ByteArray) = e.key := by
    have ht := comB_take last.data.toList e.key.data.toList
    have : com last e.key = comB last.data.toList e.key.data.toList := rfl
    rw [← this, hcd] at ht
    rw [ht, ← hl, List.take_append_drop]
  have p1 := enc_pos c
  have p2 := enc_pos l.length
  have p3 := enc_pos (stp e)
  have p4 := enc_pos e.val.size
  unfold rdParts
  simp only [hkey]
  rw [if_neg (by simp only [List.length_append]; omega), if_neg (by rw [hcd]; simp), if_neg (by simp only [List.length_append]; omega), back, hE]
  have h2 : (((stp e / 2 : Nat) : Int)) = e.seq := by unfold stp; split <;> omega
  have h3 : decide (stp e % 2 = 1) = e.gone := by
    unfold stp
    cases hg : e.gone with
    | true => rw [if_pos rfl]; exact decide_eq_true (by omega)
    | false => rw [if_neg (by simp)]; exact decide_eq_false (by omega)
  rw [h2, h3]
  simp only [List.length_append, Nat.add_assoc]
/-- What is read as an entry that is written so is what it is written as. -/
theorem rdEnt_back (last : ByteArray) (bs : List UInt8) (e : Ent) (k : Nat) (h : rdEnt true last bs = some (e, k)) : bs.take k = packE last e ∧ k = (packE last e).length ∧ k ≤ bs.length := by
  obtain ⟨a, ha⟩ : ∃ a, rdNum bs = a := ⟨_, rfl⟩
  obtain ⟨t, ht⟩ : ∃ t, rdText (bs.drop a.2) = t := ⟨_, rfl⟩
  obtain ⟨s, hs⟩ : ∃ s, rdNum (bs.drop (a.2 + t.2)) = s := ⟨_, rfl⟩
  obtain ⟨v, hv⟩ : ∃ v, rdText (bs.drop (a.2 + t.2 + s.2)) = v := ⟨_, rfl⟩
  rw [rdEnt_parts true last bs a t s v ha ht hs hv] at h
  unfold rdParts at h
  by_cases h1 : a.2 = 0 ∨ last.size < a.1 ∨ t.2 = 0
  · rw [if_pos h1] at h; cases h
  rw [if_neg h1] at h
  by_cases h2 : true = true ∧ com last ⟨(last.data.toList.take a.1 ++ t.1).toArray⟩ ≠ a.1
  · rw [if_pos h2] at h; cases h
  rw [if_neg h2] at h
  by_cases h3 : s.2 = 0 ∨ v.2 = 0
  · rw [if_pos h3] at h; cases h
  rw [if_neg h3] at h
  obtain ⟨he, hk⟩ := Prod.mk.inj (Option.some.inj h)
  have hcom : com last ⟨(last.data.toList.take a.1 ++ t.1).toArray⟩ = a.1 := by
    refine Decidable.byContradiction fun hn => h2 ⟨rfl, hn⟩
  have A := rdNum_back bs (by rw [ha]; omega)
  rw [ha] at A
  have T := rdText_back (bs.drop a.2) (by rw [ht]; omega)
  rw [ht] at T
  have S := rdNum_back (bs.drop (a.2 + t.2)) (by rw [hs]; omega)
  rw [hs] at S
  have V := rdText_back (bs.drop (a.2 + t.2 + s.2)) (by rw [hv]; omega)
  rw [hv] at V
  have la := (rdNum_len bs).1
  rw [ha] at la
  have ls := (rdNum_len (bs.drop (a.2 + t.2))).1
  rw [hs] at ls
  have lt := T.2.2
  have lv := V.2.2
  simp only [List.length_drop] at ls lt lv
  have ltk : (last.data.toList.take a.1).length = a.1 := by rw [List.length_take, size_length]; omega
  have e1 : e.key.data.toList = last.data.toList.take a.1 ++ t.1 := by rw [← he]
  have e2 : e.key.size = a.1 + t.1.length := by rw [← size_length, e1, List.length_append, ltk]
  have e3 : com last e.key = a.1 := by rw [← he]; exact hcom
  have e4 : e.val.data.toList = v.1 := by rw [← he]
  have e5 : e.val.size = v.1.length := by rw [← size_length, e4]
  have e6 : stp e = s.1 := by
    have q1 : e.seq = ((s.1 / 2 : Nat) : Int) := by rw [← he]
    have q2 : e.gone = decide (s.1 % 2 = 1) := by rw [← he]
    unfold stp
    rw [q1, q2]
    simp only [decide_eq_true_eq]
    split <;> omega
  have hP : packE last e = enc a.1 ++ ((enc t.1.length ++ t.1) ++ (enc s.1 ++ (enc v.1.length ++ v.1))) := by
    unfold packE
    rw [e3, e6, e5, e4, e2, e1, show a.1 + t.1.length - a.1 = t.1.length by omega]
    rw [List.drop_append_of_le_length (by omega), List.drop_eq_nil_of_le (by omega), List.nil_append]
  have hB : bs.take k = packE last e := by
    rw [hP, ← A.1, ← T.2.1, ← S.1, ← V.2.1, ← hk]
    rw [List.take_add, List.take_add, List.take_add]
    simp only [List.append_assoc]
  refine ⟨hB, ?_, by omega⟩
  rw [← hB, List.length_take]; omega
theorem rdEnt_loose (last : ByteArray) (bs : List UInt8) (x : Ent × Nat) (h : rdEnt true last bs = some x) : rdEnt false last bs = some x := by
  rw [rdEnt_parts true last bs _ _ _ _ rfl rfl rfl rfl] at h
  rw [rdEnt_parts false last bs _ _ _ _ rfl rfl rfl rfl]
  unfold rdParts at h ⊢
  split at h
  · cases h
  · rename_i h1
    rw [if_neg h1]
    split at h
    · cases h
    · rw [if_neg (by simp)]; exact h
/-- n entries from byte p on, behind those in acc. -/
def rdEs (chk : Bool) (bs : List UInt8) : Nat → Nat → List Ent → ByteArray → Option (List Ent × Nat)
  | 0, p, acc, _ => some (acc, p)
  | n + 1, p, acc, last => match rdEnt chk (ahead acc.length last) (bs.drop p) with
    | none => none
    | some (e, k) => rdEs chk bs n (p + k) (acc ++ [e]) e.key
theorem rdEs_no {chk : Bool} {bs : List UInt8} {n p : Nat} {acc : List Ent} {last : ByteArray} (h : rdEnt chk (ahead acc.length last) (bs.drop p) = none) : rdEs chk bs (n + 1) p acc last = none := by
  rw [rdEs, h]
theorem rdEs_go {chk : Bool} {bs : List UInt8} {n p k : Nat} {acc : List Ent} {last : ByteArray} {e : Ent} (h : rdEnt chk (ahead acc.length last) (bs.drop p) = some (e, k)) : rdEs chk bs (n + 1) p acc last = rdEs chk bs n (p + k) (acc ++ [e]) e.key := by
  rw [rdEs, h]
theorem rdEs_pack (chk : Bool) (bs r : List UInt8) : ∀ (es : List Ent) (p : Nat) (acc : List Ent) (last : ByteArray), (∀ e ∈ es, okE e = true) → bs.drop p = packF acc.length last es ++ r → rdEs chk bs es.length p acc last = some (acc ++ es, p + (packF acc.length last es).length)
  | [], p, acc, last, _, _ => by simp [rdEs, packF]
  | e :: es, p, acc, last, h, hd => by
    have hE := rdEnt_pack chk (ahead acc.length last) e (packF (acc.length + 1) e.key es ++ r) (h e List.mem_cons_self)
    rw [packF, List.append_assoc] at hd
    rw [List.length_cons, rdEs_go (by rw [hd]; exact hE)]
    have hlen : (acc ++ [e]).length = acc.length + 1 := by simp
    have := rdEs_pack chk bs r es (p + (packE (ahead acc.length last) e).length) (acc ++ [e]) e.key (fun x hx => h x (List.mem_cons_of_mem _ hx)) (by rw [← List.drop_drop, hd, drop_pre, hlen])
    rw [this, hlen, packF]
    simp only [List.append_assoc, List.singleton_append, List.length_append, Nat.add_assoc]
theorem rdEs_back (bs : List UInt8) : ∀ (n p : Nat) (acc : List Ent) (last : ByteArray) (x : List Ent × Nat), p ≤ bs.length → rdEs true bs n p acc last = some x → ∃ es, x.1 = acc ++ es ∧ es.length = n ∧ x.2 = p + (packF acc.length last es).length ∧ (bs.drop p).take (packF acc.length last es).length = packF acc.length last es ∧ x.2 ≤ bs.length
  | 0, p, acc, last, x, hp, h => by
    rw [rdEs] at h
    cases h
    exact ⟨[], by simp, rfl, by simp [packF], by simp [packF], hp⟩
  | n + 1, p, acc, last, x, hp, h => by
    cases hE : rdEnt true (ahead acc.length last) (bs.drop p) with
    | none => rw [rdEs_no hE] at h; cases h
    | some y =>
      obtain ⟨e, k⟩ := y
      rw [rdEs_go hE] at h
      obtain ⟨b1, b2, b3⟩ := rdEnt_back _ _ _ _ hE
      rw [List.length_drop] at b3
      obtain ⟨es, h1, h2, h3, h4, h5⟩ := rdEs_back bs n (p + k) (acc ++ [e]) e.key x (by omega) h
      have hlen : (acc ++ [e]).length = acc.length + 1 := by simp
      rw [hlen] at h3 h4
      refine ⟨e :: es, by rw [h1]; simp, by rw [List.length_cons, h2], ?_, ?_, h5⟩
      · rw [packF, List.length_append, ← b2, h3]; omega
      · rw [packF, List.length_append, ← b2, List.take_add, b1, List.drop_drop, h4]
theorem rdEs_loose (bs : List UInt8) : ∀ (n p : Nat) (acc : List Ent) (last : ByteArray) (x : List Ent × Nat), rdEs true bs n p acc last = some x → rdEs false bs n p acc last = some x
  | 0, _, _, _, _, h => h
  | n + 1, p, acc, last, x, h => by
    cases hE : rdEnt true (ahead acc.length last) (bs.drop p) with
    | none => rw [rdEs_no hE] at h; cases h
    | some y =>
      obtain ⟨e, k⟩ := y
      rw [rdEs_go hE] at h
      rw [rdEs_go (rdEnt_loose _ _ _ hE)]
      exact rdEs_loose bs n _ _ _ x h
def unpC (chk : Bool) (bs : List UInt8) : Option (List Ent × Nat) := if (rdNum bs).2 = 0 ∨ 300 < (rdNum bs).1 then none else rdEs chk bs (rdNum bs).1 (rdNum bs).2 [] ⟨#[]⟩
/-- What the program reads. -/
def finI (bs : List UInt8) : Option (List Ent × Nat) → List Ent × Bool
  | none => ([], false)
  | some (es, p) => if p = bs.length ∧ okL es = true then (es, true) else ([], false)
/-- What the model reads. -/
def finS (bs : List UInt8) : Option (List Ent × Nat) → List Ent × Bool
  | none => ([], false)
  | some (es, _) => if packL es = bs then (es, true) else ([], false)
def unpI (bs : List UInt8) : List Ent × Bool := finI bs (unpC true bs)
def unpS (bs : List UInt8) : List Ent × Bool := finS bs (unpC false bs)
theorem unpC_pack (chk : Bool) (es : List Ent) (r : List UInt8) (h : okL es = true) : unpC chk (packA es ++ r) = some (es, (packA es).length) := by
  have hl := okL_len h
  have hp := enc_pos es.length
  unfold unpC packA
  rw [List.append_assoc, rdNum_enc es.length _ (by omega)]
  simp only
  rw [if_neg (by omega), rdEs_pack chk _ r es _ [] ⟨#[]⟩ (okL_all h) (by rw [drop_pre]; rfl), List.nil_append, List.length_append]
  rfl
theorem unpI_pack {es : List Ent} (h : okL es = true) : unpI (packA es) = (es, true) := by
  have := unpC_pack true es [] h
  rw [List.append_nil] at this
  unfold unpI finI
  rw [this]
  simp [h]
/-- What is read is what is written. -/
theorem unpI_back {bs : List UInt8} {es : List Ent} (h : unpI bs = (es, true)) : okL es = true ∧ packA es = bs := by
  unfold unpI at h
  cases hc : unpC true bs with
  | none => rw [hc] at h; cases h
  | some x =>
    obtain ⟨ys, p⟩ := x
    rw [hc] at h
    unfold finI at h
    simp only at h
    by_cases hh : p = bs.length ∧ okL ys = true
    · rw [if_pos hh] at h
      obtain ⟨he, _⟩ := Prod.mk.inj h
      subst he
      refine ⟨hh.2, ?_⟩
      unfold unpC at hc
      by_cases hn : (rdNum bs).2 = 0 ∨ 300 < (rdNum bs).1
      · rw [if_pos hn] at hc; cases hc
      · rw [if_neg hn] at hc
        have hb := rdNum_back bs (by omega)
        have hl := (rdNum_len bs).1
        obtain ⟨es, h1, h2, h3, h4, h5⟩ := rdEs_back bs _ _ _ _ _ hl hc
        simp only [List.nil_append, List.length_nil] at h1 h2 h3 h4 h5
        subst h1
        unfold packA
        have h6 : bs.drop (rdNum bs).2 = packF 0 ⟨#[]⟩ ys := by rw [← h4]; exact (List.take_of_length_le (by rw [List.length_drop]; omega)).symm
        rw [h2, ← hb.1, ← h6, List.take_append_drop]
    · rw [if_neg hh] at h; cases h
theorem unpI_no {bs : List UInt8} {es : List Ent} (h : unpI bs = (es, false)) : es = [] := by
  unfold unpI at h
  cases hc : unpC true bs with
  | none => rw [hc] at h; cases h; rfl
  | some x =>
    obtain ⟨ys, p⟩ := x
    rw [hc] at h
    unfold finI at h
    simp only at h
    split at h
    · cases h
    · cases h; rfl
theorem packL_ok {es : List Ent} (h : okL es = true) : packL es = packA es := by unfold packL; rw [if_pos h]
theorem packA_ne (es : List Ent) : packA es ≠ [] := by
  unfold packA
  intro h
  exact enc_ne es.length (List.append_eq_nil_iff.1 h).1
/-- Both read alike. -/
theorem unp_same (bs : List UInt8) : unpS bs = unpI bs := by
  cases hI : unpI bs with
  | mk es ok =>
    cases ok with
    | true =>
      obtain ⟨h1, h2⟩ := unpI_back hI
      have := unpC_pack false es [] h1
      rw [List.append_nil, h2] at this
      unfold unpS finS
      rw [this]
      simp only
      rw [if_pos (by rw [packL_ok h1]; exact h2)]
    | false =>
      have he := unpI_no hI
      subst he
      unfold unpS
      cases hc : unpC false bs with
      | none => rfl
      | some x =>
        obtain ⟨ys, p⟩ := x
        unfold finS
        simp only
        by_cases hp : packL ys = bs
        · exfalso
          cases hk : okL ys with
          | true =>
            rw [packL_ok hk] at hp
            have := unpI_pack hk
            rw [hp, hI] at this
            cases this
          | false =>
            unfold packL at hp
            rw [if_neg (by simp [hk])] at hp
            subst hp
            simp [unpC, rdNum, rdF] at hc
        · rw [if_neg hp]
/-- No part of what is written is read. -/
theorem unpI_part {es : List Ent} (h : okL es = true) {j : Nat} (hj : j < (packA es).length) : (unpI ((packA es).take j)).2 = false := by
  cases hI : unpI ((packA es).take j) with
  | mk ys ok =>
    cases ok with
    | false => rfl
    | true =>
      exfalso
      obtain ⟨h1, h2⟩ := unpI_back hI
      have a := unpC_pack true ys ((packA es).drop j) h1
      rw [h2, List.take_append_drop] at a
      have b := unpC_pack true es [] h
      rw [List.append_nil, a] at b
      have := (Prod.mk.inj (Option.some.inj b)).2
      rw [List.length_take] at this
      omega
end Go.Proofs.Ytjgcommffaplnaa
namespace Go.Proofs.Ytjgcommffaplnaa
open Go.RowKit
/-- One byte more. -/
def stepD (h : Nat) (b : UInt8) : Nat := (h * 1000003 + b.toNat + 1) % 2147483647
/-- Some bytes more. -/
def dig (h : Nat) (bs : List UInt8) : Nat := bs.foldl stepD h
theorem stepD_lt (h : Nat) (b : UInt8) : stepD h b < 2147483647 := Nat.mod_lt _ (by omega)
theorem dig_lt (bs : List UInt8) : ∀ h, h < 2147483647 → dig h bs < 2147483647 := by
  induction bs with
  | nil => intro h hh; exact hh
  | cons b bs ih => intro h _; exact ih _ (stepD_lt h b)
theorem dig_append (h : Nat) (a b : List UInt8) : dig h (a ++ b) = dig (dig h a) b := List.foldl_append
theorem dig_at (h k : Nat) (bs : List UInt8) (hk : k < bs.length) : dig h (bs.drop k) = dig (stepD h bs[k]) (bs.drop (k + 1)) := by
  rw [List.drop_eq_getElem_cons hk]; rfl
theorem dig_end (h k : Nat) (bs : List UInt8) (hk : bs.length ≤ k) : dig h (bs.drop k) = h := by
  rw [List.drop_eq_nil_of_le hk]; rfl
theorem ret_int {k : IntKind} {a b : Int} (h : a = b) : Ending.returned (.int k a) = .returned (.int k b) := by rw [h]
theorem wrap_in (n : Int) (h : -9223372036854775808 ≤ n ∧ n ≤ 9223372036854775807) : wrap64 n = n := by unfold wrap64; omega
/-- The round's number, as the walk spells it. -/
theorem round_num (m : Nat) (b : UInt8) (hm : m < 2147483647) : (wrap64 (wrap64 ((m : Int) * 1000003 + wrap64 (b.toNat : Int)) + 1)).tmod 2147483647 = (stepD m b : Int) := by
  have hb := UInt8.toNat_lt b
  rw [wrap_in (b.toNat : Int) (by omega), wrap_in ((m : Int) * 1000003 + (b.toNat : Int)) (by omega), wrap_in _ (by omega), Int.tmod_eq_emod_of_nonneg (by omega)]
  unfold stepD
  omega

set_option maxHeartbeats 400000 in
set_option maxRecDepth 100000 in
theorem specDigest_any (s : ByteArray) (w : World) (hs : s.size ≤ 1099511627776) :
    Calls Try.prog 94 #[.string s] w fun e w' => e = .returned (.int .i64 (dig 1 s.data.toList : Int)) ∧ w' = w := by
  have hsz := size_length s
  obtain ⟨R, hR⟩ : ∃ R, R = dig 1 s.data.toList := ⟨_, rfl⟩
  rw [← hR]
  go_enter Try.func94, Try.ntmps94
  go_wp2
  go_loop [3, 4] (fun h i => ∃ k m : Nat, k ≤ s.size ∧ i = .int .i64 k ∧ h = .int .i64 m ∧ m < 2147483647 ∧ Hid (R = dig m (s.data.toList.drop k))) (fun _ i => s.size - (intOf i).toNat)
  case atStart => exact ⟨0, 1, by omega, rfl, rfl, by omega, hR⟩
  case round =>
    obtain ⟨k, m, hk, rfl, rfl, hm, HR⟩ := hrel
    clear hR
    by_cases hlt : k < s.size
    · go_wp2
      go_round
      case rel =>
        have hb : s[k] = s.data.toList[k]'(by omega) := rfl
        refine ⟨k + 1, stepD m s[k], by omega, by go_num, by rw [round_num _ _ hm], stepD_lt _ _, ?_⟩
        show R = _
        rw [HR.out, dig_at _ _ _ (by omega), hb]
      case measure => simp [intOf]; omega
    · go_wp2
      go_ret
      exact ⟨ret_int (by rw [HR.out, dig_end _ _ _ (by omega)]), rfl⟩
set_option maxHeartbeats 400000 in
set_option maxRecDepth 100000 in
theorem withByte_any (m : Nat) (b : UInt8) (w : World) (hm : m < 2147483647) :
    Calls Try.prog 111 #[.int .i64 m, .int .u8 (b.toNat : Int)] w fun e w' => e = .returned (.int .i64 (stepD m b : Int)) ∧ w' = w := by
  have hr := round_num m b hm
  go_enter Try.func111, Try.ntmps111
  go_wp2
  go_ret
  exact ⟨rfl, rfl⟩
set_option maxHeartbeats 400000 in
set_option maxRecDepth 100000 in
theorem withEachByte_any (m : Nat) (v : Value) (bs : List UInt8) (w : World) (hm : m < 2147483647) (hr : Rd w v bs) :
    Calls Try.prog 110 #[.int .i64 m, .func (.func 111) #[] #[], v] w fun e w' => e = .returned (.int .i64 (dig m bs : Int)) ∧ w' = w := by
  obtain ⟨a, cap, rfl, hl, hc, hA⟩ := hr
  unfold maxLen at hc
  obtain ⟨R, hR⟩ : ∃ R, R = dig m bs := ⟨_, rfl⟩
  rw [← hR]
  go_enter Try.func110, Try.ntmps110
  go_wp2
  go_loop [0, 8, 11] (fun h _ i => ∃ k m' : Nat, k ≤ bs.length ∧ i = .int .i64 k ∧ h = .int .i64 m' ∧ m' < 2147483647 ∧ Hid (R = dig m' (bs.drop k))) (fun _ _ i => bs.length - (intOf i).toNat)
  case atStart => exact ⟨0, m, by omega, rfl, rfl, hm, hR⟩
  case round =>
    obtain ⟨k, m', hk, rfl, rfl, hm', HR⟩ := hrel
    clear hR
    by_cases hlt : k < bs.length
    · obtain ⟨b0, off, ha, hcell⟩ : ∃ b0 off, a = some ⟨b0, off, none⟩ ∧ w.cell? ⟨b0, off + k, none⟩ = some (.int .u8 (bs[k].toNat : Int)) := by
        rcases hA with h | ⟨b, off, ha, hc⟩
        · subst h; simp at hlt
        · exact ⟨b, off, ha, hc k hlt⟩
      rw [ha]
      clear hA ha
      go_wp2_with fail
      refine (withByte_any m' bs[k] _ hm').mono ?_
      rintro e w1 ⟨rfl, rfl⟩
      have hlt2 := stepD_lt m' bs[k]
      have HN : Hid (R = dig (stepD m' bs[k]) (bs.drop (k + 1))) := by
        show R = _
        rw [HR.out, dig_at _ _ _ hlt]
      go_wp2
      go_round
      case rel => exact ⟨k + 1, stepD m' bs[k], by omega, by go_num, rfl, hlt2, HN⟩
      case measure => simp [intOf]; omega
    · go_wp2
      go_ret
      exact ⟨ret_int (by rw [HR.out, dig_end _ _ _ (by omega)]), rfl⟩
set_option maxHeartbeats 400000 in
set_option maxRecDepth 100000 in
theorem withText_any (m : Nat) (s : ByteArray) (w : World) (hm : m < 2147483647) (hs : s.size ≤ 1099511627776) :
    Calls Try.prog 93 #[.int .i64 m, .string s] w fun e w' => e = .returned (.int .i64 (dig m s.data.toList : Int)) ∧ Below w.heap.size w w' := by
  have hcv := conv_bytes w s
  have hrd := bytes_rd w s (by unfold maxLen; omega)
  have hbl := bytes_below w s
  generalize Lib.bytesWorld w 5 s = W at hcv hrd hbl
  generalize grownCap w s.size 0 5 = c0 at hcv hrd
  go_enter Try.func93, Try.ntmps93
  go_wp2_with fail
  refine (withEachByte_any m _ _ _ hm hrd).mono ?_
  rintro e w1 ⟨rfl, rfl⟩
  go_wp2
  go_ret
  exact ⟨rfl, hbl⟩
end Go.Proofs.Ytjgcommffaplnaa
namespace Go.Proofs.Ytjgcommffaplnaa
/-- How many of the numbers ahead are below n. -/
def atI (ns : List Int) (n : Int) : Nat := (ns.takeWhile (fun a => decide (a < n))).length
/-- A number into a list that rises. -/
def putI (ns : List Int) (n : Int) : List Int := if ns[atI ns n]? = some n then ns else ns.take (atI ns n) ++ n :: ns.drop (atI ns n)
theorem atI_le (ns : List Int) (n : Int) : atI ns n ≤ ns.length := (List.takeWhile_sublist _).length_le
theorem atI_lo : ∀ (ns : List Int) (n : Int) (i : Nat) (h : i < ns.length), i < atI ns n → ns[i] < n
  | [], _, _, h, _ => by simp at h
  | a :: r, n, i, h, hi => by
    unfold atI at hi
    rw [List.takeWhile_cons] at hi
    split at hi
    · rename_i ha
      cases i with
      | zero => simpa using ha
      | succ i => rw [List.getElem_cons_succ]; exact atI_lo r n i (by simpa using h) (by simpa [atI] using hi)
    · simp at hi
theorem atI_stop : ∀ (ns : List Int) (n : Int) (h : atI ns n < ns.length), ¬ ns[atI ns n] < n
  | [], _, h => by simp at h
  | a :: r, n, h => by
    by_cases ha : a < n
    · have e : atI (a :: r) n = atI r n + 1 := by unfold atI; rw [List.takeWhile_cons, if_pos (by simpa using ha)]; rfl
      have h2 : atI r n < r.length := by rw [e, List.length_cons] at h; omega
      have := atI_stop r n h2
      simp only [e, List.getElem_cons_succ]
      exact this
    · have e : atI (a :: r) n = 0 := by unfold atI; rw [List.takeWhile_cons, if_neg (by simpa using ha)]; rfl
      simp only [e, List.getElem_cons_zero]
      exact ha
theorem atI_of (ns : List Int) (n : Int) (k : Nat) (hk : k ≤ ns.length) (h1 : ∀ i (h : i < ns.length), i < k → ns[i] < n) (h2 : ∀ (h : k < ns.length), ¬ ns[k] < n) : atI ns n = k := by
  have h3 := atI_le ns n
  rcases Nat.lt_trichotomy (atI ns n) k with h | h | h
  · exact absurd (h1 _ (by omega) h) (atI_stop ns n (by omega))
  · exact h
  · exact absurd (atI_lo ns n k (by omega) h) (h2 (by omega))
theorem putI_mem (ns : List Int) (n x : Int) : x ∈ putI ns n ↔ x = n ∨ x ∈ ns := by
  unfold putI
  split
  · rename_i h
    have hn : n ∈ ns := List.mem_of_getElem? h
    exact ⟨.inr, fun h => by rcases h with rfl | h; exact hn; exact h⟩
  · rw [List.mem_append, List.mem_cons]
    constructor
    · rintro (h | h | h)
      · exact .inr (List.mem_of_mem_take h)
      · exact .inl h
      · exact .inr (List.mem_of_mem_drop h)
    · rintro (h | h)
      · exact .inr (.inl h)
      · rw [← List.take_append_drop (atI ns n) ns] at h
        rcases List.mem_append.1 h with h | h
        · exact .inl h
        · exact .inr (.inr h)
theorem putI_len (ns : List Int) (n : Int) : (putI ns n).length ≤ ns.length + 1 := by
  have := atI_le ns n
  unfold putI
  split
  · omega
  · simp; omega
/-- The two marks of a key. -/
def mk1 (key : ByteArray) : Int := ((dig 1 key.data.toList % 256 : Nat) : Int)
def mk2 (key : ByteArray) : Int := ((dig 1 (key.data.toList ++ [42]) % 256 : Nat) : Int)
def marksL (key : ByteArray) : List Int := putI [mk1 key] (mk2 key)
theorem mk1_in (key : ByteArray) : 0 ≤ mk1 key ∧ mk1 key < 256 := by unfold mk1; omega
theorem mk2_in (key : ByteArray) : 0 ≤ mk2 key ∧ mk2 key < 256 := by unfold mk2; omega
theorem marksL_mem (key : ByteArray) (x : Int) : x ∈ marksL key ↔ x = mk2 key ∨ x = mk1 key := by unfold marksL; rw [putI_mem]; simp
theorem marksL_len (key : ByteArray) : (marksL key).length ≤ 2 := putI_len _ _
def bitsTo (ns : List Int) (ms : List Int) : List Int := ms.foldl putI ns
/-- The marks of entries, rising. -/
def bitsL (es : List Ent) : List Int := es.foldl (fun b e => bitsTo b (marksL e.key)) []
theorem bitsTo_mem (ms : List Int) : ∀ (ns : List Int) (x : Int), x ∈ bitsTo ns ms ↔ x ∈ ns ∨ x ∈ ms := by
  unfold bitsTo
  induction ms with
  | nil => intro ns x; simp
  | cons m r ih => intro ns x; rw [List.foldl_cons, ih, putI_mem, List.mem_cons]; grind
theorem bitsF_mem (es : List Ent) : ∀ (ns : List Int) (x : Int), x ∈ es.foldl (fun b e => bitsTo b (marksL e.key)) ns ↔ x ∈ ns ∨ ∃ e ∈ es, x ∈ marksL e.key := by
  induction es with
  | nil => intro ns x; simp
  | cons e r ih =>
    intro ns x
    rw [List.foldl_cons, ih, bitsTo_mem]
    constructor
    · rintro ((h | h) | ⟨y, hy, h⟩)
      · exact .inl h
      · exact .inr ⟨e, List.mem_cons_self, h⟩
      · exact .inr ⟨y, List.mem_cons_of_mem _ hy, h⟩
    · rintro (h | ⟨y, hy, h⟩)
      · exact .inl (.inl h)
      · rcases List.mem_cons.1 hy with rfl | hy
        · exact .inl (.inr h)
        · exact .inr ⟨y, hy, h⟩
theorem bitsL_mem (es : List Ent) (x : Int) : x ∈ bitsL es ↔ ∃ e ∈ es, x ∈ marksL e.key := by unfold bitsL; rw [bitsF_mem]; simp
theorem bitsTo_len (ms : List Int) : ∀ ns : List Int, (bitsTo ns ms).length ≤ ns.length + ms.length := by
  unfold bitsTo
  induction ms with
  | nil => intro ns; simp
  | cons m r ih => intro ns; rw [List.foldl_cons]; have := ih (putI ns m); have := putI_len ns m; rw [List.length_cons]; omega
theorem bitsF_len (es : List Ent) : ∀ ns : List Int, (es.foldl (fun b e => bitsTo b (marksL e.key)) ns).length ≤ ns.length + 2 * es.length := by
  induction es with
  | nil => intro ns; simp
  | cons e r ih =>
    intro ns
    rw [List.foldl_cons, List.length_cons]
    have h1 := ih (bitsTo ns (marksL e.key))
    have h2 := bitsTo_len (marksL e.key) ns
    have h3 := marksL_len e.key
    omega
theorem bitsL_len (es : List Ent) : (bitsL es).length ≤ 2 * es.length := by have := bitsF_len es []; simpa [bitsL] using this
/-- A table. -/
structure Tbl where
  first : ByteArray
  last : ByteArray
  bits : List Int
  blocks : List ByteArray
deriving DecidableEq
def zeroT : Tbl := ⟨⟨#[]⟩, ⟨#[]⟩, [], []⟩
/-- The entries of some blocks, behind those in acc. -/
def allF : List ByteArray → List Ent → Option (List Ent)
  | [], acc => some acc
  | b :: r, acc => if (unpI b.data.toList).2 = true ∧ 1 ≤ (unpI b.data.toList).1.length ∧ (unpI b.data.toList).1.length ≤ 8 then allF r (acc ++ (unpI b.data.toList).1) else none
def allL (T : Tbl) : List Ent × Bool := if T.blocks.length < 1 ∨ 40 < T.blocks.length then ([], false) else match allF T.blocks [] with
  | none => ([], false)
  | some es => (es, okL es)
def tableOk (T : Tbl) : Bool := (allL T).2 && decide (T.first = (nth (allL T).1 0).key) && decide (T.last = (nth (allL T).1 ((allL T).1.length - 1)).key) && decide (T.bits = bitsL (allL T).1)
/-- Eight entries from number i on. -/
def chunk (es : List Ent) (i : Nat) : List Ent := (es.drop i).take 8
def blkF (es : List Ent) : Nat → Nat → List ByteArray
  | 0, _ => []
  | n + 1, i => ⟨(packA (chunk es i)).toArray⟩ :: blkF es n (i + 8)
def blksL (es : List Ent) : List ByteArray := blkF es ((es.length + 7) / 8) 0
/-- What is built of right entries. -/
def builtT (es : List Ent) : Tbl := ⟨(nth es 0).key, (nth es (es.length - 1)).key, bitsL es, blksL es⟩
def builtOk (es : List Ent) : Bool := okL es && !decide (es.length = 0)
def builtL (es : List Ent) : Tbl := if builtOk es = true then builtT es else zeroT
def entriesL (T : Tbl) : List Ent := if tableOk T = true then (allL T).1 else []
def mayL (T : Tbl) (key : ByteArray) : Bool := tableOk T && !kLt key T.first && !kLt T.last key && (marksL key).all (fun m => decide (m ∈ T.bits))
def foundL (T : Tbl) (key : ByteArray) (q : Int) : Option Ent := seenL (entriesL T) key q
theorem okL_sub {es fs : List Ent} (h : okL es = true) (hs : fs.Sublist es) : okL fs = true := by
  rw [okL_iff] at h ⊢
  exact ⟨Nat.le_trans hs.length_le h.1, fun e he => h.2.1 e (hs.subset he), h.2.2.sublist hs⟩
theorem chunk_ok {es : List Ent} (h : okL es = true) (i : Nat) : okL (chunk es i) = true := okL_sub h ((List.take_sublist _ _).trans (List.drop_sublist _ _))
theorem allF_blk {es : List Ent} (h : okL es = true) : ∀ (n i : Nat) (acc : List Ent), i + 8 * n < es.length + 8 → i ≤ es.length → es.length ≤ i + 8 * n → allF (blkF es n i) acc = some (acc ++ es.drop i)
  | 0, i, acc, _, _, h2 => by rw [blkF, allF, List.drop_eq_nil_of_le (by omega), List.append_nil]
  | n + 1, i, acc, h0, h1, h2 => by
    have hu : unpI (packA (chunk es i)) = (chunk es i, true) := unpI_pack (chunk_ok h i)
    have hl : (chunk es i).length = min 8 (es.length - i) := by unfold chunk; rw [List.length_take, List.length_drop]
    have hd : (⟨(packA (chunk es i)).toArray⟩ : ByteArray).data.toList = packA (chunk es i) := by simp
    rw [blkF, allF, hd, hu, if_pos ⟨rfl, by simp only; omega, by simp only; omega⟩]
    simp only
    by_cases hlast : es.length ≤ i + 8
    · have hn : n = 0 := by omega
      subst hn
      rw [blkF, allF]
      unfold chunk
      rw [List.take_of_length_le (by rw [List.length_drop]; omega)]
    · rw [allF_blk h n (i + 8) _ (by omega) (by omega) (by omega), List.append_assoc]
      unfold chunk
      rw [← List.drop_drop, List.take_append_drop]
theorem blkF_len (es : List Ent) : ∀ n i, (blkF es n i).length = n
  | 0, _ => rfl
  | n + 1, i => by rw [blkF, List.length_cons, blkF_len es n]
theorem all_built {es : List Ent} (h : builtOk es = true) : allL (builtT es) = (es, true) := by
  simp only [builtOk, Bool.and_eq_true, Bool.not_eq_true', decide_eq_false_iff_not] at h
  have hl := okL_len h.1
  unfold allL builtT blksL
  rw [if_neg (by rw [blkF_len]; omega), allF_blk h.1 _ 0 [] (by omega) (by omega) (by omega)]
  simp [h.1]
theorem built_ok {es : List Ent} (h : builtOk es = true) : tableOk (builtT es) = true := by
  unfold tableOk
  rw [all_built h]
  simp [builtT]
theorem built_entries {es : List Ent} (h : builtOk es = true) : entriesL (builtT es) = es := by
  unfold entriesL
  rw [if_pos (built_ok h), all_built h]
theorem tableOk_parts {T : Tbl} (h : tableOk T = true) : okL (entriesL T) = true ∧ entriesL T ≠ [] ∧ T.first = (nth (entriesL T) 0).key ∧ T.last = (nth (entriesL T) ((entriesL T).length - 1)).key ∧ T.bits = bitsL (entriesL T) := by
  have he : entriesL T = (allL T).1 := by unfold entriesL; rw [if_pos h]
  unfold tableOk at h
  simp only [Bool.and_eq_true, decide_eq_true_eq] at h
  obtain ⟨⟨⟨h1, h2⟩, h3⟩, h4⟩ := h
  rw [he]
  refine ⟨?_, ?_, h2, h3, h4⟩
  · unfold allL at h1 ⊢
    split at h1
    · cases h1
    · rename_i hb
      rw [if_neg hb]
      split at h1
      · cases h1
      · exact h1
  · intro hn
    unfold allL at h1 hn
    split at h1
    · cases h1
    · rename_i hb
      rw [if_neg hb] at hn
      split at h1
      · cases h1
      · rename_i es hes
        rw [hes] at hn
        simp only at hn
        subst hn
        obtain ⟨b, r, hbr⟩ : ∃ b r, T.blocks = b :: r := by
          cases hT : T.blocks with
          | nil => rw [hT] at hb; simp at hb
          | cons b r => exact ⟨b, r, rfl⟩
        rw [hbr, allF] at hes
        split at hes
        · rename_i hq
          have := allF_grow r _ _ hes
          rw [List.nil_append] at this
          simp at this
          rw [this] at hq
          simp at hq
        · cases hes
where
  allF_grow : ∀ (bs : List ByteArray) (acc es : List Ent), allF bs acc = some es → ∃ t, es = acc ++ t
    | [], acc, es, h => by rw [allF] at h; cases h; exact ⟨[], by simp⟩
    | b :: r, acc, es, h => by
      rw [allF] at h
      split at h
      · obtain ⟨t, ht⟩ := allF_grow r _ _ h; exact ⟨_, by rw [ht, List.append_assoc]⟩
      · cases h
/-- A key of a right table may be there. -/
theorem may_of {T : Tbl} (h : tableOk T = true) {e : Ent} (he : e ∈ entriesL T) : mayL T e.key = true := by
  obtain ⟨h1, h2, h3, h4, h5⟩ := tableOk_parts h
  obtain ⟨i, hi, rfl⟩ := List.getElem_of_mem he
  have hle : ∀ a b : Nat, a ≤ b → b < (entriesL T).length → kLt (nth (entriesL T) b).key (nth (entriesL T) a).key = false := by
    intro a b hab hb
    by_cases e : a = b
    · subst e; exact kLt_irrefl _
    · have := okL_ij h1 (show a < b by omega) hb
      rw [ahd_iff] at this
      rcases this with h | h
      · exact kLt_asymm h
      · rw [h.1]; exact kLt_irrefl _
  unfold mayL
  rw [h, h3, h4, ← nth_eq hi, hle 0 i (Nat.zero_le _) hi, hle i _ (by omega) (by omega)]
  simp only [Bool.not_false, Bool.and_true, Bool.true_and, List.all_eq_true, decide_eq_true_eq]
  intro m hm
  rw [h5, bitsL_mem]
  exact ⟨_, List.getElem_mem hi, by rw [← nth_eq hi]; exact hm⟩
theorem found_may {T : Tbl} {key : ByteArray} {q : Int} {e : Ent} (h : foundL T key q = some e) : mayL T key = true := by
  unfold foundL at h
  have h1 := seenL_some h
  have h2 : e ∈ entriesL T := List.mem_of_find?_eq_some h
  have h3 : tableOk T = true := by
    refine Decidable.byContradiction fun hn => ?_
    unfold entriesL at h2
    rw [if_neg hn] at h2
    cases h2
  have := may_of h3 h2
  rw [h1.1] at this
  exact this
theorem found_built {es : List Ent} (h : builtOk es = true) {e : Ent} (he : e ∈ es) : foundL (builtT es) e.key e.seq = some e := by
  unfold foundL
  rw [built_entries h]
  simp only [builtOk, Bool.and_eq_true] at h
  exact seen_mem h.1 he
end Go.Proofs.Ytjgcommffaplnaa
namespace Go.Proofs.Ytjgcommffaplnaa
/-- A word of the marks M: its bits from 64 * j on. -/
def mw (M j : Nat) : Nat := M / 2 ^ (64 * j) % 2 ^ 64
/-- One mark more. -/
def mset (M n : Nat) : Nat := M ||| 2 ^ n
theorem mw_lt (M j : Nat) : mw M j < 18446744073709551616 := Nat.mod_lt _ (by decide)
theorem mw_bit (M j i : Nat) : (mw M j).testBit i = (decide (i < 64) && M.testBit (64 * j + i)) := by
  unfold mw
  rw [Nat.testBit_mod_two_pow, Nat.testBit_div_two_pow, Nat.add_comm]
theorem mset_bit (M n i : Nat) : (mset M n).testBit i = (M.testBit i || decide (n = i)) := by
  unfold mset
  rw [Nat.testBit_or, Nat.testBit_two_pow]
theorem mset_lt {M n : Nat} (h : M < 2 ^ 256) (hn : n < 256) : mset M n < 2 ^ 256 := Nat.or_lt_two_pow h (Nat.pow_lt_pow_right (by omega) hn)
theorem mw_set_at {M n : Nat} : mw (mset M n) (n / 64) = mw M (n / 64) ||| 2 ^ (n % 64) := by
  apply Nat.eq_of_testBit_eq
  intro i
  rw [mw_bit, mset_bit, Nat.testBit_or, mw_bit, Nat.testBit_two_pow]
  by_cases hi : i < 64
  · simp only [hi, decide_true, Bool.true_and]
    congr 1
    apply decide_eq_decide.2
    omega
  · have : ¬ n % 64 = i := by omega
    simp [hi, this]
theorem mw_set_ne {M n j : Nat} (h : n / 64 ≠ j) : mw (mset M n) j = mw M j := by
  apply Nat.eq_of_testBit_eq
  intro i
  rw [mw_bit, mset_bit, mw_bit]
  by_cases hi : i < 64
  · have : ¬ n = 64 * j + i := by omega
    simp [this]
  · simp [hi]
theorem mw_ext {M N : Nat} (hM : M < 2 ^ 256) (hN : N < 2 ^ 256) (h0 : mw M 0 = mw N 0) (h1 : mw M 1 = mw N 1) (h2 : mw M 2 = mw N 2) (h3 : mw M 3 = mw N 3) : M = N := by
  apply Nat.eq_of_testBit_eq
  intro i
  by_cases hi : i < 256
  · have hj : ∀ j, mw M j = mw N j → i / 64 = j → M.testBit i = N.testBit i := by
      intro j hj e
      have := congrArg (fun x => x.testBit (i % 64)) hj
      simp only [mw_bit] at this
      have h64 : i % 64 < 64 := Nat.mod_lt _ (by omega)
      have e2 : 64 * j + i % 64 = i := by omega
      rw [e2] at this
      simpa [h64] using this
    have : i / 64 = 0 ∨ i / 64 = 1 ∨ i / 64 = 2 ∨ i / 64 = 3 := by omega
    rcases this with e | e | e | e
    · exact hj 0 h0 e
    · exact hj 1 h1 e
    · exact hj 2 h2 e
    · exact hj 3 h3 e
  · rw [Nat.testBit_lt_two_pow (Nat.lt_of_lt_of_le hM (Nat.pow_le_pow_right (by omega) (by omega))), Nat.testBit_lt_two_pow (Nat.lt_of_lt_of_le hN (Nat.pow_le_pow_right (by omega) (by omega)))]
theorem mset_same {M n : Nat} : M = mset M n ↔ M.testBit n = true := by
  constructor
  · intro h; rw [h, mset_bit]; simp
  · intro h
    apply Nat.eq_of_testBit_eq
    intro i
    rw [mset_bit]
    by_cases e : n = i
    · subst e; simp [h]
    · simp [e]
/-- The marks of some numbers. -/
def mOf (ns : List Int) : Nat := ns.foldl (fun M n => mset M n.toNat) 0
def okM (ns : List Int) : Prop := ∀ n ∈ ns, 0 ≤ n ∧ n < 256
theorem mF_bit (ns : List Int) (h : okM ns) : ∀ (M i : Nat), (ns.foldl (fun M n => mset M n.toNat) M).testBit i = true ↔ M.testBit i = true ∨ (i : Int) ∈ ns := by
  induction ns with
  | nil => intro M i; simp
  | cons n r ih =>
    intro M i
    have hn := h n List.mem_cons_self
    rw [List.foldl_cons, ih (fun x hx => h x (List.mem_cons_of_mem _ hx)), mset_bit, List.mem_cons, Bool.or_eq_true, decide_eq_true_eq]
    constructor
    · rintro ((h | h) | h)
      · exact .inl h
      · exact .inr (.inl (by omega))
      · exact .inr (.inr h)
    · rintro (h | h | h)
      · exact .inl (.inl h)
      · exact .inl (.inr (by omega))
      · exact .inr h
theorem mOf_bit {ns : List Int} (h : okM ns) (i : Nat) : (mOf ns).testBit i = true ↔ (i : Int) ∈ ns := by
  unfold mOf
  rw [mF_bit ns h]
  simp
theorem mF_lt (ns : List Int) (h : okM ns) : ∀ M, M < 2 ^ 256 → ns.foldl (fun M n => mset M n.toNat) M < 2 ^ 256 := by
  induction ns with
  | nil => intro M hM; exact hM
  | cons n r ih =>
    intro M hM
    have hn := h n List.mem_cons_self
    rw [List.foldl_cons]
    exact ih (fun x hx => h x (List.mem_cons_of_mem _ hx)) _ (mset_lt hM (by omega))
theorem mOf_lt {ns : List Int} (h : okM ns) : mOf ns < 2 ^ 256 := mF_lt ns h 0 (by decide)
/-- Rising lists with the same members are alike. -/
theorem rise_ext : ∀ (a b : List Int), a.Pairwise (· < ·) → b.Pairwise (· < ·) → (∀ x, x ∈ a ↔ x ∈ b) → a = b
  | [], b, _, _, h => by
    cases b with
    | nil => rfl
    | cons y s => have := (h y).2 List.mem_cons_self; cases this
  | x :: r, [], _, _, h => by have := (h x).1 List.mem_cons_self; cases this
  | x :: r, y :: s, ha, hb, h => by
    rw [List.pairwise_cons] at ha hb
    have hxy : x = y := by
      have h1 := (h x).1 List.mem_cons_self
      have h2 := (h y).2 List.mem_cons_self
      rcases List.mem_cons.1 h1 with e | h1
      · exact e
      · rcases List.mem_cons.1 h2 with e | h2
        · exact e.symm
        · have := hb.1 x h1; have := ha.1 y h2; omega
    subst hxy
    rw [rise_ext r s ha.2 hb.2]
    intro z
    have := h z
    rw [List.mem_cons, List.mem_cons] at this
    constructor
    · intro hz
      rcases this.1 (.inr hz) with e | e
      · have := ha.1 z hz; omega
      · exact e
    · intro hz
      rcases this.2 (.inr hz) with e | e
      · have := hb.1 z hz; omega
      · exact e
/-- The numbers of some marks, from number k on, g of them looked at. -/
def bitsOf (M : Nat) : Nat → Nat → List Int
  | 0, _ => []
  | g + 1, k => if M.testBit k = true then (k : Int) :: bitsOf M g (k + 1) else bitsOf M g (k + 1)
theorem bitsOf_mem (M : Nat) : ∀ (g k : Nat) (x : Int), x ∈ bitsOf M g k ↔ ∃ i : Nat, k ≤ i ∧ i < k + g ∧ x = (i : Int) ∧ M.testBit i = true
  | 0, k, x => by rw [bitsOf]; constructor; (intro h; cases h); (rintro ⟨i, h1, h2, _⟩; omega)
  | g + 1, k, x => by
    rw [bitsOf]
    have ih := bitsOf_mem M g (k + 1) x
    have key : (∃ i : Nat, k ≤ i ∧ i < k + (g + 1) ∧ x = (i : Int) ∧ M.testBit i = true) ↔ (x = (k : Int) ∧ M.testBit k = true) ∨ x ∈ bitsOf M g (k + 1) := by
      rw [ih]
      constructor
      · rintro ⟨i, h1, h2, h3, h4⟩
        by_cases e : i = k
        · subst e; exact .inl ⟨h3, h4⟩
        · exact .inr ⟨i, by omega, by omega, h3, h4⟩
      · rintro (⟨h1, h2⟩ | ⟨i, h1, h2, h3, h4⟩)
        · exact ⟨k, by omega, by omega, h1, h2⟩
        · exact ⟨i, by omega, by omega, h3, h4⟩
    rw [key]
    by_cases hb : M.testBit k = true
    · rw [if_pos hb, List.mem_cons]; simp [hb]
    · rw [if_neg hb]; simp [hb]
theorem bitsOf_rise (M : Nat) : ∀ (g k : Nat), (bitsOf M g k).Pairwise (· < ·)
  | 0, k => by rw [bitsOf]; exact List.Pairwise.nil
  | g + 1, k => by
    rw [bitsOf]
    split
    · refine List.pairwise_cons.2 ⟨fun x hx => ?_, bitsOf_rise M g (k + 1)⟩
      obtain ⟨i, h1, h2, rfl, _⟩ := (bitsOf_mem M g (k + 1) x).1 hx
      omega
    · exact bitsOf_rise M g (k + 1)
theorem bitsOf_len (M : Nat) : ∀ (g k : Nat), (bitsOf M g k).length ≤ g
  | 0, k => by rw [bitsOf]; simp
  | g + 1, k => by
    have := bitsOf_len M g (k + 1)
    rw [bitsOf]
    split
    · rw [List.length_cons]; omega
    · omega
theorem bitsOf_mOf {ns : List Int} (h : okM ns) (hr : ns.Pairwise (· < ·)) : bitsOf (mOf ns) 256 0 = ns := by
  refine rise_ext _ _ (bitsOf_rise _ _ _) hr fun x => ?_
  rw [bitsOf_mem]
  constructor
  · rintro ⟨i, _, _, rfl, hb⟩
    exact (mOf_bit h i).1 hb
  · intro hx
    have := h x hx
    refine ⟨x.toNat, by omega, by omega, by omega, (mOf_bit h _).2 ?_⟩
    rw [Int.toNat_of_nonneg this.1]
    exact hx
/-- The numbers rise from behind 'a' on and are below 256. -/
def riseFrom : Int → List Int → Bool
  | _, [] => true
  | a, n :: r => !(decide (n ≤ a) || decide (256 ≤ n)) && riseFrom n r
theorem riseFrom_iff : ∀ (ns : List Int) (a : Int), riseFrom a ns = true ↔ (∀ n ∈ ns, a < n ∧ n < 256) ∧ ns.Pairwise (· < ·)
  | [], a => by simp [riseFrom]
  | n :: r, a => by
    rw [riseFrom, Bool.and_eq_true, riseFrom_iff r n, List.pairwise_cons]
    simp only [Bool.not_eq_true', Bool.or_eq_false_iff, decide_eq_false_iff_not, List.mem_cons]
    constructor
    · rintro ⟨⟨h1, h2⟩, h3, h4⟩
      refine ⟨?_, fun x hx => (h3 x hx).1, h4⟩
      rintro x (rfl | hx)
      · omega
      · have := h3 x hx; omega
    · rintro ⟨h1, h2, h3⟩
      have := h1 n (.inl rfl)
      refine ⟨⟨by omega, by omega⟩, fun x hx => ⟨h2 x hx, (h1 x (.inr hx)).2⟩, h3⟩
/-- What the program's marksOfBits answers. -/
def mBits (ns : List Int) : Nat := if riseFrom (-1) ns = true then mOf ns else 0
theorem mBits_eq {ns bs : List Int} (h : okM bs) (hr : bs.Pairwise (· < ·)) (h0 : bs ≠ []) : mBits ns = mOf bs ↔ ns = bs := by
  constructor
  · intro e
    unfold mBits at e
    split at e
    · rename_i hn
      rw [riseFrom_iff] at hn
      have hn1 : okM ns := fun n hm => ⟨by have := (hn.1 n hm).1; omega, (hn.1 n hm).2⟩
      rw [← bitsOf_mOf hn1 hn.2, e, bitsOf_mOf h hr]
    · exfalso
      cases bs with
      | nil => exact h0 rfl
      | cons b r =>
        have hb := h b List.mem_cons_self
        have := (mOf_bit h b.toNat).2 (by rw [Int.toNat_of_nonneg hb.1]; exact List.mem_cons_self)
        rw [← e] at this
        simp at this
  · rintro rfl
    unfold mBits
    rw [if_pos]
    rw [riseFrom_iff]
    exact ⟨fun n hm => ⟨by have := (h n hm).1; omega, (h n hm).2⟩, hr⟩
theorem putI_rise {ns : List Int} (h : ns.Pairwise (· < ·)) (n : Int) : (putI ns n).Pairwise (· < ·) := by
  unfold putI
  split
  · exact h
  · rename_i hne
    rw [List.pairwise_append, List.pairwise_cons]
    have hlt : ∀ x ∈ ns.take (atI ns n), x < n := by
      intro x hx
      obtain ⟨i, hi, rfl⟩ := List.getElem_of_mem hx
      rw [List.length_take] at hi
      rw [List.getElem_take]
      exact atI_lo ns n i (by omega) (by omega)
    have hgt : ∀ x ∈ ns.drop (atI ns n), n < x := by
      intro x hx
      obtain ⟨i, hi, rfl⟩ := List.getElem_of_mem hx
      rw [List.length_drop] at hi
      rw [List.getElem_drop]
      have h0 : atI ns n < ns.length := by omega
      have h1 := atI_stop ns n h0
      have h2 : ns[atI ns n] ≠ n := by
        intro e
        exact hne (by rw [List.getElem?_eq_getElem h0, e])
      by_cases hz : i = 0
      · subst hz; simp only [Nat.add_zero]; omega
      · have := List.pairwise_iff_getElem.1 h (atI ns n) (atI ns n + i) h0 (by omega) (by omega)
        omega
    refine ⟨h.sublist (List.take_sublist _ _), ⟨hgt, h.sublist (List.drop_sublist _ _)⟩, ?_⟩
    intro a ha b hb
    rcases List.mem_cons.1 hb with rfl | hb
    · exact hlt a ha
    · have := hlt a ha; have := hgt b hb; omega
theorem bitsTo_rise (ms : List Int) : ∀ {ns : List Int}, ns.Pairwise (· < ·) → (bitsTo ns ms).Pairwise (· < ·) := by
  unfold bitsTo
  induction ms with
  | nil => intro ns h; exact h
  | cons m r ih => intro ns h; rw [List.foldl_cons]; exact ih (putI_rise h m)
theorem bitsF_rise (es : List Ent) : ∀ {ns : List Int}, ns.Pairwise (· < ·) → (es.foldl (fun b e => bitsTo b (marksL e.key)) ns).Pairwise (· < ·) := by
  induction es with
  | nil => intro ns h; exact h
  | cons e r ih => intro ns h; rw [List.foldl_cons]; exact ih (bitsTo_rise _ h)
theorem bitsL_rise (es : List Ent) : (bitsL es).Pairwise (· < ·) := bitsF_rise es List.Pairwise.nil
theorem bitsL_okM (es : List Ent) : okM (bitsL es) := by
  intro n hn
  obtain ⟨e, _, h⟩ := (bitsL_mem es n).1 hn
  rcases (marksL_mem e.key n).1 h with rfl | rfl
  · exact mk2_in e.key
  · exact mk1_in e.key
theorem bitsL_ne {es : List Ent} (h : es ≠ []) : bitsL es ≠ [] := by
  cases es with
  | nil => exact absurd rfl h
  | cons e r =>
    intro hn
    have := (bitsL_mem (e :: r) (mk1 e.key)).2 ⟨e, List.mem_cons_self, (marksL_mem _ _).2 (.inr rfl)⟩
    rw [hn] at this
    cases this
/-- A key's two marks among the others. -/
def mkey (M : Nat) (key : ByteArray) : Nat := mset (mset M (dig 1 key.data.toList % 256)) (dig 1 (key.data.toList ++ [42]) % 256)
theorem mkey_lt {M : Nat} (h : M < 2 ^ 256) (key : ByteArray) : mkey M key < 2 ^ 256 := mset_lt (mset_lt h (Nat.mod_lt _ (by omega))) (Nat.mod_lt _ (by omega))
theorem mkey_bit (M : Nat) (key : ByteArray) (i : Nat) : (mkey M key).testBit i = true ↔ M.testBit i = true ∨ (i : Int) ∈ marksL key := by
  unfold mkey
  rw [mset_bit, mset_bit, marksL_mem]
  unfold mk1 mk2
  simp only [Bool.or_eq_true, decide_eq_true_eq]
  constructor
  · rintro ((h | h) | h)
    · exact .inl h
    · exact .inr (.inr (by omega))
    · exact .inr (.inl (by omega))
  · rintro (h | h | h)
    · exact .inl (.inl h)
    · exact .inr (by omega)
    · exact .inl (.inr (by omega))
/-- The marks of entries' keys, as the program has them. -/
def mKeys (es : List Ent) : Nat := es.foldl (fun M e => mkey M e.key) 0
theorem mKF_bit (es : List Ent) : ∀ (M i : Nat), (es.foldl (fun M e => mkey M e.key) M).testBit i = true ↔ M.testBit i = true ∨ ∃ e ∈ es, (i : Int) ∈ marksL e.key := by
  induction es with
  | nil => intro M i; simp
  | cons e r ih =>
    intro M i
    rw [List.foldl_cons, ih, mkey_bit]
    constructor
    · rintro ((h | h) | ⟨y, hy, h⟩)
      · exact .inl h
      · exact .inr ⟨e, List.mem_cons_self, h⟩
      · exact .inr ⟨y, List.mem_cons_of_mem _ hy, h⟩
    · rintro (h | ⟨y, hy, h⟩)
      · exact .inl (.inl h)
      · rcases List.mem_cons.1 hy with rfl | hy
        · exact .inl (.inr h)
        · exact .inr ⟨y, hy, h⟩
theorem mKeys_eq (es : List Ent) : mKeys es = mOf (bitsL es) := by
  apply Nat.eq_of_testBit_eq
  intro i
  rw [Bool.eq_iff_iff, mOf_bit (bitsL_okM es), bitsL_mem]
  unfold mKeys
  rw [mKF_bit]
  simp
theorem mKeys_lt (es : List Ent) : mKeys es < 2 ^ 256 := by rw [mKeys_eq]; exact mOf_lt (bitsL_okM es)
theorem bits_of_keys (es : List Ent) : bitsOf (mKeys es) 256 0 = bitsL es := by rw [mKeys_eq, bitsOf_mOf (bitsL_okM es) (bitsL_rise es)]
theorem mBits_keys {ns : List Int} {es : List Ent} (h : es ≠ []) : mBits ns = mKeys es ↔ ns = bitsL es := by rw [mKeys_eq]; exact mBits_eq (bitsL_okM es) (bitsL_rise es) (bitsL_ne h)
theorem mBits_lt (ns : List Int) : mBits ns < 2 ^ 256 := by
  unfold mBits
  split
  · rename_i h
    rw [riseFrom_iff] at h
    exact mOf_lt fun n hm => ⟨by have := (h.1 n hm).1; omega, (h.1 n hm).2⟩
  · decide
theorem mkey_same {M : Nat} {key : ByteArray} : M = mkey M key ↔ ∀ m ∈ marksL key, ∃ i : Nat, m = (i : Int) ∧ M.testBit i = true := by
  constructor
  · intro h m hm
    have h0 : 0 ≤ m := by
      rcases (marksL_mem key m).1 hm with rfl | rfl
      · exact (mk2_in key).1
      · exact (mk1_in key).1
    refine ⟨m.toNat, by omega, ?_⟩
    rw [h, mkey_bit]
    right
    rw [Int.toNat_of_nonneg h0]
    exact hm
  · intro h
    apply Nat.eq_of_testBit_eq
    intro i
    rw [Bool.eq_iff_iff, mkey_bit]
    constructor
    · exact .inl
    · rintro (h1 | h1)
      · exact h1
      · obtain ⟨j, hj, hb⟩ := h _ h1
        have : i = j := by omega
        rw [this]; exact hb
theorem may_bits {T : Tbl} (h : tableOk T = true) (key : ByteArray) : (decide (mBits T.bits = mkey (mBits T.bits) key)) = (marksL key).all (fun m => decide (m ∈ T.bits)) := by
  obtain ⟨_, h2, _, _, h5⟩ := tableOk_parts h
  have e : mBits T.bits = mOf T.bits := by rw [h5]; exact (mBits_eq (bitsL_okM _) (bitsL_rise _) (bitsL_ne h2)).2 rfl
  have ok : okM T.bits := by rw [h5]; exact bitsL_okM _
  rw [e, Bool.eq_iff_iff, decide_eq_true_eq, mkey_same, List.all_eq_true]
  constructor
  · intro hm m hmm
    obtain ⟨i, rfl, hb⟩ := hm m hmm
    exact decide_eq_true ((mOf_bit ok i).1 hb)
  · intro hm m hmm
    have h1 := of_decide_eq_true (hm m hmm)
    have h0 := (ok m h1).1
    refine ⟨m.toNat, by omega, (mOf_bit ok _).2 ?_⟩
    rw [Int.toNat_of_nonneg h0]
    exact h1
end Go.Proofs.Ytjgcommffaplnaa
