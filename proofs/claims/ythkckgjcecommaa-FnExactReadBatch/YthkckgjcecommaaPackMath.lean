/- Plain facts on packing: what two texts begin with alike, how entries are written leaning on the key ahead, how they are read, and that what is read is what is written; no function of the program is walked here. -/
import Derived.Test.YthkckgjcecommaaMath1
import Derived.Test.YthkckgjcecommaaEntMath
namespace Go.Proofs.Ythkckgjcecommaa
/-- How many bytes two rows begin with alike. -/
def comB : List UInt8 → List UInt8 → Nat
  | a :: x, b :: y => if a = b then comB x y + 1 else 0
  | [], _ => 0
  | _ :: _, [] => 0
theorem comB_le : ∀ x y : List UInt8, comB x y ≤ x.length ∧ comB x y ≤ y.length
  | [], _ => by simp [comB]
  | _ :: _, [] => by simp [comB]
  | a :: x, b :: y => by
    have := comB_le x y
    rw [comB]
    split
    · simp only [List.length_cons]; omega
    · simp
theorem comB_take : ∀ x y : List UInt8, x.take (comB x y) = y.take (comB x y)
  | [], _ => by simp [comB]
  | _ :: _, [] => by simp [comB]
  | a :: x, b :: y => by
    rw [comB]
    split
    · rename_i h; subst h; rw [List.take_succ_cons, List.take_succ_cons, comB_take x y]
    · simp
theorem comB_stop : ∀ x y : List UInt8, ∀ (h : comB x y < x.length) (k : comB x y < y.length), x[comB x y] ≠ y[comB x y]
  | [], _, h, _ => by simp at h
  | _ :: _, [], _, k => by simp at k
  | a :: x, b :: y, h, k => by
    by_cases e : a = b
    · have hc : comB (a :: x) (b :: y) = comB x y + 1 := by rw [comB, if_pos e]
      simp only [hc, List.getElem_cons_succ]
      exact comB_stop x y (by rw [hc, List.length_cons] at h; omega) (by rw [hc, List.length_cons] at k; omega)
    · have hc : comB (a :: x) (b :: y) = 0 := by rw [comB, if_neg e]
      simp only [hc, List.getElem_cons_zero]
      exact e
theorem comB_end {x y : List UInt8} {k : Nat} (h : x.length ≤ k ∨ y.length ≤ k) : comB (x.drop k) (y.drop k) = 0 := by
  rcases h with h | h
  · rw [List.drop_eq_nil_of_le h]; simp [comB]
  · rw [List.drop_eq_nil_of_le h]; cases x.drop k <;> simp [comB]
theorem comB_ne {x y : List UInt8} {k : Nat} (h1 : k < x.length) (h2 : k < y.length) (h : x[k] ≠ y[k]) : comB (x.drop k) (y.drop k) = 0 := by
  rw [List.drop_eq_getElem_cons h1, List.drop_eq_getElem_cons h2, comB, if_neg h]
theorem comB_eq {x y : List UInt8} {k : Nat} (h1 : k < x.length) (h2 : k < y.length) (h : x[k] = y[k]) : comB (x.drop k) (y.drop k) = comB (x.drop (k + 1)) (y.drop (k + 1)) + 1 := by
  rw [List.drop_eq_getElem_cons h1, List.drop_eq_getElem_cons h2, comB, if_pos h]
/-- How many bytes two texts begin with alike. -/
def com (a b : ByteArray) : Nat := comB a.data.toList b.data.toList
theorem com_le (a b : ByteArray) : com a b ≤ a.size ∧ com a b ≤ b.size := by
  have := comB_le a.data.toList b.data.toList
  rw [size_length, size_length] at this
  exact this
/-- Number and Gone of an entry, in one number. -/
def stp (e : Ent) : Nat := 2 * e.seq.toNat + (if e.gone = true then 1 else 0)
/-- An entry as it is written behind a key. -/
def packE (last : ByteArray) (e : Ent) : List UInt8 :=
  enc (com last e.key) ++ ((enc (e.key.size - com last e.key) ++ e.key.data.toList.drop (com last e.key)) ++ (enc (stp e) ++ (enc e.val.size ++ e.val.data.toList)))
/-- The key ahead, where one counts: each eighth leans on none. -/
def ahead (i : Nat) (last : ByteArray) : ByteArray := if i % 8 = 0 then ⟨#[]⟩ else last
/-- Entries as they are written from number i on. -/
def packF : Nat → ByteArray → List Ent → List UInt8
  | _, _, [] => []
  | i, last, e :: r => packE (ahead i last) e ++ packF (i + 1) e.key r
def packA (es : List Ent) : List UInt8 := enc es.length ++ packF 0 ⟨#[]⟩ es
/-- What Packed makes. -/
def packL (es : List Ent) : List UInt8 := if okL es = true then packA es else []
theorem packF_at {es : List Ent} {k : Nat} (h : k < es.length) (last : ByteArray) : packF k last (es.drop k) = packE (ahead k last) (nth es k) ++ packF (k + 1) (nth es k).key (es.drop (k + 1)) := by
  rw [List.drop_eq_getElem_cons h, packF, nth_eq h]
theorem packF_end (es : List Ent) (last : ByteArray) : packF es.length last (es.drop es.length) = [] := by
  rw [List.drop_eq_nil_of_le (Nat.le_refl _), packF]
theorem okE_parts {e : Ent} (h : okE e = true) : 1 ≤ e.key.size ∧ e.key.size ≤ 40 ∧ e.val.size ≤ 200 ∧ 1 ≤ e.seq ∧ e.seq ≤ 1000000 := by
  simp only [okE, Bool.and_eq_true, decide_eq_true_eq] at h
  obtain ⟨⟨⟨⟨⟨h1, h2⟩, h3⟩, _⟩, h5⟩, h6⟩ := h
  exact ⟨h1, h2, h3, h5, h6⟩
theorem stp_le {e : Ent} (h : okE e = true) : stp e ≤ 2000001 := by
  have := okE_parts h
  unfold stp
  split <;> omega
theorem packE_len {last : ByteArray} {e : Ent} (h : okE e = true) : (packE last e).length ≤ 300 := by
  have hp := okE_parts h
  have hs := stp_le h
  have hc := com_le last e.key
  have h1 := enc_len9 (com last e.key) (by omega)
  have h2 := enc_len9 (e.key.size - com last e.key) (by omega)
  have h3 := enc_len9 (stp e) (by omega)
  have h4 := enc_len9 e.val.size (by omega)
  unfold packE
  simp only [List.length_append, List.length_drop, size_length]
  omega
/-- An entry that can be packed, right or not. -/
def PkE (e : Ent) : Prop := e.key.size ≤ 1000 ∧ e.val.size ≤ 1000 ∧ 0 ≤ e.seq ∧ e.seq ≤ 1000000000
theorem okE_pk {e : Ent} (h : okE e = true) : PkE e := by
  have := okE_parts h
  exact ⟨by omega, by omega, by omega, by omega⟩
theorem stpP_le {e : Ent} (h : PkE e) : stp e ≤ 2000000001 := by
  obtain ⟨_, _, _, _⟩ := h
  unfold stp
  split <;> omega
theorem packF_len : ∀ (es : List Ent) (i : Nat) (last : ByteArray), (∀ e ∈ es, okE e = true) → (packF i last es).length ≤ 300 * es.length
  | [], _, _, _ => by simp [packF]
  | e :: r, i, last, h => by
    have h1 := packE_len (last := ahead i last) (h e List.mem_cons_self)
    have h2 := packF_len r (i + 1) e.key (fun x hx => h x (List.mem_cons_of_mem _ hx))
    rw [packF, List.length_append, List.length_cons]
    omega
theorem okL_all {es : List Ent} (h : okL es = true) : ∀ e ∈ es, okE e = true := ((okL_iff es).1 h).2.1
theorem packA_len {es : List Ent} (h : okL es = true) : (packA es).length ≤ 90009 := by
  have h1 := packF_len es 0 ⟨#[]⟩ (okL_all h)
  have h2 := okL_len h
  have h3 := enc_len9 es.length (by omega)
  unfold packA
  rw [List.length_append]
  omega
theorem packL_len (es : List Ent) : (packL es).length ≤ 90009 := by
  unfold packL
  split
  · rename_i h; exact packA_len h
  · simp
/-- The entry with which the bytes go on behind a key, and how many bytes it takes; with chk only one that is written so. -/
def rdEnt (chk : Bool) (last : ByteArray) (bs : List UInt8) : Option (Ent × Nat) :=
  if (rdNum bs).2 = 0 ∨ last.size < (rdNum bs).1 ∨ (rdText (bs.drop (rdNum bs).2)).2 = 0 then none
  else if chk = true ∧ com last ⟨(last.data.toList.take (rdNum bs).1 ++ (rdText (bs.drop (rdNum bs).2)).1).toArray⟩ ≠ (rdNum bs).1 then none
  else if (rdNum (bs.drop ((rdNum bs).2 + (rdText (bs.drop (rdNum bs).2)).2))).2 = 0 ∨ (rdText (bs.drop ((rdNum bs).2 + (rdText (bs.drop (rdNum bs).2)).2 + (rdNum (bs.drop ((rdNum bs).2 + (rdText (bs.drop (rdNum bs).2)).2))).2))).2 = 0 then none
  else some (⟨⟨(last.data.toList.take (rdNum bs).1 ++ (rdText (bs.drop (rdNum bs).2)).1).toArray⟩,
    ⟨(rdText (bs.drop ((rdNum bs).2 + (rdText (bs.drop (rdNum bs).2)).2 + (rdNum (bs.drop ((rdNum bs).2 + (rdText (bs.drop (rdNum bs).2)).2))).2))).1.toArray⟩,
    (((rdNum (bs.drop ((rdNum bs).2 + (rdText (bs.drop (rdNum bs).2)).2))).1 / 2 : Nat) : Int), decide ((rdNum (bs.drop ((rdNum bs).2 + (rdText (bs.drop (rdNum bs).2)).2))).1 % 2 = 1)⟩,
    (rdNum bs).2 + (rdText (bs.drop (rdNum bs).2)).2 + (rdNum (bs.drop ((rdNum bs).2 + (rdText (bs.drop (rdNum bs).2)).2))).2 + (rdText (bs.drop ((rdNum bs).2 + (rdText (bs.drop (rdNum bs).2)).2 + (rdNum (bs.drop ((rdNum bs).2 + (rdText (bs.drop (rdNum bs).2)).2))).2))).2)
/-- The same over its parts, each under a name. -/
def rdParts (chk : Bool) (last : ByteArray) (a : Nat × Nat) (t : List UInt8 × Nat) (s : Nat × Nat) (v : List UInt8 × Nat) : Option (Ent × Nat) :=
  if a.2 = 0 ∨ last.size < a.1 ∨ t.2 = 0 then none
  else if chk = true ∧ com last ⟨(last.data.toList.take a.1 ++ t.1).toArray⟩ ≠ a.1 then none
  else if s.2 = 0 ∨ v.2 = 0 then none
  else some (⟨⟨(last.data.toList.take a.1 ++ t.1).toArray⟩, ⟨v.1.toArray⟩, ((s.1 / 2 : Nat) : Int), decide (s.1 % 2 = 1)⟩, a.2 + t.2 + s.2 + v.2)
theorem rdEnt_parts (chk : Bool) (last : ByteArray) (bs : List UInt8) (a : Nat × Nat) (t : List UInt8 × Nat) (s : Nat × Nat) (v : List UInt8 × Nat) (ha : rdNum bs = a) (ht : rdText (bs.drop a.2) = t) (hs : rdNum (bs.drop (a.2 + t.2)) = s) (hv : rdText (bs.drop (a.2 + t.2 + s.2)) = v) :
    rdEnt chk last bs = rdParts chk last a t s v := by
  subst ha; subst ht; subst hs; subst hv; rfl
theorem rdText_list (l r : List UInt8) (h : l.length ≤ 3000) : rdText ((enc l.length ++ l) ++ r) = (l, (enc l.length ++ l).length) := by
  have := rdText_enc ⟨l.toArray⟩ r (by show l.toArray.size ≤ 3000; simpa using h)
  simpa [ByteArray.size] using this
theorem drop_pre {a b : List UInt8} : (a ++ b).drop a.length = b := List.drop_left
/-- An entry that is written is read. -/
theorem rdEnt_pack (chk : Bool) (last : ByteArray) (e : Ent) (r : List UInt8) (h : okE e = true) : rdEnt chk last (packE last e ++ r) = some (e, (packE last e).length) := by
  have hp := okE_parts h
  have hs := stp_le h
  have hc := com_le last e.key
  have hkl := size_length e.key
  have hvl := size_length e.val
  obtain ⟨c, hcd⟩ : ∃ c, com last e.key = c := ⟨_, rfl⟩
  obtain ⟨l, hl⟩ : ∃ l, e.key.data.toList.drop c = l := ⟨_, rfl⟩
  have hll : l.length = e.key.size - c := by rw [← hl, List.length_drop, hkl]
  have hE : packE last e = enc c ++ ((enc l.length ++ l) ++ (enc (stp e) ++ (enc e.val.size ++ e.val.data.toList))) := by
    unfold packE; rw [hcd, hl, hll]
  rw [hcd] at hc
  have hb0 : packE last e ++ r = enc c ++ ((enc l.length ++ l) ++ (enc (stp e) ++ ((enc e.val.size ++ e.val.data.toList) ++ r))) := by rw [hE]; simp only [List.append_assoc]
  have ha := rdNum_enc c ((enc l.length ++ l) ++ (enc (stp e) ++ ((enc e.val.size ++ e.val.data.toList) ++ r))) (by omega)
  have ht := rdText_list l (enc (stp e) ++ ((enc e.val.size ++ e.val.data.toList) ++ r)) (by omega)
  have hst := rdNum_enc (stp e) ((enc e.val.size ++ e.val.data.toList) ++ r) (by omega)
  have hv := rdText_enc e.val r (by omega)
  rw [hb0]
  rw [rdEnt_parts chk last _ (c, (enc c).length) (l, (enc l.length ++ l).length) (stp e, (enc (stp e)).length) (e.val.data.toList, (enc e.val.size ++ e.val.data.toList).length) ha (by rw [drop_pre]; exact ht) (by rw [← List.drop_drop, drop_pre, drop_pre]; exact hst) (by rw [← List.drop_drop, ← List.drop_drop, drop_pre, drop_pre, drop_pre]; exact hv)]
  have hkey : (⟨(last.data.toList.take c ++ l).toArray⟩ : ByteArray) = e.key := by
    have ht := comB_take last.data.toList e.key.data.toList
    have : com last e.key = comB last.data.toList e.key.data.toList := rfl
    rw [← this, hcd] at ht
    rw [ht, ← hl, List.take_append_drop]
  have p1 := enc_pos c
  have p2 := enc_pos l.length
  have p3 := enc_pos (stp e)
  have p4 := enc_pos e.val.size
  unfold rdParts
  simp only [hkey]
  rw [if_neg (by simp only [List.length_append]; omega), if_neg (by rw [hcd]; simp), if_neg (by simp only [List.length_append]; omega), back, hE]
  have h2 : (((stp e / 2 : Nat) : Int)) = e.seq := by unfold stp; split <;> omega
  have h3 : decide (stp e % 2 = 1) = e.gone := by
    unfold stp
    cases hg : e.gone with
    | true => rw [if_pos rfl]; exact decide_eq_true (by omega)
    | false => rw [if_neg (by simp)]; exact decide_eq_false (by omega)
  rw [h2, h3]
  simp only [List.length_append, Nat.add_assoc]
/-- What is read as an entry that is written so is what it is written as. -/
theorem rdEnt_back (last : ByteArray) (bs : List UInt8) (e : Ent) (k : Nat) (h : rdEnt true last bs = some (e, k)) : bs.take k = packE last e ∧ k = (packE last e).length ∧ k ≤ bs.length := by
  obtain ⟨a, ha⟩ : ∃ a, rdNum bs = a := ⟨_, rfl⟩
  obtain ⟨t, ht⟩ : ∃ t, rdText (bs.drop a.2) = t := ⟨_, rfl⟩
  obtain ⟨s, hs⟩ : ∃ s, rdNum (bs.drop (a.2 + t.2)) = s := ⟨_, rfl⟩
  obtain ⟨v, hv⟩ : ∃ v, rdText (bs.drop (a.2 + t.2 + s.2)) = v := ⟨_, rfl⟩
  rw [rdEnt_parts true last bs a t s v ha ht hs hv] at h
  unfold rdParts at h
  by_cases h1 : a.2 = 0 ∨ last.size < a.1 ∨ t.2 = 0
  · rw [if_pos h1] at h; cases h
  rw [if_neg h1] at h
  by_cases h2 : true = true ∧ com last ⟨(last.data.toList.take a.1 ++ t.1).toArray⟩ ≠ a.1
  · rw [if_pos h2] at h; cases h
  rw [if_neg h2] at h
  by_cases h3 : s.2 = 0 ∨ v.2 = 0
  · rw [if_pos h3] at h; cases h
  rw [if_neg h3] at h
  obtain ⟨he, hk⟩ := Prod.mk.inj (Option.some.inj h)
  have hcom : com last ⟨(last.data.toList.take a.1 ++ t.1).toArray⟩ = a.1 := by
    refine Decidable.byContradiction fun hn => h2 ⟨rfl, hn⟩
  have A := rdNum_back bs (by rw [ha]; omega)
  rw [ha] at A
  have T := rdText_back (bs.drop a.2) (by rw [ht]; omega)
  rw [ht] at T
  have S := rdNum_back (bs.drop (a.2 + t.2)) (by rw [hs]; omega)
  rw [hs] at S
  have V := rdText_back (bs.drop (a.2 + t.2 + s.2)) (by rw [hv]; omega)
  rw [hv] at V
  have la := (rdNum_len bs).1
  rw [ha] at la
  have ls := (rdNum_len (bs.drop (a.2 + t.2))).1
  rw [hs] at ls
  have lt := T.2.2
  have lv := V.2.2
  simp only [List.length_drop] at ls lt lv
  have ltk : (last.data.toList.take a.1).length = a.1 := by rw [List.length_take, size_length]; omega
  have e1 : e.key.data.toList = last.data.toList.take a.1 ++ t.1 := by rw [← he]
  have e2 : e.key.size = a.1 + t.1.length := by rw [← size_length, e1, List.length_append, ltk]
  have e3 : com last e.key = a.1 := by rw [← he]; exact hcom
  have e4 : e.val.data.toList = v.1 := by rw [← he]
  have e5 : e.val.size = v.1.length := by rw [← size_length, e4]
  have e6 : stp e = s.1 := by
    have q1 : e.seq = ((s.1 / 2 : Nat) : Int) := by rw [← he]
    have q2 : e.gone = decide (s.1 % 2 = 1) := by rw [← he]
    unfold stp
    rw [q1, q2]
    simp only [decide_eq_true_eq]
    split <;> omega
  have hP : packE last e = enc a.1 ++ ((enc t.1.length ++ t.1) ++ (enc s.1 ++ (enc v.1.length ++ v.1))) := by
    unfold packE
    rw [e3, e6, e5, e4, e2, e1, show a.1 + t.1.length - a.1 = t.1.length by omega]
    rw [List.drop_append_of_le_length (by omega), List.drop_eq_nil_of_le (by omega), List.nil_append]
  have hB : bs.take k = packE last e := by
    rw [hP, ← A.1, ← T.2.1, ← S.1, ← V.2.1, ← hk]
    rw [List.take_add, List.take_add, List.take_add]
    simp only [List.append_assoc]
  refine ⟨hB, ?_, by omega⟩
  rw [← hB, List.length_take]; omega
theorem rdEnt_loose (last : ByteArray) (bs : List UInt8) (x : Ent × Nat) (h : rdEnt true last bs = some x) : rdEnt false last bs = some x := by
  rw [rdEnt_parts true last bs _ _ _ _ rfl rfl rfl rfl] at h
  rw [rdEnt_parts false last bs _ _ _ _ rfl rfl rfl rfl]
  unfold rdParts at h ⊢
  split at h
  · cases h
  · rename_i h1
    rw [if_neg h1]
    split at h
    · cases h
    · rw [if_neg (by simp)]; exact h
/-- n entries from byte p on, behind those in acc. -/
def rdEs (chk : Bool) (bs : List UInt8) : Nat → Nat → List Ent → ByteArray → Option (List Ent × Nat)
  | 0, p, acc, _ => some (acc, p)
  | n + 1, p, acc, last => match rdEnt chk (ahead acc.length last) (bs.drop p) with
    | none => none
    | some (e, k) => rdEs chk bs n (p + k) (acc ++ [e]) e.key
theorem rdEs_no {chk : Bool} {bs : List UInt8} {n p : Nat} {acc : List Ent} {last : ByteArray} (h : rdEnt chk (ahead acc.length last) (bs.drop p) = none) : rdEs chk bs (n + 1) p acc last = none := by
  rw [rdEs, h]
theorem rdEs_go {chk : Bool} {bs : List UInt8} {n p k : Nat} {acc : List Ent} {last : ByteArray} {e : Ent} (h : rdEnt chk (ahead acc.length last) (bs.drop p) = some (e, k)) : rdEs chk bs (n + 1) p acc last = rdEs chk bs n (p + k) (acc ++ [e]) e.key := by
  rw [rdEs, h]
theorem rdEs_pack (chk : Bool) (bs r : List UInt8) : ∀ (es : List Ent) (p : Nat) (acc : List Ent) (last : ByteArray), (∀ e ∈ es, okE e = true) → bs.drop p = packF acc.length last es ++ r → rdEs chk bs es.length p acc last = some (acc ++ es, p + (packF acc.length last es).length)
  | [], p, acc, last, _, _ => by simp [rdEs, packF]
  | e :: es, p, acc, last, h, hd => by
    have hE := rdEnt_pack chk (ahead acc.length last) e (packF (acc.length + 1) e.key es ++ r) (h e List.mem_cons_self)
    rw [packF, List.append_assoc] at hd
    rw [List.length_cons, rdEs_go (by rw [hd]; exact hE)]
    have hlen : (acc ++ [e]).length = acc.length + 1 := by simp
    have := rdEs_pack chk bs r es (p + (packE (ahead acc.length last) e).length) (acc ++ [e]) e.key (fun x hx => h x (List.mem_cons_of_mem _ hx)) (by rw [← List.drop_drop, hd, drop_pre, hlen])
    rw [this, hlen, packF]
    simp only [List.append_assoc, List.singleton_append, List.length_append, Nat.add_assoc]
theorem rdEs_back (bs : List UInt8) : ∀ (n p : Nat) (acc : List Ent) (last : ByteArray) (x : List Ent × Nat), p ≤ bs.length → rdEs true bs n p acc last = some x → ∃ es, x.1 = acc ++ es ∧ es.length = n ∧ x.2 = p + (packF acc.length last es).length ∧ (bs.drop p).take (packF acc.length last es).length = packF acc.length last es ∧ x.2 ≤ bs.length
  | 0, p, acc, last, x, hp, h => by
    rw [rdEs] at h
    cases h
    exact ⟨[], by simp, rfl, by simp [packF], by simp [packF], hp⟩
  | n + 1, p, acc, last, x, hp, h => by
    cases hE : rdEnt true (ahead acc.length last) (bs.drop p) with
    | none => rw [rdEs_no hE] at h; cases h
    | some y =>
      obtain ⟨e, k⟩ := y
      rw [rdEs_go hE] at h
      obtain ⟨b1, b2, b3⟩ := rdEnt_back _ _ _ _ hE
      rw [List.length_drop] at b3
      obtain ⟨es, h1, h2, h3, h4, h5⟩ := rdEs_back bs n (p + k) (acc ++ [e]) e.key x (by omega) h
      have hlen : (acc ++ [e]).length = acc.length + 1 := by simp
      rw [hlen] at h3 h4
      refine ⟨e :: es, by rw [h1]; simp, by rw [List.length_cons, h2], ?_, ?_, h5⟩
      · rw [packF, List.length_append, ← b2, h3]; omega
      · rw [packF, List.length_append, ← b2, List.take_add, b1, List.drop_drop, h4]
theorem rdEs_loose (bs : List UInt8) : ∀ (n p : Nat) (acc : List Ent) (last : ByteArray) (x : List Ent × Nat), rdEs true bs n p acc last = some x → rdEs false bs n p acc last = some x
  | 0, _, _, _, _, h => h
  | n + 1, p, acc, last, x, h => by
    cases hE : rdEnt true (ahead acc.length last) (bs.drop p) with
    | none => rw [rdEs_no hE] at h; cases h
    | some y =>
      obtain ⟨e, k⟩ := y
      rw [rdEs_go hE] at h
      rw [rdEs_go (rdEnt_loose _ _ _ hE)]
      exact rdEs_loose bs n _ _ _ x h
def unpC (chk : Bool) (bs : List UInt8) : Option (List Ent × Nat) := if (rdNum bs).2 = 0 ∨ 300 < (rdNum bs).1 then none else rdEs chk bs (rdNum bs).1 (rdNum bs).2 [] ⟨#[]⟩
/-- What the program reads. -/
def finI (bs : List UInt8) : Option (List Ent × Nat) → List Ent × Bool
  | none => ([], false)
  | some (es, p) => if p = bs.length ∧ okL es = true then (es, true) else ([], false)
/-- What the model reads. -/
def finS (bs : List UInt8) : Option (List Ent × Nat) → List Ent × Bool
  | none => ([], false)
  | some (es, _) => if packL es = bs then (es, true) else ([], false)
def unpI (bs : List UInt8) : List Ent × Bool := finI bs (unpC true bs)
def unpS (bs : List UInt8) : List Ent × Bool := finS bs (unpC false bs)
theorem unpC_pack (chk : Bool) (es : List Ent) (r : List UInt8) (h : okL es = true) : unpC chk (packA es ++ r) = some (es, (packA es).length) := by
  have hl := okL_len h
  have hp := enc_pos es.length
  unfold unpC packA
  rw [List.append_assoc, rdNum_enc es.length _ (by omega)]
  simp only
  rw [if_neg (by omega), rdEs_pack chk _ r es _ [] ⟨#[]⟩ (okL_all h) (by rw [drop_pre]; rfl), List.nil_append, List.length_append]
  rfl
theorem unpI_pack {es : List Ent} (h : okL es = true) : unpI (packA es) = (es, true) := by
  have := unpC_pack true es [] h
  rw [List.append_nil] at this
  unfold unpI finI
  rw [this]
  simp [h]
/-- What is read is what is written. -/
theorem unpI_back {bs : List UInt8} {es : List Ent} (h : unpI bs = (es, true)) : okL es = true ∧ packA es = bs := by
  unfold unpI at h
  cases hc : unpC true bs with
  | none => rw [hc] at h; cases h
  | some x =>
    obtain ⟨ys, p⟩ := x
    rw [hc] at h
    unfold finI at h
    simp only at h
    by_cases hh : p = bs.length ∧ okL ys = true
    · rw [if_pos hh] at h
      obtain ⟨he, _⟩ := Prod.mk.inj h
      subst he
      refine ⟨hh.2, ?_⟩
      unfold unpC at hc
      by_cases hn : (rdNum bs).2 = 0 ∨ 300 < (rdNum bs).1
      · rw [if_pos hn] at hc; cases hc
      · rw [if_neg hn] at hc
        have hb := rdNum_back bs (by omega)
        have hl := (rdNum_len bs).1
        obtain ⟨es, h1, h2, h3, h4, h5⟩ := rdEs_back bs _ _ _ _ _ hl hc
        simp only [List.nil_append, List.length_nil] at h1 h2 h3 h4 h5
        subst h1
        unfold packA
        have h6 : bs.drop (rdNum bs).2 = packF 0 ⟨#[]⟩ ys := by rw [← h4]; exact (List.take_of_length_le (by rw [List.length_drop]; omega)).symm
        rw [h2, ← hb.1, ← h6, List.take_append_drop]
    · rw [if_neg hh] at h; cases h
theorem unpI_no {bs : List UInt8} {es : List Ent} (h : unpI bs = (es, false)) : es = [] := by
  unfold unpI at h
  cases hc : unpC true bs with
  | none => rw [hc] at h; cases h; rfl
  | some x =>
    obtain ⟨ys, p⟩ := x
    rw [hc] at h
    unfold finI at h
    simp only at h
    split at h
    · cases h
    · cases h; rfl
theorem packL_ok {es : List Ent} (h : okL es = true) : packL es = packA es := by unfold packL; rw [if_pos h]
theorem packA_ne (es : List Ent) : packA es ≠ [] := by
  unfold packA
  intro h
  exact enc_ne es.length (List.append_eq_nil_iff.1 h).1
/-- Both read alike. -/
theorem unp_same (bs : List UInt8) : unpS bs = unpI bs := by
  cases hI : unpI bs with
  | mk es ok =>
    cases ok with
    | true =>
      obtain ⟨h1, h2⟩ := unpI_back hI
      have := unpC_pack false es [] h1
      rw [List.append_nil, h2] at this
      unfold unpS finS
      rw [this]
      simp only
      rw [if_pos (by rw [packL_ok h1]; exact h2)]
    | false =>
      have he := unpI_no hI
      subst he
      unfold unpS
      cases hc : unpC false bs with
      | none => rfl
      | some x =>
        obtain ⟨ys, p⟩ := x
        unfold finS
        simp only
        by_cases hp : packL ys = bs
        · exfalso
          cases hk : okL ys with
          | true =>
            rw [packL_ok hk] at hp
            have := unpI_pack hk
            rw [hp, hI] at this
            cases this
          | false =>
            unfold packL at hp
            rw [if_neg (by simp [hk])] at hp
            subst hp
            simp [unpC, rdNum, rdF] at hc
        · rw [if_neg hp]
/-- No part of what is written is read. -/
theorem unpI_part {es : List Ent} (h : okL es = true) {j : Nat} (hj : j < (packA es).length) : (unpI ((packA es).take j)).2 = false := by
  cases hI : unpI ((packA es).take j) with
  | mk ys ok =>
    cases ok with
    | false => rfl
    | true =>
      exfalso
      obtain ⟨h1, h2⟩ := unpI_back hI
      have a := unpC_pack true ys ((packA es).drop j) h1
      rw [h2, List.take_append_drop] at a
      have b := unpC_pack true es [] h
      rw [List.append_nil, a] at b
      have := (Prod.mk.inj (Option.some.inj b)).2
      rw [List.length_take] at this
      omega
end Go.Proofs.Ythkckgjcecommaa
