/- What bytes are read as a block: plain facts. -/
import Derived.Test.YtckidhcknibceaaBlxShw
import Derived.Test.YtckidhcknibceaaMath
namespace Go.Proofs.Ytckidhcknibceaa
open Go.RowKit
/-- The first k numbers with which some bytes begin, and where they end. -/
def rdK (bs : List UInt8) : Nat → Option (List Int × Nat)
  | 0 => some ([], 0)
  | k + 1 => match rdK bs k with
    | none => none
    | some r => if (rdNum (bs.drop r.2)).2 = 0 then none else some (r.1 ++ [((rdNum (bs.drop r.2)).1 : Int)], r.2 + (rdNum (bs.drop r.2)).2)
theorem rdK_no {bs : List UInt8} {k p : Nat} {l : List Int} (h : rdK bs k = some (l, p)) (h0 : (rdNum (bs.drop p)).2 = 0) : rdK bs (k + 1) = none := by rw [rdK, h]; simp [h0]
theorem rdK_go {bs : List UInt8} {k p : Nat} {l : List Int} (h : rdK bs k = some (l, p)) (h0 : (rdNum (bs.drop p)).2 ≠ 0) : rdK bs (k + 1) = some (l ++ [((rdNum (bs.drop p)).1 : Int)], p + (rdNum (bs.drop p)).2) := by rw [rdK, h]; simp [h0]
theorem rdK_more {bs : List UInt8} {k : Nat} (h : rdK bs k = none) : ∀ j, k ≤ j → rdK bs j = none := by
  intro j hj
  induction j with
  | zero => rw [show k = 0 by omega] at h; exact h
  | succ j ih =>
    by_cases e : k = j + 1
    · rw [← e]; exact h
    · rw [rdK, ih (by omega)]
/-- The numbers that were read stand there as they are written. -/
theorem rdK_back {bs : List UInt8} : ∀ (k : Nat) (l : List Int) (p : Nat), rdK bs k = some (l, p) → l.length = k ∧ p = (numL l).length ∧ bs.take p = numL l ∧ p ≤ bs.length ∧ l.all inO = true
  | 0, l, p, h => by
    rw [rdK] at h; cases h
    exact ⟨rfl, rfl, by simp [numL], Nat.zero_le _, rfl⟩
  | k + 1, l, p, h => by
    rw [rdK] at h
    cases hk : rdK bs k with
    | none => rw [hk] at h; cases h
    | some r =>
      obtain ⟨l0, p0⟩ := r
      rw [hk] at h
      simp only at h
      obtain ⟨h1, h2, h3, h4, h5⟩ := rdK_back k l0 p0 hk
      by_cases h0 : (rdNum (bs.drop p0)).2 = 0
      · rw [if_pos h0] at h; cases h
      · rw [if_neg h0] at h
        have hb := rdNum_back (bs.drop p0) h0
        have hl := rdNum_len (bs.drop p0)
        rw [List.length_drop] at hl
        obtain ⟨x, hx⟩ : ∃ x, x = (rdNum (bs.drop p0)).1 := ⟨_, rfl⟩
        obtain ⟨z, hz⟩ : ∃ z, z = (rdNum (bs.drop p0)).2 := ⟨_, rfl⟩
        rw [← hx, ← hz] at h hb hl
        cases h
        have hin : inO (x : Int) = true := by unfold inO; exact decide_eq_true (by omega)
        have hn : num (x : Int) = enc x := by rw [num_yes hin, Int.toNat_natCast]
        have hE : numL (l0 ++ [(x : Int)]) = numL l0 ++ enc x := by rw [numL_append]; simp [numL, hn]
        refine ⟨by simp [h1], ?_, ?_, by omega, ?_⟩
        · rw [hE, List.length_append, ← h2, ← hb.2]
        · rw [hE, List.take_add, h3, hb.1]
        · rw [List.all_append, h5]; simp [hin]
theorem rdK_take {bs : List UInt8} : ∀ (j k : Nat) (l l' : List Int) (p p' : Nat), rdK bs k = some (l, p) → rdK bs j = some (l', p') → k ≤ j → l = l'.take k
  | 0, k, l, l', p, p', h, h', hk => by
    rw [show k = 0 by omega] at h ⊢
    rw [rdK] at h; cases h; simp
  | j + 1, k, l, l', p, p', h, h', hk => by
    by_cases e : k = j + 1
    · rw [← e] at h'
      rw [h] at h'
      cases h'
      have := (rdK_back k l p h).1
      rw [← this, List.take_length]
    · rw [rdK] at h'
      cases hj : rdK bs j with
      | none => rw [hj] at h'; cases h'
      | some r =>
        obtain ⟨l0, p0⟩ := r
        rw [hj] at h'
        simp only at h'
        have ih := rdK_take j k l l0 p p0 h hj (by omega)
        have hl := (rdK_back j l0 p0 hj).1
        by_cases h0 : (rdNum (bs.drop p0)).2 = 0
        · rw [if_pos h0] at h'; cases h'
        · rw [if_neg h0] at h'
          cases h'
          rw [List.take_append_of_le_length (by omega)]
          exact ih
def evn : List Int → List Int
  | x :: _ :: r => x :: evn r
  | _ => []
def odd : List Int → List Int
  | _ :: y :: r => y :: odd r
  | _ => []
theorem evn_odd : ∀ (n : Nat) (l : List Int), l.length = 2 * n → altI (evn l) (odd l) = l ∧ (evn l).length = n ∧ (odd l).length = n
  | 0, l, h => by
    have : l = [] := List.length_eq_zero_iff.1 (by omega)
    subst this; exact ⟨rfl, rfl, rfl⟩
  | n + 1, x :: y :: r, h => by
    have h1 := evn_odd n r (by simp only [List.length_cons] at h; omega)
    simp only [evn, odd, altI, h1.1, List.length_cons, h1.2.1, h1.2.2, and_self]
  | n + 1, [], h => by simp at h
  | n + 1, [x], h => by simp only [List.length_cons, List.length_nil] at h; omega
theorem evn_odd_snoc : ∀ (n : Nat) (l : List Int) (x y : Int), l.length = 2 * n → evn (l ++ [x, y]) = evn l ++ [x] ∧ odd (l ++ [x, y]) = odd l ++ [y]
  | 0, l, x, y, h => by
    have : l = [] := List.length_eq_zero_iff.1 (by omega)
    subst this; exact ⟨rfl, rfl⟩
  | n + 1, a :: b :: r, x, y, h => by
    have h1 := evn_odd_snoc n r x y (by simp only [List.length_cons] at h; omega)
    simp only [List.cons_append, evn, odd, h1.1, h1.2, and_self]
  | n + 1, [], x, y, h => by simp at h
  | n + 1, [a], x, y, h => by simp only [List.length_cons, List.length_nil] at h; omega
def gI (l : List Int) (i : Nat) : Int := l.getD i 0
/-- The block of these numbers, texts, server. -/
def blkOf (l : List Int) (ms : List ByteArray) (y : Int) : Blk := ⟨gI l 0, gI l 1, ⟨gI l 2, gI l 3, evn (l.drop 5), odd (l.drop 5)⟩, ms, y⟩
theorem blkOf_nums {l : List Int} {n : Nat} (h : l.length = 5 + 2 * n) (h4 : gI l 4 = (n : Int)) (ms : List ByteArray) (y : Int) : blN (blkOf l ms y) = l ∧ (evn (l.drop 5)).length = n ∧ (odd (l.drop 5)).length = n := by
  rcases l with _ | ⟨a, _ | ⟨b, _ | ⟨c, _ | ⟨d, _ | ⟨e, r⟩⟩⟩⟩⟩
  case cons.cons.cons.cons.cons =>
    have hr := evn_odd n r (by simp only [List.length_cons] at h; omega)
    have he : e = (n : Int) := by simpa [gI] using h4
    refine ⟨?_, hr.2.1, hr.2.2⟩
    simp only [blkOf, blN, prN, gI, List.drop_succ_cons, List.drop_zero, hr.1, hr.2.1, ← he]
    rfl
  all_goals (simp only [List.length_cons, List.length_nil] at h; omega)
/-- Texts at byte p on. -/
theorem rdAll_back (cs : List UInt8) (ms : List ByteArray) (t : Nat) (h : rdAll cs = some (ms, t)) : cs.take t = textsOf ms ∧ t ≤ cs.length ∧ textsOf ms ≠ [] ∧ t = (textsOf ms).length ∧ ms.length ≤ 200 ∧ ∀ s ∈ ms, s.size ≤ 3000 := by
  unfold rdAll at h
  by_cases hc : (rdNum cs).2 = 0 ∨ 200 < (rdNum cs).1
  · rw [if_pos hc] at h; cases h
  · rw [if_neg hc] at h
    have hb := rdNum_back cs (by omega)
    have hn := rdNum_len cs
    obtain ⟨ss, h1, h2, h3, h4, h5, h6⟩ := rdAcc_back cs _ _ _ _ h hn.1
    rw [List.nil_append] at h1
    simp only at h1 h4 h6
    subst h1
    have hT : textsOf ms = enc ms.length ++ tx ms := textsOf_in ms (by omega) h3
    refine ⟨?_, h6, by rw [hT]; simp [enc_ne], ?_, by omega, h3⟩
    · rw [hT, h2, h4, List.take_add, hb.1, h5]
    · rw [hT, List.length_append, h2, ← hb.2, h4]
/-- The block with which some bytes begin, and where it ends. -/
def rdB (bs : List UInt8) : Option (Blk × Nat) :=
  match rdK bs 5 with
  | none => none
  | some r => if 7 < gI r.1 4 then none else match rdK bs (5 + 2 * (gI r.1 4).toNat) with
    | none => none
    | some s => match rdAll (bs.drop s.2) with
      | none => none
      | some u => if (rdNum (bs.drop (s.2 + u.2))).2 = 0 then none else some (blkOf s.1 u.1 ((rdNum (bs.drop (s.2 + u.2))).1 : Int), s.2 + u.2 + (rdNum (bs.drop (s.2 + u.2))).2)
/-- The block that these bytes are. -/
def RBl (bs : List UInt8) : Option Blk := match rdB bs with
  | none => none
  | some r => if r.2 = bs.length then some r.1 else none
theorem rdB_no5 {bs : List UInt8} (h : rdK bs 5 = none) : rdB bs = none := by unfold rdB; rw [h]
theorem rdB_no7 {bs : List UInt8} {l : List Int} {p : Nat} (h : rdK bs 5 = some (l, p)) (h7 : 7 < gI l 4) : rdB bs = none := by unfold rdB; rw [h]; simp [h7]
theorem rdB_noK {bs : List UInt8} {l : List Int} {p n : Nat} (h : rdK bs 5 = some (l, p)) (hn : gI l 4 = (n : Int)) (h2 : rdK bs (5 + 2 * n) = none) : rdB bs = none := by
  unfold rdB; rw [h]
  simp only
  rw [hn, Int.toNat_natCast, h2]
  split <;> rfl
theorem rdB_noT {bs : List UInt8} {l l' : List Int} {p p' n : Nat} (h : rdK bs 5 = some (l, p)) (hn : gI l 4 = (n : Int)) (h2 : rdK bs (5 + 2 * n) = some (l', p')) (h3 : rdAll (bs.drop p') = none) : rdB bs = none := by
  unfold rdB; rw [h]
  simp only
  rw [hn, Int.toNat_natCast, h2]
  simp only
  rw [h3]
  split <;> rfl
theorem rdB_all {bs : List UInt8} {l l' : List Int} {p p' n t : Nat} {ms : List ByteArray} (h : rdK bs 5 = some (l, p)) (hn : gI l 4 = (n : Int)) (h7 : n ≤ 7) (h2 : rdK bs (5 + 2 * n) = some (l', p')) (h3 : rdAll (bs.drop p') = some (ms, t)) :
    rdB bs = if (rdNum (bs.drop (p' + t))).2 = 0 then none else some (blkOf l' ms ((rdNum (bs.drop (p' + t))).1 : Int), p' + t + (rdNum (bs.drop (p' + t))).2) := by
  unfold rdB; rw [h]
  simp only
  rw [hn, Int.toNat_natCast, h2]
  simp only
  rw [h3, if_neg (by omega)]
theorem shwB_of {b : Blk} (h : shwB b ≠ []) : prB7 b.p = true ∧ (blN b).all inO = true ∧ textsOf b.mo ≠ [] ∧ inO b.sv = true ∧ shwB b = numL (blN b) ++ textsOf b.mo ++ num b.sv := by
  unfold shwB at h ⊢
  cases hs : shwO b with
  | false => rw [hs] at h; exact absurd rfl h
  | true =>
    have h1 := hs
    unfold shwO at h1
    simp only [Bool.and_eq_true] at h1
    refine ⟨h1.1.1.1, h1.1.1.2, fun e => ?_, h1.2, rfl⟩
    have h2 := h1.1.2
    rw [e] at h2
    cases h2
theorem rdNum_zero1 (bs : List UInt8) (h : bs = [0]) : (rdNum bs).2 = 1 := by
  subst h; rfl
/-- What is read up to the server is right just where it shows as these bytes. -/
theorem RBl_is {bs : List UInt8} {l l' : List Int} {p p' n t : Nat} {ms : List ByteArray} (h : rdK bs 5 = some (l, p)) (hn : gI l 4 = (n : Int)) (h7 : n ≤ 7) (h2 : rdK bs (5 + 2 * n) = some (l', p')) (h3 : rdAll (bs.drop p') = some (ms, t)) :
    RBl bs = if shwB (blkOf l' ms ((rdNum (bs.drop (p' + t))).1 : Int)) = bs then some (blkOf l' ms ((rdNum (bs.drop (p' + t))).1 : Int)) else none := by
  have hk := rdK_back _ _ _ h2
  have ht := rdK_take _ _ _ _ _ _ h h2 (by omega)
  have ha := rdAll_back _ _ _ h3
  have hl4 : gI l' 4 = (n : Int) := by
    rw [← hn, ht]
    unfold gI
    simp [List.getD]
  obtain ⟨x, hx⟩ : ∃ x, x = (rdNum (bs.drop (p' + t))).1 := ⟨_, rfl⟩
  obtain ⟨z, hz⟩ : ∃ z, z = (rdNum (bs.drop (p' + t))).2 := ⟨_, rfl⟩
  have hb := blkOf_nums hk.1 hl4 ms (x : Int)
  have hrl := rdNum_len (bs.drop (p' + t))
  rw [← hx, ← hz] at hrl
  have hin : inO (x : Int) = true := by unfold inO; exact decide_eq_true (by omega)
  have hsh : shwB (blkOf l' ms (x : Int)) = numL l' ++ textsOf ms ++ enc x := by
    rw [shwB_yes (b := blkOf l' ms (x : Int)) (by unfold prB7; exact decide_eq_true ⟨by simp only [blkOf]; rw [hb.2.1, hb.2.2], by simp only [blkOf]; omega⟩) (by rw [hb.1]; exact hk.2.2.2.2) (by exact ha.2.2.1) hin, hb.1]
    show numL l' ++ textsOf ms ++ num (x : Int) = _
    rw [num_yes hin, Int.toNat_natCast]
  have hpt : bs.take (p' + t) = numL l' ++ textsOf ms := by rw [List.take_add, hk.2.2.1, ha.1]
  have hptl : p' + t ≤ bs.length := by have h1 := ha.2.1; have h2 := hk.2.2.2.1; rw [List.length_drop] at h1; omega
  unfold RBl
  rw [rdB_all h hn h7 h2 h3, ← hx, ← hz]
  by_cases h0 : z = 0
  · rw [if_pos h0]
    simp only
    rw [if_neg]
    intro he
    have hx0 : x = 0 := by rw [hx]; exact rdNum_zero _ (by rw [← hz]; exact h0)
    rw [hsh, hx0, ← hpt] at he
    have hd : bs.drop (p' + t) = enc 0 := by
      have h4 : (bs.take (p' + t) ++ enc 0).drop (p' + t) = enc 0 := by
        rw [List.drop_append, List.length_take, Nat.min_eq_left hptl, Nat.sub_self, List.drop_eq_nil_of_le (by rw [List.length_take]; omega)]
        rfl
      rw [he] at h4
      exact h4
    have h5 := rdNum_zero1 (bs.drop (p' + t)) (by rw [hd, enc_small 0 (by omega)]; rfl)
    omega
  · rw [if_neg h0]
    simp only
    have hbk := rdNum_back (bs.drop (p' + t)) (by rw [← hz]; exact h0)
    rw [← hx, ← hz] at hbk
    have hE : bs.take (p' + t + z) = shwB (blkOf l' ms (x : Int)) := by rw [List.take_add, hpt, hbk.1, hsh]
    rw [List.length_drop] at hrl
    by_cases he : p' + t + z = bs.length
    · rw [if_pos he, if_pos (by rw [← hE, he, List.take_length])]
    · rw [if_neg he, if_neg]
      intro hs
      rw [← hE] at hs
      have := congrArg List.length hs
      rw [List.length_take] at this
      omega
theorem RBl_none {bs : List UInt8} (h : rdB bs = none) : RBl bs = none := by unfold RBl; rw [h]
end Go.Proofs.Ytckidhcknibceaa
