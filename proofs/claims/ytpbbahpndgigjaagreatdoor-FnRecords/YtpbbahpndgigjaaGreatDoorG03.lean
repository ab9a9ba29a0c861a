/- Plain facts on what some snapshots see of a list, and on what goes at the bottom: no function of the program is walked here. Plain facts on a heap of what is left of some lists, and on what comes of taking the first of all again and again: no function of the program is walked here. Plain facts on the number with which some bytes begin. The contract of the model's ReadNumber over any slice of bytes that can be read. -/
import Derived.Test.YtpbbahpndgigjaaGreatDoorG02
namespace Go.Proofs.YtpbbahpndgigjaaGreatDoor
set_option maxHeartbeats 16000000
set_option maxRecDepth 100000
def kept (es : List Ent) (qs : List Int) (i : Nat) : Bool :=
  decide (i = 0) || !kEq (nth es (i - 1)).key (nth es i).key || qs.any (fun q => (seenL es (nth es i).key q).isSome && decide (((seenL es (nth es i).key q).getD zeroE).seq = (nth es i).seq))
def seTo (es : List Ent) (qs : List Int) : Nat → List Ent
  | 0 => []
  | i + 1 => if kept es qs i = true then seTo es qs i ++ [nth es i] else seTo es qs i
def seensL (es : List Ent) (qs : List Int) : List Ent := seTo es qs es.length
def keptE (es : List Ent) (qs : List Int) (e : Ent) : Bool := es.all (fun x => !kEq x.key e.key || decide (x = e) || ahd e x) || qs.any (fun q => decide (seenL es e.key q = some e))
theorem key_mid {a b c : Ent} (h1 : ahd a b = true) (h2 : ahd b c = true) (h : a.key = c.key) : b.key = a.key := by
  rw [ahd_iff] at h1 h2
  rcases h1 with h1 | h1
  · rcases h2 with h2 | h2
    · have := kLt_trans h1 h2; rw [h, kLt_irrefl] at this; cases this
    · rw [h2.1, h]
  · exact h1.1.symm
theorem ks_eq {es : List Ent} (hs : Sr es) {a b : Ent} (ha : a ∈ es) (hb : b ∈ es) (hk : a.key = b.key) (hq : a.seq = b.seq) : a = b := by
  obtain ⟨i, hi, rfl⟩ := List.getElem_of_mem ha
  obtain ⟨j, hj, rfl⟩ := List.getElem_of_mem hb
  have no : ∀ x y : Ent, ahd x y = true → x.key = y.key → x.seq = y.seq → False := fun x y h h1 h2 => by
    rw [ahd_iff, h1, kLt_irrefl] at h
    rcases h with h | h
    · cases h
    · omega
  rcases Nat.lt_trichotomy i j with h | h | h
  · exact absurd (no _ _ (List.pairwise_iff_getElem.1 hs i j hi hj h) hk hq) id
  · subst h; rfl
  · exact absurd (no _ _ (List.pairwise_iff_getElem.1 hs j i hj hi h) hk.symm hq.symm) id
theorem kept_iff {es : List Ent} (hok : okL es = true) (qs : List Int) {i : Nat} (hi : i < es.length) : kept es qs i = keptE es qs (nth es i) := by
  have hs := okL_sr hok
  unfold kept keptE
  have e1 : (decide (i = 0) || !kEq (nth es (i - 1)).key (nth es i).key) = es.all (fun x => !kEq x.key (nth es i).key || decide (x = nth es i) || ahd (nth es i) x) := by
    rw [Bool.eq_iff_iff, List.all_eq_true]
    simp only [Bool.or_eq_true, decide_eq_true_eq, Bool.not_eq_true', kEq, decide_eq_false_iff_not]
    constructor
    · intro h x hx
      obtain ⟨j, hj, rfl⟩ := List.getElem_of_mem hx
      rw [← nth_eq hj]
      rcases Nat.lt_trichotomy i j with hij | hij | hij
      · exact .inr (okL_ij hok hij hj)
      · subst hij; exact .inl (.inr rfl)
      · refine .inl (.inl fun hk => ?_)
        rcases h with h | h
        · omega
        · refine h ?_
          by_cases hj1 : j = i - 1
          · rw [← hj1]; exact hk
          · have := key_mid (okL_ij hok (show j < i - 1 by omega) (by omega)) (okL_ij hok (show i - 1 < i by omega) hi) hk
            rw [this]; exact hk
    · intro h
      by_cases h0 : i = 0
      · exact .inl h0
      · refine .inr fun hk => ?_
        have hp := okL_ij hok (show i - 1 < i by omega) hi
        rcases h (nth es (i - 1)) (by rw [nth_eq (by omega)]; exact List.getElem_mem _) with (h | h) | h
        · exact h hk
        · rw [h, ahd_irrefl] at hp; cases hp
        · have := ahd_asymm hp; rw [h] at this; cases this
  rw [e1]
  congr 2
  funext q
  cases hq : seenL es (nth es i).key q with
  | none => simp
  | some u =>
    have hu : u ∈ es := List.mem_of_find?_eq_some hq
    have hk := (seenL_some hq).1
    have hm : nth es i ∈ es := by rw [nth_eq hi]; exact List.getElem_mem hi
    simp only [Option.isSome_some, Bool.true_and, Option.getD_some, Option.some.injEq]
    apply decide_eq_decide.2
    exact ⟨fun h => ks_eq hs hu hm hk h, fun h => by rw [h]⟩
theorem seTo_filter {es : List Ent} (hok : okL es = true) (qs : List Int) : ∀ i, i ≤ es.length → seTo es qs i = (es.take i).filter (keptE es qs)
  | 0, _ => by rw [seTo]; simp
  | i + 1, hi => by
    have ih := seTo_filter hok qs i (by omega)
    rw [List.take_add_one, List.getElem?_eq_getElem (by omega), Option.toList_some, List.filter_append, ← ih, ← nth_eq (by omega), seTo, kept_iff hok qs (by omega), List.filter_cons]
    cases keptE es qs (nth es i) <;> simp
theorem seens_filter {es : List Ent} (hok : okL es = true) (qs : List Int) : seensL es qs = es.filter (keptE es qs) := by
  unfold seensL
  rw [seTo_filter hok qs _ (Nat.le_refl _), List.take_of_length_le (Nat.le_refl _)]
theorem okL_subl {es fs : List Ent} (h : okL es = true) (hs : fs.Sublist es) : okL fs = true := by
  rw [okL_iff] at h ⊢
  exact ⟨Nat.le_trans hs.length_le h.1, fun e he => h.2.1 e (hs.subset he), h.2.2.sublist hs⟩
theorem seens_sub {es : List Ent} (hok : okL es = true) (qs : List Int) : (seensL es qs).Sublist es := by rw [seens_filter hok]; exact List.filter_sublist
def botS (e : Ent) (out : List Ent) : List Ent := if (decide (out.length = 0) || !kEq (nth out 0).key e.key) && e.gone then out else e :: out
def bottomOf (es : List Ent) : List Ent := es.foldr botS []
theorem botS_sub (e : Ent) (out : List Ent) : (botS e out).Sublist (e :: out) := by
  unfold botS
  split
  · exact List.sublist_cons_self _ _
  · exact List.Sublist.refl _
theorem bottom_sub : ∀ es : List Ent, (bottomOf es).Sublist es
  | [] => List.Sublist.refl _
  | e :: r => (botS_sub e (bottomOf r)).trans ((bottom_sub r).cons_cons e)
structure Src where
  v : Value
  es : List Ent
  no : Nat
def Src.hd (s : Src) : Ent := nth s.es 0
def ltT (x : Ent) (i : Nat) (y : Ent) (j : Nat) : Bool := ahd x y || (sameKS x y && decide (i < j))
theorem sameKS_refl (x : Ent) : sameKS x x = true := by rw [sameKS_iff]; exact ⟨rfl, rfl⟩
theorem sameKS_symm {x y : Ent} (h : sameKS x y = true) : sameKS y x = true := by rw [sameKS_iff] at h ⊢; exact ⟨h.1.symm, h.2.symm⟩
theorem sameKS_trans {x y z : Ent} (h : sameKS x y = true) (k : sameKS y z = true) : sameKS x z = true := by rw [sameKS_iff] at h k ⊢; exact ⟨h.1.trans k.1, h.2.trans k.2⟩
theorem ahd_congr2 {x y z : Ent} (h : ahd x y = true) (hz : sameKS y z = true) : ahd x z = true := by
  rw [sameKS_iff] at hz
  rw [ahd_iff] at h ⊢
  rw [← hz.1, ← hz.2]; exact h
theorem ahd_same {x y : Ent} (h : ahd x y = true) (k : sameKS x y = true) : False := by
  have := ahd_congr2 h (sameKS_symm k)
  rw [ahd_irrefl] at this; cases this
theorem ltT_iff (x : Ent) (i : Nat) (y : Ent) (j : Nat) : ltT x i y j = true ↔ ahd x y = true ∨ (sameKS x y = true ∧ i < j) := by simp [ltT]
theorem ltT_trans {x y z : Ent} {i j k : Nat} (h : ltT x i y j = true) (h2 : ltT y j z k = true) : ltT x i z k = true := by
  rw [ltT_iff] at *
  rcases h with h | h
  · rcases h2 with h2 | h2
    · exact .inl (ahd_trans h h2)
    · exact .inl (ahd_congr2 h h2.1)
  · rcases h2 with h2 | h2
    · exact .inl (ahd_congr h.1 h2)
    · exact .inr ⟨sameKS_trans h.1 h2.1, by omega⟩
theorem ltT_tri (x : Ent) (i : Nat) (y : Ent) (j : Nat) : ltT x i y j = true ∨ ltT y j x i = true ∨ (sameKS x y = true ∧ i = j) := by
  rw [ltT_iff, ltT_iff]
  cases hs : sameKS x y with
  | true =>
    rcases Nat.lt_trichotomy i j with h | h | h
    · exact .inl (.inr ⟨rfl, h⟩)
    · exact .inr (.inr ⟨rfl, h⟩)
    · exact .inr (.inl (.inr ⟨sameKS_symm hs, h⟩))
  | false =>
    cases ha : ahd x y with
    | true => exact .inl (.inl rfl)
    | false => exact .inr (.inl (.inl (ahd_tri ha hs)))
def lessS (a b : Src) : Bool := ltT a.hd a.no b.hd b.no
theorem le_trans {a b c : Src} (h : lessS b a = false) (h2 : lessS c b = false) : lessS c a = false := by
  cases h3 : lessS c a with
  | false => rfl
  | true =>
    rcases ltT_tri a.hd a.no b.hd b.no with k | k | k
    · have h4 := ltT_trans h3 k
      unfold lessS at h2; rw [h4] at h2; cases h2
    · unfold lessS at h; rw [k] at h; cases h
    · have h4 : ltT c.hd c.no b.hd b.no = true := by
        unfold lessS at h3
        rw [ltT_iff] at h3 ⊢
        rcases h3 with h3 | h3
        · exact .inl (ahd_congr2 h3 k.1)
        · exact .inr ⟨sameKS_trans h3.1 k.1, by omega⟩
      unfold lessS at h2; rw [h4] at h2; cases h2
def zeroS : Src := ⟨.slice none 0 0, [], 0⟩
def sN (hs : List Src) (i : Nat) : Src := hs.getD i zeroS
def HP (hs : List Src) (n : Nat) : Prop := ∀ k, 0 < k → k < n → lessS (sN hs k) (sN hs ((k - 1) / 2)) = false
def First (ls : List (List Ent)) (z : Ent) : Prop := ∃ (i : Nat) (l : List Ent), ls[i]? = some l ∧ z ∈ l ∧ ∀ (j : Nat) (m : List Ent), j < i → ls[j]? = some m → ∀ u ∈ m, sameKS u z = false
theorem mrg_keep {a b : List Ent} {z : Ent} (h : z ∈ a) : z ∈ mrg a b := (mrg_has _ a b (Nat.le_refl _) z).1 h
theorem mrg_iff : ∀ (n : Nat) (a b : List Ent), a.length + b.length ≤ n → Sr a → Sr b → ∀ z, z ∈ mrg a b ↔ z ∈ a ∨ (z ∈ b ∧ ∀ u ∈ a, sameKS u z = false) := by
  intro n
  induction n with
  | zero =>
    intro a b hn _ _ z
    have ha : a = [] := List.eq_nil_of_length_eq_zero (by omega)
    have hb : b = [] := List.eq_nil_of_length_eq_zero (by omega)
    subst ha; subst hb
    simp [mrg]
  | succ n ih =>
    intro a b hn sa sb z
    match a, b with
    | [], b => rw [mrg]; simp
    | x :: r, [] => rw [mrg]; simp
    | x :: r, y :: s =>
      have sa' := List.pairwise_cons.1 sa
      have sb' := List.pairwise_cons.1 sb
      have bel : ∀ u ∈ y :: s, u = y ∨ ahd y u = true := fun u hu => by
        rcases List.mem_cons.1 hu with h | h
        · exact .inl h
        · exact .inr (sb'.1 u h)
      have ael : ∀ u ∈ x :: r, u = x ∨ ahd x u = true := fun u hu => by
        rcases List.mem_cons.1 hu with h | h
        · exact .inl h
        · exact .inr (sa'.1 u h)
      cases hxy : ahd x y with
      | true =>
        rw [mrg, if_pos hxy, List.mem_cons, ih r (y :: s) (by simp at hn ⊢; omega) sa'.2 sb z, List.mem_cons (a := z) (b := x) (l := r)]
        constructor
        · rintro (h | h | h)
          · exact .inl (.inl h)
          · exact .inl (.inr h)
          · refine .inr ⟨h.1, fun u hu => ?_⟩
            rcases List.mem_cons.1 hu with e | hu
            · subst e
              cases hk : sameKS u z with
              | false => rfl
              | true =>
                rcases bel z h.1 with e | e
                · subst e; exact (ahd_same hxy hk).elim
                · exact (ahd_same (ahd_trans hxy e) hk).elim
            · exact h.2 u hu
        · rintro ((h | h) | h)
          · exact .inl h
          · exact .inr (.inl h)
          · exact .inr (.inr ⟨h.1, fun u hu => h.2 u (List.mem_cons_of_mem _ hu)⟩)
      | false =>
        cases hyx : ahd y x with
        | true =>
          rw [mrg, if_neg (by rw [hxy]; simp), if_pos hyx, List.mem_cons, ih (x :: r) s (by simp at hn ⊢; omega) sa sb'.2 z, List.mem_cons (a := z) (b := y)]
          have hy : ∀ u ∈ x :: r, sameKS u y = false := fun u hu => by
            cases hk : sameKS u y with
            | false => rfl
            | true =>
              rcases ael u hu with e | e
              · subst e; exact (ahd_same hyx (sameKS_symm hk)).elim
              · exact (ahd_same (ahd_trans hyx e) (sameKS_symm hk)).elim
          constructor
          · rintro (h | h | h)
            · subst h; exact .inr ⟨.inl rfl, hy⟩
            · exact .inl h
            · exact .inr ⟨.inr h.1, h.2⟩
          · rintro (h | ⟨h | h, h2⟩)
            · exact .inr (.inl h)
            · exact .inl h
            · exact .inr (.inr ⟨h, h2⟩)
        | false =>
          have hs : sameKS x y = true := ahd_cases x y (by rw [hxy]; simp) (by rw [hyx]; simp)
          rw [mrg, if_neg (by rw [hxy]; simp), if_neg (by rw [hyx]; simp), ih (x :: r) s (by simp at hn ⊢; omega) sa sb'.2 z, List.mem_cons (a := z) (b := y)]
          constructor
          · rintro (h | h)
            · exact .inl h
            · exact .inr ⟨.inr h.1, h.2⟩
          · rintro (h | ⟨h | h, h2⟩)
            · exact .inl h
            · subst h
              have := h2 x List.mem_cons_self
              rw [hs] at this; cases this
            · exact .inr ⟨h, h2⟩
theorem mF_iff (ls : List (List Ent)) (hs : ∀ l ∈ ls, Sr l) : ∀ a : List Ent, Sr a → ∀ z, z ∈ ls.foldl mrg a ↔ z ∈ a ∨ (First ls z ∧ ∀ u ∈ a, sameKS u z = false) := by
  induction ls with
  | nil =>
    intro a _ z
    constructor
    · intro h; exact .inl h
    · rintro (h | ⟨⟨i, l, h, _⟩, _⟩)
      · exact h
      · simp at h
  | cons l r ih =>
    intro a sa z
    have sl := hs l List.mem_cons_self
    rw [List.foldl_cons, ih (fun m hm => hs m (List.mem_cons_of_mem _ hm)) _ (mrg_sr _ a l (Nat.le_refl _) sa sl) z, mrg_iff _ a l (Nat.le_refl _) sa sl z]
    constructor
    · rintro ((h | ⟨h1, h2⟩) | ⟨⟨i, m, hm, hz, hj⟩, h2⟩)
      · exact .inl h
      · exact .inr ⟨⟨0, l, rfl, h1, fun j m hj => by omega⟩, h2⟩
      · have hmrg : ∀ u, u ∈ mrg a l → sameKS u z = false := h2
        refine .inr ⟨⟨i + 1, m, hm, hz, fun j m' hj' hm' u hu => ?_⟩, fun u hu => hmrg u (mrg_keep hu)⟩
        cases j with
        | zero =>
          have : m' = l := by simpa using hm'.symm
          subst this
          cases hk : sameKS u z with
          | false => rfl
          | true =>
            obtain ⟨o, ho, hs2⟩ := (mrg_has _ a m' (Nat.le_refl _) u).2 hu
            have := hmrg o ho
            rw [sameKS_trans hs2 hk] at this; cases this
        | succ j => exact hj j m' (by omega) (by simpa using hm') u hu
    · rintro (h | ⟨⟨i, m, hm, hz, hj⟩, h2⟩)
      · exact .inl (.inl h)
      · cases i with
        | zero =>
          have : m = l := by simpa using hm.symm
          subst this
          exact .inl (.inr ⟨hz, h2⟩)
        | succ i =>
          refine .inr ⟨⟨i, m, by simpa using hm, hz, fun j m' hj' hm' u hu => hj (j + 1) m' (by omega) (by simpa using hm') u hu⟩, fun u hu => ?_⟩
          rcases mrg_mem hu with h | h
          · exact h2 u h
          · exact hj 0 l (by omega) rfl u h
theorem mergedL_iff {ls : List (List Ent)} (hs : ∀ l ∈ ls, Sr l) (z : Ent) : z ∈ mergedL ls ↔ First ls z := by
  unfold mergedL
  rw [mF_iff ls hs [] List.Pairwise.nil z]
  simp
open Go.RowKit
def rdF : Nat → Nat → Nat → Nat → List UInt8 → Nat × Nat
  | 0, _, _, _, _ => (0, 0)
  | _ + 1, _, _, _, [] => (0, 0)
  | f + 1, i, n, p, b :: r => if b.toNat < 128 then (if 1099511627776 < n + b.toNat % 128 * p ∨ 0 < i ∧ b.toNat = 0 then (0, 0) else (n + b.toNat % 128 * p, i + 1)) else rdF f (i + 1) (n + b.toNat % 128 * p) (p * 128) r
def rdNum (bs : List UInt8) : Nat × Nat := rdF 6 0 0 1 bs
theorem rdF_end (f i n p : Nat) (bs : List UInt8) (k : Nat) (h : bs.length ≤ k) : rdF f i n p (bs.drop k) = (0, 0) := by
  rw [List.drop_eq_nil_of_le h]; cases f <;> rfl
theorem rdF_more (f i n p k b : Nat) (bs : List UInt8) (h : k < bs.length) (hb : b = bs[k].toNat) (h1 : 128 ≤ b) : rdF (f + 1) i n p (bs.drop k) = rdF f (i + 1) (n + b % 128 * p) (p * 128) (bs.drop (k + 1)) := by
  subst hb
  rw [List.drop_eq_getElem_cons h, rdF, if_neg (by omega)]
theorem rdF_no (f i n p k b : Nat) (bs : List UInt8) (h : k < bs.length) (hb : b = bs[k].toNat) (h1 : b < 128) (h2 : 1099511627776 < n + b % 128 * p ∨ 0 < i ∧ b = 0) : rdF (f + 1) i n p (bs.drop k) = (0, 0) := by
  subst hb
  rw [List.drop_eq_getElem_cons h, rdF, if_pos h1, if_pos h2]
theorem rdF_yes (f i n p k b : Nat) (bs : List UInt8) (h : k < bs.length) (hb : b = bs[k].toNat) (h1 : b < 128) (h2 : ¬ (1099511627776 < n + b % 128 * p ∨ 0 < i ∧ b = 0)) : rdF (f + 1) i n p (bs.drop k) = (n + b % 128 * p, i + 1) := by
  subst hb
  rw [List.drop_eq_getElem_cons h, rdF, if_pos h1, if_neg h2]
theorem rdF_len (f : Nat) : ∀ (i n p : Nat) (bs : List UInt8), (rdF f i n p bs).2 ≤ i + bs.length ∧ (rdF f i n p bs).1 ≤ 1099511627776 ∧ (rdF f i n p bs).2 ≤ i + f := by
  induction f with
  | zero => intro i n p bs; simp [rdF]
  | succ f ih =>
    intro i n p bs
    cases bs with
    | nil => simp [rdF]
    | cons b r =>
      rw [rdF]
      split
      · split
        · simp
        · simp only [List.length_cons]; omega
      · have := ih (i + 1) (n + b.toNat % 128 * p) (p * 128) r
        simp only [List.length_cons]; omega
theorem rdNum_len (bs : List UInt8) : (rdNum bs).2 ≤ bs.length ∧ (rdNum bs).1 ≤ 1099511627776 ∧ (rdNum bs).2 ≤ 6 := by have := rdF_len 6 0 0 1 bs; unfold rdNum; omega
theorem mul_le (b p : Nat) : b % 128 * p ≤ 127 * p := Nat.mul_le_mul_right p (by omega)
open Go.RowKit
theorem specReadNumber_any (v : Value) (bs : List UInt8) (w : World) (hr : Rd w v bs) :
    Calls Tryz.prog 79 #[v] w fun e w' => e = .returned (.tuple #[.int .i64 ((rdNum bs).1 : Int), .int .i64 ((rdNum bs).2 : Int)]) ∧ w' = w := by
  obtain ⟨R, hR⟩ : ∃ R, R = rdNum bs := ⟨_, rfl⟩
  rw [← hR]
  obtain ⟨a, cap, rfl, hl, hm, hA⟩ := hr
  unfold maxLen at hm
  go_enter Tryz.func79, Tryz.ntmps79
  go_wp2
  go_loop [4, 5, 6] (fun n p i => ∃ k m q : Nat, k ≤ 6 ∧ k ≤ bs.length ∧ i = .int .i64 k ∧ n = .int .i64 m ∧ p = .int .i64 q ∧ m < q ∧ q ≤ 4398046511104 ∧ (k < 6 → q ≤ 34359738368) ∧ Hid (q = 128 ^ k ∧ R = rdF (6 - k) k m q (bs.drop k))) (fun _ _ i => 6 - (intOf i).toNat)
  case atStart => exact ⟨0, 0, 1, by omega, by omega, rfl, rfl, rfl, by omega, by omega, by omega, rfl, hR⟩
  case round =>
    obtain ⟨k, m, q, hk6, hk, rfl, rfl, rfl, hmq, hq, hq6, HR⟩ := hrel
    by_cases hlt : k < bs.length
    · by_cases h6 : k < 6
      · obtain ⟨b0, off, ha, hc⟩ : ∃ b0 off, a = some ⟨b0, off, none⟩ ∧ w.cell? ⟨b0, off + k, none⟩ = some (.int .u8 (bs[k].toNat : Int)) := by
          rcases hA with h | ⟨b, off, ha, hc⟩
          · subst h; simp at hlt
          · exact ⟨b, off, ha, hc k hlt⟩
        rw [ha]
        obtain ⟨b, hb⟩ : ∃ b, b = bs[k].toNat := ⟨_, rfl⟩
        rw [← hb] at hc
        have hb8 : b < 256 := by rw [hb]; exact UInt8.toNat_lt _
        have Hb : Hid (b = bs[k].toNat) := hb
        have hml := mul_le b q
        have hq7 := hq6 h6
        obtain ⟨d, hd⟩ : ∃ d, d = b % 128 * q := ⟨_, rfl⟩
        have Hd : Hid (d = b % 128 * q) := hd
        have hx : (b : Int) % 128 * (q : Int) = (d : Int) := by rw [hd, Int.natCast_mul, Int.natCast_emod]; rfl
        rw [← hd] at hml
        clear hA hR ha hq6 hd hb
        by_cases hb7 : b < 128
        · by_cases h40 : 1099511627776 < m + d
          · have hfin : R = (0, 0) := by
              have h := HR.out.2; rw [show 6 - k = (5 - k) + 1 by omega] at h
              rw [h, rdF_no _ _ _ _ _ b bs hlt Hb.out hb7 (by rw [← Hd.out]; exact .inl h40)]
            have HF : Hid (R = (0, 0)) := hfin
            clear hfin
            go_wp2
            go_ret2
            exact ⟨by rw [HF.out]; rfl, rfl⟩
          · by_cases hk0 : 0 < k
            · by_cases hb0 : b = 0
              · have hfin : R = (0, 0) := by
                  have h := HR.out.2; rw [show 6 - k = (5 - k) + 1 by omega] at h
                  rw [h, rdF_no _ _ _ _ _ b bs hlt Hb.out hb7 (.inr ⟨hk0, hb0⟩)]
                have HF : Hid (R = (0, 0)) := hfin
                have hbz : ((b : Int) == 0) = true := by simp; omega
                clear hfin hb0
                go_wp2
                go_ret2
                exact ⟨by rw [HF.out]; rfl, rfl⟩
              · have hfin : R = (m + d, k + 1) := by
                  have h := HR.out.2; rw [show 6 - k = (5 - k) + 1 by omega] at h
                  rw [h, rdF_yes _ _ _ _ _ b bs hlt Hb.out hb7 (by rw [← Hd.out]; omega), ← Hd.out]
                have HF : Hid (R = (m + d, k + 1)) := hfin
                have hbz : ((b : Int) == 0) = false := by simp; omega
                clear hfin hb0
                go_wp2
                go_ret2
                exact ⟨by rw [HF.out]; rfl, rfl⟩
            · have hfin : R = (m + d, k + 1) := by
                have h := HR.out.2; rw [show 6 - k = (5 - k) + 1 by omega] at h
                rw [h, rdF_yes _ _ _ _ _ b bs hlt Hb.out hb7 (by rw [← Hd.out]; omega), ← Hd.out]
              have HF : Hid (R = (m + d, k + 1)) := hfin
              clear hfin
              go_wp2
              go_ret2
              exact ⟨by rw [HF.out]; rfl, rfl⟩
        · have HN : Hid (q * 128 = 128 ^ (k + 1) ∧ R = rdF (6 - (k + 1)) (k + 1) (m + d) (q * 128) (bs.drop (k + 1))) := by
            refine ⟨by rw [HR.out.1, Nat.pow_succ], ?_⟩
            have h := HR.out.2; rw [show 6 - k = (6 - (k + 1)) + 1 by omega] at h
            rw [h, rdF_more _ _ _ _ _ b bs hlt Hb.out (by omega), ← Hd.out]
          have hq5 : k + 1 < 6 → q ≤ 268435456 := fun hk5 => by
            have h1 := HR.out.1
            have h2 : (128 : Nat) ^ k ≤ 128 ^ 4 := Nat.pow_le_pow_right (by omega) (by omega)
            omega
          have HQ : Hid (k + 1 < 6 → q ≤ 268435456) := hq5
          clear hq5
          go_wp2
          go_round
          case rel => exact ⟨k + 1, m + d, q * 128, by omega, by omega, by go_num, by go_num, by go_num, by omega, by omega, fun h => by have := HQ.out h; omega, HN⟩
          case measure => simp [intOf]; omega
      · have hfin : R = (0, 0) := by
          have h := HR.out.2; rw [show 6 - k = 0 by omega] at h
          rw [h]; rfl
        have HF : Hid (R = (0, 0)) := hfin
        clear hfin hR
        go_wp2
        go_ret2
        exact ⟨by rw [HF.out]; rfl, rfl⟩
    · have hfin : R = (0, 0) := by rw [HR.out.2, rdF_end _ _ _ _ _ _ (by omega)]
      have HF : Hid (R = (0, 0)) := hfin
      clear hfin hR
      go_wp2
      go_ret2
      exact ⟨by rw [HF.out]; rfl, rfl⟩
end Go.Proofs.YtpbbahpndgigjaaGreatDoor
