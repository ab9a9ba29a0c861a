/- Plain facts on what some snapshots see of a list, and on what goes at the bottom: no function of the program is walked here. -/
import Derived.Test.YthkckgjcecommaaMrgMath
namespace Go.Proofs.Ythkckgjcecommaa
/-- Lists in order with the same members are alike. -/
theorem sr_ext : ∀ (a b : List Ent), Sr a → Sr b → (∀ x, x ∈ a ↔ x ∈ b) → a = b
  | [], b, _, _, h => by
    cases b with
    | nil => rfl
    | cons y s => have := (h y).2 List.mem_cons_self; cases this
  | x :: r, [], _, _, h => by have := (h x).1 List.mem_cons_self; cases this
  | x :: r, y :: s, ha, hb, h => by
    have ha' := List.pairwise_cons.1 ha
    have hb' := List.pairwise_cons.1 hb
    have hxy : x = y := by
      rcases List.mem_cons.1 ((h x).1 List.mem_cons_self) with e | h1
      · exact e
      · rcases List.mem_cons.1 ((h y).2 List.mem_cons_self) with e | h2
        · exact e.symm
        · have p := hb'.1 x h1; have q := ahd_asymm (ha'.1 y h2); rw [p] at q; cases q
    subst hxy
    rw [sr_ext r s ha'.2 hb'.2]
    intro z
    have hz := h z
    rw [List.mem_cons, List.mem_cons] at hz
    constructor
    · intro hm
      rcases hz.1 (.inr hm) with e | e
      · have := ha'.1 z hm; rw [e, ahd_irrefl] at this; cases this
      · exact e
    · intro hm
      rcases hz.2 (.inr hm) with e | e
      · have := hb'.1 z hm; rw [e, ahd_irrefl] at this; cases this
      · exact e
/-- The first that fits, in a list in order. -/
theorem find_sr (p : Ent → Bool) : ∀ (es : List Ent), Sr es → ∀ e, es.find? p = some e ↔ e ∈ es ∧ p e = true ∧ ∀ x ∈ es, p x = true → x = e ∨ ahd e x = true
  | [], _, e => by simp
  | a :: r, hs, e => by
    have hs' := List.pairwise_cons.1 hs
    rw [List.find?_cons]
    cases hp : p a with
    | true =>
      constructor
      · intro h
        obtain rfl := Option.some.inj h
        refine ⟨List.mem_cons_self, hp, fun x hx _ => ?_⟩
        rcases List.mem_cons.1 hx with rfl | hx
        · exact .inl rfl
        · exact .inr (hs'.1 x hx)
      · rintro ⟨h1, h2, h3⟩
        rcases h3 a List.mem_cons_self hp with h | h
        · rw [h]
        · rcases List.mem_cons.1 h1 with rfl | h1
          · rfl
          · have q := ahd_asymm (hs'.1 e h1); rw [h] at q; cases q
    | false =>
      simp only
      rw [find_sr p r hs'.2 e]
      constructor
      · rintro ⟨h1, h2, h3⟩
        refine ⟨List.mem_cons_of_mem _ h1, h2, fun x hx hpx => ?_⟩
        rcases List.mem_cons.1 hx with rfl | hx
        · rw [hp] at hpx; cases hpx
        · exact h3 x hx hpx
      · rintro ⟨h1, h2, h3⟩
        rcases List.mem_cons.1 h1 with rfl | h1
        · rw [hp] at h2; cases h2
        · exact ⟨h1, h2, fun x hx => h3 x (List.mem_cons_of_mem _ hx)⟩
theorem find_sub {p : Ent → Bool} {s l : List Ent} (hs : Sr s) (hl : Sr l) (hsub : ∀ x ∈ s, x ∈ l) {e : Ent} (h : l.find? p = some e) (he : e ∈ s) : s.find? p = some e := by
  rw [find_sr p l hl] at h
  rw [find_sr p s hs]
  exact ⟨he, h.2.1, fun x hx hp => h.2.2 x (hsub x hx) hp⟩
theorem seen_sub {s l : List Ent} (hs : Sr s) (hl : Sr l) (hsub : ∀ x ∈ s, x ∈ l) {k : ByteArray} {q : Int} {e : Ent} (h : seenL l k q = some e) (he : e ∈ s) : seenL s k q = some e := find_sub hs hl hsub h he
/-- Is it seen at a time, and not gone? -/
def shP (es : List Ent) (q : Int) (e : Ent) : Bool := decide (seenL es e.key q = some e) && !e.gone
theorem shTo_filter {es : List Ent} (hs : okL es = true) (q : Int) : ∀ i, i ≤ es.length → shTo es q i = (es.take i).filter (shP es q)
  | 0, _ => by rw [shTo]; simp
  | i + 1, hi => by
    have ih := shTo_filter hs q i (by omega)
    have hb : shAt es q i = shP es q (nth es i) := by unfold shAt shP; rw [shown_seen hs q i (by omega)]
    rw [List.take_add_one, List.getElem?_eq_getElem (by omega), Option.toList_some, List.filter_append, ← ih, ← nth_eq (by omega)]
    cases h : shAt es q i with
    | true => rw [shTo_yes h, List.filter_cons, ← hb, h]; simp
    | false => rw [shTo_no h, List.filter_cons, ← hb, h]; simp
theorem shown_filter {es : List Ent} (hs : okL es = true) (q : Int) : shownL es q = es.filter (shP es q) := by
  unfold shownL
  rw [if_pos hs, shTo_filter hs q _ (Nat.le_refl _), List.take_of_length_le (Nat.le_refl _)]
theorem sr_filter {es : List Ent} (h : Sr es) (p : Ent → Bool) : Sr (es.filter p) := h.sublist List.filter_sublist
/-- What is shown of a part is what is shown of all, where the part has all that is seen then. -/
theorem shown_part {s l : List Ent} (hs : okL s = true) (hl : okL l = true) (hsub : ∀ x ∈ s, x ∈ l) (q : Int) (h1 : ∀ e ∈ l, seenL l e.key q = some e → e.gone = false → e ∈ s)
    (h2 : ∀ e ∈ s, seenL s e.key q = some e → e.gone = false → seenL l e.key q = some e) : shownL s q = shownL l q := by
  rw [shown_filter hs, shown_filter hl]
  refine sr_ext _ _ (sr_filter (okL_sr hs) _) (sr_filter (okL_sr hl) _) fun x => ?_
  simp only [List.mem_filter, shP, Bool.and_eq_true, decide_eq_true_eq, Bool.not_eq_true']
  constructor
  · rintro ⟨hm, hx, hg⟩
    exact ⟨hsub x hm, h2 x hm hx hg, hg⟩
  · rintro ⟨hm, hx, hg⟩
    have := h1 x hm hx hg
    exact ⟨this, seen_sub (okL_sr hs) (okL_sr hl) hsub hx this, hg⟩
/-- Is the entry at i one that is kept for some snapshots? -/
def kept (es : List Ent) (qs : List Int) (i : Nat) : Bool :=
  decide (i = 0) || !kEq (nth es (i - 1)).key (nth es i).key || qs.any (fun q => (seenL es (nth es i).key q).isSome && decide (((seenL es (nth es i).key q).getD zeroE).seq = (nth es i).seq))
def seTo (es : List Ent) (qs : List Int) : Nat → List Ent
  | 0 => []
  | i + 1 => if kept es qs i = true then seTo es qs i ++ [nth es i] else seTo es qs i
def seensL (es : List Ent) (qs : List Int) : List Ent := seTo es qs es.length
def toldS (es : List Ent) (qs : List Int) : Bool := okL es && decide (qs.length ≤ 20)
def seensR (es : List Ent) (qs : List Int) : List Ent := if toldS es qs = true then seensL es qs else []
/-- The same of an entry. -/
def keptE (es : List Ent) (qs : List Int) (e : Ent) : Bool := es.all (fun x => !kEq x.key e.key || decide (x = e) || ahd e x) || qs.any (fun q => decide (seenL es e.key q = some e))
theorem key_mid {a b c : Ent} (h1 : ahd a b = true) (h2 : ahd b c = true) (h : a.key = c.key) : b.key = a.key := by
  rw [ahd_iff] at h1 h2
  rcases h1 with h1 | h1
  · rcases h2 with h2 | h2
    · have := kLt_trans h1 h2; rw [h, kLt_irrefl] at this; cases this
    · rw [h2.1, h]
  · exact h1.1.symm
theorem ks_eq {es : List Ent} (hs : Sr es) {a b : Ent} (ha : a ∈ es) (hb : b ∈ es) (hk : a.key = b.key) (hq : a.seq = b.seq) : a = b := by
  obtain ⟨i, hi, rfl⟩ := List.getElem_of_mem ha
  obtain ⟨j, hj, rfl⟩ := List.getElem_of_mem hb
  have no : ∀ x y : Ent, ahd x y = true → x.key = y.key → x.seq = y.seq → False := fun x y h h1 h2 => by
    rw [ahd_iff, h1, kLt_irrefl] at h
    rcases h with h | h
    · cases h
    · omega
  rcases Nat.lt_trichotomy i j with h | h | h
  · exact absurd (no _ _ (List.pairwise_iff_getElem.1 hs i j hi hj h) hk hq) id
  · subst h; rfl
  · exact absurd (no _ _ (List.pairwise_iff_getElem.1 hs j i hj hi h) hk.symm hq.symm) id
theorem kept_iff {es : List Ent} (hok : okL es = true) (qs : List Int) {i : Nat} (hi : i < es.length) : kept es qs i = keptE es qs (nth es i) := by
  have hs := okL_sr hok
  unfold kept keptE
  have e1 : (decide (i = 0) || !kEq (nth es (i - 1)).key (nth es i).key) = es.all (fun x => !kEq x.key (nth es i).key || decide (x = nth es i) || ahd (nth es i) x) := by
    rw [Bool.eq_iff_iff, List.all_eq_true]
    simp only [Bool.or_eq_true, decide_eq_true_eq, Bool.not_eq_true', kEq, decide_eq_false_iff_not]
    constructor
    · intro h x hx
      obtain ⟨j, hj, rfl⟩ := List.getElem_of_mem hx
      rw [← nth_eq hj]
      rcases Nat.lt_trichotomy i j with hij | hij | hij
      · exact .inr (okL_ij hok hij hj)
      · subst hij; exact .inl (.inr rfl)
      · refine .inl (.inl fun hk => ?_)
        rcases h with h | h
        · omega
        · refine h ?_
          by_cases hj1 : j = i - 1
          · rw [← hj1]; exact hk
          · have := key_mid (okL_ij hok (show j < i - 1 by omega) (by omega)) (okL_ij hok (show i - 1 < i by omega) hi) hk
            rw [this]; exact hk
    · intro h
      by_cases h0 : i = 0
      · exact .inl h0
      · refine .inr fun hk => ?_
        have hp := okL_ij hok (show i - 1 < i by omega) hi
        rcases h (nth es (i - 1)) (by rw [nth_eq (by omega)]; exact List.getElem_mem _) with (h | h) | h
        · exact h hk
        · rw [h, ahd_irrefl] at hp; cases hp
        · have := ahd_asymm hp; rw [h] at this; cases this
  rw [e1]
  congr 2
  funext q
  cases hq : seenL es (nth es i).key q with
  | none => simp
  | some u =>
    have hu : u ∈ es := List.mem_of_find?_eq_some hq
    have hk := (seenL_some hq).1
    have hm : nth es i ∈ es := by rw [nth_eq hi]; exact List.getElem_mem hi
    simp only [Option.isSome_some, Bool.true_and, Option.getD_some, Option.some.injEq]
    apply decide_eq_decide.2
    exact ⟨fun h => ks_eq hs hu hm hk h, fun h => by rw [h]⟩
theorem seTo_filter {es : List Ent} (hok : okL es = true) (qs : List Int) : ∀ i, i ≤ es.length → seTo es qs i = (es.take i).filter (keptE es qs)
  | 0, _ => by rw [seTo]; simp
  | i + 1, hi => by
    have ih := seTo_filter hok qs i (by omega)
    rw [List.take_add_one, List.getElem?_eq_getElem (by omega), Option.toList_some, List.filter_append, ← ih, ← nth_eq (by omega), seTo, kept_iff hok qs (by omega), List.filter_cons]
    cases keptE es qs (nth es i) <;> simp
theorem seens_filter {es : List Ent} (hok : okL es = true) (qs : List Int) : seensL es qs = es.filter (keptE es qs) := by
  unfold seensL
  rw [seTo_filter hok qs _ (Nat.le_refl _), List.take_of_length_le (Nat.le_refl _)]
theorem okL_subl {es fs : List Ent} (h : okL es = true) (hs : fs.Sublist es) : okL fs = true := by
  rw [okL_iff] at h ⊢
  exact ⟨Nat.le_trans hs.length_le h.1, fun e he => h.2.1 e (hs.subset he), h.2.2.sublist hs⟩
theorem seens_sub {es : List Ent} (hok : okL es = true) (qs : List Int) : (seensL es qs).Sublist es := by rw [seens_filter hok]; exact List.filter_sublist
theorem seens_ok {es : List Ent} (hok : okL es = true) (qs : List Int) : okL (seensL es qs) = true := okL_subl hok (seens_sub hok qs)
/-- What is seen at a snapshot, or at the end, is kept. -/
theorem seens_keeps {es : List Ent} (hok : okL es = true) (qs : List Int) {t : Int} (ht : t ∈ qs ∨ t = 1000000) {e : Ent} (h : seenL es e.key t = some e) : e ∈ seensL es qs := by
  have he : e ∈ es := List.mem_of_find?_eq_some h
  rw [seens_filter hok, List.mem_filter]
  refine ⟨he, ?_⟩
  unfold keptE
  rw [Bool.or_eq_true]
  rcases ht with ht | ht
  · exact .inr (List.any_eq_true.2 ⟨t, ht, by simpa using h⟩)
  · left
    rw [List.all_eq_true]
    intro x hx
    simp only [Bool.or_eq_true, Bool.not_eq_true', decide_eq_true_eq]
    by_cases hk : x.key = e.key
    · have hf := (find_sr _ es (okL_sr hok) e).1 h
      have hxe := okL_all' hok x hx
      rcases hf.2.2 x hx (by simp [seenP, kEq, hk, ht, hxe]) with h | h
      · exact .inl (.inr h)
      · exact .inr h
    · exact .inl (.inl (by simp [kEq, hk]))
where
  okL_all' {es : List Ent} (hok : okL es = true) (x : Ent) (hx : x ∈ es) : x.seq ≤ 1000000 := by
    have := ((okL_iff es).1 hok).2.1 x hx
    simp only [okE, Bool.and_eq_true, decide_eq_true_eq] at this
    exact this.2
theorem seens_shown {es : List Ent} (hok : okL es = true) (qs : List Int) {t : Int} (ht : t ∈ qs ∨ t = 1000000) : shownL (seensL es qs) t = shownL es t := by
  have hsub : ∀ x ∈ seensL es qs, x ∈ es := fun x hx => (seens_sub hok qs).subset hx
  refine shown_part (seens_ok hok qs) hok hsub t (fun e _ h _ => seens_keeps hok qs ht h) (fun e he h _ => ?_)
  cases h0 : seenL es e.key t with
  | none =>
    have h1 := seenL_some h
    have := List.find?_eq_none.1 h0 e (hsub e he)
    simp [seenP, kEq, h1.2] at this
  | some u =>
    have hk := (seenL_some h0).1
    have hu := seens_keeps hok qs ht (e := u) (by rw [hk]; exact h0)
    have := seen_sub (okL_sr (seens_ok hok qs)) (okL_sr hok) hsub h0 hu
    rw [h] at this
    exact this.symm ▸ rfl
/-- One more ahead of those that stay at the bottom. -/
def botS (e : Ent) (out : List Ent) : List Ent := if (decide (out.length = 0) || !kEq (nth out 0).key e.key) && e.gone then out else e :: out
def bottomOf (es : List Ent) : List Ent := es.foldr botS []
def bottomR (es : List Ent) (qs : List Int) : List Ent := if toldS es qs = true then bottomOf (seensL es qs) else []
theorem botS_sub (e : Ent) (out : List Ent) : (botS e out).Sublist (e :: out) := by
  unfold botS
  split
  · exact List.sublist_cons_self _ _
  · exact List.Sublist.refl _
theorem bottom_sub : ∀ es : List Ent, (bottomOf es).Sublist es
  | [] => List.Sublist.refl _
  | e :: r => (botS_sub e (bottomOf r)).trans ((bottom_sub r).cons_cons e)
theorem bottom_twice : ∀ es : List Ent, bottomOf (bottomOf es) = bottomOf es
  | [] => rfl
  | e :: r => by
    have ih := bottom_twice r
    show bottomOf (botS e (bottomOf r)) = botS e (bottomOf r)
    unfold botS
    split
    · exact ih
    · rename_i h
      show botS e (bottomOf (bottomOf r)) = _
      rw [ih]
      unfold botS
      rw [if_neg h]
theorem bottom_gone : ∀ {es : List Ent}, Sr es → ∀ e ∈ es, e ∉ bottomOf es → e.gone = true ∧ ∀ x ∈ bottomOf es, ahd e x = true → x.key ≠ e.key
  | [], _, e, he, _ => by cases he
  | a :: r, hs, e, he, hn => by
    have hs' := List.pairwise_cons.1 hs
    have hb : bottomOf (a :: r) = botS a (bottomOf r) := rfl
    rw [hb] at hn ⊢
    by_cases hc : ((decide ((bottomOf r).length = 0) || !kEq (nth (bottomOf r) 0).key a.key) && a.gone) = true
    · have hbs : botS a (bottomOf r) = bottomOf r := by unfold botS; rw [if_pos hc]
      rw [hbs] at hn ⊢
      rcases List.mem_cons.1 he with rfl | her
      · simp only [Bool.and_eq_true, Bool.or_eq_true, decide_eq_true_eq, Bool.not_eq_true', kEq, decide_eq_false_iff_not] at hc
        refine ⟨hc.2, fun x hx hax hk => ?_⟩
        rcases hc.1 with h0 | h0
        · have := List.length_eq_zero_iff.1 h0; rw [this] at hx; cases hx
        · have hsr : Sr (bottomOf r) := hs'.2.sublist (bottom_sub r)
          cases hbr : bottomOf r with
          | nil => rw [hbr] at hx; cases hx
          | cons y s =>
            rw [hbr] at hx h0 hsr
            rw [nth_zero] at h0
            rcases List.mem_cons.1 hx with rfl | hx
            · exact h0 hk
            · have hy : y ∈ r := (bottom_sub r).subset (by rw [hbr]; exact List.mem_cons_self)
              exact h0 (key_mid (hs'.1 y hy) ((List.pairwise_cons.1 hsr).1 x hx) hk.symm)
      · exact bottom_gone hs'.2 e her hn
    · have hbs : botS a (bottomOf r) = a :: bottomOf r := by unfold botS; rw [if_neg hc]
      rw [hbs] at hn ⊢
      rcases List.mem_cons.1 he with rfl | her
      · exact absurd List.mem_cons_self hn
      · obtain ⟨h1, h2⟩ := bottom_gone hs'.2 e her (fun h => hn (List.mem_cons_of_mem _ h))
        refine ⟨h1, fun x hx hex => ?_⟩
        rcases List.mem_cons.1 hx with rfl | hx
        · have := ahd_asymm (hs'.1 e her); rw [hex] at this; cases this
        · exact h2 x hx hex
theorem bottom_ok {es : List Ent} (hok : okL es = true) : okL (bottomOf es) = true := okL_subl hok (bottom_sub es)
theorem bottom_shown {es : List Ent} (hok : okL es = true) (t : Int) : shownL (bottomOf es) t = shownL es t := by
  have hsub : ∀ x ∈ bottomOf es, x ∈ es := fun x hx => (bottom_sub es).subset hx
  refine shown_part (bottom_ok hok) hok hsub t (fun e he _ hg => ?_) (fun e he h _ => ?_)
  · refine Decidable.byContradiction fun hn => ?_
    have := (bottom_gone (okL_sr hok) e he hn).1
    rw [hg] at this; cases this
  · cases h0 : seenL es e.key t with
    | none =>
      have h1 := seenL_some h
      have := List.find?_eq_none.1 h0 e (hsub e he)
      simp [seenP, kEq, h1.2] at this
    | some u =>
      have hk := (seenL_some h0).1
      have hu : u ∈ es := List.mem_of_find?_eq_some h0
      have hf := (find_sr _ es (okL_sr hok) u).1 h0
      have h1 := seenL_some h
      rcases hf.2.2 e (hsub e he) (by simp [seenP, kEq, h1.2]) with h2 | h2
      · rw [h2]
      · by_cases hub : u ∈ bottomOf es
        · have := seen_sub (okL_sr (bottom_ok hok)) (okL_sr hok) hsub h0 hub
          rw [h] at this
          exact this.symm ▸ rfl
        · exact absurd hk.symm ((bottom_gone (okL_sr hok) u hu hub).2 e he h2)
/-- A part of what is kept is kept of itself. -/
theorem seens_part {es b : List Ent} (hok : okL es = true) (qs : List Int) (hb : b.Sublist (seensL es qs)) : seensL b qs = b := by
  have hbe := hb.trans (seens_sub hok qs)
  have hbo := okL_subl hok hbe
  rw [seens_filter hbo, List.filter_eq_self]
  intro e he
  have hes := hb.subset he
  rw [seens_filter hok, List.mem_filter] at hes
  have hk := hes.2
  unfold keptE at hk ⊢
  rw [Bool.or_eq_true] at hk ⊢
  rcases hk with hk | hk
  · left
    rw [List.all_eq_true] at hk ⊢
    exact fun x hx => hk x (hbe.subset hx)
  · right
    obtain ⟨q, hq, hs⟩ := List.any_eq_true.1 hk
    refine List.any_eq_true.2 ⟨q, hq, ?_⟩
    rw [decide_eq_true_eq] at hs ⊢
    exact seen_sub (okL_sr hbo) (okL_sr hok) (fun x hx => hbe.subset hx) hs he
theorem bottom_again {es : List Ent} (hok : okL es = true) (qs : List Int) : bottomOf (seensL (bottomOf (seensL es qs)) qs) = bottomOf (seensL es qs) := by
  rw [seens_part hok qs (bottom_sub _), bottom_twice]
end Go.Proofs.Ythkckgjcecommaa
