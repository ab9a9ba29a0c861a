/- Plain facts on what is done to trees, and what is read of them: no function of the program is walked here. -/
import Derived.Test.YthkckgjcecommaaTreMath1
namespace Go.Proofs.Ythkckgjcecommaa
/-- The newest of a key by then. -/
theorem seen_iff {es : List Ent} (hs : Sr es) (k : ByteArray) (q : Int) (e : Ent) : seenL es k q = some e ↔ e ∈ es ∧ e.key = k ∧ e.seq ≤ q ∧ ∀ x ∈ es, x.key = k → x.seq ≤ q → x.seq ≤ e.seq := by
  unfold seenL
  rw [find_sr _ es hs e]
  simp only [seenP, kEq, Bool.and_eq_true, decide_eq_true_eq]
  constructor
  · rintro ⟨h1, ⟨h2, h3⟩, h4⟩
    refine ⟨h1, h2, h3, fun x hx hk hq => ?_⟩
    rcases h4 x hx ⟨hk, hq⟩ with h | h
    · rw [h]; exact Int.le_refl _
    · rw [ahd_iff, h2, hk, kLt_irrefl] at h
      rcases h with h | h
      · cases h
      · omega
  · rintro ⟨h1, h2, h3, h4⟩
    refine ⟨h1, ⟨h2, h3⟩, fun x hx ⟨hk, hq⟩ => ?_⟩
    have := h4 x hx hk hq
    by_cases he : x.seq = e.seq
    · exact .inl (ks_eq hs hx h1 (by rw [hk, h2]) he)
    · right
      rw [ahd_iff]
      exact .inr ⟨by rw [h2, hk], by omega⟩
theorem seen_none {es : List Ent} (k : ByteArray) (q : Int) : seenL es k q = none ↔ ∀ x ∈ es, x.key = k → ¬ x.seq ≤ q := by
  unfold seenL
  rw [List.find?_eq_none]
  simp only [seenP, kEq, Bool.and_eq_true, decide_eq_true_eq, not_and]
/-- Lists with the same of a key by then show the same there. -/
theorem seen_ext {a b : List Ent} (ha : Sr a) (hb : Sr b) (k : ByteArray) (q : Int) (h : ∀ x, x.key = k → x.seq ≤ q → (x ∈ a ↔ x ∈ b)) : seenL a k q = seenL b k q := by
  cases h1 : seenL a k q with
  | none =>
    symm
    rw [seen_none] at h1 ⊢
    intro x hx hk hq
    exact h1 x ((h x hk hq).2 hx) hk hq
  | some e =>
    symm
    rw [seen_iff ha] at h1
    rw [seen_iff hb]
    obtain ⟨g1, g2, g3, g4⟩ := h1
    exact ⟨(h e g2 g3).1 g1, g2, g3, fun x hx hk hq => g4 x ((h x hk hq).2 hx) hk hq⟩
/-- What is told of an entry that is seen. -/
def tellE : Option Ent → Option ByteArray
  | some e => if e.gone = true then none else some e.val
  | none => none
def readL (es : List Ent) (k : ByteArray) (q : Int) : Option ByteArray := tellE (seenL es k q)
def readT (T : Tre) (k : ByteArray) (q : Int) : Option ByteArray := if treeOk T = true then readL (mergedL (lsT T)) k q else none
theorem shown_mem {es : List Ent} (hok : okL es = true) (q : Int) (e : Ent) : e ∈ shownL es q ↔ seenL es e.key q = some e ∧ e.gone = false := by
  rw [shown_filter hok, List.mem_filter]
  simp only [shP, Bool.and_eq_true, decide_eq_true_eq, Bool.not_eq_true']
  constructor
  · rintro ⟨_, h⟩; exact h
  · intro h
    exact ⟨List.mem_of_find?_eq_some h.1, h⟩
/-- What is read hangs on what is shown alone. -/
theorem read_shown {a b : List Ent} (ha : okL a = true) (hb : okL b = true) {q : Int} (h : shownL a q = shownL b q) (k : ByteArray) : readL a k q = readL b k q := by
  have go : ∀ {a b : List Ent}, okL a = true → okL b = true → shownL a q = shownL b q → ∀ e, seenL a k q = some e → e.gone = false → seenL b k q = some e := by
    intro a b ha hb h e he hg
    have hk := (seenL_some he).1
    have : e ∈ shownL a q := (shown_mem ha q e).2 ⟨by rw [hk]; exact he, hg⟩
    rw [h] at this
    have := ((shown_mem hb q e).1 this).1
    rwa [hk] at this
  unfold readL
  cases h1 : seenL a k q with
  | none =>
    cases h2 : seenL b k q with
    | none => rfl
    | some e =>
      cases hg : e.gone with
      | true => simp [tellE, hg]
      | false => rw [go hb ha h.symm e h2 hg] at h1; cases h1
  | some e =>
    cases hg : e.gone with
    | false => rw [go ha hb h e h1 hg]
    | true =>
      cases h2 : seenL b k q with
      | none => simp [tellE, hg]
      | some u =>
        cases hg2 : u.gone with
        | false =>
          have := go hb ha h.symm u h2 hg2
          rw [h1] at this
          have e2 := Option.some.inj this
          rw [← e2, hg] at hg2; cases hg2
        | true => simp [tellE, hg, hg2]
/-- Memory first, where it is newer. -/
theorem seen_mem_first {all mem B : List Ent} (ha : Sr all) (hm : Sr mem) (hB : Sr B) (h : ∀ x, x ∈ all ↔ x ∈ mem ∨ x ∈ B) (hn : ∀ x ∈ mem, ∀ y ∈ B, x.key = y.key → y.seq < x.seq) (k : ByteArray) (q : Int) :
    seenL all k q = (seenL mem k q).or (seenL B k q) := by
  cases h1 : seenL mem k q with
  | some e =>
    rw [Option.some_or, seen_iff ha]
    rw [seen_iff hm] at h1
    obtain ⟨g1, g2, g3, g4⟩ := h1
    refine ⟨(h e).2 (.inl g1), g2, g3, fun x hx hk hq => ?_⟩
    rcases (h x).1 hx with hx | hx
    · exact g4 x hx hk hq
    · have := hn e g1 x hx (by rw [g2, hk]); omega
  | none =>
    rw [Option.none_or]
    rw [seen_none] at h1
    refine seen_ext ha hB k q (fun x hk hq => ?_)
    rw [h x]
    constructor
    · rintro (hx | hx)
      · exact absurd hq (h1 x hx hk)
      · exact hx
    · exact .inr
theorem TreeP.sr {T : Tre} (h : TreeP T) : Sr (mergedL (lsT T)) := merged_sr (lsT_sr h.mem)
theorem TreeP.all {T : Tre} (h : TreeP T) (z : Ent) : z ∈ mergedL (lsT T) ↔ ∃ l ∈ lsT T, z ∈ l := merged_mem (lsT_sr h.mem) h.apart z
theorem readT_eq {T : Tre} (h : TreeP T) (k : ByteArray) (q : Int) : readT T k q = readL (mergedL (lsT T)) k q := by unfold readT; rw [if_pos ((treeOk_iff T).2 h)]
/-- A write. -/
structure Wri where
  key : ByteArray
  val : ByteArray
  gone : Bool
def wriE (x : Wri) (s : Int) : Ent := ⟨x.key, x.val, s, x.gone⟩
def wriOk (x : Wri) : Bool := okE (wriE x 1)
theorem wriOk_at {x : Wri} (h : wriOk x = true) {s : Int} (h1 : 1 ≤ s) (h2 : s ≤ 1000000) : okE (wriE x s) = true := by
  unfold wriOk okE at h
  unfold okE
  simp only [wriE, Bool.and_eq_true] at h ⊢
  exact ⟨⟨h.1.1, decide_eq_true h1⟩, decide_eq_true h2⟩
def put1 (T : Tre) (x : Wri) : Tre := ⟨insE T.mem (wriE x (T.seq + 1)), T.young, T.old, T.seq + 1, T.snaps⟩
theorem insE_mem (es : List Ent) (e z : Ent) : z ∈ insE es e ↔ z = e ∨ z ∈ es := by
  unfold insE
  rw [List.mem_append, List.mem_cons]
  have : z ∈ es ↔ z ∈ es.take (atE es e) ∨ z ∈ es.drop (atE es e) := by
    conv => lhs; rw [← List.take_append_drop (atE es e) es]
    rw [List.mem_append]
  rw [this]
  constructor
  · rintro (h | h | h)
    · exact .inr (.inl h)
    · exact .inl h
    · exact .inr (.inr h)
  · rintro (h | h | h)
    · exact .inr (.inl h)
    · exact .inl h
    · exact .inr (.inr h)
theorem snapsOk_iff (seq : Int) (ss : List Int) : snapsOk seq ss = true ↔ (∀ s ∈ ss, 0 ≤ s ∧ s ≤ seq) ∧ ss.Pairwise (· < ·) := by
  unfold snapsOk
  rw [List.all_eq_true]
  have gd2 : ∀ i (hi : i < ss.length), ss.getD i 0 = ss[i] := fun i hi => by simp [List.getD, List.getElem?_eq_getElem hi]
  constructor
  · intro h
    have h1 : ∀ i (hi : i < ss.length), (0 ≤ ss[i] ∧ ss[i] ≤ seq) ∧ (i = 0 ∨ ss.getD (i - 1) 0 < ss[i]) := fun i hi => by
      have := h i (List.mem_range.2 hi)
      simp only [Bool.and_eq_true, Bool.or_eq_true, decide_eq_true_eq] at this
      rw [gd2 i hi] at this
      exact this
    refine ⟨fun s hs => ?_, ?_⟩
    · obtain ⟨i, hi, rfl⟩ := List.getElem_of_mem hs
      exact (h1 i hi).1
    · rw [List.pairwise_iff_getElem]
      intro i j hi hj hij
      have step : ∀ d (hd : i + d + 1 < ss.length), ss[i] < ss[i + d + 1] := by
        intro d
        induction d with
        | zero =>
          intro hd
          rcases (h1 (i + 1) (by omega)).2 with h0 | h0
          · omega
          · rw [show i + 1 - 1 = i by omega, gd2 i hi] at h0
            exact h0
        | succ d ih =>
          intro hd
          have a := ih (by omega)
          rcases (h1 (i + (d + 1) + 1) hd).2 with h0 | h0
          · omega
          · rw [show i + (d + 1) + 1 - 1 = i + d + 1 by omega, gd2 _ (by omega)] at h0
            omega
      have := step (j - i - 1) (by omega)
      simp only [show i + (j - i - 1) + 1 = j by omega] at this
      exact this
  · rintro ⟨h1, h2⟩ i hi
    rw [List.mem_range] at hi
    simp only [Bool.and_eq_true, Bool.or_eq_true, decide_eq_true_eq]
    rw [gd2 i hi]
    have := h1 _ (List.getElem_mem hi)
    refine ⟨this, ?_⟩
    by_cases h0 : i = 0
    · exact .inl h0
    · right
      rw [gd2 (i - 1) (by omega)]
      exact List.pairwise_iff_getElem.1 h2 (i - 1) i (by omega) hi (by omega)
theorem snaps_up {a b : Int} {ss : List Int} (h : snapsOk a ss = true) (hab : a ≤ b) : snapsOk b ss = true := by
  rw [snapsOk_iff] at h ⊢
  exact ⟨fun s hs => ⟨(h.1 s hs).1, by have := (h.1 s hs).2; omega⟩, h.2⟩
theorem put1_tree {T : Tre} (h : TreeP T) {x : Wri} (hx : wriOk x = true) (hs : T.seq < 1000000) (hl : T.mem.length < 300) : TreeP (put1 T x) := by
  have hd := List.pairwise_cons.1 h.apart
  have he : okE (wriE x (T.seq + 1)) = true := wriOk_at hx (by have := h.seq0; omega) (by omega)
  have hno : ∀ y, (∃ l ∈ lsT T, y ∈ l) → sameKS y (wriE x (T.seq + 1)) = false := fun y ⟨l, hl, hy⟩ => by
    cases hk : sameKS y (wriE x (T.seq + 1)) with
    | false => rfl
    | true =>
      have h1 := ((sameKS_iff _ _).1 hk).2
      have h2 := h.top l hl y hy
      simp only [wriE] at h1
      omega
  have hpk : putOk T.mem (wriE x (T.seq + 1)) = true := by
    simp only [putOk, Bool.and_eq_true, Bool.not_eq_true', decide_eq_false_iff_not]
    refine ⟨⟨⟨h.mem, he⟩, by omega⟩, ?_⟩
    cases hk : hasKS T.mem (wriE x (T.seq + 1)) with
    | false => rfl
    | true =>
      unfold hasKS at hk
      rw [List.any_eq_true] at hk
      obtain ⟨y, hy, hyk⟩ := hk
      have := hno y ⟨T.mem, List.mem_cons_self, hy⟩
      rw [hyk] at this; cases this
  refine ⟨insE_ok hpk, h.young, h.old, h.full, ?_, by show (0 : Int) ≤ T.seq + 1; have := h.seq0; omega, by show T.seq + 1 ≤ 1000000; omega, h.few, snaps_up h.snaps (show T.seq ≤ T.seq + 1 by omega), fun l hl e hel => ?_, fun a ha l hl y hy hk => ?_⟩
  · show (insE T.mem (wriE x (T.seq + 1)) :: tabL T).Pairwise Dsj
    rw [List.pairwise_cons]
    refine ⟨fun l hl a ha y hy => ?_, hd.2⟩
    rcases (insE_mem _ _ _).1 ha with rfl | ha
    · cases hk : sameKS (wriE x (T.seq + 1)) y with
      | false => rfl
      | true => have := hno y ⟨l, List.mem_cons_of_mem _ hl, hy⟩; rw [sameKS_symm hk] at this; cases this
    · exact hd.1 l hl a ha y hy
  · show e.seq ≤ T.seq + 1
    rcases List.mem_cons.1 (show l ∈ insE T.mem (wriE x (T.seq + 1)) :: tabL T from hl) with rfl | hl
    · rcases (insE_mem _ _ _).1 hel with rfl | hel
      · exact Int.le_refl _
      · have := h.top T.mem List.mem_cons_self e hel; omega
    · have := h.top l (List.mem_cons_of_mem _ hl) e hel; omega
  · rcases (insE_mem _ _ _).1 ha with rfl | ha
    · have := h.top l (List.mem_cons_of_mem _ hl) y hy
      show y.seq < T.seq + 1
      omega
    · exact h.newer a ha l hl y hy hk
theorem put1_all {T : Tre} (h : TreeP T) {x : Wri} (h' : TreeP (put1 T x)) (z : Ent) : z ∈ mergedL (lsT (put1 T x)) ↔ z = wriE x (T.seq + 1) ∨ z ∈ mergedL (lsT T) := by
  rw [h'.all, h.all]
  constructor
  · rintro ⟨l, hl, hz⟩
    rcases List.mem_cons.1 (show l ∈ insE T.mem (wriE x (T.seq + 1)) :: tabL T from hl) with rfl | hl
    · rcases (insE_mem _ _ _).1 hz with hz | hz
      · exact .inl hz
      · exact .inr ⟨T.mem, List.mem_cons_self, hz⟩
    · exact .inr ⟨l, List.mem_cons_of_mem _ hl, hz⟩
  · rintro (hz | ⟨l, hl, hz⟩)
    · exact ⟨_, List.mem_cons_self, (insE_mem _ _ _).2 (.inl hz)⟩
    · rcases List.mem_cons.1 hl with rfl | hl
      · exact ⟨_, List.mem_cons_self, (insE_mem _ _ _).2 (.inr hz)⟩
      · exact ⟨l, List.mem_cons_of_mem _ hl, hz⟩
/-- A write is not read by what was read ahead of it. -/
theorem put1_before {T : Tre} (h : TreeP T) {x : Wri} (h' : TreeP (put1 T x)) (k : ByteArray) {q : Int} (hq : q ≤ T.seq) : readT (put1 T x) k q = readT T k q := by
  rw [readT_eq h', readT_eq h]
  unfold readL
  rw [seen_ext h'.sr h.sr k q (fun z _ hz => ?_)]
  rw [put1_all h h']
  constructor
  · rintro (e | e)
    · subst e
      simp only [wriE] at hz
      omega
    · exact e
  · exact .inr
theorem seen_past {T : Tre} (h : TreeP T) (k : ByteArray) {q : Int} (hq : T.seq ≤ q) : seenL (mergedL (lsT T)) k q = seenL (mergedL (lsT T)) k T.seq :=
  by
    cases h1 : seenL (mergedL (lsT T)) k T.seq with
    | none =>
      rw [seen_none] at h1 ⊢
      intro x hx hk _
      obtain ⟨l, hl, hxl⟩ := (h.all x).1 hx
      exact h1 x hx hk (h.top l hl x hxl)
    | some e =>
      rw [seen_iff h.sr] at h1 ⊢
      obtain ⟨g1, g2, g3, g4⟩ := h1
      refine ⟨g1, g2, by omega, fun x hx hk _ => ?_⟩
      obtain ⟨l, hl, hxl⟩ := (h.all x).1 hx
      exact g4 x hx hk (h.top l hl x hxl)
/-- A write is read from its number on; other keys are read as they were. -/
theorem put1_now {T : Tre} (h : TreeP T) {x : Wri} (h' : TreeP (put1 T x)) (k : ByteArray) : readT (put1 T x) k (T.seq + 1) = if kEq x.key k = true then (if x.gone = true then none else some x.val) else readT T k T.seq := by
  rw [readT_eq h', readT_eq h]
  unfold readL
  by_cases hk : kEq x.key k = true
  · rw [if_pos hk]
    have : seenL (mergedL (lsT (put1 T x))) k (T.seq + 1) = some (wriE x (T.seq + 1)) := by
      rw [seen_iff h'.sr]
      refine ⟨(put1_all h h' _).2 (.inl rfl), of_decide_eq_true hk, Int.le_refl _, fun z _ _ hz => hz⟩
    rw [this]
    rfl
  · rw [if_neg hk]
    have hk' : x.key ≠ k := fun e => hk (by simp [kEq, e])
    rw [← seen_past h k (q := T.seq + 1) (by omega), seen_ext h'.sr h.sr k (T.seq + 1) (fun z hz _ => ?_)]
    rw [put1_all h h']
    constructor
    · rintro (e | e)
      · subst e; exact absurd hz hk'
      · exact e
    · exact .inr
/-- Spilled. -/
def spillT (T : Tre) : Tre := ⟨[], builtT T.mem :: T.young, T.old, T.seq, T.snaps⟩
theorem spill_ls {T : Tre} (hm : okL T.mem = true) (h0 : T.mem.length ≠ 0) : lsT (spillT T) = [] :: T.mem :: tabL T := by
  unfold lsT tabL spillT
  have : builtOk T.mem = true := by simp [builtOk, hm, h0]
  simp [built_entries this]
theorem spill_tree {T : Tre} (h : TreeP T) (h0 : T.mem.length ≠ 0) (hy : T.young.length < 6) : TreeP (spillT T) := by
  have hls := spill_ls h.mem h0
  have hb : builtOk T.mem = true := by simp [builtOk, h.mem, h0]
  refine ⟨rfl, by show T.young.length + 1 ≤ 6; omega, h.old, fun t ht => ?_, ?_, h.seq0, h.seq1, h.few, h.snaps, fun l hl e he => ?_, fun x hx => by cases hx⟩
  · rcases List.mem_cons.1 (show t ∈ builtT T.mem :: (T.young ++ T.old) from ht) with rfl | ht
    · exact built_ok hb
    · exact h.full t ht
  · rw [hls, List.pairwise_cons]
    exact ⟨(fun l _ x hx => by cases hx), h.apart⟩
  · rw [hls] at hl
    rcases List.mem_cons.1 hl with rfl | hl
    · cases he
    · exact h.top l hl e he
theorem spill_all {T : Tre} (h : TreeP T) (h0 : T.mem.length ≠ 0) (hy : T.young.length < 6) : mergedL (lsT (spillT T)) = mergedL (lsT T) := by
  have h' := spill_tree h h0 hy
  refine sr_ext _ _ h'.sr h.sr (fun z => ?_)
  rw [h'.all, h.all, spill_ls h.mem h0]
  constructor
  · rintro ⟨l, hl, hz⟩
    rcases List.mem_cons.1 hl with rfl | hl
    · cases hz
    · exact ⟨l, hl, hz⟩
  · rintro ⟨l, hl, hz⟩
    exact ⟨l, List.mem_cons_of_mem _ hl, hz⟩
theorem spill_read {T : Tre} (h : TreeP T) (h0 : T.mem.length ≠ 0) (hy : T.young.length < 6) (k : ByteArray) (q : Int) : readT (spillT T) k q = readT T k q := by
  rw [readT_eq (spill_tree h h0 hy), readT_eq h, spill_all h h0 hy]
/-- Sunk. -/
def sinkL (T : Tre) : List Ent := bottomOf (seensL (mergedL (tabL T)) (T.snaps ++ [T.seq]))
def sinkT (T : Tre) : Tre := ⟨T.mem, [], if (sinkL T).length = 0 then [] else [builtT (sinkL T)], T.seq, T.snaps⟩
theorem tab_apart {T : Tre} (h : TreeP T) : (tabL T).Pairwise Dsj := (List.pairwise_cons.1 h.apart).2
theorem tab_mem {T : Tre} (h : TreeP T) (z : Ent) : z ∈ mergedL (tabL T) ↔ ∃ l ∈ tabL T, z ∈ l := merged_mem (tabL_sr T) (tab_apart h) z
theorem entries_okE {T : Tre} (h : TreeP T) {l : List Ent} (hl : l ∈ tabL T) {e : Ent} (he : e ∈ l) : okE e = true := by
  obtain ⟨t, ht, rfl⟩ := List.mem_map.1 hl
  exact ((okL_iff _).1 (tableOk_parts (h.full t ht)).1).2.1 e he
theorem tab_ok {T : Tre} (h : TreeP T) (hn : (mergedL (tabL T)).length ≤ 300) : okL (mergedL (tabL T)) = true := by
  rw [okL_iff]
  refine ⟨hn, fun e he => ?_, merged_sr (tabL_sr T)⟩
  obtain ⟨l, hl, hel⟩ := (tab_mem h e).1 he
  exact entries_okE h hl hel
theorem sink_sub {T : Tre} (h : TreeP T) (hn : (mergedL (tabL T)).length ≤ 300) : (sinkL T).Sublist (mergedL (tabL T)) := (bottom_sub _).trans (seens_sub (tab_ok h hn) _)
theorem sink_ok {T : Tre} (h : TreeP T) (hn : (mergedL (tabL T)).length ≤ 300) : okL (sinkL T) = true := okL_subl (tab_ok h hn) (sink_sub h hn)
theorem sink_tab {T : Tre} (h : TreeP T) (hn : (mergedL (tabL T)).length ≤ 300) : tabL (sinkT T) = if (sinkL T).length = 0 then [] else [sinkL T] := by
  unfold tabL sinkT
  by_cases h0 : (sinkL T).length = 0
  · simp [h0]
  · have : builtOk (sinkL T) = true := by simp [builtOk, sink_ok h hn, h0]
    simp [h0, built_entries this]
theorem sink_in {T : Tre} (h : TreeP T) (hn : (mergedL (tabL T)).length ≤ 300) {l : List Ent} (hl : l ∈ tabL (sinkT T)) {e : Ent} (he : e ∈ l) : e ∈ sinkL T := by
  rw [sink_tab h hn] at hl
  split at hl
  · cases hl
  · rw [List.mem_singleton.1 hl] at he; exact he
theorem sink_tree {T : Tre} (h : TreeP T) (hn : (mergedL (tabL T)).length ≤ 300) : TreeP (sinkT T) := by
  have hin : ∀ l ∈ tabL (sinkT T), ∀ e ∈ l, ∃ m ∈ tabL T, e ∈ m := fun l hl e he => (tab_mem h e).1 ((sink_sub h hn).subset (sink_in h hn hl he))
  have hd := List.pairwise_cons.1 h.apart
  refine ⟨h.mem, Nat.zero_le _, ?_, fun t ht => ?_, ?_, h.seq0, h.seq1, h.few, h.snaps, fun l hl e he => ?_, fun x hx l hl y hy hk => ?_⟩
  · unfold sinkT
    split
    · exact Nat.zero_le _
    · exact Nat.le_refl _
  · have ht' : t ∈ (if (sinkL T).length = 0 then [] else [builtT (sinkL T)]) := by simpa [sinkT] using ht
    split at ht'
    · cases ht'
    · rename_i h0
      rw [List.mem_singleton.1 ht']
      exact built_ok (by simp [builtOk, sink_ok h hn, h0])
  · show (T.mem :: tabL (sinkT T)).Pairwise Dsj
    rw [List.pairwise_cons]
    refine ⟨fun l hl x hx y hy => ?_, ?_⟩
    · obtain ⟨m, hm, hym⟩ := hin l hl y hy
      exact hd.1 m hm x hx y hym
    · rw [sink_tab h hn]
      split
      · exact List.Pairwise.nil
      · exact List.pairwise_singleton _ _
  · rcases List.mem_cons.1 (show l ∈ T.mem :: tabL (sinkT T) from hl) with rfl | hl
    · exact h.top T.mem List.mem_cons_self e he
    · obtain ⟨m, hm, hem⟩ := hin l hl e he
      exact h.top m (List.mem_cons_of_mem _ hm) e hem
  · obtain ⟨m, hm, hym⟩ := hin l hl y hy
    exact h.newer x hx m hm y hym hk
/-- Sinking changes no answer at the tree's number or at a snapshot. -/
theorem sink_read {T : Tre} (h : TreeP T) (hn : (mergedL (tabL T)).length ≤ 300) (k : ByteArray) {q : Int} (hq : q ∈ T.snaps ++ [T.seq]) : readT (sinkT T) k q = readT T k q := by
  have h' := sink_tree h hn
  have hok := tab_ok h hn
  rw [readT_eq h', readT_eq h]
  have e1 : seenL (mergedL (lsT T)) k q = (seenL T.mem k q).or (seenL (mergedL (tabL T)) k q) := by
    refine seen_mem_first h.sr (okL_sr h.mem) (merged_sr (tabL_sr T)) (fun x => ?_) (fun x hx y hy hk => ?_) k q
    · rw [h.all, tab_mem h]
      constructor
      · rintro ⟨l, hl, hx⟩
        rcases List.mem_cons.1 hl with rfl | hl
        · exact .inl hx
        · exact .inr ⟨l, hl, hx⟩
      · rintro (hx | ⟨l, hl, hx⟩)
        · exact ⟨T.mem, List.mem_cons_self, hx⟩
        · exact ⟨l, List.mem_cons_of_mem _ hl, hx⟩
    · obtain ⟨l, hl, hyl⟩ := (tab_mem h y).1 hy
      exact h.newer x hx l hl y hyl hk
  have e2 : seenL (mergedL (lsT (sinkT T))) k q = (seenL T.mem k q).or (seenL (sinkL T) k q) := by
    refine seen_mem_first h'.sr (okL_sr h.mem) (okL_sr (sink_ok h hn)) (fun x => ?_) (fun x hx y hy hk => ?_) k q
    · rw [h'.all]
      constructor
      · rintro ⟨l, hl, hx⟩
        rcases List.mem_cons.1 (show l ∈ T.mem :: tabL (sinkT T) from hl) with rfl | hl
        · exact .inl hx
        · exact .inr (sink_in h hn hl hx)
      · rintro (hx | hx)
        · exact ⟨T.mem, List.mem_cons_self, hx⟩
        · refine ⟨sinkL T, List.mem_cons_of_mem _ ?_, hx⟩
          rw [sink_tab h hn, if_neg (fun e => by rw [List.eq_nil_of_length_eq_zero e] at hx; cases hx)]
          exact List.mem_singleton.2 rfl
    · obtain ⟨l, hl, hyl⟩ := (tab_mem h y).1 ((sink_sub h hn).subset hy)
      exact h.newer x hx l hl y hyl hk
  have e3 : readL (sinkL T) k q = readL (mergedL (tabL T)) k q := by
    refine read_shown (sink_ok h hn) hok ?_ k
    unfold sinkL
    rw [bottom_shown (seens_ok hok _), seens_shown hok _ (.inl hq)]
  unfold readL at e3 ⊢
  rw [e1, e2]
  cases seenL T.mem k q with
  | some e => rfl
  | none => rw [Option.none_or, Option.none_or]; exact e3
/-- A snapshot more; one less. -/
def snapT (T : Tre) : Tre := ⟨T.mem, T.young, T.old, T.seq, T.snaps ++ [T.seq]⟩
theorem snap_tree {T : Tre} (h : TreeP T) (hn : T.snaps.length < 10) (hs : ∀ s ∈ T.snaps, s ≠ T.seq) : TreeP (snapT T) := by
  refine ⟨h.mem, h.young, h.old, h.full, h.apart, h.seq0, h.seq1, ?_, ?_, h.top, h.newer⟩
  · show (T.snaps ++ [T.seq]).length ≤ 10
    rw [List.length_append]; simp; omega
  · have := (snapsOk_iff _ _).1 h.snaps
    show snapsOk T.seq (T.snaps ++ [T.seq]) = true
    rw [snapsOk_iff]
    refine ⟨fun s hs' => ?_, ?_⟩
    · rcases List.mem_append.1 hs' with e | e
      · exact this.1 s e
      · rw [List.mem_singleton.1 e]; exact ⟨h.seq0, Int.le_refl _⟩
    · rw [List.pairwise_append]
      refine ⟨this.2, by simp, fun a ha b hb => ?_⟩
      rw [List.mem_singleton.1 hb]
      have h1 := (this.1 a ha).2
      have h2 := hs a ha
      omega
theorem snaps_last {T : Tre} (h : TreeP T) {s : Int} (hs : s ∈ T.snaps) (he : s = T.seq) : T.snaps.getD (T.snaps.length - 1) 0 = T.seq := by
  have := (snapsOk_iff _ _).1 h.snaps
  obtain ⟨i, hi, rfl⟩ := List.getElem_of_mem hs
  have hl : T.snaps.getD (T.snaps.length - 1) 0 = T.snaps[T.snaps.length - 1]'(by omega) := by simp [List.getD, List.getElem?_eq_getElem (show T.snaps.length - 1 < T.snaps.length by omega)]
  rw [hl]
  by_cases hi2 : i = T.snaps.length - 1
  · subst hi2; exact he
  · have h1 := List.pairwise_iff_getElem.1 this.2 i (T.snaps.length - 1) hi (by omega) (by omega)
    have h2 := (this.1 _ (List.getElem_mem (show T.snaps.length - 1 < T.snaps.length by omega))).2
    omega
def freeT (T : Tre) (s : Int) : Tre := ⟨T.mem, T.young, T.old, T.seq, T.snaps.filter (fun x => decide (x ≠ s))⟩
theorem free_tree {T : Tre} (h : TreeP T) (s : Int) : TreeP (freeT T s) := by
  have hsub : (T.snaps.filter (fun x => decide (x ≠ s))).Sublist T.snaps := List.filter_sublist
  have := (snapsOk_iff _ _).1 h.snaps
  refine ⟨h.mem, h.young, h.old, h.full, h.apart, h.seq0, h.seq1, Nat.le_trans hsub.length_le h.few, ?_, h.top, h.newer⟩
  show snapsOk T.seq (T.snaps.filter (fun x => decide (x ≠ s))) = true
  rw [snapsOk_iff]
  exact ⟨fun x hx => this.1 x (hsub.subset hx), this.2.sublist hsub⟩
theorem snap_read {T : Tre} (h : TreeP T) (h' : TreeP (snapT T)) (k : ByteArray) (q : Int) : readT (snapT T) k q = readT T k q := by rw [readT_eq h', readT_eq h]; rfl
theorem zero_tree : TreeP zeroTr := by
  refine ⟨rfl, Nat.zero_le _, Nat.zero_le _, (fun t ht => by cases ht), List.pairwise_singleton _ _, Int.le_refl _, by decide, Nat.zero_le _, rfl, fun l hl e he => ?_, (fun x hx => by cases hx)⟩
  rw [List.mem_singleton.1 (show l ∈ [([] : List Ent)] from hl)] at he
  cases he
end Go.Proofs.Ythkckgjcecommaa
