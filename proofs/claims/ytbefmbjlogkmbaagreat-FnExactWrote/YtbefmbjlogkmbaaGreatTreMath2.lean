/- Plain facts on what is done to trees, and what is read of them: no function of the program is walked here. -/
import Derived.Test.YtbefmbjlogkmbaaGreatTreMath1
namespace Go.Proofs.YtbefmbjlogkmbaaGreat
theorem seen_iff {es : List Ent} (hs : Sr es) (k : ByteArray) (q : Int) (e : Ent) : seenL es k q = some e ↔ e ∈ es ∧ e.key = k ∧ e.seq ≤ q ∧ ∀ x ∈ es, x.key = k → x.seq ≤ q → x.seq ≤ e.seq := by
  unfold seenL
  rw [find_sr _ es hs e]
  simp only [seenP, kEq, Bool.and_eq_true, decide_eq_true_eq]
  constructor
  · rintro ⟨h1, ⟨h2, h3⟩, h4⟩
    refine ⟨h1, h2, h3, fun x hx hk hq => ?_⟩
    rcases h4 x hx ⟨hk, hq⟩ with h | h
    · rw [h]; exact Int.le_refl _
    · rw [ahd_iff, h2, hk, kLt_irrefl] at h
      rcases h with h | h
      · cases h
      · omega
  · rintro ⟨h1, h2, h3, h4⟩
    refine ⟨h1, ⟨h2, h3⟩, fun x hx ⟨hk, hq⟩ => ?_⟩
    have := h4 x hx hk hq
    by_cases he : x.seq = e.seq
    · exact .inl (ks_eq hs hx h1 (by rw [hk, h2]) he)
    · right
      rw [ahd_iff]
      exact .inr ⟨by rw [h2, hk], by omega⟩
theorem seen_none {es : List Ent} (k : ByteArray) (q : Int) : seenL es k q = none ↔ ∀ x ∈ es, x.key = k → ¬ x.seq ≤ q := by
  unfold seenL
  rw [List.find?_eq_none]
  simp only [seenP, kEq, Bool.and_eq_true, decide_eq_true_eq, not_and]
theorem TreeP.sr {T : Tre} (h : TreeP T) : Sr (mergedL (lsT T)) := merged_sr (lsT_sr h.mem)
theorem TreeP.all {T : Tre} (h : TreeP T) (z : Ent) : z ∈ mergedL (lsT T) ↔ ∃ l ∈ lsT T, z ∈ l := merged_mem (lsT_sr h.mem) h.apart z
structure Wri where
  key : ByteArray
  val : ByteArray
  gone : Bool
def wriE (x : Wri) (s : Int) : Ent := ⟨x.key, x.val, s, x.gone⟩
def wriOk (x : Wri) : Bool := okE (wriE x 1)
theorem wriOk_at {x : Wri} (h : wriOk x = true) {s : Int} (h1 : 1 ≤ s) (h2 : s ≤ 1000000) : okE (wriE x s) = true := by
  unfold wriOk okE at h
  unfold okE
  simp only [wriE, Bool.and_eq_true] at h ⊢
  exact ⟨⟨h.1.1, decide_eq_true h1⟩, decide_eq_true h2⟩
def put1 (T : Tre) (x : Wri) : Tre := ⟨insE T.mem (wriE x (T.seq + 1)), T.young, T.old, T.seq + 1, T.snaps⟩
theorem insE_mem (es : List Ent) (e z : Ent) : z ∈ insE es e ↔ z = e ∨ z ∈ es := by
  unfold insE
  rw [List.mem_append, List.mem_cons]
  have : z ∈ es ↔ z ∈ es.take (atE es e) ∨ z ∈ es.drop (atE es e) := by
    conv => lhs; rw [← List.take_append_drop (atE es e) es]
    rw [List.mem_append]
  rw [this]
  constructor
  · rintro (h | h | h)
    · exact .inr (.inl h)
    · exact .inl h
    · exact .inr (.inr h)
  · rintro (h | h | h)
    · exact .inr (.inl h)
    · exact .inl h
    · exact .inr (.inr h)
theorem snapsOk_iff (seq : Int) (ss : List Int) : snapsOk seq ss = true ↔ (∀ s ∈ ss, 0 ≤ s ∧ s ≤ seq) ∧ ss.Pairwise (· < ·) := by
  unfold snapsOk
  rw [List.all_eq_true]
  have gd2 : ∀ i (hi : i < ss.length), ss.getD i 0 = ss[i] := fun i hi => by simp [List.getD, List.getElem?_eq_getElem hi]
  constructor
  · intro h
    have h1 : ∀ i (hi : i < ss.length), (0 ≤ ss[i] ∧ ss[i] ≤ seq) ∧ (i = 0 ∨ ss.getD (i - 1) 0 < ss[i]) := fun i hi => by
      have := h i (List.mem_range.2 hi)
      simp only [Bool.and_eq_true, Bool.or_eq_true, decide_eq_true_eq] at this
      rw [gd2 i hi] at this
      exact this
    refine ⟨fun s hs => ?_, ?_⟩
    · obtain ⟨i, hi, rfl⟩ := List.getElem_of_mem hs
      exact (h1 i hi).1
    · rw [List.pairwise_iff_getElem]
      intro i j hi hj hij
      have step : ∀ d (hd : i + d + 1 < ss.length), ss[i] < ss[i + d + 1] := by
        intro d
        induction d with
        | zero =>
          intro hd
          rcases (h1 (i + 1) (by omega)).2 with h0 | h0
          · omega
          · rw [show i + 1 - 1 = i by omega, gd2 i hi] at h0
            exact h0
        | succ d ih =>
          intro hd
          have a := ih (by omega)
          rcases (h1 (i + (d + 1) + 1) hd).2 with h0 | h0
          · omega
          · rw [show i + (d + 1) + 1 - 1 = i + d + 1 by omega, gd2 _ (by omega)] at h0
            omega
      have := step (j - i - 1) (by omega)
      simp only [show i + (j - i - 1) + 1 = j by omega] at this
      exact this
  · rintro ⟨h1, h2⟩ i hi
    rw [List.mem_range] at hi
    simp only [Bool.and_eq_true, Bool.or_eq_true, decide_eq_true_eq]
    rw [gd2 i hi]
    have := h1 _ (List.getElem_mem hi)
    refine ⟨this, ?_⟩
    by_cases h0 : i = 0
    · exact .inl h0
    · right
      rw [gd2 (i - 1) (by omega)]
      exact List.pairwise_iff_getElem.1 h2 (i - 1) i (by omega) hi (by omega)
theorem snaps_up {a b : Int} {ss : List Int} (h : snapsOk a ss = true) (hab : a ≤ b) : snapsOk b ss = true := by
  rw [snapsOk_iff] at h ⊢
  exact ⟨fun s hs => ⟨(h.1 s hs).1, by have := (h.1 s hs).2; omega⟩, h.2⟩
theorem put1_tree {T : Tre} (h : TreeP T) {x : Wri} (hx : wriOk x = true) (hs : T.seq < 1000000) (hl : T.mem.length < 300) : TreeP (put1 T x) := by
  have hd := List.pairwise_cons.1 h.apart
  have he : okE (wriE x (T.seq + 1)) = true := wriOk_at hx (by have := h.seq0; omega) (by omega)
  have hno : ∀ y, (∃ l ∈ lsT T, y ∈ l) → sameKS y (wriE x (T.seq + 1)) = false := fun y ⟨l, hl, hy⟩ => by
    cases hk : sameKS y (wriE x (T.seq + 1)) with
    | false => rfl
    | true =>
      have h1 := ((sameKS_iff _ _).1 hk).2
      have h2 := h.top l hl y hy
      simp only [wriE] at h1
      omega
  have hpk : putOk T.mem (wriE x (T.seq + 1)) = true := by
    simp only [putOk, Bool.and_eq_true, Bool.not_eq_true', decide_eq_false_iff_not]
    refine ⟨⟨⟨h.mem, he⟩, by omega⟩, ?_⟩
    cases hk : hasKS T.mem (wriE x (T.seq + 1)) with
    | false => rfl
    | true =>
      unfold hasKS at hk
      rw [List.any_eq_true] at hk
      obtain ⟨y, hy, hyk⟩ := hk
      have := hno y ⟨T.mem, List.mem_cons_self, hy⟩
      rw [hyk] at this; cases this
  refine ⟨insE_ok hpk, h.young, h.old, h.full, ?_, by show (0 : Int) ≤ T.seq + 1; have := h.seq0; omega, by show T.seq + 1 ≤ 1000000; omega, h.few, snaps_up h.snaps (show T.seq ≤ T.seq + 1 by omega), fun l hl e hel => ?_, fun a ha l hl y hy hk => ?_⟩
  · show (insE T.mem (wriE x (T.seq + 1)) :: tabL T).Pairwise Dsj
    rw [List.pairwise_cons]
    refine ⟨fun l hl a ha y hy => ?_, hd.2⟩
    rcases (insE_mem _ _ _).1 ha with rfl | ha
    · cases hk : sameKS (wriE x (T.seq + 1)) y with
      | false => rfl
      | true => have := hno y ⟨l, List.mem_cons_of_mem _ hl, hy⟩; rw [sameKS_symm hk] at this; cases this
    · exact hd.1 l hl a ha y hy
  · show e.seq ≤ T.seq + 1
    rcases List.mem_cons.1 (show l ∈ insE T.mem (wriE x (T.seq + 1)) :: tabL T from hl) with rfl | hl
    · rcases (insE_mem _ _ _).1 hel with rfl | hel
      · exact Int.le_refl _
      · have := h.top T.mem List.mem_cons_self e hel; omega
    · have := h.top l (List.mem_cons_of_mem _ hl) e hel; omega
  · rcases (insE_mem _ _ _).1 ha with rfl | ha
    · have := h.top l (List.mem_cons_of_mem _ hl) y hy
      show y.seq < T.seq + 1
      omega
    · exact h.newer a ha l hl y hy hk
end Go.Proofs.YtbefmbjlogkmbaaGreat
