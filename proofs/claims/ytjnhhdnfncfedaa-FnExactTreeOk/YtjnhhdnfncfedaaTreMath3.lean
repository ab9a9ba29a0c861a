/- Plain facts on what the program's own walks over trees tell: no function of the program is walked here. -/
import Derived.Test.YtjnhhdnfncfedaaTreMath2
namespace Go.Proofs.Ytjnhhdnfncfedaa
/-- Is an entry of memory newer than all of its key in a list? -/
def newAt (l : List Ent) (x : Ent) : Bool := match seenL l x.key 1000000 with
  | some y => decide (y.seq < x.seq)
  | none => true
def newIn (mem l : List Ent) : Bool := mem.all (newAt l)
theorem newAt_none {l : List Ent} {x : Ent} (h : seenL l x.key 1000000 = none) : newAt l x = true := by unfold newAt; rw [h]
theorem newAt_some {l : List Ent} {x y : Ent} (h : seenL l x.key 1000000 = some y) : newAt l x = decide (y.seq < x.seq) := by unfold newAt; rw [h]
theorem newAt_iff {l : List Ent} (hl : okL l = true) (x : Ent) : newAt l x = true ↔ ∀ y ∈ l, x.key = y.key → y.seq < x.seq := by
  have ho := ((okL_iff _).1 hl).2.1
  have hs : Sr l := okL_sr hl
  have up : ∀ y ∈ l, y.seq ≤ 1000000 := fun y hy => by
    have := ho y hy
    simp only [okE, Bool.and_eq_true, decide_eq_true_eq] at this
    exact this.2
  cases h : seenL l x.key 1000000 with
  | none =>
    rw [newAt_none h]
    rw [seen_none] at h
    simp only [true_iff]
    intro y hy hk
    exact absurd (up y hy) (h y hy hk.symm)
  | some e =>
    rw [newAt_some h, decide_eq_true_eq]
    rw [seen_iff hs] at h
    obtain ⟨g1, g2, g3, g4⟩ := h
    constructor
    · intro hlt y hy hk
      have := g4 y hy hk.symm (up y hy)
      omega
    · intro hall
      exact hall e g1 g2.symm
theorem newIn_iff {mem l : List Ent} (hl : okL l = true) : newIn mem l = true ↔ ∀ x ∈ mem, ∀ y ∈ l, x.key = y.key → y.seq < x.seq := by
  unfold newIn
  rw [List.all_eq_true]
  exact ⟨fun h x hx => (newAt_iff hl x).1 (h x hx), fun h x hx => (newAt_iff hl x).2 (h x hx)⟩
theorem newIn_no {mem l : List Ent} {i : Nat} (hi : i < mem.length) (h : newAt l (nth mem i) = false) : newIn mem l = false := by
  unfold newIn
  rw [List.all_eq_false]
  exact ⟨nth mem i, by rw [nth_eq hi]; exact List.getElem_mem hi, by rw [h]; simp⟩
theorem newIn_yes {mem l : List Ent} (h : ∀ i, i < mem.length → newAt l (nth mem i) = true) : newIn mem l = true := by
  unfold newIn
  rw [List.all_eq_true]
  intro x hx
  obtain ⟨i, hi, rfl⟩ := List.getElem_of_mem hx
  rw [← nth_eq hi]
  exact h i hi
/-- No entry is past a number. -/
def past (ls : List (List Ent)) (q : Int) : Bool := ls.all (fun l => l.all (fun e => decide (e.seq ≤ q)))
def tabOk (mem : List Ent) (t : Tbl) : Bool := tableOk t && newIn mem (entriesL t)
/-- What the program looks at ahead of the tables; behind them. -/
def headOk (T : Tre) : Bool := decide (T.young.length ≤ 6) && decide (T.old.length ≤ 1) && decide (0 ≤ T.seq) && decide (T.seq ≤ 1000000) && (decide (T.snaps.length ≤ 10) && snapsOk T.seq T.snaps) && okL T.mem
def tailOk (T : Tre) : Bool := past (lsT T) T.seq && decide ((mergedL (lsT T)).length = lenS (lsT T))
theorem unp_eq (T : Tre) : treeOk T = (headOk T && (T.young ++ T.old).all (tabOk T.mem) && tailOk T) := by
  rw [Bool.eq_iff_iff, treeOk_iff]
  simp only [headOk, tailOk, tabOk, past, Bool.and_eq_true, decide_eq_true_eq, List.all_eq_true]
  constructor
  · intro h
    refine ⟨⟨⟨⟨⟨⟨⟨h.young, h.old⟩, h.seq0⟩, h.seq1⟩, h.few, h.snaps⟩, h.mem⟩, fun t ht => ⟨h.full t ht, ?_⟩⟩, fun l hl e he => h.top l hl e he, (merged_dsj (lsT_sr h.mem)).2 h.apart⟩
    rw [newIn_iff (tableOk_parts (h.full t ht)).1]
    exact fun x hx => h.newer x hx _ (List.mem_map.2 ⟨t, ht, rfl⟩)
  · rintro ⟨⟨⟨⟨⟨⟨⟨h1, h2⟩, h3⟩, h4⟩, h5, h6⟩, h7⟩, h8⟩, h9, h10⟩
    refine ⟨h7, h1, h2, fun t ht => (h8 t ht).1, (merged_dsj (lsT_sr h7)).1 h10, h3, h4, h5, h6, h9, fun x hx l hl => ?_⟩
    obtain ⟨t, ht, rfl⟩ := List.mem_map.1 hl
    have := h8 t ht
    exact (newIn_iff (tableOk_parts this.1).1).1 this.2 x hx
theorem unp_head {T : Tre} (h : headOk T = false) : treeOk T = false := by rw [unp_eq, h]; rfl
theorem unp_tab {T : Tre} {t : Tbl} (ht : t ∈ T.young ++ T.old) (h : tabOk T.mem t = false) : treeOk T = false := by
  rw [unp_eq]
  have : (T.young ++ T.old).all (tabOk T.mem) = false := by
    rw [List.all_eq_false]
    exact ⟨t, ht, by rw [h]; simp⟩
  rw [this]; simp
theorem unp_tail {T : Tre} (h : tailOk T = false) : treeOk T = false := by rw [unp_eq, h]; simp
theorem unp_yes {T : Tre} (h1 : headOk T = true) (h2 : ∀ t ∈ T.young ++ T.old, tabOk T.mem t = true) (h3 : tailOk T = true) : treeOk T = true := by
  rw [unp_eq, h1, h3, List.all_eq_true.2 h2]; rfl
/-- All lists of a right tree; none of another. -/
def unpL (T : Tre) : List (List Ent) := if treeOk T = true then lsT T else []
theorem unpL_yes {T : Tre} (h : treeOk T = true) : unpL T = lsT T := if_pos h
theorem unpL_no {T : Tre} (h : treeOk T = false) : unpL T = [] := if_neg (by rw [h]; simp)
/-- What Read begins with: no entry is older. -/
def noE : Ent := ⟨⟨#[]⟩, ⟨#[]⟩, 0, true⟩
def stepB (b : Ent) : Option Ent → Ent
  | some e => if b.seq < e.seq then e else b
  | none => b
def foldB (k : ByteArray) (q : Int) (b : Ent) (ls : List (List Ent)) : Ent := ls.foldl (fun b l => stepB b (seenL l k q)) b
theorem foldB_fact (k : ByteArray) (q : Int) : ∀ (ls : List (List Ent)) (b : Ent), (foldB k q b ls = b ∨ ∃ l ∈ ls, seenL l k q = some (foldB k q b ls)) ∧ b.seq ≤ (foldB k q b ls).seq ∧ ∀ m ∈ ls, ∀ e, seenL m k q = some e → e.seq ≤ (foldB k q b ls).seq := by
  intro ls
  induction ls with
  | nil => intro b; exact ⟨.inl rfl, Int.le_refl _, fun m hm => by cases hm⟩
  | cons l r ih =>
    intro b
    have e : foldB k q b (l :: r) = foldB k q (stepB b (seenL l k q)) r := rfl
    rw [e]
    obtain ⟨h1, h2, h3⟩ := ih (stepB b (seenL l k q))
    cases hs : seenL l k q with
    | none =>
      rw [hs] at h1 h2 h3
      have eb : stepB b none = b := rfl
      rw [eb] at h1 h2 h3 ⊢
      refine ⟨?_, h2, fun m hm e he => ?_⟩
      · rcases h1 with h1 | ⟨m, hm, h1⟩
        · exact .inl h1
        · exact .inr ⟨m, List.mem_cons_of_mem _ hm, h1⟩
      · rcases List.mem_cons.1 hm with rfl | hm
        · rw [hs] at he; cases he
        · exact h3 m hm e he
    | some y =>
      rw [hs] at h1 h2 h3
      by_cases hlt : b.seq < y.seq
      · have eb : stepB b (some y) = y := if_pos hlt
        rw [eb] at h1 h2 h3 ⊢
        refine ⟨?_, by omega, fun m hm e he => ?_⟩
        · rcases h1 with h1 | ⟨m, hm, h1⟩
          · exact .inr ⟨l, List.mem_cons_self, by rw [h1]; exact hs⟩
          · exact .inr ⟨m, List.mem_cons_of_mem _ hm, h1⟩
        · rcases List.mem_cons.1 hm with rfl | hm
          · rw [hs] at he; rw [← Option.some.inj he]; exact h2
          · exact h3 m hm e he
      · have eb : stepB b (some y) = b := if_neg hlt
        rw [eb] at h1 h2 h3 ⊢
        refine ⟨?_, h2, fun m hm e he => ?_⟩
        · rcases h1 with h1 | ⟨m, hm, h1⟩
          · exact .inl h1
          · exact .inr ⟨m, List.mem_cons_of_mem _ hm, h1⟩
        · rcases List.mem_cons.1 hm with rfl | hm
          · rw [hs] at he; rw [← Option.some.inj he]; omega
          · exact h3 m hm e he
theorem foldB_tree {T : Tre} (h : TreeP T) (k : ByteArray) (q : Int) : foldB k q noE (lsT T) = (seenL (mergedL (lsT T)) k q).getD noE := by
  obtain ⟨h1, h2, h3⟩ := foldB_fact k q (lsT T) noE
  have okm : ∀ l ∈ lsT T, okL l = true := fun l hl => by
    rcases List.mem_cons.1 hl with rfl | hl
    · exact h.mem
    · obtain ⟨t, ht, rfl⟩ := List.mem_map.1 hl
      exact (tableOk_parts (h.full t ht)).1
  have inM : ∀ l ∈ lsT T, ∀ e, seenL l k q = some e → e ∈ mergedL (lsT T) ∧ e.key = k ∧ e.seq ≤ q := fun l hl e he => by
    have := (seen_iff (okL_sr (okm l hl)) k q e).1 he
    exact ⟨(h.all e).2 ⟨l, hl, this.1⟩, this.2.1, this.2.2.1⟩
  cases hs : seenL (mergedL (lsT T)) k q with
  | none =>
    rw [seen_none] at hs
    rcases h1 with h1 | ⟨l, hl, h1⟩
    · exact h1
    · obtain ⟨a, b, c⟩ := inM l hl _ h1
      exact absurd c (hs _ a b)
  | some e =>
    rw [seen_iff h.sr] at hs
    obtain ⟨g1, g2, g3, g4⟩ := hs
    obtain ⟨l, hl, hel⟩ := (h.all e).1 g1
    have he1 : 1 ≤ e.seq := by
      have := ((okL_iff _).1 (okm l hl)).2.1 e hel
      simp only [okE, Bool.and_eq_true, decide_eq_true_eq] at this
      exact this.1.2
    have her : e.seq ≤ (foldB k q noE (lsT T)).seq := by
      cases hl2 : seenL l k q with
      | none => rw [seen_none] at hl2; exact absurd g3 (hl2 e hel g2)
      | some y =>
        have hy := (seen_iff (okL_sr (okm l hl)) k q y).1 hl2
        have := hy.2.2.2 e hel g2 g3
        have := h3 l hl y hl2
        omega
    rcases h1 with h1 | ⟨m, hm, h1⟩
    · rw [h1] at her
      have : noE.seq = 0 := rfl
      omega
    · obtain ⟨a, b, c⟩ := inM m hm _ h1
      have := g4 _ a b c
      show foldB k q noE (lsT T) = e
      exact ks_eq h.sr a g1 (by rw [b, g2]) (by omega)
theorem fold_read (T : Tre) (k : ByteArray) (q : Int) : ((foldB k q noE (unpL T)).val, !(foldB k q noE (unpL T)).gone) = ((readT T k q).getD ⟨#[]⟩, (readT T k q).isSome) := by
  cases ht : treeOk T with
  | false =>
    rw [unpL_no ht]
    unfold readT
    rw [if_neg (by rw [ht]; simp)]
    rfl
  | true =>
    have h := (treeOk_iff T).1 ht
    rw [unpL_yes ht, foldB_tree h, readT_eq h]
    unfold readL
    cases hs : seenL (mergedL (lsT T)) k q with
    | none => rfl
    | some e =>
      rw [seen_iff h.sr] at hs
      obtain ⟨l, hl, hel⟩ := (h.all e).1 hs.1
      have hok : okE e = true := by
        rcases List.mem_cons.1 hl with rfl | hl
        · exact ((okL_iff _).1 h.mem).2.1 e hel
        · exact entries_okE h hl hel
      simp only [okE, Bool.and_eq_true, decide_eq_true_eq, Bool.or_eq_true, Bool.not_eq_true'] at hok
      obtain ⟨⟨⟨⟨_, _⟩, hg⟩, _⟩, _⟩ := hok
      show (e.val, !e.gone) = ((tellE (some e)).getD ⟨#[]⟩, (tellE (some e)).isSome)
      unfold tellE
      cases hgo : e.gone with
      | false => simp [hgo]
      | true =>
        rw [hgo] at hg
        have hz : e.val = ⟨#[]⟩ := by
          rcases hg with hg | hg
          · cases hg
          · apply ByteArray.ext
            exact Array.eq_empty_of_size_eq_zero hg
        simp [hz, hgo]
end Go.Proofs.Ytjnhhdnfncfedaa
