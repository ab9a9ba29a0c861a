/- Plain facts on trees: all entries of one, that no two lists share a key and number, that memory is newer: no function of the program is walked here. -/
import Derived.Test.YthkckgjcecommaaHpMath
import Derived.Test.YthkckgjcecommaaTabMath
namespace Go.Proofs.Ythkckgjcecommaa
/-- A tree. -/
structure Tre where
  mem : List Ent
  young : List Tbl
  old : List Tbl
  seq : Int
  snaps : List Int
def zeroTr : Tre := ⟨[], [], [], 0, []⟩
def lenS (ls : List (List Ent)) : Nat := (ls.map List.length).sum
/-- The tables' entries, newest first; all lists. -/
def tabL (T : Tre) : List (List Ent) := (T.young ++ T.old).map entriesL
def lsT (T : Tre) : List (List Ent) := T.mem :: tabL T
def allOk (T : Tre) : Bool := okL T.mem && decide (T.young.length ≤ 6) && decide (T.old.length ≤ 1) && (T.young ++ T.old).all (fun t => !decide ((entriesL t).length = 0))
def allT (T : Tre) : List Ent × Bool := if allOk T = true then (mergedL (lsT T), decide ((mergedL (lsT T)).length = lenS (lsT T))) else ([], false)
def snapsOk (seq : Int) (ss : List Int) : Bool := (List.range ss.length).all (fun i => decide (0 ≤ ss.getD i 0) && decide (ss.getD i 0 ≤ seq) && (decide (i = 0) || decide (ss.getD (i - 1) 0 < ss.getD i 0)))
def newerAt (mem all : List Ent) (i : Nat) : Bool := !(kEq (nth all i).key (nth all (i + 1)).key && hasKS mem (nth all (i + 1)) && !hasKS mem (nth all i))
def newerL (mem all : List Ent) : Bool := (List.range (all.length - 1)).all (newerAt mem all)
def treeOk (T : Tre) : Bool := (allT T).2 && decide (0 ≤ T.seq) && decide (T.seq ≤ 1000000) && decide (T.snaps.length ≤ 10) && snapsOk T.seq T.snaps && (allT T).1.all (fun e => decide (e.seq ≤ T.seq)) && newerL T.mem (allT T).1
/-- No entry of the one has key and number of an entry of the other. -/
def Dsj (a b : List Ent) : Prop := ∀ x ∈ a, ∀ y ∈ b, sameKS x y = false
theorem dsj_symm {a b : List Ent} (h : Dsj a b) : Dsj b a := fun x hx y hy => by
  cases hk : sameKS x y with
  | false => rfl
  | true => have := h y hy x hx; rw [sameKS_symm hk] at this; cases this
theorem sr_nodup {a : List Ent} (h : Sr a) : a.Nodup := h.imp (fun {x y} hxy e => by rw [e, ahd_irrefl] at hxy; cases hxy)
theorem mrg_dsj_len : ∀ (n : Nat) (a b : List Ent), a.length + b.length ≤ n → Sr a → Sr b → ((mrg a b).length = a.length + b.length ↔ Dsj a b) := by
  intro n
  induction n with
  | zero =>
    intro a b hn _ _
    have ha : a = [] := List.eq_nil_of_length_eq_zero (by omega)
    have hb : b = [] := List.eq_nil_of_length_eq_zero (by omega)
    subst ha; subst hb
    simp [mrg, Dsj]
  | succ n ih =>
    intro a b hn sa sb
    match a, b with
    | [], b => rw [mrg]; simp [Dsj]
    | x :: r, [] => rw [mrg]; simp [Dsj]
    | x :: r, y :: s =>
      have sa' := List.pairwise_cons.1 sa
      have sb' := List.pairwise_cons.1 sb
      cases hxy : ahd x y with
      | true =>
        rw [mrg, if_pos hxy]
        have h1 := ih r (y :: s) (by simp at hn ⊢; omega) sa'.2 sb
        have hx : ∀ z ∈ y :: s, sameKS x z = false := fun z hz => by
          cases hk : sameKS x z with
          | false => rfl
          | true =>
            rcases List.mem_cons.1 hz with e | e
            · subst e; exact (ahd_same hxy hk).elim
            · exact (ahd_same (ahd_trans hxy (sb'.1 z e)) hk).elim
        constructor
        · intro h
          have := h1.1 (by simp at h ⊢; omega)
          intro u hu z hz
          rcases List.mem_cons.1 hu with e | e
          · subst e; exact hx z hz
          · exact this u e z hz
        · intro h
          have := h1.2 (fun u hu z hz => h u (List.mem_cons_of_mem _ hu) z hz)
          simp at this ⊢; omega
      | false =>
        cases hyx : ahd y x with
        | true =>
          rw [mrg, if_neg (by rw [hxy]; simp), if_pos hyx]
          have h1 := ih (x :: r) s (by simp at hn ⊢; omega) sa sb'.2
          have hy : ∀ z ∈ x :: r, sameKS z y = false := fun z hz => by
            cases hk : sameKS z y with
            | false => rfl
            | true =>
              rcases List.mem_cons.1 hz with e | e
              · subst e; exact (ahd_same hyx (sameKS_symm hk)).elim
              · exact (ahd_same (ahd_trans hyx (sa'.1 z e)) (sameKS_symm hk)).elim
          constructor
          · intro h
            have := h1.1 (by simp at h ⊢; omega)
            intro u hu z hz
            rcases List.mem_cons.1 hz with e | e
            · subst e; exact hy u hu
            · exact this u hu z e
          · intro h
            have := h1.2 (fun u hu z hz => h u hu z (List.mem_cons_of_mem _ hz))
            simp at this ⊢; omega
        | false =>
          have hs : sameKS x y = true := ahd_cases x y (by rw [hxy]; simp) (by rw [hyx]; simp)
          rw [mrg, if_neg (by rw [hxy]; simp), if_neg (by rw [hyx]; simp)]
          have hl := mrg_len _ (x :: r) s (Nat.le_refl _)
          constructor
          · intro h; simp at h hl; omega
          · intro h
            have := h x List.mem_cons_self y List.mem_cons_self
            rw [hs] at this; cases this
theorem mF_dsj (ls : List (List Ent)) (hs : ∀ l ∈ ls, Sr l) : ∀ a : List Ent, Sr a → ((ls.foldl mrg a).length = a.length + lenS ls ↔ (∀ l ∈ ls, Dsj a l) ∧ ls.Pairwise Dsj) := by
  induction ls with
  | nil => intro a _; simp [lenS]
  | cons l r ih =>
    intro a sa
    have sl := hs l List.mem_cons_self
    have sm := mrg_sr _ a l (Nat.le_refl _) sa sl
    have h1 := mrg_dsj_len _ a l (Nat.le_refl _) sa sl
    have h2 := mrg_len _ a l (Nat.le_refl _)
    have h3 := mF_len r (mrg a l)
    have hi := ih (fun m hm => hs m (List.mem_cons_of_mem _ hm)) (mrg a l) sm
    have e : lenS (l :: r) = l.length + lenS r := by simp [lenS]
    have h3' : (r.foldl mrg (mrg a l)).length ≤ (mrg a l).length + lenS r := h3
    rw [List.foldl_cons, e]
    constructor
    · intro h
      have hd := h1.1 (by omega)
      have hr := hi.1 (by omega)
      have hmem := mrg_iff _ a l (Nat.le_refl _) sa sl
      refine ⟨fun m hm => ?_, ?_⟩
      · rcases List.mem_cons.1 hm with e | e
        · subst e; exact hd
        · exact fun x hx y hy => hr.1 m e x ((hmem x).2 (.inl hx)) y hy
      · rw [List.pairwise_cons]
        refine ⟨fun m hm x hx y hy => hr.1 m hm x ((hmem x).2 (.inr ⟨hx, fun u hu => hd u hu x hx⟩)) y hy, hr.2⟩
    · rintro ⟨h4, h5⟩
      have h6 := List.pairwise_cons.1 h5
      have hd := h4 l List.mem_cons_self
      have hlen := h1.2 hd
      have := hi.2 ⟨fun m hm x hx y hy => by
        rcases mrg_mem hx with hx | hx
        · exact h4 m (List.mem_cons_of_mem _ hm) x hx y hy
        · exact h6.1 m hm x hx y hy, h6.2⟩
      omega
theorem merged_dsj {ls : List (List Ent)} (hs : ∀ l ∈ ls, Sr l) : (mergedL ls).length = lenS ls ↔ ls.Pairwise Dsj := by
  have := mF_dsj ls hs [] List.Pairwise.nil
  unfold mergedL
  rw [show ([] : List Ent).length + lenS ls = lenS ls by simp] at this
  rw [this]
  exact ⟨fun h => h.2, fun h => ⟨(fun l _ x hx => by cases hx), h⟩⟩
/-- What is in the merged where no two share. -/
theorem merged_mem {ls : List (List Ent)} (hs : ∀ l ∈ ls, Sr l) (hd : ls.Pairwise Dsj) (z : Ent) : z ∈ mergedL ls ↔ ∃ l ∈ ls, z ∈ l := by
  rw [mergedL_iff hs]
  constructor
  · rintro ⟨i, l, h1, h2, _⟩
    exact ⟨l, List.mem_of_getElem? h1, h2⟩
  · rintro ⟨l, hl, hz⟩
    obtain ⟨i, hi, rfl⟩ := List.getElem_of_mem hl
    refine ⟨i, _, List.getElem?_eq_getElem hi, hz, fun j m hj hm u hu => ?_⟩
    have hjl : j < ls.length := by omega
    have hmj : ls[j] = m := (List.getElem?_eq_some_iff.1 hm).2
    exact List.pairwise_iff_getElem.1 hd j i hjl hi hj u (by rw [hmj]; exact hu) z hz
theorem merged_sr {ls : List (List Ent)} (hs : ∀ l ∈ ls, Sr l) : Sr (mergedL ls) := mF_sr ls hs [] List.Pairwise.nil
theorem entriesL_sr (t : Tbl) : Sr (entriesL t) := by
  cases h : tableOk t with
  | true => exact okL_sr (tableOk_parts h).1
  | false => unfold entriesL; rw [if_neg (by rw [h]; simp)]; exact List.Pairwise.nil
theorem tabL_sr (T : Tre) : ∀ l ∈ tabL T, Sr l := fun l hl => by
  obtain ⟨t, _, rfl⟩ := List.mem_map.1 hl
  exact entriesL_sr t
theorem lsT_sr {T : Tre} (h : okL T.mem = true) : ∀ l ∈ lsT T, Sr l := fun l hl => by
  rcases List.mem_cons.1 hl with rfl | hl
  · exact okL_sr h
  · exact tabL_sr T l hl
/-- What a right tree is, in plain words. -/
structure TreeP (T : Tre) : Prop where
  mem : okL T.mem = true
  young : T.young.length ≤ 6
  old : T.old.length ≤ 1
  full : ∀ t ∈ T.young ++ T.old, tableOk t = true
  apart : (lsT T).Pairwise Dsj
  seq0 : 0 ≤ T.seq
  seq1 : T.seq ≤ 1000000
  few : T.snaps.length ≤ 10
  snaps : snapsOk T.seq T.snaps = true
  top : ∀ l ∈ lsT T, ∀ e ∈ l, e.seq ≤ T.seq
  newer : ∀ x ∈ T.mem, ∀ l ∈ tabL T, ∀ y ∈ l, x.key = y.key → y.seq < x.seq
theorem entriesL_full {t : Tbl} : (entriesL t).length ≠ 0 ↔ tableOk t = true := by
  cases h : tableOk t with
  | true =>
    have := (tableOk_parts h).2.1
    simp only [iff_true]
    exact fun e => this (List.eq_nil_of_length_eq_zero e)
  | false => unfold entriesL; rw [if_neg (by rw [h]; simp)]; simp
theorem hasKS_mem {T : Tre} (hm : okL T.mem = true) (hd : (lsT T).Pairwise Dsj) {e : Ent} (he : e ∈ mergedL (lsT T)) : hasKS T.mem e = true ↔ e ∈ T.mem := by
  unfold hasKS
  rw [List.any_eq_true]
  constructor
  · rintro ⟨x, hx, hk⟩
    have hxm : x ∈ mergedL (lsT T) := (merged_mem (lsT_sr hm) hd x).2 ⟨T.mem, List.mem_cons_self, hx⟩
    have hs := (sameKS_iff x e).1 hk
    rw [← ks_eq (merged_sr (lsT_sr hm)) hxm he hs.1 hs.2]
    exact hx
  · intro h
    exact ⟨e, h, sameKS_refl e⟩
theorem newer_iff {T : Tre} (hm : okL T.mem = true) (hd : (lsT T).Pairwise Dsj) : newerL T.mem (mergedL (lsT T)) = true ↔ ∀ x ∈ T.mem, ∀ l ∈ tabL T, ∀ y ∈ l, x.key = y.key → y.seq < x.seq := by
  have sr := merged_sr (lsT_sr hm)
  have mm := merged_mem (lsT_sr hm) hd
  have hk := fun {e} he => hasKS_mem (e := e) hm hd he
  have hd' := List.pairwise_cons.1 hd
  obtain ⟨all, hall⟩ : ∃ all, all = mergedL (lsT T) := ⟨_, rfl⟩
  rw [← hall] at sr mm hk ⊢
  have nm : ∀ i, i < all.length → nth all i ∈ all := fun i hi => by rw [nth_eq hi]; exact List.getElem_mem hi
  have ah : ∀ i j, i < j → j < all.length → ahd (nth all i) (nth all j) = true := fun i j hij hj => by
    rw [nth_eq (show i < all.length by omega), nth_eq hj]
    exact List.pairwise_iff_getElem.1 sr i j (by omega) hj hij
  unfold newerL
  rw [List.all_eq_true]
  constructor
  · intro h x hx l hl y hy hxy
    have hxa : x ∈ all := (mm x).2 ⟨T.mem, List.mem_cons_self, hx⟩
    have hya : y ∈ all := (mm y).2 ⟨l, List.mem_cons_of_mem _ hl, hy⟩
    have hyn : y ∉ T.mem := fun e => by
      have := hd'.1 l hl y e y hy
      rw [sameKS_refl] at this; cases this
    obtain ⟨i, hi, hxi⟩ := List.getElem_of_mem hxa
    obtain ⟨j, hj, hyj⟩ := List.getElem_of_mem hya
    rw [← nth_eq hi] at hxi
    rw [← nth_eq hj] at hyj
    rcases Nat.lt_trichotomy i j with hij | hij | hij
    · have := ah i j hij hj
      rw [hxi, hyj, ahd_iff, hxy, kLt_irrefl] at this
      rcases this with h0 | h0
      · cases h0
      · exact h0.2
    · subst hij
      rw [hxi] at hyj
      subst hyj
      exact absurd hx hyn
    · exfalso
      -- from y, which is not in memory, on to x, which is
      have step : ∀ d, j + d ≤ i → nth all (j + d) ∉ T.mem := by
        intro d
        induction d with
        | zero => intro _; rw [Nat.add_zero, hyj]; exact hyn
        | succ d ihd =>
          intro hd2 hin
          have h0 := ihd (by omega)
          have hr := h (j + d) (by rw [List.mem_range]; omega)
          unfold newerAt at hr
          have e1 : hasKS T.mem (nth all (j + d + 1)) = true := (hk (nm _ (by omega))).2 hin
          have e2 : hasKS T.mem (nth all (j + d)) = false := by
            cases e : hasKS T.mem (nth all (j + d)) with
            | false => rfl
            | true => exact absurd ((hk (nm _ (by omega))).1 e) h0
          have keyAt : ∀ p, j ≤ p → p ≤ i → (nth all p).key = y.key := fun p hp1 hp2 => by
            by_cases hpj : p = j
            · rw [hpj, hyj]
            · by_cases hpi : p = i
              · rw [hpi, hxi, hxy]
              · have := key_mid (ah j p (by omega) (by omega)) (ah p i (by omega) hi) (by rw [hyj, hxi, hxy])
                rw [this, hyj]
          have e3 : kEq (nth all (j + d)).key (nth all (j + d + 1)).key = true := by
            unfold kEq
            rw [keyAt _ (by omega) (by omega), keyAt _ (by omega) (by omega)]
            simp
          rw [e1, e2, e3] at hr
          simp at hr
      have := step (i - j) (by omega)
      rw [show j + (i - j) = i by omega, hxi] at this
      exact this hx
  · intro h i hi
    rw [List.mem_range] at hi
    unfold newerAt
    cases e3 : kEq (nth all i).key (nth all (i + 1)).key with
    | false => rfl
    | true =>
      cases e1 : hasKS T.mem (nth all (i + 1)) with
      | false => rfl
      | true =>
        have hin := (hk (nm (i + 1) (by omega))).1 e1
        cases e2 : hasKS T.mem (nth all i) with
        | true => rfl
        | false =>
          exfalso
          obtain ⟨l, hl, hy⟩ := (mm _).1 (nm i (by omega))
          rcases List.mem_cons.1 hl with rfl | hl
          · rw [(hk (nm i (by omega))).2 hy] at e2; cases e2
          · have hkey : (nth all i).key = (nth all (i + 1)).key := of_decide_eq_true e3
            have := h _ hin l hl _ hy hkey.symm
            have h2 := ah i (i + 1) (by omega) (by omega)
            rw [ahd_iff, hkey, kLt_irrefl] at h2
            rcases h2 with h2 | h2
            · cases h2
            · omega
theorem treeOk_iff (T : Tre) : treeOk T = true ↔ TreeP T := by
  unfold treeOk allT
  by_cases ha : allOk T = true
  · rw [if_pos ha]
    have hp := ha
    simp only [allOk, Bool.and_eq_true, decide_eq_true_eq, List.all_eq_true, Bool.not_eq_true', decide_eq_false_iff_not] at hp
    obtain ⟨⟨⟨hm, hy⟩, ho⟩, hf⟩ := hp
    have hs := lsT_sr hm
    simp only [Bool.and_eq_true, decide_eq_true_eq, List.all_eq_true]
    constructor
    · rintro ⟨⟨⟨⟨⟨⟨h1, h2⟩, h3⟩, h4⟩, h5⟩, h6⟩, h7⟩
      have hd := (merged_dsj hs).1 h1
      refine ⟨hm, hy, ho, fun t ht => entriesL_full.1 (hf t ht), hd, h2, h3, h4, h5, fun l hl e he => h6 e ((merged_mem hs hd e).2 ⟨l, hl, he⟩), (newer_iff hm hd).1 h7⟩
    · intro h
      exact ⟨⟨⟨⟨⟨⟨(merged_dsj hs).2 h.apart, h.seq0⟩, h.seq1⟩, h.few⟩, h.snaps⟩, fun e he => by
        obtain ⟨l, hl, hel⟩ := (merged_mem hs h.apart e).1 he
        exact h.top l hl e hel⟩, (newer_iff hm h.apart).2 h.newer⟩
  · rw [if_neg ha]
    simp only [Bool.false_and, Bool.false_eq_true, false_iff]
    intro h
    apply ha
    simp only [allOk, Bool.and_eq_true, decide_eq_true_eq, List.all_eq_true, Bool.not_eq_true', decide_eq_false_iff_not]
    exact ⟨⟨⟨h.mem, h.young⟩, h.old⟩, fun t ht => entriesL_full.2 (h.full t ht)⟩
theorem tree_all {T : Tre} (h : TreeP T) : allT T = (mergedL (lsT T), true) := by
  have h2 := (treeOk_iff T).2 h
  unfold treeOk at h2
  simp only [Bool.and_eq_true] at h2
  have h3 := h2.1.1.1.1.1.1
  unfold allT at h3 ⊢
  split
  · rename_i ha
    rw [if_pos ha] at h3
    rw [show decide ((mergedL (lsT T)).length = lenS (lsT T)) = true from h3]
  · rename_i ha
    rw [if_neg ha] at h3
    cases h3
end Go.Proofs.Ythkckgjcecommaa
