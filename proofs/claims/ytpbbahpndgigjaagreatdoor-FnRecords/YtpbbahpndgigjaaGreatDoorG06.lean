/- Plain facts on what is done to trees, and what is read of them: no function of the program is walked here. Plain facts on rows of entries (four cells each) that a call owns or reads. The contracts of the small functions over entries: which of two is ahead, and whether one is as told; the model's and the program's. -/
import Derived.Test.YtpbbahpndgigjaaGreatDoorG05
import Derived.Deep.RegionLaw
import Derived.BigQuiet
import Derived.Laws.Cover1
import Derived.Deep.RegionWith
namespace Go.Proofs.YtpbbahpndgigjaaGreatDoor
set_option maxHeartbeats 16000000
set_option maxRecDepth 100000
theorem TreeP.sr {T : Tre} (h : TreeP T) : Sr (mergedL (lsT T)) := merged_sr (lsT_sr h.mem)
theorem TreeP.all {T : Tre} (h : TreeP T) (z : Ent) : z ∈ mergedL (lsT T) ↔ ∃ l ∈ lsT T, z ∈ l := merged_mem (lsT_sr h.mem) h.apart z
structure Wri where
  key : ByteArray
  val : ByteArray
  gone : Bool
def wriE (x : Wri) (s : Int) : Ent := ⟨x.key, x.val, s, x.gone⟩
def wriOk (x : Wri) : Bool := okE (wriE x 1)
theorem wriOk_at {x : Wri} (h : wriOk x = true) {s : Int} (h1 : 1 ≤ s) (h2 : s ≤ 1000000) : okE (wriE x s) = true := by
  unfold wriOk okE at h
  unfold okE
  simp only [wriE, Bool.and_eq_true] at h ⊢
  exact ⟨⟨h.1.1, decide_eq_true h1⟩, decide_eq_true h2⟩
def put1 (T : Tre) (x : Wri) : Tre := ⟨insE T.mem (wriE x (T.seq + 1)), T.young, T.old, T.seq + 1, T.snaps⟩
theorem insE_mem (es : List Ent) (e z : Ent) : z ∈ insE es e ↔ z = e ∨ z ∈ es := by
  unfold insE
  rw [List.mem_append, List.mem_cons]
  have : z ∈ es ↔ z ∈ es.take (atE es e) ∨ z ∈ es.drop (atE es e) := by
    conv => lhs; rw [← List.take_append_drop (atE es e) es]
    rw [List.mem_append]
  rw [this]
  constructor
  · rintro (h | h | h)
    · exact .inr (.inl h)
    · exact .inl h
    · exact .inr (.inr h)
  · rintro (h | h | h)
    · exact .inr (.inl h)
    · exact .inl h
    · exact .inr (.inr h)
theorem snapsOk_iff (seq : Int) (ss : List Int) : snapsOk seq ss = true ↔ (∀ s ∈ ss, 0 ≤ s ∧ s ≤ seq) ∧ ss.Pairwise (· < ·) := by
  unfold snapsOk
  rw [List.all_eq_true]
  have gd2 : ∀ i (hi : i < ss.length), ss.getD i 0 = ss[i] := fun i hi => by simp [List.getD, List.getElem?_eq_getElem hi]
  constructor
  · intro h
    have h1 : ∀ i (hi : i < ss.length), (0 ≤ ss[i] ∧ ss[i] ≤ seq) ∧ (i = 0 ∨ ss.getD (i - 1) 0 < ss[i]) := fun i hi => by
      have := h i (List.mem_range.2 hi)
      simp only [Bool.and_eq_true, Bool.or_eq_true, decide_eq_true_eq] at this
      rw [gd2 i hi] at this
      exact this
    refine ⟨fun s hs => ?_, ?_⟩
    · obtain ⟨i, hi, rfl⟩ := List.getElem_of_mem hs
      exact (h1 i hi).1
    · rw [List.pairwise_iff_getElem]
      intro i j hi hj hij
      have step : ∀ d (hd : i + d + 1 < ss.length), ss[i] < ss[i + d + 1] := by
        intro d
        induction d with
        | zero =>
          intro hd
          rcases (h1 (i + 1) (by omega)).2 with h0 | h0
          · omega
          · rw [show i + 1 - 1 = i by omega, gd2 i hi] at h0
            exact h0
        | succ d ih =>
          intro hd
          have a := ih (by omega)
          rcases (h1 (i + (d + 1) + 1) hd).2 with h0 | h0
          · omega
          · rw [show i + (d + 1) + 1 - 1 = i + d + 1 by omega, gd2 _ (by omega)] at h0
            omega
      have := step (j - i - 1) (by omega)
      simp only [show i + (j - i - 1) + 1 = j by omega] at this
      exact this
  · rintro ⟨h1, h2⟩ i hi
    rw [List.mem_range] at hi
    simp only [Bool.and_eq_true, Bool.or_eq_true, decide_eq_true_eq]
    rw [gd2 i hi]
    have := h1 _ (List.getElem_mem hi)
    refine ⟨this, ?_⟩
    by_cases h0 : i = 0
    · exact .inl h0
    · right
      rw [gd2 (i - 1) (by omega)]
      exact List.pairwise_iff_getElem.1 h2 (i - 1) i (by omega) hi (by omega)
theorem snaps_up {a b : Int} {ss : List Int} (h : snapsOk a ss = true) (hab : a ≤ b) : snapsOk b ss = true := by
  rw [snapsOk_iff] at h ⊢
  exact ⟨fun s hs => ⟨(h.1 s hs).1, by have := (h.1 s hs).2; omega⟩, h.2⟩
theorem put1_tree {T : Tre} (h : TreeP T) {x : Wri} (hx : wriOk x = true) (hs : T.seq < 1000000) (hl : T.mem.length < 300) : TreeP (put1 T x) := by
  have hd := List.pairwise_cons.1 h.apart
  have he : okE (wriE x (T.seq + 1)) = true := wriOk_at hx (by have := h.seq0; omega) (by omega)
  have hno : ∀ y, (∃ l ∈ lsT T, y ∈ l) → sameKS y (wriE x (T.seq + 1)) = false := fun y ⟨l, hl, hy⟩ => by
    cases hk : sameKS y (wriE x (T.seq + 1)) with
    | false => rfl
    | true =>
      have h1 := ((sameKS_iff _ _).1 hk).2
      have h2 := h.top l hl y hy
      simp only [wriE] at h1
      omega
  have hpk : putOk T.mem (wriE x (T.seq + 1)) = true := by
    simp only [putOk, Bool.and_eq_true, Bool.not_eq_true', decide_eq_false_iff_not]
    refine ⟨⟨⟨h.mem, he⟩, by omega⟩, ?_⟩
    cases hk : hasKS T.mem (wriE x (T.seq + 1)) with
    | false => rfl
    | true =>
      unfold hasKS at hk
      rw [List.any_eq_true] at hk
      obtain ⟨y, hy, hyk⟩ := hk
      have := hno y ⟨T.mem, List.mem_cons_self, hy⟩
      rw [hyk] at this; cases this
  refine ⟨insE_ok hpk, h.young, h.old, h.full, ?_, by show (0 : Int) ≤ T.seq + 1; have := h.seq0; omega, by show T.seq + 1 ≤ 1000000; omega, h.few, snaps_up h.snaps (show T.seq ≤ T.seq + 1 by omega), fun l hl e hel => ?_, fun a ha l hl y hy hk => ?_⟩
  · show (insE T.mem (wriE x (T.seq + 1)) :: tabL T).Pairwise Dsj
    rw [List.pairwise_cons]
    refine ⟨fun l hl a ha y hy => ?_, hd.2⟩
    rcases (insE_mem _ _ _).1 ha with rfl | ha
    · cases hk : sameKS (wriE x (T.seq + 1)) y with
      | false => rfl
      | true => have := hno y ⟨l, List.mem_cons_of_mem _ hl, hy⟩; rw [sameKS_symm hk] at this; cases this
    · exact hd.1 l hl a ha y hy
  · show e.seq ≤ T.seq + 1
    rcases List.mem_cons.1 (show l ∈ insE T.mem (wriE x (T.seq + 1)) :: tabL T from hl) with rfl | hl
    · rcases (insE_mem _ _ _).1 hel with rfl | hel
      · exact Int.le_refl _
      · have := h.top T.mem List.mem_cons_self e hel; omega
    · have := h.top l (List.mem_cons_of_mem _ hl) e hel; omega
  · rcases (insE_mem _ _ _).1 ha with rfl | ha
    · have := h.top l (List.mem_cons_of_mem _ hl) y hy
      show y.seq < T.seq + 1
      omega
    · exact h.newer a ha l hl y hy hk
def spillT (T : Tre) : Tre := ⟨[], builtT T.mem :: T.young, T.old, T.seq, T.snaps⟩
theorem spill_ls {T : Tre} (hm : okL T.mem = true) (h0 : T.mem.length ≠ 0) : lsT (spillT T) = [] :: T.mem :: tabL T := by
  unfold lsT tabL spillT
  have : builtOk T.mem = true := by simp [builtOk, hm, h0]
  simp [built_entries this]
theorem spill_tree {T : Tre} (h : TreeP T) (h0 : T.mem.length ≠ 0) (hy : T.young.length < 6) : TreeP (spillT T) := by
  have hls := spill_ls h.mem h0
  have hb : builtOk T.mem = true := by simp [builtOk, h.mem, h0]
  refine ⟨rfl, by show T.young.length + 1 ≤ 6; omega, h.old, fun t ht => ?_, ?_, h.seq0, h.seq1, h.few, h.snaps, fun l hl e he => ?_, fun x hx => by cases hx⟩
  · rcases List.mem_cons.1 (show t ∈ builtT T.mem :: (T.young ++ T.old) from ht) with rfl | ht
    · exact built_ok hb
    · exact h.full t ht
  · rw [hls, List.pairwise_cons]
    exact ⟨(fun l _ x hx => by cases hx), h.apart⟩
  · rw [hls] at hl
    rcases List.mem_cons.1 hl with rfl | hl
    · cases he
    · exact h.top l hl e he
def sinkL (T : Tre) : List Ent := bottomOf (seensL (mergedL (tabL T)) (T.snaps ++ [T.seq]))
def sinkT (T : Tre) : Tre := ⟨T.mem, [], if (sinkL T).length = 0 then [] else [builtT (sinkL T)], T.seq, T.snaps⟩
theorem tab_apart {T : Tre} (h : TreeP T) : (tabL T).Pairwise Dsj := (List.pairwise_cons.1 h.apart).2
theorem tab_mem {T : Tre} (h : TreeP T) (z : Ent) : z ∈ mergedL (tabL T) ↔ ∃ l ∈ tabL T, z ∈ l := merged_mem (tabL_sr T) (tab_apart h) z
theorem entries_okE {T : Tre} (h : TreeP T) {l : List Ent} (hl : l ∈ tabL T) {e : Ent} (he : e ∈ l) : okE e = true := by
  obtain ⟨t, ht, rfl⟩ := List.mem_map.1 hl
  exact ((okL_iff _).1 (tableOk_parts (h.full t ht)).1).2.1 e he
theorem tab_ok {T : Tre} (h : TreeP T) (hn : (mergedL (tabL T)).length ≤ 300) : okL (mergedL (tabL T)) = true := by
  rw [okL_iff]
  refine ⟨hn, fun e he => ?_, merged_sr (tabL_sr T)⟩
  obtain ⟨l, hl, hel⟩ := (tab_mem h e).1 he
  exact entries_okE h hl hel
theorem sink_sub {T : Tre} (h : TreeP T) (hn : (mergedL (tabL T)).length ≤ 300) : (sinkL T).Sublist (mergedL (tabL T)) := (bottom_sub _).trans (seens_sub (tab_ok h hn) _)
theorem sink_ok {T : Tre} (h : TreeP T) (hn : (mergedL (tabL T)).length ≤ 300) : okL (sinkL T) = true := okL_subl (tab_ok h hn) (sink_sub h hn)
theorem sink_tab {T : Tre} (h : TreeP T) (hn : (mergedL (tabL T)).length ≤ 300) : tabL (sinkT T) = if (sinkL T).length = 0 then [] else [sinkL T] := by
  unfold tabL sinkT
  by_cases h0 : (sinkL T).length = 0
  · simp [h0]
  · have : builtOk (sinkL T) = true := by simp [builtOk, sink_ok h hn, h0]
    simp [h0, built_entries this]
theorem sink_in {T : Tre} (h : TreeP T) (hn : (mergedL (tabL T)).length ≤ 300) {l : List Ent} (hl : l ∈ tabL (sinkT T)) {e : Ent} (he : e ∈ l) : e ∈ sinkL T := by
  rw [sink_tab h hn] at hl
  split at hl
  · cases hl
  · rw [List.mem_singleton.1 hl] at he; exact he
theorem sink_tree {T : Tre} (h : TreeP T) (hn : (mergedL (tabL T)).length ≤ 300) : TreeP (sinkT T) := by
  have hin : ∀ l ∈ tabL (sinkT T), ∀ e ∈ l, ∃ m ∈ tabL T, e ∈ m := fun l hl e he => (tab_mem h e).1 ((sink_sub h hn).subset (sink_in h hn hl he))
  have hd := List.pairwise_cons.1 h.apart
  refine ⟨h.mem, Nat.zero_le _, ?_, fun t ht => ?_, ?_, h.seq0, h.seq1, h.few, h.snaps, fun l hl e he => ?_, fun x hx l hl y hy hk => ?_⟩
  · unfold sinkT
    split
    · exact Nat.zero_le _
    · exact Nat.le_refl _
  · have ht' : t ∈ (if (sinkL T).length = 0 then [] else [builtT (sinkL T)]) := by simpa [sinkT] using ht
    split at ht'
    · cases ht'
    · rename_i h0
      rw [List.mem_singleton.1 ht']
      exact built_ok (by simp [builtOk, sink_ok h hn, h0])
  · show (T.mem :: tabL (sinkT T)).Pairwise Dsj
    rw [List.pairwise_cons]
    refine ⟨fun l hl x hx y hy => ?_, ?_⟩
    · obtain ⟨m, hm, hym⟩ := hin l hl y hy
      exact hd.1 m hm x hx y hym
    · rw [sink_tab h hn]
      split
      · exact List.Pairwise.nil
      · exact List.pairwise_singleton _ _
  · rcases List.mem_cons.1 (show l ∈ T.mem :: tabL (sinkT T) from hl) with rfl | hl
    · exact h.top T.mem List.mem_cons_self e he
    · obtain ⟨m, hm, hem⟩ := hin l hl e he
      exact h.top m (List.mem_cons_of_mem _ hm) e hem
  · obtain ⟨m, hm, hym⟩ := hin l hl y hy
    exact h.newer x hx m hm y hym hk
def snapT (T : Tre) : Tre := ⟨T.mem, T.young, T.old, T.seq, T.snaps ++ [T.seq]⟩
theorem snap_tree {T : Tre} (h : TreeP T) (hn : T.snaps.length < 10) (hs : ∀ s ∈ T.snaps, s ≠ T.seq) : TreeP (snapT T) := by
  refine ⟨h.mem, h.young, h.old, h.full, h.apart, h.seq0, h.seq1, ?_, ?_, h.top, h.newer⟩
  · show (T.snaps ++ [T.seq]).length ≤ 10
    rw [List.length_append]; simp; omega
  · have := (snapsOk_iff _ _).1 h.snaps
    show snapsOk T.seq (T.snaps ++ [T.seq]) = true
    rw [snapsOk_iff]
    refine ⟨fun s hs' => ?_, ?_⟩
    · rcases List.mem_append.1 hs' with e | e
      · exact this.1 s e
      · rw [List.mem_singleton.1 e]; exact ⟨h.seq0, Int.le_refl _⟩
    · rw [List.pairwise_append]
      refine ⟨this.2, by simp, fun a ha b hb => ?_⟩
      rw [List.mem_singleton.1 hb]
      have h1 := (this.1 a ha).2
      have h2 := hs a ha
      omega
theorem snaps_last {T : Tre} (h : TreeP T) {s : Int} (hs : s ∈ T.snaps) (he : s = T.seq) : T.snaps.getD (T.snaps.length - 1) 0 = T.seq := by
  have := (snapsOk_iff _ _).1 h.snaps
  obtain ⟨i, hi, rfl⟩ := List.getElem_of_mem hs
  have hl : T.snaps.getD (T.snaps.length - 1) 0 = T.snaps[T.snaps.length - 1]'(by omega) := by simp [List.getD, List.getElem?_eq_getElem (show T.snaps.length - 1 < T.snaps.length by omega)]
  rw [hl]
  by_cases hi2 : i = T.snaps.length - 1
  · subst hi2; exact he
  · have h1 := List.pairwise_iff_getElem.1 this.2 i (T.snaps.length - 1) hi (by omega) (by omega)
    have h2 := (this.1 _ (List.getElem_mem (show T.snaps.length - 1 < T.snaps.length by omega))).2
    omega
def freeT (T : Tre) (s : Int) : Tre := ⟨T.mem, T.young, T.old, T.seq, T.snaps.filter (fun x => decide (x ≠ s))⟩
theorem free_tree {T : Tre} (h : TreeP T) (s : Int) : TreeP (freeT T s) := by
  have hsub : (T.snaps.filter (fun x => decide (x ≠ s))).Sublist T.snaps := List.filter_sublist
  have := (snapsOk_iff _ _).1 h.snaps
  refine ⟨h.mem, h.young, h.old, h.full, h.apart, h.seq0, h.seq1, Nat.le_trans hsub.length_le h.few, ?_, h.top, h.newer⟩
  show snapsOk T.seq (T.snaps.filter (fun x => decide (x ≠ s))) = true
  rw [snapsOk_iff]
  exact ⟨fun x hx => this.1 x (hsub.subset hx), this.2.sublist hsub⟩
theorem zero_tree : TreeP zeroTr := by
  refine ⟨rfl, Nat.zero_le _, Nat.zero_le _, (fun t ht => by cases ht), List.pairwise_singleton _ _, Int.le_refl _, by decide, Nat.zero_le _, rfl, fun l hl e he => ?_, (fun x hx => by cases hx)⟩
  rw [List.mem_singleton.1 (show l ∈ [([] : List Ent)] from hl)] at he
  cases he
open Go.RowKit
theorem Tryz.info71 : (Tryz.prog.info? 71).map (fun i => (i.zero, i.size, i.bytes)) = some (some (.agg #[.string ⟨#[]⟩, .string ⟨#[]⟩, .int .i64 0, .bool false]), 4, 48) := by kernel_rfl
def EC (e : Ent) : List Value := [.string e.key, .string e.val, .int .i64 e.seq, .bool e.gone]
def EV (es : List Ent) : List Value := es.flatMap EC
theorem EV_length : ∀ es : List Ent, (EV es).length = es.length * 4
  | [] => rfl
  | a :: r => by
    have := EV_length r
    unfold EV at this ⊢
    rw [List.flatMap_cons, List.length_append, this, List.length_cons]
    simp [EC]; omega
theorem EV_append (a b : List Ent) : EV (a ++ b) = EV a ++ EV b := by simp [EV]
theorem EV_cons (a : Ent) (r : List Ent) : EV (a :: r) = EC a ++ EV r := by simp [EV]
theorem EV_get : ∀ (es : List Ent) (i : Nat), i < es.length → ∀ j, j < 4 → (EV es)[i * 4 + j]? = (EC (nth es i))[j]?
  | [], i, h, _, _ => by simp at h
  | a :: r, 0, _, j, hj => by
    rw [EV_cons, nth_zero, Nat.zero_mul, Nat.zero_add, List.getElem?_append_left (by simp [EC]; exact hj)]
  | a :: r, i + 1, h, j, hj => by
    rw [EV_cons, nth_succ, ← EV_get r i (by simpa using h) j hj, List.getElem?_append_right (by simp [EC]; omega)]
    congr 1
    simp [EC]; omega
theorem EV_oneCell (es : List Ent) : ∀ u ∈ EV es, u.oneCell' = true := by
  intro u hu
  simp only [EV, List.mem_flatMap] at hu
  obtain ⟨e, _, he⟩ := hu
  simp only [EC, List.mem_cons, List.not_mem_nil, or_false] at he
  rcases he with rfl | rfl | rfl | rfl <;> rfl
def EntAt (w : World) (b o : Nat) (e : Ent) : Prop :=
  w.cell? ⟨b, o, none⟩ = some (.string e.key) ∧ w.cell? ⟨b, o + 1, none⟩ = some (.string e.val) ∧ w.cell? ⟨b, o + 2, none⟩ = some (.int .i64 e.seq) ∧ w.cell? ⟨b, o + 3, none⟩ = some (.bool e.gone)
def OwnE (w : World) (base : Nat) (v : Value) (es : List Ent) : Prop := w.ownsRow base 71 4 v es.length (EV es)
def RdE (w : World) (v : Value) (es : List Ent) : Prop :=
  ∃ a cap, v = .slice a es.length cap ∧ es.length ≤ cap ∧ cap ≤ maxLen ∧ (a = none → cap = 0) ∧
    (es = [] ∨ ∃ b off, a = some ⟨b, off, none⟩ ∧ ∀ i, i < es.length → EntAt w b (off + i * 4) (nth es i))
theorem EntAt.lt {w : World} {b o : Nat} {e : Ent} (h : EntAt w b o e) : b < w.heap.size := World.block_lt_of_cell? w _ h.1
theorem EntAt.of_block {w w' : World} {b o : Nat} {e : Ent} (h : EntAt w b o e) (hb : w'.heap[b]? = w.heap[b]?) : EntAt w' b o e :=
  ⟨(World.cell?_of_block (a := ⟨b, o, none⟩) hb).trans h.1, (World.cell?_of_block (a := ⟨b, o + 1, none⟩) hb).trans h.2.1, (World.cell?_of_block (a := ⟨b, o + 2, none⟩) hb).trans h.2.2.1, (World.cell?_of_block (a := ⟨b, o + 3, none⟩) hb).trans h.2.2.2⟩
theorem EntAt.below {w w' : World} {b o : Nat} {e : Ent} (h : EntAt w b o e) (hb : Below w.heap.size w w') : EntAt w' b o e := h.of_block (hb.block b h.lt)
theorem ownE_cell {w : World} {base g cap n : Nat} {es : List Ent} (h : w.ownsRow base 71 4 (.slice (some ⟨g, 0, none⟩) n cap) n (EV es)) (hn : n = es.length) (i : Nat) (hi : i < n) : EntAt w g (i * 4) (nth es i) := by
  subst hn
  have c : ∀ j, j < 4 → w.cell? ⟨g, i * 4 + j, none⟩ = (EC (nth es i))[j]? := fun j hj => (h.cellAt (i * 4 + j) (by omega)).trans (EV_get es i hi j hj)
  exact ⟨c 0 (by omega), c 1 (by omega), c 2 (by omega), c 3 (by omega)⟩
theorem OwnE.rd {w : World} {base : Nat} {v : Value} {es : List Ent} (h : OwnE w base v es) : RdE w v es := by
  have h' := h
  rcases h.2 with ⟨rfl, h0⟩ | ⟨g, cap, cur, rfl, hb, hg, hn, hc, hs, ht⟩
  · have : es = [] := List.length_eq_zero_iff.1 h0
    subst this
    exact ⟨none, 0, rfl, Nat.le_refl _, Nat.zero_le _, fun _ => rfl, .inl rfl⟩
  · refine ⟨some ⟨g, 0, none⟩, cap, rfl, hn, hc, (fun h => by cases h), .inr ⟨g, 0, rfl, fun i hi => ?_⟩⟩
    rw [Nat.zero_add]
    exact ownE_cell h' rfl i hi
theorem OwnE.below {w w' : World} {base : Nat} {v : Value} {es : List Ent} (h : OwnE w base v es) (hb : Below w.heap.size w w') : OwnE w' base v es := own_below h hb
theorem OwnE.drewN {w : World} {base : Nat} {v : Value} {es : List Ent} (h : OwnE w base v es) (q : Nat) : OwnE (w.drewN q) base v es := h
theorem OwnE.mono {w : World} {base base' : Nat} {v : Value} {es : List Ent} (h : OwnE w base v es) (hb : base' ≤ base) : OwnE w base' v es := by
  refine ⟨h.1, ?_⟩
  rcases h.2 with h2 | ⟨g, cap, cur, hv, hg, r⟩
  · exact .inl h2
  · exact .inr ⟨g, cap, cur, hv, Nat.le_trans hb hg, r⟩
theorem RdE.below {w w' : World} {v : Value} {es : List Ent} (h : RdE w v es) (hb : Below w.heap.size w w') : RdE w' v es := by
  obtain ⟨a, cap, hv, h1, h2, h0, h3⟩ := h
  refine ⟨a, cap, hv, h1, h2, h0, ?_⟩
  rcases h3 with h3 | ⟨b, off, ha, hc⟩
  · exact .inl h3
  · exact .inr ⟨b, off, ha, fun i hi => (hc i hi).below hb⟩
theorem RdE.drewN {w : World} {v : Value} {es : List Ent} (h : RdE w v es) (q : Nat) : RdE (w.drewN q) v es := h
theorem ownE_none (w : World) : OwnE (w.alloc (.cells #[] 71)) w.heap.size (.slice (some ⟨w.heap.size, 0, none⟩) 0 0) [] := World.ownsRow_lit w #[] 0 (Nat.le_refl _) (Nat.zero_le _) rfl
theorem ownE_lt {w : World} {B : Nat} {v : Value} {es : List Ent} (h : OwnE w B v es) : ∀ k, v.ownBlock = some k → k < w.heap.size := fun k hk => (World.ownsRow.lt h k hk).2
theorem ownE_more {w1 : World} {B : Nat} {v' : Value} {ys zs : List Ent} (h : w1.ownsRow B 71 4 v' (ys.length + zs.length) (EV ys ++ EV zs)) : OwnE w1 B v' (ys ++ zs) := by
  unfold OwnE
  rw [EV_append, List.length_append]
  exact h
theorem RdE.at {w : World} {a : Option Addr} {n cap : Nat} {es : List Ent} (h : RdE w (.slice a n cap) es) (hn : n = es.length) (i : Nat) (hi : i < es.length) : ∃ b off, a = some ⟨b, off, none⟩ ∧ EntAt w b (off + i * 4) (nth es i) := by
  obtain ⟨a', cap', hv, _, _, _, h3⟩ := h
  simp only [Value.slice.injEq] at hv
  obtain ⟨rfl, _, _⟩ := hv
  rcases h3 with rfl | ⟨b, off, ha, hc⟩
  · simp at hi
  · exact ⟨b, off, ha, hc i hi⟩
theorem EV_nth {es : List Ent} {j : Nat} {u : Value} (h : (EV es)[j]? = some u) : j / 4 < es.length ∧ (EC (nth es (j / 4)))[j % 4]? = some u := by
  have hj : j < (EV es).length := (List.getElem?_eq_some_iff.1 h).1
  rw [EV_length] at hj
  have h1 : j / 4 < es.length := by omega
  refine ⟨h1, ?_⟩
  have h2 := EV_get es (j / 4) h1 (j % 4) (by omega)
  rw [show j / 4 * 4 + j % 4 = j by omega] at h2
  rw [← h2]; exact h
theorem EntAt.cellAt {w : World} {b o : Nat} {e : Ent} (h : EntAt w b o e) {j : Nat} {u : Value} (hu : (EC e)[j]? = some u) : w.cell? ⟨b, o + j, none⟩ = some u := by
  obtain ⟨h0, h1, h2, h3⟩ := h
  match j, hu with
  | 0, hu => simp [EC] at hu; subst hu; exact h0
  | 1, hu => simp [EC] at hu; subst hu; exact h1
  | 2, hu => simp [EC] at hu; subst hu; exact h2
  | 3, hu => simp [EC] at hu; subst hu; exact h3
theorem entsAt_cells {w : World} {b off : Nat} {es : List Ent} (h : ∀ i, i < es.length → EntAt w b (off + i * 4) (nth es i)) : ∀ j u, (EV es)[j]? = some u → w.cell? ((⟨b, off, none⟩ : Addr).add j) = some u := by
  intro j u hu
  obtain ⟨h1, h2⟩ := EV_nth hu
  have := (h _ h1).cellAt h2
  rw [Addr.add_lit]
  rw [show off + j / 4 * 4 + j % 4 = off + j by omega] at this
  exact this
theorem run_append_ents (ty : TypeId) {w : World} {base : Nat} {v u : Value} {ys zs : List Ent} (hown : OwnE w base v ys) (hr : RdE w u zs) (hl : ys.length + zs.length ≤ 1000000000) (hbase : base ≤ w.heap.size) :
    ∃ v' w', (Builtin.append_ #[45, 45] ty #[v, u]).run Tryz.prog w = .ok v' w' ∧ OwnE w' base v' (ys ++ zs) ∧ w.grownBy w' v.ownBlock := by
  obtain ⟨i0, hi, hz0, hz1, hz2⟩ := info_parts Tryz.info71
  obtain ⟨a, cap, rfl, h1, h2, h0, h3⟩ := hr
  have row : ∀ ad news, news = EV zs → (∀ j u, news[j]? = some u → w.cell? (ad.add j) = some u) → ∃ v' w', (Builtin.append_ #[45, 45] ty #[v, .slice (some ad) zs.length cap]).run Tryz.prog w = .ok v' w' ∧ OwnE w' base v' (ys ++ zs) ∧ w.grownBy w' v.ownBlock := by
    intro ad news hn hc
    subst hn
    obtain ⟨v', w', hrun, r1, r2, _⟩ := run_append_own (P := Tryz.prog) w base 45 ty 71 i0 _ 4 48 Tryz.underlying45 hi hz0 hz1 hz2 rfl (by decide) v ys.length (EV ys) hown ad zs.length cap (EV zs) (EV_length zs) hc (EV_oneCell zs) (by unfold maxLen; omega) (by omega) hbase
    exact ⟨v', w', hrun, ownE_more r1, r2⟩
  cases a with
  | some ad =>
    refine row ad (EV zs) rfl ?_
    rcases h3 with rfl | ⟨b, off, ha, hc⟩
    · intro j u hj; simp [EV] at hj
    · cases ha; exact entsAt_cells hc
  | none =>
    have hc0 := h0 rfl
    subst hc0
    rcases h3 with rfl | ⟨b, off, ha, hc⟩
    · refine ⟨v, w, run_append_owned_none (P := Tryz.prog) w base 45 ty 71 i0 4 Tryz.underlying45 hi v ys.length (EV ys) hown, by simpa using hown, ⟨rfl, rfl, rfl, Nat.le_refl _, fun _ _ _ => rfl⟩⟩
    · cases ha
theorem wpList_append_ents {w : World} {ops : Array Oper} {rest : List Oper} {o : Oper} {a : Act} {Q : Exit → Act → World → Prop} (hgd : o.guard = none) (s x : Operand)
    (ho : o.op = .call { callee := .builtin .append, args := #[s, x], argTypes := #[45, 45] }) (base : Nat) (v u : Value) (ys zs : List Ent) (hs : a.eval s = v) (hx : a.eval x = u) (hown : OwnE w base v ys) (hr : RdE w u zs) (hl : ys.length + zs.length ≤ 1000000000) (hbase : base ≤ w.heap.size)
    (h : ∀ v' w', OwnE w' base v' (ys ++ zs) → w.grownBy w' v.ownBlock → wpList Tryz.prog ops Q rest (a.put o.dst v') w') : wpList Tryz.prog ops Q (o :: rest) a w := by
  refine wpList_plain hgd fun K hK => ?_
  obtain ⟨v', w', hrun, r1, r2⟩ := run_append_ents o.type hown hr hl hbase
  unfold Oper.wp
  simp [execOp, ho, resolve, invoke, builtin, hs, hx, hrun, Result.andThen]
  exact hK _ _ (h v' w' r1 r2)
theorem step_append_ents {w : World} {ops : Array Oper} {o : Oper} {a : Act} {K : Act → World → Prop} {Q : Exit → Act → World → Prop} {E : Prop} (hgd : o.guard = none) (d : Nat) (hd : o.dst = some d) (s x : Operand)
    (ho : o.op = .call { callee := .builtin .append, args := #[s, x], argTypes := #[45, 45] }) (base : Nat) (v u : Value) (ys zs : List Ent) (hs : a.eval s = v) (hx : a.eval x = u) (hown : OwnE w base v ys) (hr : RdE w u zs) (hl : ys.length + zs.length ≤ 1000000000) (hbase : base ≤ w.heap.size)
    (h : ∀ v' w', OwnE w' base v' (ys ++ zs) → w.grownBy w' v.ownBlock → K (a.put (some d) v') w') :
    if Region.wanted o (yielded ops a.tmps) = true then Oper.wp Tryz.prog o a w K Q else E := by
  have hw : Region.wanted o (yielded ops a.tmps) = true := by simp [Region.wanted, hgd]
  rw [if_pos hw]
  obtain ⟨v', w', hrun, r1, r2⟩ := run_append_ents o.type hown hr hl hbase
  unfold Oper.wp
  simp [execOp, ho, resolve, invoke, builtin, hs, hx, hrun, Result.andThen]
  have h' := h v' w' r1 r2
  rw [← hd] at h'
  exact h'
def Fits (e : Ent) : Prop := e.key.size ≤ 4503599627370496 ∧ e.val.size ≤ 4503599627370496 ∧ -9223372036854775808 ≤ e.seq ∧ e.seq ≤ 9223372036854775807
open Go.RowKit
theorem beq_kEq (a b : ByteArray) : (a.toList == b.toList) = kEq a b := by
  rw [Bool.eq_iff_iff, beq_iff_eq]
  unfold kEq
  rw [decide_eq_true_eq]
  exact ⟨ba_toList_inj, fun h => by rw [h]⟩
theorem ahd_w1 {a b : Ent} (h : Op.bytesLess a.key.toList b.key.toList = true) : true = ahd a b := by
  have : kLt a.key b.key = true := h
  simp [ahd, this]
theorem ahd_w2 {a b : Ent} (_h : ¬ Op.bytesLess a.key.toList b.key.toList = true) (h2 : a.key.toList = b.key.toList) : decide (b.seq < a.seq) = ahd a b := by
  have h3 := ba_toList_inj h2
  simp [ahd, h3, kLt_irrefl, kEq]
theorem ahd_w3 {a b : Ent} (h : ¬ Op.bytesLess a.key.toList b.key.toList = true) (h2 : ¬ a.key.toList = b.key.toList) : false = ahd a b := by
  have h3 : a.key ≠ b.key := fun e => h2 (by rw [e])
  have h4 : kLt a.key b.key = false := by simpa [kLt] using h
  simp [ahd, h3, h4, kEq]
theorem l3Ahead_any (a b : Ent) (w : World) :
    Calls Tryz.prog 107 #[.agg #[.string a.key, .string a.val, .int .i64 a.seq, .bool a.gone], .agg #[.string b.key, .string b.val, .int .i64 b.seq, .bool b.gone]] w fun e w' => e = .returned (.bool (ahd a b)) ∧ Below w.heap.size w w' := by
  go_enter Tryz.func107, Tryz.ntmps107
  go_wp2
  all_goals go_ret
  · exact ⟨ret_bool (ahd_w1 ‹_›), below2 _ _ _⟩
  · exact ⟨ret_bool (ahd_w2 ‹_› ‹_›), below2 _ _ _⟩
  · exact ⟨ret_bool (ahd_w3 ‹_› ‹_›), below2 _ _ _⟩
theorem l1In_any (x lo hi : Int) (w : World) :
    Calls Tryz.prog 57 #[.int .i64 x, .int .i64 lo, .int .i64 hi] w fun e w' => e = .returned (.bool (decide (lo ≤ x) && decide (x ≤ hi))) ∧ w' = w := by
  go_enter Tryz.func57, Tryz.ntmps57
  go_wp2
  all_goals go_ret
  · exact ⟨by simp_all, rfl⟩
  · exact ⟨ret_bool (by rw [Bool.eq_iff_iff]; simp; omega), rfl⟩
theorem empty_iff (s : ByteArray) : s.toList = [] ↔ s.size = 0 := by
  rw [ByteArray.toList_eq, List.eq_nil_iff_length_eq_zero, Array.length_toList]
  exact Iff.rfl
theorem okE_iff (a : Ent) : okE a = true ↔ 1 ≤ (a.key.size : Int) ∧ (a.key.size : Int) ≤ 40 ∧ (a.val.size : Int) ≤ 200 ∧ (a.gone = true → a.val.size = 0) ∧ 1 ≤ a.seq ∧ a.seq ≤ 1000000 := by
  simp only [okE, Bool.and_eq_true, Bool.or_eq_true, Bool.not_eq_true', decide_eq_true_eq]
  generalize a.val.size = v
  generalize a.key.size = k
  cases a.gone <;> simp <;> omega
theorem l3Entry_any (a : Ent) (w : World) (hf : Fits a) :
    Calls Tryz.prog 61 #[.agg #[.string a.key, .string a.val, .int .i64 a.seq, .bool a.gone]] w fun e w' => e = .returned (.bool (okE a)) ∧ Below w.heap.size w w' := by
  obtain ⟨f1, f2, f3, f4⟩ := hf
  go_enter Tryz.func61, Tryz.ntmps61
  go_wp2_with (go_at_call 57; refine (l1In_any _ _ _ _).mono ?_; rintro e w' ⟨rfl, rfl⟩)
  all_goals go_ret
  all_goals refine ⟨ret_bool ?_, below1 _ _⟩
  all_goals rw [Bool.eq_iff_iff, okE_iff]
  all_goals simp_all [empty_iff]
  all_goals omega
theorem entryOk_any (a : Ent) (w : World) (hf : Fits a) :
    Calls Tryz.prog 46 #[.agg #[.string a.key, .string a.val, .int .i64 a.seq, .bool a.gone]] w fun e w' => e = .returned (.bool (okE a)) ∧ Below w.heap.size w w' := by
  obtain ⟨f1, f2, f3, f4⟩ := hf
  go_enter Tryz.func46, Tryz.ntmps46
  go_wp2
  all_goals go_ret
  all_goals refine ⟨ret_bool ?_, below1 _ _⟩
  all_goals rw [Bool.eq_iff_iff, okE_iff]
  all_goals simp_all [empty_iff]
  all_goals omega
end Go.Proofs.YtpbbahpndgigjaaGreatDoor
