/- Where the draw of a tree stands: its box, its rows, the cursor; plain facts on right trees. The steps of the draw of a tree, each with where it stands. -/
import Derived.Test.YtpbbahpndgigjaaGreatDoorTreSnp
namespace Go.Proofs.YtpbbahpndgigjaaGreatDoor
set_option maxHeartbeats 16000000
set_option maxRecDepth 100000
open Go.RowKit
theorem allF_each : ∀ (bs : List ByteArray) (acc es : List Ent), allF bs acc = some es → ∀ b ∈ bs, (unpI b.data.toList).2 = true
  | [], _, _, _, b, hb => by cases hb
  | c :: r, acc, es, h, b, hb => by
    rw [allF] at h
    split at h
    · rename_i hc
      rcases List.mem_cons.1 hb with rfl | hb
      · exact hc.1
      · exact allF_each r _ es h b hb
    · cases h
theorem okT_small {T : Tbl} (h : tableOk T = true) : (∀ s ∈ T.blocks, s.size ≤ 90009) ∧ T.bits.length ≤ 1000 ∧ T.blocks.length ≤ 40 := by
  have hp := tableOk_parts h
  have hlen := okL_len hp.1
  have hb := bitsL_len (entriesL T)
  rw [← hp.2.2.2.2] at hb
  unfold tableOk at h
  simp only [Bool.and_eq_true] at h
  obtain ⟨⟨⟨h1, _⟩, _⟩, _⟩ := h
  unfold allL at h1
  split at h1
  · cases h1
  · rename_i hn
    split at h1
    · cases h1
    · rename_i es he
      refine ⟨fun s hs => ?_, by omega, by omega⟩
      have h2 := allF_each _ _ _ he s hs
      obtain ⟨es', hes⟩ : ∃ es', unpI s.data.toList = (es', true) := ⟨(unpI s.data.toList).1, by rw [← h2]⟩
      obtain ⟨k1, k2⟩ := unpI_back hes
      have k3 := packA_len k1
      rw [k2, size_length] at k3
      exact k3
theorem treeP_young {X : TrX} (h : TreeP X.tre) : ∀ t ∈ X.ys, tableOk t.T = true := fun t ht => h.full t.T (List.mem_append_left _ (List.mem_map_of_mem ht))
theorem treeP_old {X : TrX} (h : TreeP X.tre) : ∀ t ∈ X.os, tableOk t.T = true := fun t ht => h.full t.T (List.mem_append_right _ (List.mem_map_of_mem ht))
theorem treeP_fit {X : TrX} (h : TreeP X.tre) : FitTr X :=
  ⟨fun e he => by
    have := ((okL_iff _).1 h.mem).2.1 e he
    simp only [okE, Bool.and_eq_true, decide_eq_true_eq] at this
    exact ⟨by omega, by omega, by omega, by omega⟩,
   fun t ht s hs => by have := (okT_small (treeP_young h t ht)).1 s hs; omega, fun t ht s hs => by have := (okT_small (treeP_old h t ht)).1 s hs; omega⟩
theorem treeP_siz {X : TrX} {w : World} {lo : Nat} (h : TreeP X.tre) (hr : RowsTr w lo X) : CpTr X := by
  have hl := okL_len h.mem
  have h1 : X.ys.length ≤ 6 := by have := h.young; rw [show X.tre.young = X.ys.map (·.T) from rfl, List.length_map] at this; exact this
  have h2 : X.os.length ≤ 1 := by have := h.old; rw [show X.tre.old = X.os.map (·.T) from rfl, List.length_map] at this; exact this
  have h3 : X.snaps.length ≤ 10 := h.few
  have h4 : X.mem.length ≤ 300 := hl
  refine ⟨⟨by omega, by omega, by omega, by omega, fun t ht => ?_, fun t ht => ?_⟩, by omega, own_nil hr.young, own_nil hr.old⟩
  · have := okT_small (treeP_young h t ht)
    exact ⟨by omega, by omega, own_nil (hr.youngs t ht).2⟩
  · have := okT_small (treeP_old h t ht)
    exact ⟨by omega, by omega, own_nil (hr.olds t ht).2⟩
theorem touch_gr {b : Nat} {w w' : World} (h : Touch [b] w w') : w.grownBy w' (some b) := ⟨h.os, h.tape, h.output, h.size, fun i hi hr => h.block i hi (fun e => hr (by rw [List.mem_singleton.1 e]))⟩
theorem grown_touch {b : Nat} {w w' : World} (h : w.grownBy w' (some b)) : Touch [b] w w' := ⟨h.os, h.tape, h.output, h.size, fun i hi hn => h.block i hi (fun e => hn (by simp at e; simp [e]))⟩
def PairTr (X : TrX) : Prop := (∀ b, X.vs.ownBlock = some b → Off b X.ys ∧ Off b X.os) ∧ ((∀ k, X.vy.ownBlock = some k → X.vo.ownBlock ≠ some k) ∨ ∃ x, X.vy = .slice x 0 0)
theorem ApTr.pair {X : TrX} (h : ApTr X) : PairTr X := ⟨h.1, .inl h.2⟩
structure TD (w0 w W : World) (g bx : Nat) (X : TrX) : Prop where
  box : BoxTr W bx X.vm X.vy X.vo X.seq X.vs
  rows : RowsTr W (bx + 1) X
  tree : TreeP X.tre
  dc : DCur w0 W g
  gr : w.grownBy W (some g)
  res : BoxTr W w.heap.size (.slice none 0 0) (.slice none 0 0) (.slice none 0 0) 0 (.slice none 0 0)
  ap : PairTr X
theorem RowsTr.off {W : World} {bx : Nat} {X : TrX} (h : RowsTr W (bx + 1) X) {k : Nat} (hk : k ≤ bx) : ∀ j ∈ trB X, j ∉ [k] := fun j hj e => by
  have := (h.bound hj).1
  have := List.mem_singleton.1 e
  omega
theorem TD.draw {w0 w W W1 : World} {g bx : Nat} {X : TrX} (h : TD w0 w W g bx X) (hg : W.grownBy W1 (some g)) (hd : DCur w0 W1 g) (hgw : g < w.heap.size) (hbx : w.heap.size < bx) : TD w0 w W1 g bx X :=
  ⟨(hg.block bx h.box.lt (fun e => by simp at e; omega)).trans h.box, h.rows.touch (grown_touch hg) (h.rows.off (by omega)), h.tree, hd, gr_trans h.gr hg, (hg.block w.heap.size h.res.lt (fun e => by simp at e; omega)).trans h.res, h.ap⟩
theorem TD.below {w0 w W W1 : World} {g bx : Nat} {X : TrX} (h : TD w0 w W g bx X) (hb : Below W.heap.size W W1) : TD w0 w W1 g bx X :=
  ⟨h.box.on hb, h.rows.below hb, h.tree, h.dc.below hb, gr_below h.gr hb, h.res.on hb, h.ap⟩
theorem TD.touch {w0 w W W1 : World} {g bx : Nat} {X Y : TrX} (h : TD w0 w W g bx X) (ht : Touch [bx] W W1) (hgw : g < w.heap.size) (hbx : w.heap.size < bx) (hbox : BoxTr W1 bx Y.vm Y.vy Y.vo Y.seq Y.vs) (hr : RowsTr W1 (bx + 1) Y) (hp : TreeP Y.tre) (ha : PairTr Y) : TD w0 w W1 g bx Y :=
  ⟨hbox, hr, hp, h.dc.grow (touch_gr ht) (fun k hk => by have := Option.some.inj hk; omega), gr_young h.gr (touch_gr ht) (fun k hk => by have := Option.some.inj hk; omega), (ht.block _ h.res.lt (by simp; omega)).trans h.res, ha⟩
def Few (T : Tre) (m : Nat) : Prop := 2 * T.snaps.length + m ≤ 11 + (if lastSeq T = true then 1 else 0)
theorem few_end {T : Tre} (h : Few T 0) : T.snaps.length ≤ 6 := by
  unfold Few at h
  split at h <;> omega
theorem few_same {T R : Tre} {m : Nat} (h : Few T (m + 1)) (hs : R.snaps = T.snaps) : Few R m := by
  unfold Few at h ⊢
  rw [hs]
  split at h <;> split <;> omega
theorem few_less {T R : Tre} {m : Nat} (h : Few T (m + 1)) (hs : R.snaps.length < T.snaps.length) : Few R m := by
  unfold Few at h ⊢
  split at h <;> split <;> omega
theorem lastSeq_snap (T : Tre) : lastSeq (snapT T) = true := by
  unfold lastSeq snapT
  simp [List.getD]
theorem few_snap {T : Tre} {m : Nat} (hk : treeOk T = true) (h : Few T (m + 1)) : Few (snapR T) m := by
  unfold snapR
  rw [if_pos hk]
  split
  · exact few_same h rfl
  · rename_i hn
    have h1 : ¬ lastSeq T = true := fun e => hn (.inl e)
    unfold Few at h ⊢
    rw [if_neg h1] at h
    rw [lastSeq_snap, if_pos rfl]
    show 2 * (T.snaps ++ [T.seq]).length + m ≤ _
    simp only [List.length_append, List.length_singleton]
    omega
theorem snapR_tree {T : Tre} (h : TreeP T) : TreeP (snapR T) := by
  unfold snapR
  rw [if_pos ((treeOk_iff T).2 h)]
  split
  · exact h
  · rename_i hn
    have h1 := h.few
    refine snap_tree h (by omega) (fun s hs he => hn (.inl ?_))
    have := snaps_last h hs he
    unfold lastSeq
    rw [this]
    have : 0 < T.snaps.length := List.length_pos_of_mem hs
    simp [this]
theorem freeR_tree {T : Tre} (h : TreeP T) (s : Int) : TreeP (freeR T s) := by
  unfold freeR
  rw [if_pos ((treeOk_iff T).2 h)]
  exact free_tree h s
theorem few_free {T : Tre} {m : Nat} {s : Int} (hk : treeOk T = true) (h : Few T (m + 1)) (hs : s ∈ T.snaps) : Few (freeR T s) m := by
  refine few_less h ?_
  unfold freeR
  rw [if_pos hk]
  show (T.snaps.filter fun x => decide (x ≠ s)).length < _
  rcases Nat.lt_or_ge (T.snaps.filter fun x => decide (x ≠ s)).length T.snaps.length with h | h
  · exact h
  · have e := List.filter_sublist.eq_of_length_le h
    rw [← e] at hs
    simp at hs
open Go.RowKit
theorem touch_put5 {w : World} {b : Nat} {u0 u1 u2 u3 u4 : Value} : Touch [b] w (put5 w b u0 u1 u2 u3 u4) :=
  ((((Touch.set (by simp)).trans (Touch.set (by simp))).trans (Touch.set (by simp))).trans (Touch.set (by simp))).trans (Touch.set (by simp))
theorem TD.put {w0 w V V2 : World} {g bx : Nat} {X : TrX} (Y : TrX) (h : TD w0 w V g bx X) (hb : Below V.heap.size V V2) (hr : RowsTr V2 V.heap.size Y) (hp : TreeP Y.tre) (ha : PairTr Y) (hgw : g < w.heap.size) (hbx : w.heap.size < bx) :
    TD w0 w (put5 V2 bx Y.vm Y.vy Y.vo (.int .i64 Y.seq) Y.vs) g bx Y := by
  have hlt := h.box.lt
  have h2 := h.below hb
  refine h2.touch touch_put5 hgw hbx (boxTr_put5 h2.box _ _ _ _ _) ?_ hp ha
  exact RowsTr.mono (lo := V.heap.size) ⟨row_put5 hr.mem hlt, row_put5 hr.young hlt, hr.youngs.put5 hlt, row_put5 hr.old hlt, hr.olds.put5 hlt, row_put5 hr.snaps hlt⟩ (by omega)
def StepD (w0 w : World) (g bx : Nat) (X : TrX) (e : Ending) (V1 : World) : Prop := ∃ ok, e = .returned (.bool ok) ∧ ∃ Y, TD w0 w V1 g bx Y ∧ Y.tre.snaps = X.tre.snaps
theorem call_spill {w0 w V : World} {g bx : Nat} {X : TrX} (h : TD w0 w V g bx X) (hgw : g < w.heap.size) (hbx : w.heap.size < bx) :
    Calls Tryz.prog 81 #[.pointer (some ⟨bx, 0, none⟩)] V fun e V1 => StepD w0 w g bx X e V1 := by
  have hY : X.ys.length = X.tre.young.length := by show _ = (X.ys.map (·.T)).length; rw [List.length_map]
  have hlt := h.box.lt
  refine (l7Spill_any bx X.vm X.vy X.vo X.vs X.mem X.ys X.seq V h.box h.rows.mem.rd (h.rows.young.rd h.rows.youngs) (own_nil h.rows.young) (fun e he => okE_pk (((okL_iff _).1 h.tree.mem).2.1 e he)) (by have : X.mem.length ≤ 300 := okL_len h.tree.mem; omega) (by rw [hY]; exact h.tree.young)).mono ?_
  rintro e V1 ⟨ok, rfl, hok, hno, hyes⟩
  refine ⟨ok, rfl, ?_⟩
  cases ok with
  | false => exact ⟨X, h.below (hno rfl), rfl⟩
  | true =>
    obtain ⟨vm', vy', vb, vk, hb, om, oy, oi, os, ht⟩ := hyes rfl
    have hk := hok.symm
    rw [Bool.and_eq_true, decide_eq_true_eq, decide_eq_true_eq] at hk
    have hr := h.rows.touch ht (h.rows.off (Nat.le_refl _))
    refine ⟨⟨vm', vy', X.vo, X.vs, [], ⟨builtT X.mem, vb, vk⟩ :: X.ys, X.os, X.seq, X.snaps⟩, ?_, rfl⟩
    refine h.touch ht hgw hbx hb ⟨om.mono (by omega), oy.mono (by omega), ?_, hr.old, hr.olds, hr.snaps⟩ ?_ ⟨fun b hb2 => ⟨fun t ht2 k hk e => ?_, (h.ap.1 b hb2).2⟩, .inl fun k hk e => ?_⟩
    · intro t ht2
      rcases List.mem_cons.1 ht2 with rfl | ht2
      · exact ⟨oi.mono (by omega), os.mono (by omega)⟩
      · exact hr.youngs t ht2
    · have h1 := h.tree.young
      exact spill_tree h.tree hk.1 (by rw [hY] at hk; omega)
    · rcases List.mem_cons.1 ht2 with rfl | ht2
      · have h1 := (World.ownsRow.lt oi k hk).1
        have h2 := (World.ownsRow.lt h.rows.snaps b hb2).2
        omega
      · exact (h.ap.1 b hb2).1 t ht2 k hk e
    · have h1 := (World.ownsRow.lt oy k hk).1
      have h2 := (World.ownsRow.lt h.rows.old k e).2
      omega
theorem call_sink {w0 w V : World} {g bx : Nat} {X : TrX} (h : TD w0 w V g bx X) (hgw : g < w.heap.size) (hbx : w.heap.size < bx) :
    Calls Tryz.prog 82 #[.pointer (some ⟨bx, 0, none⟩)] V fun e V1 => StepD w0 w g bx X e V1 := by
  have hY : X.ys.length = X.tre.young.length := by show _ = (X.ys.map (·.T)).length; rw [List.length_map]
  have hO : X.os.length = X.tre.old.length := by show _ = (X.os.map (·.T)).length; rw [List.length_map]
  have hlt := h.box.lt
  have hTL : tl X.ys X.ys.length ++ tl X.os X.os.length = tabL X.tre := tabL_tl rfl rfl
  have hFT := treeP_fit h.tree
  have hcall := l7Sink_any bx X.vm X.vy X.vo X.vs X.ys X.os X.seq X.snaps V h.box (h.rows.young.rd h.rows.youngs) (h.rows.old.rd h.rows.olds) h.rows.snaps.rd hFT.young hFT.old (by rw [hY]; exact h.tree.young) (by rw [hO]; exact h.tree.old) h.tree.few (fun hn => by
    rw [hTL] at hn ⊢
    have h0 : sinkM (tabL X.tre) X.snaps X.seq = sinkL X.tre := rfl
    rw [h0]
    have hok := sink_ok h.tree hn
    exact ⟨fun e he => okE_pk (((okL_iff _).1 hok).2.1 e he), by have := okL_len hok; omega⟩)
  rw [hTL] at hcall
  refine hcall.mono ?_
  rintro e V1 ⟨ok, rfl, hok, hno, hyes⟩
  refine ⟨ok, rfl, ?_⟩
  cases ok with
  | false => exact ⟨X, h.below (hno rfl), rfl⟩
  | true =>
    obtain ⟨vy', vo', ts, hb, oy, oo, oi, hts, ht, hx0⟩ := hyes rfl
    have hk := hok.symm
    rw [Bool.and_eq_true, decide_eq_true_eq, decide_eq_true_eq] at hk
    have hr := h.rows.touch ht (h.rows.off (Nat.le_refl _))
    refine ⟨⟨X.vm, vy', vo', X.vs, X.mem, [], ts, X.seq, X.snaps⟩, ?_, rfl⟩
    refine h.touch ht hgw hbx hb ⟨hr.mem, oy.mono (by omega), (fun t ht => by cases ht), oo.mono (by omega), InT.mono oi (by omega), hr.snaps⟩ ?_ ⟨fun b hb2 => ⟨(fun t ht2 => by cases ht2), fun t ht2 k hk e => by have h1 := (World.ownsRow.lt (oi t ht2).1 k hk).1; have h2 := (World.ownsRow.lt h.rows.snaps b hb2).2; omega⟩, .inr hx0⟩
    have e : (⟨X.mem, [], ts.map (·.T), X.seq, X.snaps⟩ : Tre) = sinkT X.tre := by rw [hts]; rfl
    show TreeP (⟨X.mem, [], ts.map (·.T), X.seq, X.snaps⟩ : Tre)
    rw [e]
    exact sink_tree h.tree hk.2
theorem call_wrote {w0 w V : World} {g bx B : Nat} {X : TrX} {v : Value} {xs : List Wri} (h : TD w0 w V g bx X) (hgw : g < w.heap.size) (hbx : w.heap.size < bx) (ho : OwnW V B v xs) (hB : bx < B) (hf : ∀ x ∈ xs, FitsW x) :
    Calls Tryz.prog 85 #[.pointer (some ⟨bx, 0, none⟩), v] V fun e V1 => StepD w0 w g bx X e V1 := by
  have hlt := h.box.lt
  refine (l7Wrote_any X.tre X.vm X.vy X.vo X.vs bx (bx + 1) v xs V h.box h.rows.mem (by omega) h.tree ho.rd (fun W ht => OwnW.rd (base := B) (ht.row ho (fun k hk e => by have := (World.ownsRow.lt ho k hk).1; have := List.mem_singleton.1 e; omega))) hf).mono ?_
  rintro e V1 ⟨rfl, ⟨vm', hb, om⟩, ht⟩
  refine ⟨_, rfl, ?_⟩
  have hr := h.rows.touch ht (h.rows.off (Nat.le_refl _))
  cases hroom : roomFor X.tre xs with
  | false =>
    rw [hroom] at hb om
    exact ⟨⟨vm', X.vy, X.vo, X.vs, X.mem, X.ys, X.os, X.seq, X.snaps⟩, h.touch ht hgw hbx hb ⟨om, hr.young, hr.youngs, hr.old, hr.olds, hr.snaps⟩ h.tree h.ap, rfl⟩
  | true =>
    rw [hroom] at hb om
    obtain ⟨e1, e2, e3⟩ := putAll_rest X.tre xs
    have hT : (⟨(putAll X.tre xs).mem, X.ys.map (·.T), X.os.map (·.T), (putAll X.tre xs).seq, X.snaps⟩ : Tre) = putAll X.tre xs := by
      have h1 : X.ys.map (·.T) = (putAll X.tre xs).young := e1.symm
      have h2 : X.os.map (·.T) = (putAll X.tre xs).old := e2.symm
      have h3 : X.snaps = (putAll X.tre xs).snaps := e3.symm
      rw [h1, h2, h3]
    refine ⟨⟨vm', X.vy, X.vo, X.vs, (putAll X.tre xs).mem, X.ys, X.os, (putAll X.tre xs).seq, X.snaps⟩, h.touch ht hgw hbx hb ⟨om, hr.young, hr.youngs, hr.old, hr.olds, hr.snaps⟩ ?_ h.ap, rfl⟩
    show TreeP (⟨(putAll X.tre xs).mem, X.ys.map (·.T), X.os.map (·.T), (putAll X.tre xs).seq, X.snaps⟩ : Tre)
    rw [hT]
    unfold roomFor batchOk at hroom
    simp only [Bool.and_eq_true, decide_eq_true_eq] at hroom
    exact putAll_tree h.tree hroom.1.1.2 hroom.1.2 hroom.2
end Go.Proofs.YtpbbahpndgigjaaGreatDoor
