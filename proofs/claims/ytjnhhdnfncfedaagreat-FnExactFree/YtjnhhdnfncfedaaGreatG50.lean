/- The contract of the program's TreeOk of a tree. The contract of the program's Free: a tree without a snapshot, in memory of its own. -/
import Derived.Test.YtjnhhdnfncfedaaGreatTreUnp
import Derived.Maps.AppendAt
import Derived.Test.YtjnhhdnfncfedaaGreatG41
import Derived.Test.YtjnhhdnfncfedaaGreatG42
namespace Go.Proofs.YtjnhhdnfncfedaaGreat
open Go.RowKit
set_option maxHeartbeats 1000000 in
set_option maxRecDepth 100000 in
theorem implTreeOk_any (X : TrX) (w : World) (hx : RdTr w X) (hf : FitTr X) :
    Calls Tryz.prog 44 #[.agg #[X.vm, X.vy, X.vo, .int .i64 X.seq, X.vs]] w fun e w' => e = .returned (.bool (treeOk X.tre)) ∧ Below w.heap.size w w' := by
  have ht0 := treAt_new w X 33
  have b0 := below1 w (.cells #[X.vm, X.vy, X.vo, .int .i64 X.seq, X.vs] 33)
  have HU : Hid (Calls _ _ _ _ _) := unpackedTree_any X _ (hx.below b0) hf
  unfold UnpTPost at HU
  generalize treeOk X.tre = ok at HU ⊢
  obtain ⟨q0, q1, q2, q3, q4⟩ := id ht0
  go_enter Tryz.func44, Tryz.ntmps44
  go_wp2_with fail
  refine HU.out.mono ?_
  rintro e w1 ⟨u, ps, rfl, -, -, hb1⟩
  have b1 := b0.trans (hb1.mono b0.size)
  clear HU ht0 q0 q1 q2 q3 q4 hb1
  go_wp2
  go_ret
  exact ⟨rfl, b1⟩
end Go.Proofs.YtjnhhdnfncfedaaGreat
namespace Go.Proofs.YtjnhhdnfncfedaaGreat
open Go.RowKit
def freeR (T : Tre) (s : Int) : Tre := if treeOk T = true then freeT T s else zeroTr
def freeO (T : Tre) (s : Int) : Bool := treeOk T && decide (s ∈ T.snaps)
theorem filt_erase {s : Int} : ∀ {ss : List Int} {j : Nat}, ss.Pairwise (· < ·) → j < ss.length → ss.getD j 0 = s → ss.filter (fun x => decide (x ≠ s)) = ss.eraseIdx j
  | [], j, _, h, _ => by simp at h
  | a :: r, 0, hp, _, he => by
    have ha : a = s := he
    subst ha
    rw [List.filter_cons_of_neg (by simp), List.eraseIdx_cons_zero, List.filter_eq_self]
    intro x hx
    have := (List.pairwise_cons.1 hp).1 x hx
    simp only [ne_eq, decide_eq_true_eq]
    omega
  | a :: r, j + 1, hp, h, he => by
    have hj : j < r.length := by simpa using h
    have he' : r.getD j 0 = s := by simpa [List.getD] using he
    have hlt := (List.pairwise_cons.1 hp).1 (r.getD j 0) (by rw [show r.getD j 0 = r[j] by simp [List.getD, List.getElem?_eq_getElem hj]]; exact List.getElem_mem hj)
    rw [List.filter_cons_of_pos (by simp only [ne_eq, decide_eq_true_eq]; omega), List.eraseIdx_cons_succ, filt_erase (List.pairwise_cons.1 hp).2 hj he']
theorem filt_self {s : Int} {ss : List Int} (h : s ∉ ss) : ss.filter (fun x => decide (x ≠ s)) = ss := by
  rw [List.filter_eq_self]
  intro x hx
  simp only [ne_eq, decide_eq_true_eq]
  exact fun e => h (e ▸ hx)
theorem OwnTree.other {w : World} {lo c j : Nat} {u : Value} {Y : TrX} (h : OwnTree w lo Y) (hc : c ∉ trB Y) : OwnTree (w.setCell ⟨c, j, none⟩ u) lo Y := by
  have m1 : ∀ k ∈ oneB Y.vm, k ∈ trB Y := fun q hq => List.mem_append_left _ hq
  have m2 : ∀ k ∈ oneB Y.vy ++ tblks Y.ys, k ∈ trB Y := fun q hq => List.mem_append_right _ (List.mem_append_left _ hq)
  have m3 : ∀ k ∈ oneB Y.vo ++ tblks Y.os, k ∈ trB Y := fun q hq => List.mem_append_right _ (List.mem_append_right _ (List.mem_append_left _ hq))
  have m4 : ∀ k ∈ oneB Y.vs, k ∈ trB Y := fun q hq => List.mem_append_right _ (List.mem_append_right _ (List.mem_append_right _ hq))
  refine ⟨row_set h.mem (fun k hk e => hc (e ▸ m1 k (mem_oneB.2 hk))), row_set h.young (fun k hk e => hc (e ▸ m2 k (List.mem_append_left _ (mem_oneB.2 hk)))), fun t ht => ⟨row_set (h.youngs t ht).1 (fun k hk e => hc (e ▸ m2 k (List.mem_append_right _ (blk_sub ht (List.mem_append_left _ (mem_oneB.2 hk)))))), row_set (h.youngs t ht).2 (fun k hk e => hc (e ▸ m2 k (List.mem_append_right _ (blk_sub ht (List.mem_append_right _ (mem_oneB.2 hk))))))⟩,
    row_set h.old (fun k hk e => hc (e ▸ m3 k (List.mem_append_left _ (mem_oneB.2 hk)))), fun t ht => ⟨row_set (h.olds t ht).1 (fun k hk e => hc (e ▸ m3 k (List.mem_append_right _ (blk_sub ht (List.mem_append_left _ (mem_oneB.2 hk)))))), row_set (h.olds t ht).2 (fun k hk e => hc (e ▸ m3 k (List.mem_append_right _ (blk_sub ht (List.mem_append_right _ (mem_oneB.2 hk))))))⟩, row_set h.snaps (fun k hk e => hc (e ▸ m4 k (mem_oneB.2 hk))), h.nod⟩
theorem OwnTree.others {w : World} {lo c : Nat} {u0 u1 u2 u3 u4 : Value} {Y : TrX} (h : OwnTree w lo Y) (hc : c ∉ trB Y) : OwnTree (put5 w c u0 u1 u2 u3 u4) lo Y := ((((h.other hc).other hc).other hc).other hc).other hc
/-- Other snapshots, in the same row. -/
def reSn (Y : TrX) (u : Value) (ss : List Int) : TrX := ⟨Y.vm, Y.vy, Y.vo, u, Y.mem, Y.ys, Y.os, Y.seq, ss⟩
theorem trB_reSn {Y : TrX} {u : Value} {ss : List Int} (h : u.ownBlock = Y.vs.ownBlock) : trB (reSn Y u ss) = trB Y := by
  unfold trB reSn oneB
  simp only [h]
theorem OwnTree.reSn {w w' : World} {lo : Nat} {Y : TrX} {u : Value} {ss : List Int} (h : OwnTree w lo Y) (hg : w.grownBy w' Y.vs.ownBlock) (hu : OwnI w' lo u ss) (hub : u.ownBlock = Y.vs.ownBlock) : OwnTree w' lo (reSn Y u ss) := by
  have ht : Touch (oneB Y.vs) w w' := Touch.of_grown hg (fun k hk => mem_oneB.2 hk)
  have hnod := h.nod
  unfold trB at hnod
  obtain ⟨-, hn2, hd1⟩ := List.nodup_append.1 hnod
  obtain ⟨-, hn3, hd2⟩ := List.nodup_append.1 hn2
  obtain ⟨-, -, hd3⟩ := List.nodup_append.1 hn3
  have p1 : ∀ k ∈ oneB Y.vm, k ∉ oneB Y.vs := fun k hk e => hd1 k hk k (List.mem_append_right _ (List.mem_append_right _ e)) rfl
  have p2 : ∀ k ∈ oneB Y.vy ++ tblks Y.ys, k ∉ oneB Y.vs := fun k hk e => hd2 k hk k (List.mem_append_right _ e) rfl
  have p3 : ∀ k ∈ oneB Y.vo ++ tblks Y.os, k ∉ oneB Y.vs := fun k hk e => hd3 k hk k e rfl
  have OY : OwnTs w lo Y.vy Y.ys := ⟨h.young, h.youngs, (List.nodup_append.1 hn2).1⟩
  have OO : OwnTs w lo Y.vo Y.os := ⟨h.old, h.olds, (List.nodup_append.1 hn3).1⟩
  have OY2 := OY.touch ht p2
  have OO2 := OO.touch ht p3
  exact ⟨ht.row h.mem (fun k hk => p1 k (mem_oneB.2 hk)), OY2.row, OY2.ins, OO2.row, OO2.ins, hu, by rw [trB_reSn hub]; exact h.nod⟩
theorem ownTree_zero (w : World) (lo : Nat) : OwnTree w lo ⟨.slice none 0 0, .slice none 0 0, .slice none 0 0, .slice none 0 0, [], [], [], 0, []⟩ :=
  ⟨⟨rfl, .inl ⟨rfl, rfl⟩⟩, ⟨rfl, .inl ⟨rfl, rfl⟩⟩, (fun t ht => by cases ht), ⟨rfl, .inl ⟨rfl, rfl⟩⟩, (fun t ht => by cases ht), ⟨rfl, .inl ⟨rfl, rfl⟩⟩, List.nodup_nil⟩
/-- What Free leaves. -/
def FreePost (w : World) (X : TrX) (s : Int) (e : Ending) (w' : World) : Prop :=
  ∃ Y : TrX, e = .returned (.tuple #[.agg #[Y.vm, Y.vy, Y.vo, .int .i64 Y.seq, Y.vs], .bool (freeO X.tre s)]) ∧ Y.tre = freeR X.tre s ∧ OwnTree w' w.heap.size Y ∧ Below w.heap.size w w'
set_option maxHeartbeats 4000000 in
set_option maxRecDepth 100000 in
theorem implFree_any (X : TrX) (s : Int) (w : World) (hx : RdTr w X) (hf : FitTr X) (hs : treeOk X.tre = true → CpTr X) :
    Calls Tryz.prog 22 #[.agg #[X.vm, X.vy, X.vo, .int .i64 X.seq, X.vs], .int .i64 s] w fun e w' => FreePost w X s e w' := by
  have HTK : Hid (∀ W, RdTr W X → Calls Tryz.prog 44 #[.agg #[X.vm, X.vy, X.vo, .int .i64 X.seq, X.vs]] W fun e w' => e = .returned (.bool (treeOk X.tre)) ∧ Below W.heap.size W w') := fun W h => implTreeOk_any X W h hf
  have HCP : Hid (treeOk X.tre = true → ∀ W, RdTr W X → Calls Tryz.prog 45 #[.agg #[X.vm, X.vy, X.vo, .int .i64 X.seq, X.vs]] W fun e w' => ToTr W X e w') := fun ht W h => copied_any X W h (hs ht)
  clear hs hf
  have t0 := treAt_new w X 33
  obtain ⟨V0, hV0⟩ : ∃ V0, V0 = w.alloc (.cells #[X.vm, X.vy, X.vo, .int .i64 X.seq, X.vs] 33) := ⟨_, rfl⟩
  have b0 : Below w.heap.size w V0 := by rw [hV0]; exact below1 w _
  have s0 : V0.heap.size = w.heap.size + 1 := by rw [hV0]; simp
  rw [← hV0] at t0
  have z1 := boxTr_new V0 (.slice none 0 0) (.slice none 0 0) (.slice none 0 0) (.slice none 0 0) 0
  obtain ⟨W0, hW0⟩ : ∃ W0, W0 = V0.alloc (.cells #[.slice none 0 0, .slice none 0 0, .slice none 0 0, .int .i64 0, .slice none 0 0] 33) := ⟨_, rfl⟩
  have b1 : Below V0.heap.size V0 W0 := by rw [hW0]; exact below1 V0 _
  have s1 : W0.heap.size = w.heap.size + 2 := by rw [hW0]; simp; omega
  rw [← hW0, s0] at z1
  have t1 := t0.below b1
  have bw : Below w.heap.size w W0 := b0.trans (b1.mono (by omega))
  have HW0 : Hid ((w.alloc (.cells #[X.vm, X.vy, X.vo, .int .i64 X.seq, X.vs] 33)).alloc (.cells #[.slice none 0 0, .slice none 0 0, .slice none 0 0, .int .i64 0, .slice none 0 0] 33) = W0) := by unfold Hid; rw [hW0, hV0]
  obtain ⟨q0, q1, q2, q3, q4⟩ := id t1
  rw [hW0, hV0] at q0 q1 q2 q3 q4
  clear t0 b0 b1 s0 hV0 hW0
  go_enter Tryz.func22, Tryz.ntmps22
  go_wp2_with fail
  rw [HW0.out]
  clear q0 q1 q2 q3 q4
  refine (HTK.out _ (hx.below bw)).mono ?_
  rintro e w1 ⟨rfl, hb1⟩
  have t2 := t1.below hb1
  have z2 := z1.on hb1
  have bw1 := bw.trans (hb1.mono bw.size)
  have s2 : w.heap.size + 2 ≤ w1.heap.size := by rw [← s1]; exact hb1.size
  clear t1 z1 bw hb1 s1 HTK HW0
  cases htk : treeOk X.tre with
  | false =>
    obtain ⟨y0, y1, y2, y3, y4, g0, g1, g2, g3, g4⟩ := z2.facts
    have hzF := boxTr_put5 z2 (.slice none 0 0) (.slice none 0 0) (.slice none 0 0) (.slice none 0 0) 0
    obtain ⟨f0, f1, f2, f3, f4, -⟩ := hzF.facts
    have END : Hid (FreePost w X s (.returned (.tuple #[.agg #[.slice none 0 0, .slice none 0 0, .slice none 0 0, .int .i64 0, .slice none 0 0], .bool false])) (put5 w1 (w.heap.size + 1) (.slice none 0 0) (.slice none 0 0) (.slice none 0 0) (.int .i64 0) (.slice none 0 0))) := by
      refine ⟨⟨.slice none 0 0, .slice none 0 0, .slice none 0 0, .slice none 0 0, [], [], [], 0, []⟩, by unfold freeO; rw [htk]; rfl, by unfold freeR; rw [if_neg (by rw [htk]; simp)]; rfl, ownTree_zero _ _, below_put5 bw1 (by omega)⟩
    unfold put5 at f0 f1 f2 f3 f4
    clear z2 t2 hzF bw1 htk
    go_wp2
    exact bodyPost_ret (v := .tuple #[.agg #[.slice none 0 0, .slice none 0 0, .slice none 0 0, .int .i64 0, .slice none 0 0], .bool false]) (by simp [results, Tryz.results22, go_sem, f0, f1, f2, f3, f4]) rfl END.out
  | true =>
    obtain ⟨q0, q1, q2, q3, q4⟩ := id t2
    have hsp : X.snaps.Pairwise (· < ·) := ((snapsOk_iff _ _).1 ((treeOk_iff X.tre).1 htk).snaps).2
    have hfew : X.snaps.length ≤ 10 := ((treeOk_iff X.tre).1 htk).few
    go_wp2_with fail
    refine (HCP.out htk _ (hx.below bw1)).mono ?_
    rintro e w2 ⟨Y, rfl, heY, hoY, hb2⟩
    have t3 := t2.below hb2
    have z3 := z2.on hb2
    have bw2 := bw1.trans (hb2.mono bw1.size)
    have s3 := hb2.size
    have UB : Hid (∀ k ∈ trB Y, w1.heap.size ≤ k ∧ k < w2.heap.size) := fun k hk => hoY.bound hk
    clear q0 q1 q2 q3 q4 t2 z2 hb2 bw1 HCP
    have hsY : Y.snaps = X.snaps := congrArg Tre.snaps heY
    obtain ⟨am, ay, ao, an, mn, yn, on, nn, cm, cy, co, cn, v0, v1, v2, v3⟩ := hoY.rd.slices
    obtain ⟨vm4, vy4, vo4, vs4, mem4, ys4, os4, seq4, snaps4⟩ := Y
    simp only at v0 v1 v2 v3 hsY
    subst v0
    subst v1
    subst v2
    subst v3
    subst hsY
    have zb := boxTr_new w2 (.slice am mn cm) (.slice ay yn cy) (.slice ao on co) (.slice an nn cn) seq4
    have bb := below1 w2 (.cells #[.slice am mn cm, .slice ay yn cy, .slice ao on co, .int .i64 seq4, .slice an nn cn] 33)
    have t4 := t3.below bb
    have z4 := z3.on bb
    have bw3 := bw2.trans (bb.mono bw2.size)
    have hoY3 := hoY.below bb
    have s4 : w2.heap.size < (w2.alloc (.cells #[.slice am mn cm, .slice ay yn cy, .slice ao on co, .int .i64 seq4, .slice an nn cn] 33)).heap.size := by simp
    obtain ⟨q0, q1, q2, q3, q4⟩ := id t4
    clear t3 z3 bb bw2 hoY
    go_wp2_with fail
    generalize w2.alloc (.cells #[.slice am mn cm, .slice ay yn cy, .slice ao on co, .int .i64 seq4, .slice an nn cn] 33) = W3 at zb t4 z4 bw3 hoY3 s4 q0 q1 q2 q3 q4 ⊢
    refine (indexI_any X.vs X.snaps s _ (hx.below bw3).snaps).mono ?_
    rintro e w4 ⟨rfl, ⟨j, hj, hjs, rfl⟩ | ⟨hns, rfl⟩⟩
    · have hjb : j < 10 := by omega
      obtain ⟨y0, y1, y2, y3, y4, g0, g1, g2, g3, g4⟩ := zb.facts
      clear q0 q1 q2 q3 q4
      go_wp2_with fail
      refine (delI_any (.slice an nn cn) X.snaps w1.heap.size j _ hoY3.snaps hj).mono ?_
      rintro e w5 ⟨u, rfl, hu, hub, hg⟩
      have hto : Touch (oneB (.slice an nn cn)) w4 w5 := Touch.of_grown hg (fun k hk => mem_oneB.2 hk)
      have UV : ∀ k ∈ oneB (.slice an nn cn), w1.heap.size ≤ k ∧ k < w2.heap.size := fun k hk => UB.out k (List.mem_append_right _ (List.mem_append_right _ (List.mem_append_right _ hk)))
      have zb5 : BoxTr w5 w2.heap.size (.slice am mn cm) (.slice ay yn cy) (.slice ao on co) seq4 (.slice an nn cn) := (hto.block _ s4 (fun e => by have := UV _ e; omega)).trans zb
      have z5 : BoxTr w5 (w.heap.size + 1) (.slice none 0 0) (.slice none 0 0) (.slice none 0 0) 0 (.slice none 0 0) := (hto.block _ (by omega) (fun e => by have := UV _ e; omega)).trans z4
      have bw5 : Below w.heap.size w w5 := hto.below bw3 (fun k hk => by have := UV k hk; omega)
      have hoY5 := hoY3.reSn hg hu hub
      have UB5 : Hid (∀ k ∈ trB (reSn ⟨.slice am mn cm, .slice ay yn cy, .slice ao on co, .slice an nn cn, mem4, ys4, os4, seq4, X.snaps⟩ u (X.snaps.eraseIdx j)), w1.heap.size ≤ k ∧ k < w2.heap.size) := fun k hk => UB.out k (by rw [trB_reSn hub] at hk; exact hk)
      have s5 : w2.heap.size < w5.heap.size := Nat.lt_of_lt_of_le s4 hto.size
      obtain ⟨au, cu, hvu, -⟩ := id hu.rd
      generalize hun : (X.snaps.eraseIdx j).length = un at hvu
      subst hvu
      clear zb z4 t4 bw3 hoY3 hg hu hto UV y0 y1 y2 y3 y4 g0 g1 g2 g3 g4 hun UB s4
      obtain ⟨y0, y1, y2, y3, y4, g0, g1, g2, g3, g4⟩ := zb5.facts
      have zb6 := boxTr_set4 zb5 (.slice au un cu)
      have z6 := boxTr_other (c := w2.heap.size) (j := 4) (u := .slice au un cu) z5 (by omega)
      have bw6 : Below w.heap.size w (w5.setCell ⟨w2.heap.size, 4, none⟩ (.slice au un cu)) := bw5.setCell (p := ⟨w2.heap.size, 4, none⟩) (by show w.heap.size ≤ w2.heap.size; omega) _
      have hoY6 := hoY5.other (c := w2.heap.size) (j := 4) (u := .slice au un cu) (fun e => by have := UB5.out _ e; omega)
      obtain ⟨k0, k1, k2, k3, k4, l0, l1, l2, l3, l4⟩ := zb6.facts
      obtain ⟨m0, m1, m2, m3, m4, n0, n1, n2, n3, n4⟩ := z6.facts
      have hzF := boxTr_put5 z6 (.slice am mn cm) (.slice ay yn cy) (.slice ao on co) (.slice au un cu) seq4
      obtain ⟨f0, f1, f2, f3, f4, -⟩ := hzF.facts
      have END : Hid (FreePost w X s (.returned (.tuple #[.agg #[.slice am mn cm, .slice ay yn cy, .slice ao on co, .int .i64 seq4, .slice au un cu], .bool true])) (put5 (w5.setCell ⟨w2.heap.size, 4, none⟩ (.slice au un cu)) (w.heap.size + 1) (.slice am mn cm) (.slice ay yn cy) (.slice ao on co) (.int .i64 seq4) (.slice au un cu))) := by
        refine ⟨reSn ⟨.slice am mn cm, .slice ay yn cy, .slice ao on co, .slice an nn cn, mem4, ys4, os4, seq4, X.snaps⟩ (.slice au un cu) (X.snaps.eraseIdx j), ?_, ?_, (hoY6.others (fun e => by have := UB5.out _ e; omega)).mono (by omega), below_put5 bw6 (by omega)⟩
        · have hm : s ∈ X.tre.snaps := by
            show s ∈ X.snaps
            rw [← hjs, show X.snaps.getD j 0 = X.snaps[j] by simp [List.getD, List.getElem?_eq_getElem hj]]
            exact List.getElem_mem hj
          unfold freeO
          rw [htk, decide_eq_true hm]
          rfl
        · unfold freeR
          rw [if_pos htk]
          unfold freeT
          rw [show X.tre.snaps.filter (fun x => decide (x ≠ s)) = X.snaps.eraseIdx j from filt_erase hsp hj hjs]
          have := congrArg (fun T : Tre => (⟨T.mem, T.young, T.old, T.seq, X.snaps.eraseIdx j⟩ : Tre)) heY
          exact this
      unfold put5 at f0 f1 f2 f3 f4
      clear zb5 z5 bw5 hoY5 UB5 hzF zb6 z6 bw6 hoY6 htk hsp heY hj hjs
      go_wp2
      exact bodyPost_ret (v := .tuple #[.agg #[.slice am mn cm, .slice ay yn cy, .slice ao on co, .int .i64 seq4, .slice au un cu], .bool true]) (by simp [results, Tryz.results22, go_sem, f0, f1, f2, f3, f4]) rfl END.out
    · skip
      obtain ⟨y0, y1, y2, y3, y4, g0, g1, g2, g3, g4⟩ := zb.facts
      obtain ⟨m0, m1, m2, m3, m4, n0, n1, n2, n3, n4⟩ := z4.facts
      have hzF := boxTr_put5 z4 (.slice am mn cm) (.slice ay yn cy) (.slice ao on co) (.slice an nn cn) seq4
      obtain ⟨f0, f1, f2, f3, f4, -⟩ := hzF.facts
      have END : Hid (FreePost w X s (.returned (.tuple #[.agg #[.slice am mn cm, .slice ay yn cy, .slice ao on co, .int .i64 seq4, .slice an nn cn], .bool false])) (put5 w4 (w.heap.size + 1) (.slice am mn cm) (.slice ay yn cy) (.slice ao on co) (.int .i64 seq4) (.slice an nn cn))) := by
        refine ⟨⟨.slice am mn cm, .slice ay yn cy, .slice ao on co, .slice an nn cn, mem4, ys4, os4, seq4, X.snaps⟩, ?_, ?_, (hoY3.others (fun e => by have := UB.out _ e; omega)).mono (by omega), below_put5 bw3 (by omega)⟩
        · unfold freeO
          rw [htk, decide_eq_false (show ¬ s ∈ X.tre.snaps from hns)]
          rfl
        · unfold freeR
          rw [if_pos htk]
          unfold freeT
          rw [show X.tre.snaps.filter (fun x => decide (x ≠ s)) = X.snaps from filt_self hns]
          exact heY
      unfold put5 at f0 f1 f2 f3 f4
      clear zb z4 t4 bw3 hoY3 UB hzF htk hsp heY q0 q1 q2 q3 q4
      go_wp2
      exact bodyPost_ret (v := .tuple #[.agg #[.slice am mn cm, .slice ay yn cy, .slice ao on co, .int .i64 seq4, .slice an nn cn], .bool false]) (by simp [results, Tryz.results22, go_sem, f0, f1, f2, f3, f4]) rfl END.out
end Go.Proofs.YtjnhhdnfncfedaaGreat
