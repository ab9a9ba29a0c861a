/- The contract of the program's Sink. -/
import Derived.Test.YtbefmbjlogkmbaaGreatTreUnp
import Derived.Test.YtbefmbjlogkmbaaGreatG48
import Derived.Test.YtbefmbjlogkmbaaGreatTabImpl
-- UNF Gen
namespace Go.Proofs.YtbefmbjlogkmbaaGreat
set_option maxHeartbeats 16000000
set_option maxRecDepth 100000
open Go.RowKit
theorem fits_okL {l : List Ent} (h : okL l = true) : ∀ e ∈ l, Fits e := fun e he => by
  have := ((okL_iff _).1 h).2.1 e he
  simp only [okE, Bool.and_eq_true, decide_eq_true_eq] at this
  exact ⟨by omega, by omega, by omega, by omega⟩
theorem tabL_ok {T : Tre} (h : TreeP T) : ∀ l ∈ tabL T, okL l = true := fun l hl => by
  obtain ⟨t, ht, rfl⟩ := List.mem_map.1 hl
  exact (tableOk_parts (h.full t ht)).1
theorem mergedOk_tab {T : Tre} (h : TreeP T) : mergedOk (tabL T) = decide ((mergedL (tabL T)).length ≤ 300) := by
  have h1 := h.young
  have h2 := h.old
  have h3 : (tabL T).length ≤ 20 := by unfold tabL; simp; omega
  have h4 : (tabL T).all okL = true := by rw [List.all_eq_true]; exact tabL_ok h
  unfold mergedOk
  rw [decide_eq_true h3, h4]
  rfl
theorem pieces_tail {w : World} {b off cap : Nat} {p : Value × List Ent} {rs : List (Value × List Ent)} (h : ∀ i (h : i < (p :: rs).length), w.cell? ⟨b, off + i, none⟩ = some ((p :: rs)[i].1) ∧ RdE w (p :: rs)[i].1 (p :: rs)[i].2) (hc : rs.length + 1 ≤ cap) (hm : cap ≤ maxLen) :
    Pieces w (.slice (some ⟨b, off + 1, none⟩) rs.length (cap - 1)) rs :=
  .inr ⟨b, off + 1, cap - 1, rfl, by omega, by omega, fun i hi => by
    have := h (i + 1) (by simp; omega)
    rw [show off + 1 + i = off + (i + 1) by omega]
    simpa using this⟩
def BoxTb (w : World) (b : Nat) (f l : ByteArray) (vb vk : Value) : Prop := w.heap[b]? = some (.cells #[.string f, .string l, vb, vk] 72 (0, 0))
theorem BoxTb.lt {w : World} {b : Nat} {f l : ByteArray} {vb vk : Value} (h : BoxTb w b f l vb vk) : b < w.heap.size := (Array.getElem?_eq_some_iff.1 h).1
theorem BoxTb.on {w w' : World} {b : Nat} {f l : ByteArray} {vb vk : Value} (h : BoxTb w b f l vb vk) (hb : Below w.heap.size w w') : BoxTb w' b f l vb vk := (hb.block b h.lt).trans h
theorem BoxTb.facts {w : World} {b : Nat} {f l : ByteArray} {vb vk : Value} (h : BoxTb w b f l vb vk) : w.cell? ⟨b, 0, none⟩ = some (.string f) ∧ w.cell? ⟨b, 1, none⟩ = some (.string l) ∧ w.cell? ⟨b, 2, none⟩ = some vb ∧ w.cell? ⟨b, 3, none⟩ = some vk ∧
    w.frozen? ⟨b, 0, none⟩ = false ∧ w.frozen? ⟨b, 1, none⟩ = false ∧ w.frozen? ⟨b, 2, none⟩ = false ∧ w.frozen? ⟨b, 3, none⟩ = false := by
  unfold BoxTb at h
  refine ⟨?_, ?_, ?_, ?_, ?_, ?_, ?_, ?_⟩ <;> simp [World.cell?, World.frozen?, h]
def put4 (w : World) (b : Nat) (u0 u1 u2 u3 : Value) : World := (((w.setCell ⟨b, 0, none⟩ u0).setCell ⟨b, 1, none⟩ u1).setCell ⟨b, 2, none⟩ u2).setCell ⟨b, 3, none⟩ u3
theorem boxTb_put4 {w : World} {b : Nat} {f l : ByteArray} {vb vk : Value} (h : BoxTb w b f l vb vk) (f' l' : ByteArray) (vb' vk' : Value) : BoxTb (put4 w b (.string f') (.string l') vb' vk') b f' l' vb' vk' := by
  unfold BoxTb at h ⊢
  have h0 := heap_setCell_same w b 0 _ _ (.string f') h
  have h1 := heap_setCell_same _ b 1 _ _ (.string l') h0
  have h2 := heap_setCell_same _ b 2 _ _ vb' h1
  exact heap_setCell_same _ b 3 _ _ vk' h2
theorem row_put4 {w : World} {B t s n c : Nat} {v u0 u1 u2 u3 : Value} {xs : List Value} (ho : w.ownsRow B t s v n xs) (hc : ∀ k, v.ownBlock = some k → c ≠ k) : (put4 w c u0 u1 u2 u3).ownsRow B t s v n xs := row_set (row_set (row_set (row_set ho hc) hc) hc) hc
theorem below_put4 {a w : World} {B c : Nat} {u0 u1 u2 u3 : Value} (h : Below B a w) (hc : B ≤ c) : Below B a (put4 w c u0 u1 u2 u3) := (((h.setCell hc _).setCell hc _).setCell hc _).setCell hc _
theorem boxTb_row {w : World} {B b t s n : Nat} {f l : ByteArray} {vb vk v : Value} {xs : List Value} (h : BoxTb w b f l vb vk) (ho : w.ownsRow B t s v n xs) (ht : t ≠ 72) : ∀ k, v.ownBlock = some k → b ≠ k := by
  intro k hk e
  subst e
  rcases ho.2 with ⟨rfl, _⟩ | ⟨g, cap, cur, rfl, _, hg, _⟩
  · simp [Value.ownBlock] at hk
  · obtain rfl : g = b := by simpa [Value.ownBlock] using hk
    unfold BoxTb at h
    rw [h] at hg
    injection hg with hg
    injection hg with _ h2
    exact ht h2.symm
theorem step_boxTb {w : World} {ops : Array Oper} {o : Oper} {a : Act} {K : Act → World → Prop} {Q : Exit → Act → World → Prop} {E : Prop} (hgd : o.guard = none) (d : Nat) (hd : o.dst = some d)
    (hrun : (execOp a.eval o).run Tryz.prog w = .ok (.value (.pointer (some ⟨w.heap.size, 0, none⟩))) (w.alloc (.cells #[.string ⟨#[]⟩, .string ⟨#[]⟩, .slice none 0 0, .slice none 0 0] 72)))
    (h : ∀ b W', Below w.heap.size w W' → BoxTb W' b ⟨#[]⟩ ⟨#[]⟩ (.slice none 0 0) (.slice none 0 0) → w.heap.size ≤ b → K (a.put (some d) (.pointer (some ⟨b, 0, none⟩))) W') :
    if Region.wanted o (yielded ops a.tmps) = true then Oper.wp Tryz.prog o a w K Q else E := by
  have hw : Region.wanted o (yielded ops a.tmps) = true := by simp [Region.wanted, hgd]
  rw [if_pos hw]
  have h' := h w.heap.size _ (below1 w _) (heap_alloc_new w _) (Nat.le_refl _)
  rw [← hd] at h'
  unfold Oper.wp
  rw [hrun]
  exact h'
theorem listed_as {P : Program} {md : Region.Mode} {ops : Array Oper} {Q : Exit → Act → World → Prop} {S : World → Prop} {fuel : Nat} {l l' : Array Bool} {a : Act} {w : World} (hl : l = l') (h : wpAnyH P md ops Q S fuel l' a w) : wpAnyH P md ops Q S fuel l a w := by subst hl; exact h
theorem nod_sink {vm vs vy vo : Value} {ts : List TV} {L y : Nat} (hm : ∀ k ∈ oneB vm, k < L) (hs : ∀ k ∈ oneB vs, k < L) (hms : ∀ k ∈ oneB vm, k ∉ oneB vs) (hy : ∀ k ∈ oneB vy, k = y) (hly : L ≤ y) (hN : (oneB vo ++ tblks ts).Nodup) (hNl : ∀ k ∈ oneB vo ++ tblks ts, L ≤ k ∧ k ≠ y) :
    (oneB vm ++ ((oneB vy ++ tblks []) ++ ((oneB vo ++ tblks ts) ++ oneB vs))).Nodup := by
  rw [show oneB vy ++ tblks [] = oneB vy by simp [tblks], List.nodup_append]
  refine ⟨oneB_nodup _, ?_, ?_⟩
  · rw [List.nodup_append]
    refine ⟨oneB_nodup _, ?_, ?_⟩
    · rw [List.nodup_append]
      exact ⟨hN, oneB_nodup _, fun a ha b hb e => by have := hNl a ha; have := hs b hb; omega⟩
    · intro a ha b hb e
      have := hy a ha
      rcases List.mem_append.1 hb with hb | hb
      · have := hNl b hb
        omega
      · have := hs b hb
        omega
  · intro a ha b hb e
    subst e
    rcases List.mem_append.1 hb with hb | hb
    · have := hy _ hb
      have := hm _ ha
      omega
    · rcases List.mem_append.1 hb with hb | hb
      · have := hNl _ hb
        have := hm _ ha
        omega
      · exact hms _ ha hb
theorem trB_apart {Y : TrX} (h : (trB Y).Nodup) : ∀ k ∈ oneB Y.vm, k ∉ oneB Y.vs := by
  unfold trB at h
  obtain ⟨-, -, hd1⟩ := List.nodup_append.1 h
  exact fun k hk e => hd1 k hk k (List.mem_append_right _ (List.mem_append_right _ e)) rfl
def ISinkPost (w : World) (X : TrX) (e : Ending) (w' : World) : Prop :=
  ∃ Y : TrX, e = .returned (.tuple #[.agg #[Y.vm, Y.vy, Y.vo, .int .i64 Y.seq, Y.vs], .bool (sinkO X.tre)]) ∧ Y.tre = sinkR X.tre ∧ OwnTree w' w.heap.size Y ∧ Below w.heap.size w w'
theorem implSink_any (X : TrX) (w : World) (hx : RdTr w X) (hf : FitTr X) (hs : treeOk X.tre = true → CpTr X) :
    Calls Tryz.prog 20 #[.agg #[X.vm, X.vy, X.vo, .int .i64 X.seq, X.vs]] w fun e w' => ISinkPost w X e w' := by
  have HTK : Hid (∀ W, RdTr W X → Calls Tryz.prog 50 #[.agg #[X.vm, X.vy, X.vo, .int .i64 X.seq, X.vs]] W fun e w' => UnpTPost W X e w') := fun W h => unpackedTree_any X W h hf
  have HCP : Hid (treeOk X.tre = true → ∀ W, RdTr W X → Calls Tryz.prog 34 #[.agg #[X.vm, X.vy, X.vo, .int .i64 X.seq, X.vs]] W fun e w' => ToTr W X e w') := fun ht W h => copied_any X W h (hs ht)
  clear hs hf
  have t0 := treAt_new w X 33
  obtain ⟨V0, hV0⟩ : ∃ V0, V0 = w.alloc (.cells #[X.vm, X.vy, X.vo, .int .i64 X.seq, X.vs] 33) := ⟨_, rfl⟩
  have b0 : Below w.heap.size w V0 := by rw [hV0]; exact below1 w _
  have s0 : V0.heap.size = w.heap.size + 1 := by rw [hV0]; simp
  rw [← hV0] at t0
  have z1 := boxTr_new V0 (.slice none 0 0) (.slice none 0 0) (.slice none 0 0) (.slice none 0 0) 0
  obtain ⟨W0, hW0⟩ : ∃ W0, W0 = V0.alloc (.cells #[.slice none 0 0, .slice none 0 0, .slice none 0 0, .int .i64 0, .slice none 0 0] 33) := ⟨_, rfl⟩
  have b1 : Below V0.heap.size V0 W0 := by rw [hW0]; exact below1 V0 _
  have s1 : W0.heap.size = w.heap.size + 2 := by rw [hW0]; simp; omega
  rw [← hW0, s0] at z1
  have t1 := t0.below b1
  have bw : Below w.heap.size w W0 := b0.trans (b1.mono (by omega))
  have HW0 : Hid ((w.alloc (.cells #[X.vm, X.vy, X.vo, .int .i64 X.seq, X.vs] 33)).alloc (.cells #[.slice none 0 0, .slice none 0 0, .slice none 0 0, .int .i64 0, .slice none 0 0] 33) = W0) := by unfold Hid; rw [hW0, hV0]
  obtain ⟨q0, q1, q2, q3, q4⟩ := id t1
  rw [hW0, hV0] at q0 q1 q2 q3 q4
  clear t0 b0 b1 s0 hV0 hW0
  go_enter Tryz.func20, Tryz.ntmps20
  go_wp2_with fail
  rw [HW0.out]
  clear q0 q1 q2 q3 q4
  refine (HTK.out _ (hx.below bw)).mono ?_
  rintro e w1 ⟨u, ps, rfl, hpc, hpm, hb1⟩
  have t2 := t1.below hb1
  have z2 := z1.on hb1
  have bw1 := bw.trans (hb1.mono bw.size)
  have s2 : w.heap.size + 2 ≤ w1.heap.size := by rw [← s1]; exact hb1.size
  clear t1 z1 bw hb1 s1 HTK HW0
  cases htk : treeOk X.tre with
  | false =>
    obtain ⟨y0, y1, y2, y3, y4, g0, g1, g2, g3, g4⟩ := z2.facts
    have hzF := boxTr_put5 z2 (.slice none 0 0) (.slice none 0 0) (.slice none 0 0) (.slice none 0 0) 0
    obtain ⟨f0, f1, f2, f3, f4, -⟩ := hzF.facts
    have END : Hid (ISinkPost w X (.returned (.tuple #[.agg #[.slice none 0 0, .slice none 0 0, .slice none 0 0, .int .i64 0, .slice none 0 0], .bool false])) (put5 w1 (w.heap.size + 1) (.slice none 0 0) (.slice none 0 0) (.slice none 0 0) (.int .i64 0) (.slice none 0 0))) := by
      refine ⟨⟨.slice none 0 0, .slice none 0 0, .slice none 0 0, .slice none 0 0, [], [], [], 0, []⟩, by unfold sinkO; rw [htk]; rfl, by unfold sinkR; rw [if_neg (by rw [htk]; simp)]; rfl, ownTree_zero _ _, below_put5 bw1 (by omega)⟩
    unfold put5 at f0 f1 f2 f3 f4
    clear z2 t2 hzF bw1 htk hpc hpm HCP
    go_wp2
    exact bodyPost_ret (v := .tuple #[.agg #[.slice none 0 0, .slice none 0 0, .slice none 0 0, .int .i64 0, .slice none 0 0], .bool false]) (by simp [results, Tryz.results20, go_sem, f0, f1, f2, f3, f4]) rfl END.out
  | true =>
    have hTP := (treeOk_iff X.tre).1 htk
    rw [unpL_yes htk] at hpm
    obtain ⟨p0, rs, rfl, hrs⟩ : ∃ p0 rs, ps = p0 :: rs ∧ rs.map (·.2) = tabL X.tre := by
      cases ps with
      | nil => simp [lsT] at hpm
      | cons p r => exact ⟨p, r, rfl, (List.cons.inj (show p.2 :: r.map (·.2) = X.tre.mem :: tabL X.tre from hpm)).2⟩
    obtain ⟨bl, off, cap, rfl, hc1, hc2, hcs⟩ : ∃ b off cap, u = .slice (some ⟨b, off, none⟩) (rs.length + 1) cap ∧ rs.length + 1 ≤ cap ∧ cap ≤ maxLen ∧ Hid (∀ i (h : i < (p0 :: rs).length), w1.cell? ⟨b, off + i, none⟩ = some ((p0 :: rs)[i].1) ∧ RdE w1 (p0 :: rs)[i].1 (p0 :: rs)[i].2) := by
      rcases hpc with ⟨-, h⟩ | ⟨b, off, cap, h1, h2, h3, h4⟩
      · cases h
      · exact ⟨b, off, cap, by simpa using h1, by simpa using h2, h3, h4⟩
    have hpt : Pieces w1 (.slice (some ⟨bl, off + 1, none⟩) rs.length (cap - 1)) rs := pieces_tail hcs.out hc1 hc2
    have hrl : rs.length ≤ 7 := by
      have h1 := congrArg List.length hrs
      have h2 := hTP.young
      have h3 := hTP.old
      unfold tabL at h1
      simp at h1
      omega
    have HFIT : Hid (∀ p ∈ rs, ∀ e ∈ p.2, Fits e) := fun p hp => fits_okL (tabL_ok hTP p.2 (by rw [← hrs]; exact List.mem_map_of_mem hp))
    have HRS : Hid (rs.map (·.2) = tabL X.tre) := hrs
    have HTP : Hid (TreeP X.tre) := hTP
    have HTKE : Hid (treeOk X.tre = true) := htk
    have HCQ := HCP.out htk
    have HCP1 : Hid (∀ W, RdTr W X → Calls Tryz.prog 34 #[.agg #[X.vm, X.vy, X.vo, .int .i64 X.seq, X.vs]] W fun e w' => ToTr W X e w') := HCQ
    obtain ⟨rn, hrn⟩ : ∃ rn, rn = rs.length := ⟨_, rfl⟩
    rw [← hrn] at hpt hrl hc1 ⊢
    have HRN : Hid (rn = rs.length) := hrn
    clear hrn
    clear HCP HCQ hrs hTP htk hpm hpc hcs
    obtain ⟨q0, q1, q2, q3, q4⟩ := id t2
    go_wp2_with fail
    refine (HCP1.out _ (hx.below bw1)).mono ?_
    rintro e w2 ⟨Y, rfl, heY, hoY, hb2⟩
    have t3 := t2.below hb2
    have z3 := z2.on hb2
    have bw2 := bw1.trans (hb2.mono bw1.size)
    have s3 := hb2.size
    replace hpt := hpt.below hb2
    have UB : Hid (∀ k ∈ trB Y, w1.heap.size ≤ k ∧ k < w2.heap.size) := fun k hk => hoY.bound hk
    clear q0 q1 q2 q3 q4 t2 z2 hb2 bw1 HCP1
    have HSN : Hid (Y.snaps = X.snaps) := congrArg Tre.snaps heY
    obtain ⟨am, ay, ao, an, mn, yn, on, nn, cm, cy, co, cn, v0, v1, v2, v3⟩ := hoY.rd.slices
    obtain ⟨vm4, vy4, vo4, vs4, mem4, ys4, os4, seq4, snaps4⟩ := Y
    simp only at v0 v1 v2 v3
    subst v0
    subst v1
    subst v2
    subst v3
    have HEY : Hid (_ = _) := heY
    clear heY
    have zb := boxTr_new w2 (.slice am mn cm) (.slice ay yn cy) (.slice ao on co) (.slice an nn cn) seq4
    have bb := below1 w2 (.cells #[.slice am mn cm, .slice ay yn cy, .slice ao on co, .int .i64 seq4, .slice an nn cn] 33)
    have t4 := t3.below bb
    have z4 := z3.on bb
    have bw3 := bw2.trans (bb.mono bw2.size)
    have hoY3 := hoY.below bb
    replace hpt := hpt.below bb
    have s4 : w2.heap.size < (w2.alloc (.cells #[.slice am mn cm, .slice ay yn cy, .slice ao on co, .int .i64 seq4, .slice an nn cn] 33)).heap.size := by simp
    have h1c : (1 : Int) ≤ (rn : Int) + 1 := by omega
    clear t3 z3 bb bw2 hoY
    unfold maxLen at hc2
    go_wp2_with fail
    have hrs0 : rs = [] := List.eq_nil_of_length_eq_zero (by have := HRN.out; omega)
    have hr0 : rn = 0 := by omega
    replace hpt : Pieces (w2.alloc (.cells #[.slice am mn cm, .slice ay yn cy, .slice ao on co, .int .i64 seq4, .slice an nn cn] 33)) (.slice (some ⟨bl, off, none⟩) rn 0) rs := .inr ⟨bl, off, 0, by rw [hrs0, hr0]; rfl, by rw [hrs0]; exact Nat.le_refl _, Nat.zero_le _, fun i hi => by rw [hrs0] at hi; exact absurd hi (Nat.not_lt_zero _)⟩
    generalize Value.slice (some ⟨bl, off, none⟩) rn 0 = vt at hpt ⊢
    generalize Value.slice (some ⟨bl, off, none⟩) (rn + 1) 1 = vl at ⊢
    clear h hc1 hc2 hrs0 hr0
    revert hpt
    revert vt
    revert vl
    clear off bl cap
    refine ?sinkCall
    rotate_left 1
    generalize Value.slice (some ⟨bl, off + 1, none⟩) rn (cap - 1) = vt at hpt ⊢
    generalize Value.slice (some ⟨bl, off, none⟩) (rn + 1) cap = vl at ⊢
    clear h hc1 hc2
    revert hpt
    revert vt
    revert vl
    clear off bl cap
    exact ?sinkCall
    intro vl vt hpt
    clear h1c hrl HRN
    generalize w2.alloc (.cells #[.slice am mn cm, .slice ay yn cy, .slice ao on co, .int .i64 seq4, .slice an nn cn] 33) = W3 at zb t4 z4 bw3 hoY3 s4 hpt ⊢
    refine (implMerged_any vt rs W3 hpt HFIT.out).mono ?_
    rintro e w4 ⟨ua, rfl, hoM, hb4⟩
    rw [HRS.out] at hoM ⊢
    obtain ⟨B, hB⟩ : ∃ B, B = (mergedR (tabL X.tre)).2 := ⟨_, rfl⟩
    rw [← hB]
    have HB : Hid (B = (mergedR (tabL X.tre)).2) := hB
    have HMK : Hid (mergedOk (tabL X.tre) = decide ((mergedL (tabL X.tre)).length ≤ 300)) := mergedOk_tab HTP.out
    clear hB hpt HFIT HRS
    replace zb := zb.on hb4
    replace t4 := t4.below hb4
    replace z4 := z4.on hb4
    have s5 := hb4.size
    have hoM4 := hoM.mono s4
    replace bw3 := bw3.trans (hb4.mono bw3.size)
    have hoY4 := hoY3.below hb4
    clear hoY3 hoM hb4
    obtain ⟨ax, cx, hvx, -⟩ := id hx.young
    obtain ⟨xn, hxn⟩ : ∃ xn, xn = X.ys.length := ⟨_, rfl⟩
    rw [← hxn] at hvx
    have HXN : Hid (xn = X.ys.length) := hxn
    clear hxn
    obtain ⟨aM, cM, hvM⟩ := own_sliceT hoM4
    obtain ⟨q0, q1, q2, q3, q4⟩ := id t4
    rw [hvx] at q1
    clear hvx
    obtain ⟨y0, y1, y2, y3, y4, g0, g1, g2, g3, g4⟩ := zb.facts
    obtain ⟨m0, m1, m2, m3, m4, n0, n1, n2, n3, n4⟩ := z4.facts
    have ENDF : sinkO X.tre = false → Hid (ISinkPost w X (.returned (.tuple #[.agg #[.slice am mn cm, .slice ay yn cy, .slice ao on co, .int .i64 seq4, .slice an nn cn], .bool false])) (put5 w4 (w.heap.size + 1) (.slice am mn cm) (.slice ay yn cy) (.slice ao on co) (.int .i64 seq4) (.slice an nn cn))) := fun h => by
      refine ⟨⟨.slice am mn cm, .slice ay yn cy, .slice ao on co, .slice an nn cn, mem4, ys4, os4, seq4, snaps4⟩, by rw [h], ?_, (hoY4.others (fun e => by have := UB.out _ e; omega)).mono (by omega), below_put5 bw3 (by omega)⟩
      have h2 : sinkOk X.tre = false := by unfold sinkO at h; rw [HTKE.out] at h; simpa using h
      unfold sinkR
      rw [if_pos HTKE.out, h2, if_neg (by simp)]
      exact HEY.out
    have hzF := boxTr_put5 z4 (.slice am mn cm) (.slice ay yn cy) (.slice ao on co) (.slice an nn cn) seq4
    obtain ⟨f0, f1, f2, f3, f4, -⟩ := hzF.facts
    unfold put5 at f0 f1 f2 f3 f4 ENDF
    cases B with
    | false =>
      have END := ENDF (by
        have h1 := HB.out
        unfold mergedR at h1
        rw [HMK.out] at h1
        unfold sinkO sinkOk
        by_cases h : (mergedL (tabL X.tre)).length ≤ 300
        · rw [decide_eq_true h] at h1
          simp at h1
        · rw [decide_eq_false h]
          simp)
      clear ENDF zb z4 t4 bw3 hoY4 hoM4 UB hzF HEY
      go_wp2
      exact bodyPost_ret (v := .tuple #[.agg #[.slice am mn cm, .slice ay yn cy, .slice ao on co, .int .i64 seq4, .slice an nn cn], .bool false]) (by simp [results, Tryz.results20, go_sem, f0, f1, f2, f3, f4]) rfl END.out
    | true =>
      by_cases hx0 : xn = 0
      · have END := ENDF (by
          unfold sinkO sinkOk
          rw [show X.tre.young.length = 0 by unfold TrX.tre; simp only [List.length_map]; rw [← HXN.out]; exact hx0]
          simp)
        clear ENDF zb z4 t4 bw3 hoY4 hoM4 UB hzF HEY
        subst hx0
        go_wp2
        exact bodyPost_ret (v := .tuple #[.agg #[.slice am mn cm, .slice ay yn cy, .slice ao on co, .int .i64 seq4, .slice an nn cn], .bool false]) (by simp [results, Tryz.results20, go_sem, f0, f1, f2, f3, f4]) rfl END.out
      have hxi : ((xn : Int) == 0) = false := by simp; exact hx0
      have hn3 : (mergedL (tabL X.tre)).length ≤ 300 := by
        have h1 := HB.out
        unfold mergedR at h1
        rw [HMK.out] at h1
        by_cases h : (mergedL (tabL X.tre)).length ≤ 300
        · exact h
        · rw [decide_eq_false h] at h1
          simp at h1
      have hM1 : (mergedR (tabL X.tre)).1 = mergedL (tabL X.tre) := by
        unfold mergedR
        rw [HMK.out, decide_eq_true hn3, if_pos rfl]
      have HSO : Hid (sinkO X.tre = true ∧ sinkR X.tre = sinkT X.tre) := by
        have h1 : sinkOk X.tre = true := by
          unfold sinkOk
          rw [decide_eq_true hn3, show X.tre.young.length = xn by unfold TrX.tre; simp only [List.length_map]; exact HXN.out.symm, decide_eq_true hx0]
          rfl
        unfold Hid sinkO sinkR
        rw [HTKE.out, h1, if_pos rfl, if_pos rfl]
        exact ⟨rfl, rfl⟩
      have HOKM : Hid (okL (mergedL (tabL X.tre)) = true) := tab_ok HTP.out hn3
      have HOKS : Hid (okL (sinkL X.tre) = true) := sink_ok HTP.out hn3
      have HSLM : Hid (bottomR (mergedL (tabL X.tre)) (X.snaps ++ [X.seq]) = sinkL X.tre) := by
        have h1 : toldS (mergedL (tabL X.tre)) (X.snaps ++ [X.seq]) = true := by
          unfold toldS
          have h2 : X.snaps.length ≤ 10 := HTP.out.few
          rw [HOKM.out, decide_eq_true (by simp; omega)]
          rfl
        unfold Hid bottomR
        rw [if_pos h1]
        rfl
      have hsn : X.snaps.length ≤ 10 := HTP.out.few
      rw [hM1] at hoM4 hvM
      clear hM1 hn3 HB HMK HTP HTKE ENDF hzF f0 f1 f2 f3 f4
      obtain ⟨M, hM⟩ : ∃ M, M = mergedL (tabL X.tre) := ⟨_, rfl⟩
      obtain ⟨SL, hSL⟩ : ∃ SL, SL = sinkL X.tre := ⟨_, rfl⟩
      rw [← hM] at hoM4 hvM HOKM HSLM
      rw [← hSL] at HOKS HSLM
      have HSL : Hid (SL = sinkL X.tre) := hSL
      clear hM hSL
      obtain ⟨zM, hzM⟩ : ∃ zM, zM = M.length := ⟨_, rfl⟩
      rw [← hzM] at hvM
      clear hzM
      subst hvM
      obtain ⟨Wc, hWc⟩ : ∃ Wc, Wc = (w4.setCell ⟨w2.heap.size, 1, none⟩ (.slice (some ⟨w4.heap.size, 0, none⟩) 0 0)).setCell ⟨w2.heap.size, 2, none⟩ (.slice (some ⟨w4.heap.size + 1, 0, none⟩) 0 0) := ⟨_, rfl⟩
      have sc : Wc.heap.size = w4.heap.size := by rw [hWc]; simp
      have zc : BoxTr Wc w2.heap.size (.slice am mn cm) (.slice (some ⟨w4.heap.size, 0, none⟩) 0 0) (.slice (some ⟨w4.heap.size + 1, 0, none⟩) 0 0) seq4 (.slice an nn cn) := by rw [hWc]; exact boxTr_set2 (boxTr_set1 zb _) _
      have zd : BoxTr Wc (w.heap.size + 1) (.slice none 0 0) (.slice none 0 0) (.slice none 0 0) 0 (.slice none 0 0) := by rw [hWc]; exact boxTr_other (boxTr_other z4 (by omega)) (by omega)
      have tc : TreAt Wc w.heap.size X := by rw [hWc]; exact treAt_other (treAt_other t4 (by omega)) (by omega)
      have oc : OwnTree Wc w1.heap.size ⟨.slice am mn cm, .slice ay yn cy, .slice ao on co, .slice an nn cn, mem4, ys4, os4, seq4, snaps4⟩ := by rw [hWc]; exact (hoY4.other (fun e => by have := UB.out _ e; omega)).other (fun e => by have := UB.out _ e; omega)
      have bc : Below w.heap.size w Wc := by rw [hWc]; exact (bw3.setCell (p := ⟨w2.heap.size, 1, none⟩) (by show w.heap.size ≤ w2.heap.size; omega) _).setCell (p := ⟨w2.heap.size, 2, none⟩) (by show w.heap.size ≤ w2.heap.size; omega) _
      have hne7 : ∀ k, (Value.slice aM zM cM).ownBlock = some k → w2.heap.size ≠ k := fun k hk e => by have := (World.ownsRow.lt hoM4 k hk).1; omega
      have oM : OwnE Wc (w2.heap.size + 1) (.slice aM zM cM) M := by rw [hWc]; exact row_set (row_set hoM4 hne7) hne7
      have bb1 := below1 Wc (.cells #[] 72)
      have oY1 := ownT_none Wc
      obtain ⟨Wd, hWd⟩ : ∃ Wd, Wd = Wc.alloc (.cells #[] 72) := ⟨_, rfl⟩
      have sd : Wd.heap.size = w4.heap.size + 1 := by rw [hWd]; simp [sc]
      rw [← hWd] at bb1 oY1
      rw [sc] at oY1
      have bb2 := below1 Wd (.cells #[] 72)
      have qO := ownT_none Wd
      obtain ⟨X0, hX0⟩ : ∃ X0, X0 = Wd.alloc (.cells #[] 72) := ⟨_, rfl⟩
      rw [← hX0] at bb2 qO
      rw [sd] at qO
      have s6 : X0.heap.size = w4.heap.size + 2 := by rw [hX0]; simp [sd]
      have qY := oY1.below bb2
      have zbX := (zc.on bb1).on bb2
      have zrX := (zd.on bb1).on bb2
      have tX := (tc.below bb1).below bb2
      have oX := (oc.below bb1).below bb2
      have oMX := (oM.below bb1).below bb2
      have bX := (bc.trans (bb1.mono bc.size)).trans (bb2.mono (by omega))
      have HWE : Hid (((((w4.setCell ⟨w2.heap.size, 1, none⟩ (.slice (some ⟨w4.heap.size, 0, none⟩) 0 0)).setCell ⟨w2.heap.size, 2, none⟩ (.slice (some ⟨w4.heap.size + 1, 0, none⟩) 0 0)).alloc (.cells #[] 72)).alloc (.cells #[] 72)) = X0) := by unfold Hid; rw [hX0, hWd, hWc]
      clear hX0 hWc hWd sc sd zc zd tc oc bc hne7 oM bb1 bb2 oY1
      have hol : w2.heap.size < w4.heap.size := by omega
      have HRX := hx.below bX
      go_wp2_with fail
      rw [HWE.out]
      clear q0 q1 q2 q3 q4 y0 y1 y2 y3 y4 g0 g1 g2 g3 g4 m0 m1 m2 m3 m4 n0 n1 n2 n3 n4 HWE zb z4 t4 bw3 hoY4 hoM4
      have HSB : Hid (∀ W, Below X0.heap.size X0 W → W.cell? ⟨w.heap.size, 3, none⟩ = some (.int .i64 X.seq) ∧ W.cell? ⟨w.heap.size, 4, none⟩ = some X.vs) := fun W h => by
        obtain ⟨-, -, -, h3, h4⟩ := tX.below h
        exact ⟨h3, h4⟩
      have HRM : Hid (∀ W, Below X0.heap.size X0 W → RdE W (.slice aM zM cM) M) := fun W h => (oMX.below h).rd
      have HRS : Hid (∀ W, Below X0.heap.size X0 W → RdI W X.vs X.snaps) := fun W h => (HRX.below h).snaps
      have HCC : Hid (∀ W, Below X0.heap.size X0 W → Calls Tryz.prog 53 #[X.vs] W fun e w' => ∃ u, e = .returned u ∧ OwnI w' W.heap.size u X.snaps ∧ Below W.heap.size W w') := fun W h => copiedInts_any X.vs X.snaps W (HRX.below h).snaps (by omega)
      clear oMX HRX
      refine wp_region_noPanic ?_
      refine wp_region_held_drew (S := fun W => W.cell? ⟨w.heap.size, 3, none⟩ = some (.int .i64 X.seq) ∧ W.cell? ⟨w.heap.size, 4, none⟩ = some X.vs) (by kernel_rfl) (HSB.out _ ((Below.refl _ X0).drew)) (fun hS => ?_)
      have qf : Below X0.heap.size X0 X0.drew := (Below.refl _ X0).drew
      revert qf
      revert hS
      generalize X0.drew = V
      intro hS qf
      refine tkG 0 39 hS ?_; try simp only [Act.put, sA, sZ, sS]
      refine tkG 1 40 hS ?_; try simp only [Act.put, sA, sZ, sS]
      refine tkG 2 41 hS ?_; try simp only [Act.put, sA, sZ, sS]
      refine tkG 4 43 hS ?_; try simp only [Act.put, sA, sZ, sS]
      refine tkG 5 44 hS ?_; try simp only [Act.put, sA, sZ, sS]
      refine wpAnyH_ready (rs := [3, 6, 13]) (by kernel_rfl) (by simp) ?_
      refine AllReadyH.cons rfl (fun K hK => ?_) ?_
      go_simp
      refine (HCC.out _ qf).mono ?_
      rintro e V1 ⟨vC, rfl, qC, hm⟩
      replace qC := qC.mono qf.size
      replace qf := qf.trans (hm.mono qf.size)
      clear hm hS
      refine hK.out _ _ (HSB.out _ qf) (fun hS => ?_)
      clear hK K
      try simp only [sA, sZ, sS]
      clear hS
      refine listed_as (l' := #[true, true, true, true, true, true, false, false, false, false, false, false, false, false, false, false]) (by kernel_rfl) ?_
      revert qC
      revert qf
      revert vC
      revert V1
      clear V
      refine ?sk100
      rotate_left 1
      refine AllReadyH.cons rfl (fun K hK => ?_) ?_
      refine step_row1L rfl 45 rfl (.int .i64 X.seq) 2 (by go_simp; (try rfl)) ?_
      intro bP V1 hm qP lP lP2
      replace qP : OwnI V1 X0.heap.size (.slice (some ⟨bP, 0, none⟩) 1 1) [X.seq] := OwnI.mono qP qf.size
      clear lP lP2
      replace qf := qf.trans (hm.mono qf.size)
      clear hm hS
      refine hK.out _ _ (HSB.out _ qf) (fun hS => ?_)
      clear hK K
      try simp only [Act.put, sA, sZ, sS]
      clear hS
      refine listed_as (l' := #[true, true, true, false, true, true, true, false, false, false, false, false, false, false, false, false]) (by kernel_rfl) ?_
      revert qP
      revert qf
      revert bP
      revert V1
      clear V
      refine ?sk010
      rotate_left 1
      refine AllReadyH.cons rfl (fun K hK => ?_) AllReadyH.nil
      refine step_boxTb rfl 8 rfl (by go_simp; (try rfl)) ?_
      intro bT V1 hm qT lT
      replace lT : X0.heap.size ≤ bT := Nat.le_trans qf.size lT
      replace qf := qf.trans (hm.mono qf.size)
      clear hm hS
      refine hK.out _ _ (HSB.out _ qf) (fun hS => ?_)
      clear hK K
      try simp only [Act.put, sA, sZ, sS]
      clear hS
      refine listed_as (l' := #[true, true, true, false, true, true, false, false, false, false, false, false, false, true, false, false]) (by kernel_rfl) ?_
      revert qT
      revert lT
      revert qf
      revert bT
      revert V1
      clear V
      refine ?sk001
      rotate_left 1
      intro V0 vC qf qC
      have hS := HSB.out _ qf
      refine wpAnyH_ready (rs := [6, 13]) (by kernel_rfl) (by simp) ?_
      refine AllReadyH.cons rfl (fun K hK => ?_) ?_
      refine step_row1L rfl 45 rfl (.int .i64 X.seq) 2 (by go_simp; (try rfl)) ?_
      intro bP V1 hm qP lP lP2
      replace qP : OwnI V1 X0.heap.size (.slice (some ⟨bP, 0, none⟩) 1 1) [X.seq] := OwnI.mono qP qf.size
      clear lP lP2
      replace qC := qC.below hm
      replace qf := qf.trans (hm.mono qf.size)
      clear hm hS
      refine hK.out _ _ (HSB.out _ qf) (fun hS => ?_)
      clear hK K
      try simp only [Act.put, sA, sZ, sS]
      clear hS
      refine listed_as (l' := #[true, true, true, true, true, true, true, false, false, false, false, false, false, false, false, false]) (by kernel_rfl) ?_
      revert qP
      revert qC
      revert qf
      revert bP
      revert vC
      revert V1
      clear V0
      refine ?sk110
      rotate_left 1
      refine AllReadyH.cons rfl (fun K hK => ?_) AllReadyH.nil
      refine step_boxTb rfl 8 rfl (by go_simp; (try rfl)) ?_
      intro bT V1 hm qT lT
      replace lT : X0.heap.size ≤ bT := Nat.le_trans qf.size lT
      replace qC := qC.below hm
      replace qf := qf.trans (hm.mono qf.size)
      clear hm hS
      refine hK.out _ _ (HSB.out _ qf) (fun hS => ?_)
      clear hK K
      try simp only [Act.put, sA, sZ, sS]
      clear hS
      refine listed_as (l' := #[true, true, true, true, true, true, false, false, false, false, false, false, false, true, false, false]) (by kernel_rfl) ?_
      revert qT
      revert lT
      revert qC
      revert qf
      revert bT
      revert vC
      revert V1
      clear V0
      refine ?sk101
      rotate_left 1
      intro V0 bP qf qP
      have hS := HSB.out _ qf
      refine wpAnyH_ready (rs := [3, 13]) (by kernel_rfl) (by simp) ?_
      refine AllReadyH.cons rfl (fun K hK => ?_) ?_
      go_simp
      refine (HCC.out _ qf).mono ?_
      rintro e V1 ⟨vC, rfl, qC, hm⟩
      replace qC := qC.mono qf.size
      replace qP := qP.below hm
      replace qf := qf.trans (hm.mono qf.size)
      clear hm hS
      refine hK.out _ _ (HSB.out _ qf) (fun hS => ?_)
      clear hK K
      try simp only [sA, sZ, sS]
      clear hS
      refine listed_as (l' := #[true, true, true, true, true, true, true, false, false, false, false, false, false, false, false, false]) (by kernel_rfl) ?_
      revert qP
      revert qC
      revert qf
      revert bP
      revert vC
      revert V1
      clear V0
      exact ?sk110
      refine AllReadyH.cons rfl (fun K hK => ?_) AllReadyH.nil
      refine step_boxTb rfl 8 rfl (by go_simp; (try rfl)) ?_
      intro bT V1 hm qT lT
      replace lT : X0.heap.size ≤ bT := Nat.le_trans qf.size lT
      replace qP := qP.below hm
      replace qf := qf.trans (hm.mono qf.size)
      clear hm hS
      refine hK.out _ _ (HSB.out _ qf) (fun hS => ?_)
      clear hK K
      try simp only [Act.put, sA, sZ, sS]
      clear hS
      refine listed_as (l' := #[true, true, true, false, true, true, true, false, false, false, false, false, false, true, false, false]) (by kernel_rfl) ?_
      revert qT
      revert lT
      revert qP
      revert qf
      revert bT
      revert bP
      revert V1
      clear V0
      refine ?sk011
      rotate_left 1
      intro V0 bT qf lT qT
      have hS := HSB.out _ qf
      refine wpAnyH_ready (rs := [3, 6]) (by kernel_rfl) (by simp) ?_
      refine AllReadyH.cons rfl (fun K hK => ?_) ?_
      go_simp
      refine (HCC.out _ qf).mono ?_
      rintro e V1 ⟨vC, rfl, qC, hm⟩
      replace qC := qC.mono qf.size
      replace qT := qT.on hm
      replace qf := qf.trans (hm.mono qf.size)
      clear hm hS
      refine hK.out _ _ (HSB.out _ qf) (fun hS => ?_)
      clear hK K
      try simp only [sA, sZ, sS]
      clear hS
      refine listed_as (l' := #[true, true, true, true, true, true, false, false, false, false, false, false, false, true, false, false]) (by kernel_rfl) ?_
      revert qT
      revert lT
      revert qC
      revert qf
      revert bT
      revert vC
      revert V1
      clear V0
      exact ?sk101
      refine AllReadyH.cons rfl (fun K hK => ?_) AllReadyH.nil
      refine step_row1L rfl 45 rfl (.int .i64 X.seq) 2 (by go_simp; (try rfl)) ?_
      intro bP V1 hm qP lP lP2
      replace qP : OwnI V1 X0.heap.size (.slice (some ⟨bP, 0, none⟩) 1 1) [X.seq] := OwnI.mono qP qf.size
      clear lP lP2
      replace qT := qT.on hm
      replace qf := qf.trans (hm.mono qf.size)
      clear hm hS
      refine hK.out _ _ (HSB.out _ qf) (fun hS => ?_)
      clear hK K
      try simp only [Act.put, sA, sZ, sS]
      clear hS
      refine listed_as (l' := #[true, true, true, false, true, true, true, false, false, false, false, false, false, true, false, false]) (by kernel_rfl) ?_
      revert qT
      revert lT
      revert qP
      revert qf
      revert bT
      revert bP
      revert V1
      clear V0
      exact ?sk011
      intro V0 vC bP qf qC qP
      have hS := HSB.out _ qf
      refine wpAnyH_ready (rs := [7, 13]) (by kernel_rfl) (by simp) ?_
      refine AllReadyH.cons rfl (fun K hK => ?_) ?_
      refine step_append_ints rfl 46 rfl _ _ rfl X0.heap.size _ _ X.snaps [X.seq] rfl rfl qC qP.rd (by simp; omega) qf.size ?_
      intro vQ V1 qQ hm
      replace qf := qf.grown hm qf.size (fun k hk => (World.ownsRow.lt qC k hk).1)
      clear qC qP
      clear hm hS
      refine hK.out _ _ (HSB.out _ qf) (fun hS => ?_)
      clear hK K
      try simp only [Act.put, sA, sZ, sS]
      clear hS
      refine listed_as (l' := #[true, true, true, true, true, true, true, true, false, false, false, false, false, false, false, false]) (by kernel_rfl) ?_
      revert qQ
      revert qf
      revert vQ
      revert bP
      revert vC
      revert V1
      clear V0
      refine ?sk210
      rotate_left 1
      refine AllReadyH.cons rfl (fun K hK => ?_) AllReadyH.nil
      refine step_boxTb rfl 8 rfl (by go_simp; (try rfl)) ?_
      intro bT V1 hm qT lT
      replace lT : X0.heap.size ≤ bT := Nat.le_trans qf.size lT
      replace qC := qC.below hm
      replace qP := qP.below hm
      replace qf := qf.trans (hm.mono qf.size)
      clear hm hS
      refine hK.out _ _ (HSB.out _ qf) (fun hS => ?_)
      clear hK K
      try simp only [Act.put, sA, sZ, sS]
      clear hS
      refine listed_as (l' := #[true, true, true, true, true, true, true, false, false, false, false, false, false, true, false, false]) (by kernel_rfl) ?_
      revert qT
      revert lT
      revert qP
      revert qC
      revert qf
      revert bT
      revert bP
      revert vC
      revert V1
      clear V0
      refine ?sk111
      rotate_left 1
      intro V0 vC bT qf qC lT qT
      have hS := HSB.out _ qf
      refine wpAnyH_ready (rs := [6]) (by kernel_rfl) (by simp) ?_
      refine AllReadyH.cons rfl (fun K hK => ?_) AllReadyH.nil
      refine step_row1L rfl 45 rfl (.int .i64 X.seq) 2 (by go_simp; (try rfl)) ?_
      intro bP V1 hm qP lP lP2
      replace qP : OwnI V1 X0.heap.size (.slice (some ⟨bP, 0, none⟩) 1 1) [X.seq] := OwnI.mono qP qf.size
      clear lP lP2
      replace qC := qC.below hm
      replace qT := qT.on hm
      replace qf := qf.trans (hm.mono qf.size)
      clear hm hS
      refine hK.out _ _ (HSB.out _ qf) (fun hS => ?_)
      clear hK K
      try simp only [Act.put, sA, sZ, sS]
      clear hS
      refine listed_as (l' := #[true, true, true, true, true, true, true, false, false, false, false, false, false, true, false, false]) (by kernel_rfl) ?_
      revert qT
      revert lT
      revert qP
      revert qC
      revert qf
      revert bT
      revert bP
      revert vC
      revert V1
      clear V0
      exact ?sk111
      intro V0 bP bT qf qP lT qT
      have hS := HSB.out _ qf
      refine wpAnyH_ready (rs := [3]) (by kernel_rfl) (by simp) ?_
      refine AllReadyH.cons rfl (fun K hK => ?_) AllReadyH.nil
      go_simp
      refine (HCC.out _ qf).mono ?_
      rintro e V1 ⟨vC, rfl, qC, hm⟩
      replace qC := qC.mono qf.size
      replace qP := qP.below hm
      replace qT := qT.on hm
      replace qf := qf.trans (hm.mono qf.size)
      clear hm hS
      refine hK.out _ _ (HSB.out _ qf) (fun hS => ?_)
      clear hK K
      try simp only [sA, sZ, sS]
      clear hS
      refine listed_as (l' := #[true, true, true, true, true, true, true, false, false, false, false, false, false, true, false, false]) (by kernel_rfl) ?_
      revert qT
      revert lT
      revert qP
      revert qC
      revert qf
      revert bT
      revert bP
      revert vC
      revert V1
      clear V0
      exact ?sk111
      intro V0 vC bP vQ qf qQ
      have hS := HSB.out _ qf
      refine wpAnyH_ready (rs := [8, 13]) (by kernel_rfl) (by simp) ?_
      refine AllReadyH.cons rfl (fun K hK => ?_) ?_
      go_simp
      refine (implBottom_any (.slice aM zM cM) vQ M (X.snaps ++ [X.seq]) _ (HRM.out _ qf) qQ.rd (fits_okL HOKM.out)).mono ?_
      rintro e V1 ⟨u8, rfl, q8, hm⟩
      rw [HSLM.out] at q8
      replace q8 := q8.mono qf.size
      replace qf := qf.trans (hm.mono qf.size)
      clear qQ
      clear hm hS
      refine hK.out _ _ (HSB.out _ qf) (fun hS => ?_)
      clear hK K
      try simp only [sA, sZ, sS]
      clear hS
      refine listed_as (l' := #[true, true, true, true, true, true, true, true, true, false, false, false, false, false, false, false]) (by kernel_rfl) ?_
      revert q8
      revert qf
      revert u8
      revert vQ
      revert bP
      revert vC
      revert V1
      clear V0
      refine ?sk310
      rotate_left 1
      refine AllReadyH.cons rfl (fun K hK => ?_) AllReadyH.nil
      refine step_boxTb rfl 8 rfl (by go_simp; (try rfl)) ?_
      intro bT V1 hm qT lT
      replace lT : X0.heap.size ≤ bT := Nat.le_trans qf.size lT
      replace qQ := qQ.below hm
      replace qf := qf.trans (hm.mono qf.size)
      clear hm hS
      refine hK.out _ _ (HSB.out _ qf) (fun hS => ?_)
      clear hK K
      try simp only [Act.put, sA, sZ, sS]
      clear hS
      refine listed_as (l' := #[true, true, true, true, true, true, true, true, false, false, false, false, false, true, false, false]) (by kernel_rfl) ?_
      revert qT
      revert lT
      revert qQ
      revert qf
      revert bT
      revert vQ
      revert bP
      revert vC
      revert V1
      clear V0
      refine ?sk211
      rotate_left 1
      intro V0 vC bP bT qf qC qP lT qT
      have hS := HSB.out _ qf
      refine wpAnyH_ready (rs := [7]) (by kernel_rfl) (by simp) ?_
      refine AllReadyH.cons rfl (fun K hK => ?_) AllReadyH.nil
      refine step_append_ints rfl 46 rfl _ _ rfl X0.heap.size _ _ X.snaps [X.seq] rfl rfl qC qP.rd (by simp; omega) qf.size ?_
      intro vQ V1 qQ hm
      replace qT : BoxTb V1 bT _ _ _ _ := (hm.block bT qT.lt (fun e => boxTb_row qT qC (by decide) _ e.symm rfl)).trans qT
      replace qf := qf.grown hm qf.size (fun k hk => (World.ownsRow.lt qC k hk).1)
      clear qC qP
      clear hm hS
      refine hK.out _ _ (HSB.out _ qf) (fun hS => ?_)
      clear hK K
      try simp only [Act.put, sA, sZ, sS]
      clear hS
      refine listed_as (l' := #[true, true, true, true, true, true, true, true, false, false, false, false, false, true, false, false]) (by kernel_rfl) ?_
      revert qT
      revert lT
      revert qQ
      revert qf
      revert bT
      revert vQ
      revert bP
      revert vC
      revert V1
      clear V0
      exact ?sk211
      intro V0 vC bP vQ u8 qf q8
      have hS := HSB.out _ qf
      refine wpAnyH_ready (rs := [9, 13]) (by kernel_rfl) (by simp) ?_
      refine AllReadyH.cons rfl (fun K hK => ?_) ?_
      go_simp
      refine (implBuilt_any u8 SL _ q8.rd (fits_okL HOKS.out)).mono ?_
      rintro e V1 ⟨vb, vk, rfl, qI, qK, hm⟩
      replace qI := qI.mono qf.size
      replace qK := qK.mono qf.size
      replace qf := qf.trans (hm.mono qf.size)
      clear q8
      clear hm hS
      refine hK.out _ _ (HSB.out _ qf) (fun hS => ?_)
      clear hK K
      try simp only [sA, sZ, sS]
      refine tkG 10 38 hS ?_; try simp only [Act.put, sA, sZ, sS]
      refine tkG 11 49 hS ?_; try simp only [Act.put, sA, sZ, sS]
      refine tkG 12 50 hS ?_; try simp only [Act.put, sA, sZ, sS]
      clear hS
      refine listed_as (l' := #[true, true, true, true, true, true, true, true, true, true, true, true, true, false, false, false]) (by kernel_rfl) ?_
      revert qK
      revert qI
      revert qf
      revert vk
      revert vb
      revert u8
      revert vQ
      revert bP
      revert vC
      revert V1
      clear V0
      refine ?sk410
      rotate_left 1
      refine AllReadyH.cons rfl (fun K hK => ?_) AllReadyH.nil
      refine step_boxTb rfl 8 rfl (by go_simp; (try rfl)) ?_
      intro bT V1 hm qT lT
      replace lT : X0.heap.size ≤ bT := Nat.le_trans qf.size lT
      replace q8 := q8.below hm
      replace qf := qf.trans (hm.mono qf.size)
      clear hm hS
      refine hK.out _ _ (HSB.out _ qf) (fun hS => ?_)
      clear hK K
      try simp only [Act.put, sA, sZ, sS]
      clear hS
      refine listed_as (l' := #[true, true, true, true, true, true, true, true, true, false, false, false, false, true, false, false]) (by kernel_rfl) ?_
      revert qT
      revert lT
      revert q8
      revert qf
      revert bT
      revert u8
      revert vQ
      revert bP
      revert vC
      revert V1
      clear V0
      refine ?sk311
      rotate_left 1
      intro V0 vC bP vQ bT qf qQ lT qT
      have hS := HSB.out _ qf
      refine wpAnyH_ready (rs := [8]) (by kernel_rfl) (by simp) ?_
      refine AllReadyH.cons rfl (fun K hK => ?_) AllReadyH.nil
      go_simp
      refine (implBottom_any (.slice aM zM cM) vQ M (X.snaps ++ [X.seq]) _ (HRM.out _ qf) qQ.rd (fits_okL HOKM.out)).mono ?_
      rintro e V1 ⟨u8, rfl, q8, hm⟩
      rw [HSLM.out] at q8
      replace q8 := q8.mono qf.size
      replace qT := qT.on hm
      replace qf := qf.trans (hm.mono qf.size)
      clear qQ
      clear hm hS
      refine hK.out _ _ (HSB.out _ qf) (fun hS => ?_)
      clear hK K
      try simp only [sA, sZ, sS]
      clear hS
      refine listed_as (l' := #[true, true, true, true, true, true, true, true, true, false, false, false, false, true, false, false]) (by kernel_rfl) ?_
      revert qT
      revert lT
      revert q8
      revert qf
      revert bT
      revert u8
      revert vQ
      revert bP
      revert vC
      revert V1
      clear V0
      exact ?sk311
      intro V0 vC bP vQ u8 vb vk qf qI qK
      have hS := HSB.out _ qf
      refine wpAnyH_ready (rs := [13]) (by kernel_rfl) (by simp) ?_
      refine AllReadyH.cons rfl (fun K hK => ?_) AllReadyH.nil
      refine step_boxTb rfl 8 rfl (by go_simp; (try rfl)) ?_
      intro bT V1 hm qT lT
      replace lT : X0.heap.size ≤ bT := Nat.le_trans qf.size lT
      replace qI := qI.below hm
      replace qK := qK.below hm
      replace qf := qf.trans (hm.mono qf.size)
      clear hm hS
      refine hK.out _ _ (HSB.out _ qf) (fun hS => ?_)
      clear hK K
      try simp only [Act.put, sA, sZ, sS]
      clear hS
      refine listed_as (l' := #[true, true, true, true, true, true, true, true, true, true, true, true, true, true, false, false]) (by kernel_rfl) ?_
      revert qT
      revert lT
      revert qK
      revert qI
      revert qf
      revert bT
      revert vk
      revert vb
      revert u8
      revert vQ
      revert bP
      revert vC
      revert V1
      clear V0
      refine ?sk411
      rotate_left 1
      intro V0 vC bP vQ u8 bT qf q8 lT qT
      have hS := HSB.out _ qf
      refine wpAnyH_ready (rs := [9]) (by kernel_rfl) (by simp) ?_
      refine AllReadyH.cons rfl (fun K hK => ?_) AllReadyH.nil
      go_simp
      refine (implBuilt_any u8 SL _ q8.rd (fits_okL HOKS.out)).mono ?_
      rintro e V1 ⟨vb, vk, rfl, qI, qK, hm⟩
      replace qI := qI.mono qf.size
      replace qK := qK.mono qf.size
      replace qT := qT.on hm
      replace qf := qf.trans (hm.mono qf.size)
      clear q8
      clear hm hS
      refine hK.out _ _ (HSB.out _ qf) (fun hS => ?_)
      clear hK K
      try simp only [sA, sZ, sS]
      refine tkG 10 38 hS ?_; try simp only [Act.put, sA, sZ, sS]
      refine tkG 11 49 hS ?_; try simp only [Act.put, sA, sZ, sS]
      refine tkG 12 50 hS ?_; try simp only [Act.put, sA, sZ, sS]
      clear hS
      refine listed_as (l' := #[true, true, true, true, true, true, true, true, true, true, true, true, true, true, false, false]) (by kernel_rfl) ?_
      revert qT
      revert lT
      revert qK
      revert qI
      revert qf
      revert bT
      revert vk
      revert vb
      revert u8
      revert vQ
      revert bP
      revert vC
      revert V1
      clear V0
      exact ?sk411
      intro V0 vC bP vQ u8 vb vk bT qf qI qK lT qT
      have hS := HSB.out _ qf
      obtain ⟨ab, cb, heb⟩ := own_sliceT qI
      obtain ⟨ak, ck, hek⟩ := own_sliceT qK
      obtain ⟨TB, hTB⟩ : ∃ TB, TB = builtL SL := ⟨_, rfl⟩
      obtain ⟨OKB, hOKB⟩ : ∃ OKB, OKB = builtOk SL := ⟨_, rfl⟩
      rw [← hTB] at qI qK heb hek
      rw [← hTB, ← hOKB]
      have HTB : Hid (TB = builtL SL) := hTB
      have HOKB : Hid (OKB = builtOk SL) := hOKB
      clear hTB hOKB
      generalize TB.bits.length = bn at heb
      generalize TB.blocks.length = kn at hek
      subst heb
      subst hek
      obtain ⟨e0, e1, e2, e3, r0, r1, r2, r3⟩ := qT.facts
      have qP := below_put4 (u0 := .string TB.first) (u1 := .string TB.last) (u2 := .slice ab bn cb) (u3 := .slice ak kn ck) qf lT
      refine wpAnyH_ready (rs := [14]) (by kernel_rfl) (by simp) ?_
      refine AllReadyH.cons rfl (fun K hK => ?_) AllReadyH.nil
      go_simp
      refine hK.out _ _ (HSB.out _ qP) (fun hS => ?_)
      clear hK K
      refine tkG 15 5 hS ?_; try simp only [Act.put, sA, sZ, sS]
      refine wpAnyH_done (by kernel_rfl) ?_ _
      refine NoPanic.normal ?_
      clear e0 e1 e2 e3 r0 r1 r2 r3 hS
      have qB := boxTb_put4 qT TB.first TB.last (.slice ab bn cb) (.slice ak kn ck)
      have qI2 := row_put4 (u0 := .string TB.first) (u1 := .string TB.last) (u2 := .slice ab bn cb) (u3 := .slice ak kn ck) qI (boxTb_row qT qI (by decide))
      have qK2 := row_put4 (u0 := .string TB.first) (u1 := .string TB.last) (u2 := .slice ab bn cb) (u3 := .slice ak kn ck) qK (boxTb_row qT qK (by decide))
      obtain ⟨P, hP⟩ : ∃ P, P = put4 V0 bT (.string TB.first) (.string TB.last) (.slice ab bn cb) (.slice ak kn ck) := ⟨_, rfl⟩
      rw [← hP] at qB qP qI2 qK2
      unfold put4 at hP
      rw [← hP]
      have zbP := zbX.on qP
      have zrP := zrX.on qP
      have oP := oX.below qP
      have bwP := bX.trans (qP.mono bX.size)
      have qYP := qY.below qP
      have qOP := qO.below qP
      have s7 := qP.size
      clear hP qf qI qK qT zbX zrX oX bX qY qO qP tX HSB HRM HRS HCC HSLM HOKM lT
      have HM4 : Hid (∀ k ∈ oneB (.slice am mn cm), w1.heap.size ≤ k ∧ k < w2.heap.size) := fun k hk => UB.out k (List.mem_append_left _ hk)
      have HS4 : Hid (∀ k ∈ oneB (.slice an nn cn), w1.heap.size ≤ k ∧ k < w2.heap.size) := fun k hk => UB.out k (List.mem_append_right _ (List.mem_append_right _ (List.mem_append_right _ hk)))
      have HY1 : Hid (∀ k ∈ oneB (.slice (some ⟨w4.heap.size, 0, none⟩) 0 0), k = w4.heap.size) := fun k hk => by have := mem_oneB.1 hk; simp [Value.ownBlock] at this; exact this.symm
      have hc1 : w.heap.size + 1 < w1.heap.size := by omega
      have hc4 : w.heap.size + 1 < w4.heap.size := by omega
      have hcX : w.heap.size + 1 < X0.heap.size := by omega
      have hoX : w2.heap.size < X0.heap.size := by omega
      have hoP : w2.heap.size < P.heap.size := by omega
      have hrP : w.heap.size + 1 < P.heap.size := by omega
      have hro : ¬ w.heap.size + 1 = w2.heap.size := by omega
      have HBO : Hid (builtOk SL = !decide (SL.length = 0)) := by unfold Hid builtOk; rw [HOKS.out]; rfl
      have HFIN : Hid (∀ ts : List TV, ts.map (·.T) = (if SL.length = 0 then [] else [builtT SL]) → (⟨mem4, ([] : List TV).map (·.T), ts.map (·.T), seq4, snaps4⟩ : Tre) = sinkR X.tre) := fun ts h => by
        have h1 : mem4 = X.tre.mem := congrArg Tre.mem HEY.out
        have h2 : seq4 = X.tre.seq := congrArg Tre.seq HEY.out
        have h3 : snaps4 = X.tre.snaps := congrArg Tre.snaps HEY.out
        rw [HSO.out.2, h, HSL.out, h1, h2, h3]
        rfl
      have HNOD : Hid (∀ k ∈ oneB (Value.slice am mn cm), k ∉ oneB (Value.slice an nn cn)) := trB_apart oP.nod
      cases OKB with
      | false =>
        have hS0 : SL.length = 0 := by
          have h := HOKB.out
          rw [HBO.out] at h
          simpa using h
        obtain ⟨y0, y1, y2, y3, y4, g0, g1, g2, g3, g4⟩ := zbP.facts
        obtain ⟨m0, m1, m2, m3, m4, n0, n1, n2, n3, n4⟩ := zrP.facts
        have hzF := boxTr_put5 zrP (.slice am mn cm) (.slice (some ⟨w4.heap.size, 0, none⟩) 0 0) (.slice (some ⟨w4.heap.size + 1, 0, none⟩) 0 0) (.slice an nn cn) seq4
        obtain ⟨f0, f1, f2, f3, f4, -⟩ := hzF.facts
        have END : Hid (ISinkPost w X (.returned (.tuple #[.agg #[.slice am mn cm, (.slice (some ⟨w4.heap.size, 0, none⟩) 0 0), (.slice (some ⟨w4.heap.size + 1, 0, none⟩) 0 0), .int .i64 seq4, .slice an nn cn], .bool true])) (put5 P (w.heap.size + 1) (.slice am mn cm) (.slice (some ⟨w4.heap.size, 0, none⟩) 0 0) (.slice (some ⟨w4.heap.size + 1, 0, none⟩) 0 0) (.int .i64 seq4) (.slice an nn cn))) := by
          refine ⟨⟨.slice am mn cm, (.slice (some ⟨w4.heap.size, 0, none⟩) 0 0), (.slice (some ⟨w4.heap.size + 1, 0, none⟩) 0 0), .slice an nn cn, mem4, [], [], seq4, snaps4⟩, by rw [HSO.out.1], HFIN.out [] (by rw [if_pos hS0]; rfl), ?_, below_put5 bwP (by omega)⟩
          refine ⟨OwnE.mono (row_put5 oP.mem hc1) (by omega), OwnT.mono (row_put5 qYP hc4) (by omega), (fun t ht => by cases ht), OwnT.mono (row_put5 qOP (by omega)) (by omega), (fun t ht => by cases ht), OwnI.mono (row_put5 oP.snaps hc1) (by omega), ?_⟩
          refine nod_sink (L := w4.heap.size) (y := w4.heap.size) (fun k hk => by have := HM4.out k hk; omega) (fun k hk => by have := HS4.out k hk; omega) HNOD.out HY1.out (Nat.le_refl _) (by simp [tblks, oneB_nodup]) (fun k hk => ?_)
          have := mem_oneB.1 (show k ∈ oneB (.slice (some ⟨w4.heap.size + 1, 0, none⟩) 0 0) by simpa [tblks] using hk)
          simp [Value.ownBlock] at this
          omega
        unfold put5 at f0 f1 f2 f3 f4
        clear zbP zrP oP bwP qYP qOP hzF HFIN HNOD qI2 qK2 qB hS0 HM4 HS4 HY1 UB HEY HSO
        go_wp2
        exact bodyPost_ret (v := .tuple #[.agg #[.slice am mn cm, (.slice (some ⟨w4.heap.size, 0, none⟩) 0 0), (.slice (some ⟨w4.heap.size + 1, 0, none⟩) 0 0), .int .i64 seq4, .slice an nn cn], .bool true]) (by simp [results, Tryz.results20, go_sem, f0, f1, f2, f3, f4]) rfl END.out
      | true =>
        have hS0 : ¬ SL.length = 0 := by
          have h := HOKB.out
          rw [HBO.out] at h
          simpa using h
        have hTT : TB = builtT SL := by rw [HTB.out]; unfold builtL; rw [← HOKB.out, if_pos rfl]
        have zb6 := boxTr_set2 zbP (.slice (some ⟨P.heap.size, 0, none⟩) 1 1)
        have zr6 : BoxTr (P.setCell ⟨w2.heap.size, 2, none⟩ (.slice (some ⟨P.heap.size, 0, none⟩) 1 1)) (w.heap.size + 1) (.slice none 0 0) (.slice none 0 0) (.slice none 0 0) 0 (.slice none 0 0) := boxTr_other zrP (by omega)
        have bw6 : Below w.heap.size w (P.setCell ⟨w2.heap.size, 2, none⟩ (.slice (some ⟨P.heap.size, 0, none⟩) 1 1)) := bwP.setCell (p := ⟨w2.heap.size, 2, none⟩) (by show w.heap.size ≤ w2.heap.size; omega) _
        have hm6 : OwnE (P.setCell ⟨w2.heap.size, 2, none⟩ (.slice (some ⟨P.heap.size, 0, none⟩) 1 1)) w1.heap.size (.slice am mn cm) mem4 := row_set oP.mem (fun k hk e => by have := HM4.out k (mem_oneB.2 hk); omega)
        have hs6 : OwnI (P.setCell ⟨w2.heap.size, 2, none⟩ (.slice (some ⟨P.heap.size, 0, none⟩) 1 1)) w1.heap.size (.slice an nn cn) snaps4 := row_set oP.snaps (fun k hk e => by have := HS4.out k (mem_oneB.2 hk); omega)
        have hy6 : OwnT (P.setCell ⟨w2.heap.size, 2, none⟩ (.slice (some ⟨P.heap.size, 0, none⟩) 1 1)) w4.heap.size (.slice (some ⟨w4.heap.size, 0, none⟩) 0 0) [] := row_base qYP hol
        have hi6 : OwnI (P.setCell ⟨w2.heap.size, 2, none⟩ (.slice (some ⟨P.heap.size, 0, none⟩) 1 1)) X0.heap.size (.slice ab bn cb) TB.bits := row_base qI2 hoX
        have hk6 : OwnS (P.setCell ⟨w2.heap.size, 2, none⟩ (.slice (some ⟨P.heap.size, 0, none⟩) 1 1)) X0.heap.size (.slice ak kn ck) TB.blocks := row_base qK2 hoX
        obtain ⟨y0, y1, y2, y3, y4, g0, g1, g2, g3, g4⟩ := zbP.facts
        obtain ⟨k0, k1, k2, k3, k4, l0, l1, l2, l3, l4⟩ := zb6.facts
        obtain ⟨m0, m1, m2, m3, m4, n0, n1, n2, n3, n4⟩ := zr6.facts
        obtain ⟨e0, e1, e2, e3, r0, r1, r2, r3⟩ := qB.facts
        have hbl := qB.lt
        have s8 : (P.setCell ⟨w2.heap.size, 2, none⟩ (.slice (some ⟨P.heap.size, 0, none⟩) 1 1)).heap.size = P.heap.size := by simp
        obtain ⟨Q, hQ⟩ : ∃ Q, Q = put5 (P.setCell ⟨w2.heap.size, 2, none⟩ (.slice (some ⟨P.heap.size, 0, none⟩) 1 1)) (w.heap.size + 1) (.slice am mn cm) (.slice (some ⟨w4.heap.size, 0, none⟩) 0 0) (.slice (some ⟨P.heap.size, 0, none⟩) 1 1) (.int .i64 seq4) (.slice an nn cn) := ⟨_, rfl⟩
        have hzF := boxTr_put5 zr6 (.slice am mn cm) (.slice (some ⟨w4.heap.size, 0, none⟩) 0 0) (.slice (some ⟨P.heap.size, 0, none⟩) 1 1) (.slice an nn cn) seq4
        have hm7 := row_put5 (u0 := .slice am mn cm) (u1 := (.slice (some ⟨w4.heap.size, 0, none⟩) 0 0)) (u2 := (.slice (some ⟨P.heap.size, 0, none⟩) 1 1)) (u3 := .int .i64 seq4) (u4 := .slice an nn cn) hm6 hc1
        have hs7 := row_put5 (u0 := .slice am mn cm) (u1 := (.slice (some ⟨w4.heap.size, 0, none⟩) 0 0)) (u2 := (.slice (some ⟨P.heap.size, 0, none⟩) 1 1)) (u3 := .int .i64 seq4) (u4 := .slice an nn cn) hs6 hc1
        have hy7 := row_put5 (u0 := .slice am mn cm) (u1 := (.slice (some ⟨w4.heap.size, 0, none⟩) 0 0)) (u2 := (.slice (some ⟨P.heap.size, 0, none⟩) 1 1)) (u3 := .int .i64 seq4) (u4 := .slice an nn cn) hy6 hc4
        have hi7 := row_put5 (u0 := .slice am mn cm) (u1 := (.slice (some ⟨w4.heap.size, 0, none⟩) 0 0)) (u2 := (.slice (some ⟨P.heap.size, 0, none⟩) 1 1)) (u3 := .int .i64 seq4) (u4 := .slice an nn cn) hi6 hcX
        have hk7 := row_put5 (u0 := .slice am mn cm) (u1 := (.slice (some ⟨w4.heap.size, 0, none⟩) 0 0)) (u2 := (.slice (some ⟨P.heap.size, 0, none⟩) 1 1)) (u3 := .int .i64 seq4) (u4 := .slice an nn cn) hk6 hcX
        have bw7 := below_put5 (u0 := .slice am mn cm) (u1 := (.slice (some ⟨w4.heap.size, 0, none⟩) 0 0)) (u2 := (.slice (some ⟨P.heap.size, 0, none⟩) 1 1)) (u3 := .int .i64 seq4) (u4 := .slice an nn cn) bw6 (show w.heap.size ≤ w.heap.size + 1 by omega)
        have s9 : Q.heap.size = P.heap.size := by rw [hQ]; unfold put5; simp
        rw [← hQ] at hzF hm7 hs7 hy7 hi7 hk7 bw7
        have bb := below1 Q (.cells #[.string TB.first, .string TB.last, .slice ab bn cb, .slice ak kn ck] 72)
        have hzG := hzF.on bb
        obtain ⟨f0, f1, f2, f3, f4, -⟩ := hzG.facts
        have hnew : OwnT (Q.alloc (.cells #[.string TB.first, .string TB.last, .slice ab bn cb, .slice ak kn ck] 72)) Q.heap.size (.slice (some ⟨Q.heap.size, 0, none⟩) 1 1) [⟨TB, .slice ab bn cb, .slice ak kn ck⟩] := World.ownsRow_lit Q #[.string TB.first, .string TB.last, .slice ab bn cb, .slice ak kn ck] 1 (Nat.le_refl _) (by unfold maxLen; omega) (by simp)
        rw [s9] at hnew
        have END : Hid (ISinkPost w X (.returned (.tuple #[.agg #[.slice am mn cm, (.slice (some ⟨w4.heap.size, 0, none⟩) 0 0), (.slice (some ⟨P.heap.size, 0, none⟩) 1 1), .int .i64 seq4, .slice an nn cn], .bool true])) (Q.alloc (.cells #[.string TB.first, .string TB.last, .slice ab bn cb, .slice ak kn ck] 72))) := by
          refine ⟨⟨.slice am mn cm, (.slice (some ⟨w4.heap.size, 0, none⟩) 0 0), (.slice (some ⟨P.heap.size, 0, none⟩) 1 1), .slice an nn cn, mem4, [], [⟨TB, .slice ab bn cb, .slice ak kn ck⟩], seq4, snaps4⟩, by rw [HSO.out.1], HFIN.out _ (by rw [if_neg hS0, ← hTT]; rfl), ?_, bw7.trans (bb.mono bw7.size)⟩
          refine ⟨OwnE.mono (OwnE.below hm7 bb) (by omega), OwnT.mono (OwnT.below hy7 bb) (by omega), (fun t ht => by cases ht), OwnT.mono hnew (by omega), (fun t ht => ?_), OwnI.mono (OwnI.below hs7 bb) (by omega), ?_⟩
          · rw [List.mem_singleton.1 ht]
            exact ⟨OwnI.mono (OwnI.below hi7 bb) (by omega), OwnS.mono (OwnS.below hk7 bb) (by omega)⟩
          · have u1 : ∀ k ∈ oneB (.slice ab bn cb), X0.heap.size ≤ k ∧ k < P.heap.size := fun k hk => World.ownsRow.lt qI2 k (mem_oneB.1 hk)
            have u2 : ∀ k ∈ oneB (.slice ak kn ck), X0.heap.size ≤ k ∧ k < P.heap.size := fun k hk => World.ownsRow.lt qK2 k (mem_oneB.1 hk)
            have u3 : ∀ k ∈ oneB (.slice (some ⟨P.heap.size, 0, none⟩) 1 1), k = P.heap.size := fun k hk => by have := mem_oneB.1 hk; simp [Value.ownBlock] at this; exact this.symm
            have u4 : tblks [⟨TB, .slice ab bn cb, .slice ak kn ck⟩] = oneB (.slice ab bn cb) ++ oneB (.slice ak kn ck) := by simp [tblks]
            refine nod_sink (L := w4.heap.size) (y := w4.heap.size) (fun k hk => by have := HM4.out k hk; omega) (fun k hk => by have := HS4.out k hk; omega) HNOD.out HY1.out (Nat.le_refl _) ?_ (fun k hk => ?_)
            · rw [u4, List.nodup_append, List.nodup_append]
              refine ⟨oneB_nodup _, ⟨oneB_nodup _, oneB_nodup _, fun a ha b hb e => ?_⟩, fun a ha b hb e => ?_⟩
              · subst e
                exact rows_apart qI2 qK2 (by decide) a (mem_oneB.1 ha) (mem_oneB.1 hb)
              · have := u3 a ha
                rcases List.mem_append.1 hb with hb | hb
                · have := u1 b hb
                  omega
                · have := u2 b hb
                  omega
            · rw [u4] at hk
              rcases List.mem_append.1 hk with hk | hk
              · have := u3 k hk
                omega
              · rcases List.mem_append.1 hk with hk | hk
                · have := u1 k hk
                  omega
                · have := u2 k hk
                  omega
        unfold put5 at hQ
        rw [hQ] at f0 f1 f2 f3 f4 END
        clear zbP zrP oP bwP qYP qOP hzF hzG HFIN HNOD qI2 qK2 qB hS0 HM4 HS4 HY1 UB HEY HSO zb6 zr6 bw6 hm6 hs6 hy6 hi6 hk6 hm7 hs7 hy7 hi7 hk7 bw7 hnew bb hTT hQ s9
        go_wp2
        exact bodyPost_ret (v := .tuple #[.agg #[.slice am mn cm, (.slice (some ⟨w4.heap.size, 0, none⟩) 0 0), (.slice (some ⟨P.heap.size, 0, none⟩) 1 1), .int .i64 seq4, .slice an nn cn], .bool true]) (by simp [results, Tryz.results20, go_sem, f0, f1, f2, f3, f4]) rfl END.out
end Go.Proofs.YtbefmbjlogkmbaaGreat
