/- The contract of the program's withBatch. From a plain walk to one inside a round of a range over a function: no function of the program is walked here. -/
import Derived.Test.YtbefmbjlogkmbaaGreatG44
import Derived.Test.YtbefmbjlogkmbaaGreatG00
import Derived.RangeFuncNested
import Derived.RangeFuncBound
import Derived.RangeFuncCalls
import Derived.RangeFuncLeaves
import Derived.RangeFuncBox
import Derived.Shelf.Abstract
import Derived.Shelf.RegionOpen
import Derived.OwnWalkIn
import Derived.TacticsInMore
import Derived.LoopNIn
import Derived.LoopIn
import Derived.Deep.RegionHeld3
namespace Go.Proofs.YtbefmbjlogkmbaaGreat
open Go.RowKit
theorem okL_fitW {l : List Ent} (h : okL l = true) : ∀ e ∈ l, Fits e := fun e he => by
  have := ((okL_iff _).1 h).2.1 e he
  simp only [okE, Bool.and_eq_true, decide_eq_true_eq] at this
  exact ⟨by omega, by omega, by omega, by omega⟩
theorem OwnTree.box {w : World} {lo c j : Nat} {u : Value} {Y : TrX} (h : OwnTree w lo Y) (hc : c ∉ trB Y) : OwnTree (w.setCell ⟨c, j, none⟩ u) lo Y := by
  have ht : Touch [c] w (w.setCell ⟨c, j, none⟩ u) := Touch.set (by simp)
  have hr : RowsTr (w.setCell ⟨c, j, none⟩ u) lo Y := RowsTr.touch ⟨h.mem, h.young, h.youngs, h.old, h.olds, h.snaps⟩ ht (fun k hk e => hc (List.mem_singleton.1 e ▸ hk))
  exact ⟨hr.mem, hr.young, hr.youngs, hr.old, hr.olds, hr.snaps, h.nod⟩
set_option maxHeartbeats 8000000 in
set_option maxRecDepth 100000 in
theorem withBatch_any (X : TrX) (v : Value) (xs : List Wri) (w : World) (hx : RdTr w X) (hs : CpTr X) (ht : TreeP X.tre) (hw : RdW w v xs) (hfw : ∀ x ∈ xs, FitsW x) :
    Calls Tryz.prog 33 #[.agg #[X.vm, X.vy, X.vo, .int .i64 X.seq, X.vs], v] w fun e w' => BatchPost w X.tre xs e w' := by
  have HCP : Hid (∀ W, RdTr W X → Calls Tryz.prog 34 #[.agg #[X.vm, X.vy, X.vo, .int .i64 X.seq, X.vs]] W fun e w' => ToTr W X e w') := fun W h => copied_any X W h hs
  have HW : Hid (∀ W, Below w.heap.size w W → RdW W v xs) := fun W h => hw.below h
  have HFW : Hid (∀ x ∈ xs, FitsW x) := hfw
  have HTP : Hid (TreeP X.tre) := ht
  obtain ⟨a, cap, hv, hl, hmx, _⟩ := id hw
  unfold maxLen at hmx
  obtain ⟨n, hn⟩ : ∃ n, n = xs.length := ⟨_, rfl⟩
  rw [← hn] at hv hl
  have HN : Hid (n = xs.length) := hn
  subst hv
  clear hn hs hfw hw ht
  have t0 := treAt_new w X 33
  obtain ⟨V0, hV0⟩ : ∃ V0, V0 = w.alloc (.cells #[X.vm, X.vy, X.vo, .int .i64 X.seq, X.vs] 33) := ⟨_, rfl⟩
  have b0 : Below w.heap.size w V0 := by rw [hV0]; exact below1 w _
  have s0 : V0.heap.size = w.heap.size + 1 := by rw [hV0]; simp
  rw [← hV0] at t0
  have z1 := boxTr_new V0 (.slice none 0 0) (.slice none 0 0) (.slice none 0 0) (.slice none 0 0) 0
  obtain ⟨W0, hW0⟩ : ∃ W0, W0 = V0.alloc (.cells #[.slice none 0 0, .slice none 0 0, .slice none 0 0, .int .i64 0, .slice none 0 0] 33) := ⟨_, rfl⟩
  have b1 : Below V0.heap.size V0 W0 := by rw [hW0]; exact below1 V0 _
  have s1 : W0.heap.size = w.heap.size + 2 := by rw [hW0]; simp; omega
  rw [← hW0, s0] at z1
  have t1 := t0.below b1
  have bw : Below w.heap.size w W0 := b0.trans (b1.mono (by omega))
  have HW0 : Hid ((w.alloc (.cells #[X.vm, X.vy, X.vo, .int .i64 X.seq, X.vs] 33)).alloc (.cells #[.slice none 0 0, .slice none 0 0, .slice none 0 0, .int .i64 0, .slice none 0 0] 33) = W0) := by unfold Hid; rw [hW0, hV0]
  obtain ⟨q0, q1, q2, q3, q4⟩ := id t1
  rw [hW0, hV0] at q0 q1 q2 q3 q4
  clear t0 b0 b1 s0 hV0 hW0
  have NOT : Hid (roomFor X.tre xs = false → ∀ W, Below w.heap.size w W → BatchPost w X.tre xs (.returned (.tuple #[.agg #[.slice none 0 0, .slice none 0 0, .slice none 0 0, .int .i64 0, .slice none 0 0], .bool false])) W) := fun h W hb => ⟨⟨.slice none 0 0, .slice none 0 0, .slice none 0 0, .slice none 0 0, [], [], [], 0, []⟩, by rw [h], (fun h2 => by rw [h] at h2; cases h2), (fun _ => rfl), hb⟩
  by_cases hbig : 20 < n
  · have NO : Hid (roomFor X.tre xs = false) := by unfold Hid roomFor batchOk; rw [decide_eq_false (show ¬ xs.length ≤ 20 by rw [← HN.out]; omega)]; rfl
    have END : Hid (BatchPost _ _ _ _ _) := NOT.out NO.out W0 bw
    clear NO q0 q1 q2 q3 q4 NOT
    go_enter Tryz.func33, Tryz.ntmps33
    go_wp2
    rw [HW0.out]
    obtain ⟨y0, y1, y2, y3, y4, -⟩ := z1.facts
    exact bodyPost_ret (v := .tuple #[.agg #[.slice none 0 0, .slice none 0 0, .slice none 0 0, .int .i64 0, .slice none 0 0], .bool false]) (by simp [results, Tryz.results33, go_sem, y0, y1, y2, y3, y4]) rfl END.out
  go_enter Tryz.func33, Tryz.ntmps33
  go_wp2_with fail
  rw [HW0.out]
  clear q0 q1 q2 q3 q4
  refine (HCP.out _ (hx.below bw)).mono ?_
  rintro e w2 ⟨Y, rfl, heY, hoY, hb2⟩
  have z2 := z1.on hb2
  have bw2 := bw.trans (hb2.mono bw.size)
  have s2 : w.heap.size + 2 ≤ w2.heap.size := by rw [← s1]; exact hb2.size
  have UB : ∀ k ∈ trB Y, k < w2.heap.size := fun k hk => (hoY.bound hk).2
  rw [s1] at hoY
  clear HCP hb2 z1 bw HW0 t1
  obtain ⟨am, ay, ao, an, mn, yn, on, nn, cm, cy, co, cn, v0, v1, v2, v3⟩ := hoY.rd.slices
  obtain ⟨vm4, vy4, vo4, vs4, mem4, ys4, os4, seq4, snaps4⟩ := Y
  simp only at v0 v1 v2 v3
  subst v0
  subst v1
  subst v2
  subst v3
  obtain ⟨Y, hY⟩ : ∃ Y : TrX, Y = ⟨.slice am mn cm, .slice ay yn cy, .slice ao on co, .slice an nn cn, mem4, ys4, os4, seq4, snaps4⟩ := ⟨_, rfl⟩
  have zb := boxTr_new w2 (.slice am mn cm) (.slice ay yn cy) (.slice ao on co) (.slice an nn cn) seq4
  have bb := below1 w2 (.cells #[.slice am mn cm, .slice ay yn cy, .slice ao on co, .int .i64 seq4, .slice an nn cn] 33)
  have z3 := z2.on bb
  have bw3 := bw2.trans (bb.mono bw2.size)
  have ho3 := hoY.below bb
  have s3 : (w2.alloc (.cells #[.slice am mn cm, .slice ay yn cy, .slice ao on co, .int .i64 seq4, .slice an nn cn] 33)).heap.size = w2.heap.size + 1 := by simp
  have HMEM : Hid (mem4 = X.tre.mem ∧ seq4 = X.tre.seq ∧ ys4.map (·.T) = X.tre.young ∧ os4.map (·.T) = X.tre.old ∧ snaps4 = X.tre.snaps) := ⟨congrArg Tre.mem heY, congrArg Tre.seq heY, congrArg Tre.young heY, congrArg Tre.old heY, congrArg Tre.snaps heY⟩
  clear heY hoY z2 bw2 bb
  rw [← hY] at ho3 UB
  have HY : Hid (Y = ⟨.slice am mn cm, .slice ay yn cy, .slice ao on co, .slice an nn cn, mem4, ys4, os4, seq4, snaps4⟩) := hY
  have ho3' : OwnTree (w2.alloc (.cells #[.slice am mn cm, .slice ay yn cy, .slice ao on co, .int .i64 seq4, .slice an nn cn] 33)) (w.heap.size + 2) (reMem Y (.slice am mn cm) mem4 seq4) := by
    have e : reMem Y (.slice am mn cm) mem4 seq4 = Y := by rw [hY]; rfl
    rw [e]; exact ho3
  have nb3 : w2.heap.size ∉ trB (reMem Y (.slice am mn cm) mem4 seq4) := by
    have e : reMem Y (.slice am mn cm) mem4 seq4 = Y := by rw [hY]; rfl
    rw [e]; exact fun h => by have := UB _ h; omega
  have NBR : Hid (∀ u M q, (∀ k ∈ oneB u, w2.heap.size < k) → w2.heap.size ∉ trB (reMem Y u M q)) := fun u M q hu h => by
    unfold trB reMem at h
    rcases List.mem_append.1 h with h | h
    · have := hu _ h; omega
    · have := UB w2.heap.size (by unfold trB; exact List.mem_append_right _ h); omega
  clear hY ho3 UB
  go_wp2
  generalize w2.alloc (.cells #[.slice am mn cm, .slice ay yn cy, .slice ao on co, .int .i64 seq4, .slice an nn cn] 33) = W3 at zb z3 bw3 ho3' s3 ⊢
  go_loopw [19] (fun i wr => ∃ (k : Nat) (vm' : Value) (q : Int) (M : List Ent), k ≤ n ∧ i = .int .i64 k ∧ Hid (BoxTr wr w2.heap.size vm' (.slice ay yn cy) (.slice ao on co) q (.slice an nn cn)) ∧ Hid (OwnTree wr (w.heap.size + 2) (reMem Y vm' M q)) ∧ Hid (w2.heap.size ∉ trB (reMem Y vm' M q)) ∧ Hid (M = (putAll X.tre (xs.take k)).mem ∧ q = (putAll X.tre (xs.take k)).seq ∧ TreeP (putAll X.tre (xs.take k)) ∧ (xs.take k).all wriOk = true) ∧ Hid (BoxTr wr (w.heap.size + 1) (.slice none 0 0) (.slice none 0 0) (.slice none 0 0) 0 (.slice none 0 0)) ∧ Hid (w2.heap.size + 1 ≤ wr.heap.size) ∧ Hid (Below w.heap.size w wr)) (fun i _ => n - (intOf i).toNat)
  case atStart => exact ⟨0, _, _, mem4, Nat.zero_le _, rfl, zb, ho3', nb3, ⟨HMEM.out.1, HMEM.out.2.1, HTP.out, rfl⟩, z3, by unfold Hid; omega, bw3⟩
  case round =>
    obtain ⟨k, vm', q, M, hk, rfl, ZB, OT, NB, HP, Z0, SZ, BB⟩ := hrel
    clear zb z3 bw3 ho3' nb3 s3
    by_cases hlt : k < n
    · have hkl : k < xs.length := by rw [← HN.out]; exact hlt
      have hkc : k < cap := by omega
      obtain ⟨c, off, rfl, hc⟩ := (HW.out wr BB.out).at HN.out k hkl
      have hfx := HFW.out (nthW xs k) (by rw [nthW_eq hkl]; exact List.getElem_mem hkl)
      obtain ⟨p1, p2, p3, p4⟩ := HP.out
      have hq0 : 0 ≤ q := by rw [p2]; exact p3.seq0
      have hq1 : q ≤ 1000000 := by rw [p2]; exact p3.seq1
      have hq2 : 0 ≤ q + 1 := by omega
      have hq3 : q + 1 ≤ 1000001 := by omega
      have hwrap : IntKind.i64.wrap (q + 1) = q + 1 := by rw [IntKind.wrap_i64]; omega
      have HNO : Hid (putOk M (wriE (nthW xs k) (q + 1)) = false → roomFor X.tre xs = false) := fun h => room_not HTP.out hkl (by rw [← p1, ← p2]; exact h)
      have HNX : Hid (putOk M (wriE (nthW xs k) (q + 1)) = true → insE M (wriE (nthW xs k) (q + 1)) = (putAll X.tre (xs.take (k + 1))).mem ∧ q + 1 = (putAll X.tre (xs.take (k + 1))).seq ∧ TreeP (putAll X.tre (xs.take (k + 1))) ∧ (xs.take (k + 1)).all wriOk = true) := fun h => by
        have h1 := room_step hkl p3 (by rw [← p1, ← p2]; exact h)
        refine ⟨?_, ?_, h1.1, batch_more hkl p4 h1.2⟩
        · rw [putAll_snoc X.tre hkl, p1, p2]; rfl
        · rw [putAll_snoc X.tre hkl, p2]; rfl
      have HFM : Hid (∀ e ∈ M, Fits e) := by unfold Hid; rw [p1]; exact okL_fitW p3.mem
      have HFX : Hid (Fits (wriE (nthW xs k) (q + 1))) := ⟨hfx.1, hfx.2, by show (-9223372036854775808 : Int) ≤ q + 1; omega, by show q + 1 ≤ 9223372036854775807; omega⟩
      clear p1 p2 p3 p4 HP hfx hkl
      generalize nthW xs k = x at hc HNO HNX HFX
      obtain ⟨av, cv, hvv, -⟩ := id OT.out.mem.rd
      generalize hvn : (reMem Y vm' M q).mem.length = vn at hvv
      change vm' = .slice av vn cv at hvv
      subst hvv
      obtain ⟨c0, c1, c2⟩ := hc
      have x4 := boxW_new wr x 59
      have bb4 := below1 wr (.cells #[.string x.key, .string x.val, .bool x.gone] 59)
      have zb4 := ZB.out.on bb4
      have ot4 := OT.out.below bb4
      have z4 := Z0.out.on bb4
      have b4 := BB.out.trans (bb4.mono BB.out.size)
      have s4 : wr.heap.size < (wr.alloc (.cells #[.string x.key, .string x.val, .bool x.gone] 59)).heap.size := by simp
      have hsz := SZ.out
      obtain ⟨y0, y1, y2, y3, y4, -⟩ := zb4.facts
      clear ZB OT Z0 BB SZ bb4 hvn
      go_wp2_with fail
      generalize wr.alloc (.cells #[.string x.key, .string x.val, .bool x.gone] 59) = W4 at x4 zb4 ot4 z4 b4 s4 y0 y1 y2 y3 y4 ⊢
      clear c0 c1 c2
      refine wp_region_noPanic ?_
      refine wp_region_held_drew (S := fun w' => (w'.cell? ⟨w2.heap.size, 0, none⟩ = some (.slice av vn cv) ∧ w'.cell? ⟨w2.heap.size, 3, none⟩ = some (.int .i64 q)) ∧ w'.cell? ⟨wr.heap.size, 0, none⟩ = some (.string x.key) ∧ w'.cell? ⟨wr.heap.size, 1, none⟩ = some (.string x.val) ∧ w'.cell? ⟨wr.heap.size, 2, none⟩ = some (.bool x.gone)) (by kernel_rfl) ⟨⟨y0, y3⟩, x4⟩ (fun hH => ?_)
      have dd : Below W4.heap.size W4 W4.drew := (Below.refl _ W4).drew
      have zbV := zb4.on dd
      have otV := ot4.below dd
      have zV := z4.on dd
      have bV := b4.trans (dd.mono b4.size)
      have xV : BoxW W4.drew wr.heap.size x := x4
      have sV : wr.heap.size < W4.drew.heap.size := s4
      clear zb4 ot4 z4 b4 x4 s4 dd y0 y1 y2 y3 y4
      revert hH zbV otV zV bV xV sV
      generalize W4.drew = V
      intro hH zbV otV zV bV xV sV
      refine tkA 0 24 hH ?_
      try simp only [Act.put, List.setIfInBounds_toArray, List.set_cons_zero, List.set_cons_succ]
      refine tkA 1 25 hH ?_
      try simp only [Act.put, List.setIfInBounds_toArray, List.set_cons_zero, List.set_cons_succ]
      refine tkA 2 26 hH ?_
      try simp only [Act.put, List.setIfInBounds_toArray, List.set_cons_zero, List.set_cons_succ]
      refine tkA 3 27 hH ?_
      try simp only [Act.put, List.setIfInBounds_toArray, List.set_cons_zero, List.set_cons_succ]
      refine tkA 4 28 hH ?_
      try simp only [Act.put, List.setIfInBounds_toArray, List.set_cons_zero, List.set_cons_succ]
      refine tkA 5 29 hH ?_
      try simp only [Act.put, List.setIfInBounds_toArray, List.set_cons_zero, List.set_cons_succ]
      refine wpAnyH_ready (rs := [6]) (by kernel_rfl) (by simp) ?_
      refine AllReadyH.cons rfl (fun K hK => ?_) AllReadyH.nil
      go_simp
      refine (entryOf_any x (q + 1) _).mono ?_
      rintro e w5 ⟨rfl, hb5⟩
      have zb5 := zbV.on hb5
      have ot5 := otV.below hb5
      have z5 := zV.on hb5
      have b5 := bV.trans (hb5.mono bV.size)
      have x5 : BoxW w5 wr.heap.size x := ⟨(hb5.cell (p := ⟨wr.heap.size, 0, none⟩) sV).trans xV.1, (hb5.cell (p := ⟨wr.heap.size, 1, none⟩) sV).trans xV.2.1, (hb5.cell (p := ⟨wr.heap.size, 2, none⟩) sV).trans xV.2.2⟩
      have s5 : wr.heap.size < w5.heap.size := Nat.lt_of_lt_of_le sV hb5.size
      obtain ⟨y0, y1, y2, y3, y4, -⟩ := zb5.facts
      refine hK.out _ _ ⟨⟨y0, y3⟩, x5⟩ (fun hH2 => ?_)
      clear hK K hH zbV otV zV bV xV sV hb5 y0 y1 y2 y3 y4
      try simp only [Act.put, List.setIfInBounds_toArray, List.set_cons_zero, List.set_cons_succ]
      refine wpAnyH_ready (rs := [7]) (by kernel_rfl) (by simp) ?_
      refine AllReadyH.cons rfl (fun K hK => ?_) AllReadyH.nil
      go_simp
      refine (implPut_any (.slice av vn cv) M (wriE x (q + 1)) _ ot5.mem.rd HFM.out HFX.out).mono ?_
      rintro e w6 ⟨u, rfl, hu, hb6⟩
      have zb6 := zb5.on hb6
      have z6 := z5.on hb6
      have b6 := b5.trans (hb6.mono b5.size)
      have x6 : BoxW w6 wr.heap.size x := ⟨(hb6.cell (p := ⟨wr.heap.size, 0, none⟩) s5).trans x5.1, (hb6.cell (p := ⟨wr.heap.size, 1, none⟩) s5).trans x5.2.1, (hb6.cell (p := ⟨wr.heap.size, 2, none⟩) s5).trans x5.2.2⟩
      have ot6 : Hid (OwnTree w6 (w.heap.size + 2) (reMem Y u (putL M (wriE x (q + 1))) (q + 1))) := OwnTree.reMem (Y := reMem Y (.slice av vn cv) M q) ot5 (by omega) hb6 hu
      have nb6 : Hid (w2.heap.size ∉ trB (reMem Y u (putL M (wriE x (q + 1))) (q + 1))) := NBR.out _ _ _ (fun j hj => by have := (World.ownsRow.lt hu j (mem_oneB.1 hj)).1; omega)
      have s6 := hb6.size
      obtain ⟨av2, cv2, hvv2, -⟩ := id hu.rd
      generalize (putL M (wriE x (q + 1))).length = vn2 at hvv2
      subst hvv2
      obtain ⟨y0, y1, y2, y3, y4, g0, g1, g2, g3, g4⟩ := zb6.facts
      refine hK.out _ _ ⟨⟨y0, y3⟩, x6⟩ (fun hH3 => ?_)
      clear hK K hH2 zb5 ot5 z5 b5 x5 hu hb6 x6
      try simp only [Act.put, List.setIfInBounds_toArray, List.set_cons_zero, List.set_cons_succ]
      refine tkA 8 23 hH3 ?_
      try simp only [Act.put, List.setIfInBounds_toArray, List.set_cons_zero, List.set_cons_succ]
      refine tkA 9 32 hH3 ?_
      try simp only [Act.put, List.setIfInBounds_toArray, List.set_cons_zero, List.set_cons_succ]
      refine tkA 10 33 hH3 ?_
      try simp only [Act.put, List.setIfInBounds_toArray, List.set_cons_zero, List.set_cons_succ]
      refine tkA 11 9 hH3 ?_
      try simp only [Act.put, List.setIfInBounds_toArray, List.set_cons_zero, List.set_cons_succ]
      refine tkA 12 10 hH3 ?_
      try simp only [Act.put, List.setIfInBounds_toArray, List.set_cons_zero, List.set_cons_succ]
      refine wpAnyH_done (by kernel_rfl) ?_ _
      refine NoPanic.normal ?_
      clear hH3
      cases hp : putOk M (wriE x (q + 1)) with
      | false =>
        obtain ⟨m0, m1, m2, m3, m4, n0, n1, n2, n3, n4⟩ := z6.facts
        have hzF := boxTr_put5 z6 (.slice none 0 0) (.slice none 0 0) (.slice none 0 0) (.slice none 0 0) 0
        obtain ⟨f0, f1, f2, f3, f4, -⟩ := hzF.facts
        have END : Hid (BatchPost _ _ _ _ _) := NOT.out (HNO.out hp) (put5 w6 (w.heap.size + 1) (.slice none 0 0) (.slice none 0 0) (.slice none 0 0) (.int .i64 0) (.slice none 0 0)) (below_put5 b6 (by omega))
        unfold put5 at f0 f1 f2 f3 f4
        clear HNO HNX hp hzF z6 zb6 b6 ot6 nb6 NOT y0 y1 y2 y3 y4 g0 g1 g2 g3 g4
        go_wp2
        exact bodyPost_ret (v := .tuple #[.agg #[.slice none 0 0, .slice none 0 0, .slice none 0 0, .int .i64 0, .slice none 0 0], .bool false]) (by simp [results, Tryz.results33, go_sem, f0, f1, f2, f3, f4]) rfl END.out
      | true =>
        have HP2 : Hid (putL M (wriE x (q + 1)) = (putAll X.tre (xs.take (k + 1))).mem ∧ q + 1 = (putAll X.tre (xs.take (k + 1))).seq ∧ TreeP (putAll X.tre (xs.take (k + 1))) ∧ (xs.take (k + 1)).all wriOk = true) := by
          unfold Hid putL
          rw [if_pos hp]
          exact HNX.out hp
        generalize putL M (wriE x (q + 1)) = M2 at ot6 nb6 HP2
        have zb7 := boxTr_set3 (boxTr_set0 zb6 (.slice av2 vn2 cv2)) (q + 1)
        have ot7 : Hid (OwnTree _ _ _) := (ot6.out.box (j := 0) (u := .slice av2 vn2 cv2) nb6.out).box (j := 3) (u := .int .i64 (q + 1)) nb6.out
        have hne : w.heap.size + 1 ≠ w2.heap.size := by omega
        have z7 := boxTr_other (c := w2.heap.size) (j := 3) (u := .int .i64 (q + 1)) (boxTr_other (c := w2.heap.size) (j := 0) (u := .slice av2 vn2 cv2) z6 hne) hne
        have b7 : Below w.heap.size w ((w6.setCell ⟨w2.heap.size, 0, none⟩ (.slice av2 vn2 cv2)).setCell ⟨w2.heap.size, 3, none⟩ (.int .i64 (q + 1))) := (b6.setCell (p := ⟨w2.heap.size, 0, none⟩) (by show w.heap.size ≤ w2.heap.size; omega) _).setCell (p := ⟨w2.heap.size, 3, none⟩) (by show w.heap.size ≤ w2.heap.size; omega) _
        have s7 : Hid (w2.heap.size + 1 ≤ ((w6.setCell ⟨w2.heap.size, 0, none⟩ (.slice av2 vn2 cv2)).setCell ⟨w2.heap.size, 3, none⟩ (.int .i64 (q + 1))).heap.size) := by unfold Hid; simp; omega
        obtain ⟨k0, k1, k2, k3, k4, l0, l1, l2, l3, l4⟩ := (boxTr_set0 zb6 (.slice av2 vn2 cv2)).facts
        clear HNO HNX hp z6 b6 ot6 zb6
        go_wp2
        go_roundw
        case rel => exact ⟨k + 1, _, q + 1, M2, by omega, by go_num, zb7, ot7, nb6, HP2, z7, s7, b7⟩
        case measure => simp [intOf]; omega
    · have hke : k = n := by omega
      have e : xs.take k = xs := by rw [hke, HN.out, List.take_length]
      obtain ⟨p1, p2, p3, p4⟩ := HP.out
      rw [e] at p1 p2 p3 p4
      have YES : Hid (roomFor X.tre xs = true) := room_yes (by rw [← HN.out]; omega) p4 p3
      obtain ⟨av, cv, hvv, -⟩ := id OT.out.mem.rd
      generalize hvn : (reMem Y vm' M q).mem.length = vn at hvv
      change vm' = .slice av vn cv at hvv
      subst hvv
      obtain ⟨y0, y1, y2, y3, y4, g0, g1, g2, g3, g4⟩ := ZB.out.facts
      obtain ⟨m0, m1, m2, m3, m4, n0, n1, n2, n3, n4⟩ := Z0.out.facts
      have hzF := boxTr_put5 Z0.out (.slice av vn cv) (.slice ay yn cy) (.slice ao on co) (.slice an nn cn) q
      obtain ⟨f0, f1, f2, f3, f4, -⟩ := hzF.facts
      have END : Hid (BatchPost w X.tre xs (.returned (.tuple #[.agg #[.slice av vn cv, .slice ay yn cy, .slice ao on co, .int .i64 q, .slice an nn cn], .bool true])) (put5 wr (w.heap.size + 1) (.slice av vn cv) (.slice ay yn cy) (.slice ao on co) (.int .i64 q) (.slice an nn cn))) := by
        have nb1 : w.heap.size + 1 ∉ trB (reMem Y (.slice av vn cv) M q) := fun h => by have := (OT.out.bound h).1; omega
        refine ⟨reMem Y (.slice av vn cv) M q, by rw [YES.out, HY.out]; rfl, fun _ => ⟨?_, ?_⟩, (fun h => by rw [YES.out] at h; cases h), below_put5 BB.out (by omega)⟩
        · obtain ⟨e1, e2, e3⟩ := putAll_rest X.tre xs
          obtain ⟨-, -, r3, r4, r5⟩ := HMEM.out
          rw [HY.out]
          show (⟨M, ys4.map (·.T), os4.map (·.T), q, snaps4⟩ : Tre) = putAll X.tre xs
          rw [p1, p2, r3, r4, r5, ← e1, ← e2, ← e3]
        · exact OwnTree.mono (((((OT.out.box nb1).box nb1).box nb1).box nb1).box nb1) (by omega)
      unfold put5 at f0 f1 f2 f3 f4
      clear hke e p1 p2 p3 p4 ZB OT NB HP Z0 SZ BB hzF hvn
      go_wp2
      exact bodyPost_ret (v := .tuple #[.agg #[.slice av vn cv, .slice ay yn cy, .slice ao on co, .int .i64 q, .slice an nn cn], .bool true]) (by simp [results, Tryz.results33, go_sem, f0, f1, f2, f3, f4]) rfl END.out
end Go.Proofs.YtbefmbjlogkmbaaGreat
namespace Go.Proofs.YtbefmbjlogkmbaaGreat
open Go.RowKit
end Go.Proofs.YtbefmbjlogkmbaaGreat
