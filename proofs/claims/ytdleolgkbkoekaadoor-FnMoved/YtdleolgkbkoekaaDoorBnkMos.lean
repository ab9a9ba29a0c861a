/- The contract of the model's Moved. -/
-- UNF Gen
import Derived.Test.YtdleolgkbkoekaaDoorBnkMov
namespace Go.Proofs.YtdleolgkbkoekaaDoor
open Go.RowKit
set_option maxHeartbeats 8000000 in
set_option maxRecDepth 100000 in
theorem specMoved_any (X : BkX) (m : Mov) (w : World) (hx : RdBk w X) :
    Calls Tryd.prog 9 #[.agg #[X.vm, X.vc], .agg #[.int .i64 m.fr, .int .i64 m.to', .int .i64 m.sum, .int .i64 m.cou]] w fun e w' => MovRes w (movM X.mon X.cnt m) (movC X.mon X.cnt m) (codR X.mon X.cnt m) e w' := by
  have HB : Hid (∀ W, RdBk W X → Calls Tryd.prog 12 #[.agg #[X.vm, X.vc]] W fun e w' => e = .returned (.bool (bankOk X.mon X.cnt)) ∧ Below W.heap.size W w') := fun W h => specBankOk_any X W h
  have HM : Hid (∀ W, Calls Tryd.prog 14 #[.agg #[.int .i64 m.fr, .int .i64 m.to', .int .i64 m.sum, .int .i64 m.cou]] W fun e w' => e = .returned (.bool (movOk m)) ∧ Below W.heap.size W w') := fun W => specMoveOk_any m W
  have Q := moved_start X m w
  have hs0 : w.heap.size + 3 ≤ (((w.alloc (.cells #[X.vm, X.vc] 26)).alloc (.cells #[.int .i64 m.fr, .int .i64 m.to', .int .i64 m.sum, .int .i64 m.cou] 28)).alloc (.cells #[.slice none 0 0, .slice none 0 0] 26)).heap.size := by simp
  cases hk : bankOk X.mon X.cnt with
  | false =>
    rw [hk] at HB
    obtain ⟨R1, RM, RC⟩ := codR_bad (m := m) (.inl hk)
    rw [R1]
    obtain ⟨d0, d1⟩ := Q.arg X rfl
    clear hk HM
    go_enter Tryd.func9, Tryd.ntmps9
    go_wp2_with fail
    generalize (((w.alloc (.cells #[X.vm, X.vc] 26)).alloc (.cells #[.int .i64 m.fr, .int .i64 m.to', .int .i64 m.sum, .int .i64 m.cou] 28)).alloc (.cells #[.slice none 0 0, .slice none 0 0] 26)) = W0 at Q hs0 d0 d1 ⊢
    refine (HB.out _ (hx.below Q.bel)).mono ?_
    rintro e w1 ⟨rfl, hb1⟩
    replace Q := Q.on hb1
    clear d0 d1 hb1 hs0 R1
    obtain ⟨z0, z1, z2, z3⟩ := (Q.bx ⟨w.heap.size + 2, w.heap.size + 3, ⟨.slice none 0 0, .slice none 0 0, [], []⟩⟩ (by simp)).facts
    simp only at z0 z1 z2 z3
    have zz := ((Q.bx ⟨w.heap.size + 2, w.heap.size + 3, ⟨.slice none 0 0, .slice none 0 0, [], []⟩⟩ (by simp)).set0 (u := .slice none 0 0)).set1 (u := .slice none 0 0)
    obtain ⟨f0, f1, -, -⟩ := zz.facts
    have HF : Hid (MovRes _ _ _ _ _ _) := movRes_zero (k := 1) Q RM RC
    clear Q zz
    go_wp2
    exact bodyPost_ret (v := .tuple #[.agg #[.slice none 0 0, .slice none 0 0], .int .i64 1]) (by simp [results, Tryd.results9, go_sem, f0, f1]) rfl HF.out
  | true =>
  rw [hk] at HB
  cases hk2 : movOk m with
  | false =>
    rw [hk2] at HM
    obtain ⟨R1, RM, RC⟩ := codR_bad (ms := X.mon) (cs := X.cnt) (.inr hk2)
    rw [R1]
    obtain ⟨d0, d1⟩ := Q.arg X rfl
    clear hk hk2
    go_enter Tryd.func9, Tryd.ntmps9
    go_wp2_with fail
    generalize (((w.alloc (.cells #[X.vm, X.vc] 26)).alloc (.cells #[.int .i64 m.fr, .int .i64 m.to', .int .i64 m.sum, .int .i64 m.cou] 28)).alloc (.cells #[.slice none 0 0, .slice none 0 0] 26)) = W0 at Q hs0 d0 d1 ⊢
    refine (HB.out _ (hx.below Q.bel)).mono ?_
    rintro e w1 ⟨rfl, hb1⟩
    replace Q := Q.on hb1
    clear d0 d1 hb1 hs0 R1
    obtain ⟨e0, e1, e2, e3⟩ := (Q.mov _ _ rfl).facts
    go_wp2_with fail
    refine (HM.out _).mono ?_
    rintro e w2 ⟨rfl, hb2⟩
    replace Q := Q.on hb2
    clear e0 e1 e2 e3 hb2
    obtain ⟨z0, z1, z2, z3⟩ := (Q.bx ⟨w.heap.size + 2, w.heap.size + 3, ⟨.slice none 0 0, .slice none 0 0, [], []⟩⟩ (by simp)).facts
    simp only at z0 z1 z2 z3
    have zz := ((Q.bx ⟨w.heap.size + 2, w.heap.size + 3, ⟨.slice none 0 0, .slice none 0 0, [], []⟩⟩ (by simp)).set0 (u := .slice none 0 0)).set1 (u := .slice none 0 0)
    obtain ⟨f0, f1, -, -⟩ := zz.facts
    have HF : Hid (MovRes _ _ _ _ _ _) := movRes_zero (k := 1) Q RM RC
    clear Q zz
    go_wp2
    exact bodyPost_ret (v := .tuple #[.agg #[.slice none 0 0, .slice none 0 0], .int .i64 1]) (by simp [results, Tryd.results9, go_sem, f0, f1]) rfl HF.out
  | true =>
  rw [hk2] at HM
  have HP : Hid (BankP X.mon X.cnt) := bankOk_iff.1 hk
  have HQ := movOk_iff.1 hk2
  have HC : Hid (∀ W, RdBk W X → Calls Tryd.prog 33 #[.agg #[X.vm, X.vc]] W fun e w' => ToBk W X.mon X.cnt e w') := fun W h => copyBk_any X W h (.inl (by have h1 := HP.out.1.1; have h2 := HP.out.2.1.1; omega))
  obtain ⟨f, t, hf, ht, hm⟩ := mov_nat HQ
  obtain ⟨a, b, s, c⟩ := m
  simp only [Mov.mk.injEq, and_true] at hm
  obtain ⟨rfl, rfl⟩ := hm
  have HQ2 : Hid (MovP ⟨(f : Int), (t : Int), s, c⟩) := HQ
  clear HQ hk hk2
  simp only at HM Q hs0 ⊢
  obtain ⟨d0, d1⟩ := Q.arg X rfl
  go_enter Tryd.func9, Tryd.ntmps9
  go_wp2_with fail
  generalize (((w.alloc (.cells #[X.vm, X.vc] 26)).alloc (.cells #[.int .i64 (f : Int), .int .i64 (t : Int), .int .i64 s, .int .i64 c] 28)).alloc (.cells #[.slice none 0 0, .slice none 0 0] 26)) = W0 at Q hs0 d0 d1 ⊢
  refine (HB.out _ (hx.below Q.bel)).mono ?_
  rintro e w1 ⟨rfl, hb1⟩
  replace Q := Q.on hb1
  replace hs0 := Nat.le_trans hs0 hb1.size
  clear d0 d1 hb1
  obtain ⟨e0, e1, e2, e3⟩ := (Q.mov _ _ rfl).facts
  simp only at e0 e1 e2 e3
  go_wp2_with fail
  refine (HM.out _).mono ?_
  rintro e w2 ⟨rfl, hb2⟩
  replace Q := Q.on hb2
  replace hs0 := Nat.le_trans hs0 hb2.size
  clear e0 e1 e2 e3 hb2
  obtain ⟨d0, d1⟩ := Q.arg X rfl
  go_wp2_with fail
  refine (HC.out _ (hx.below Q.bel)).mono ?_
  intro e w3 h3
  obtain ⟨ya, yn, yc, yd, ym, ye, rfl, oY, hb3⟩ := h3.open
  clear h3 d0 d1
  have hlo : w.heap.size + 3 ≤ w2.heap.size := hs0
  have QA := (Q.on hb3).on (below1 w3 (.cells #[.slice ya yn yc, .slice yd ym ye] 26))
  replace Q := QB.put (Y := ⟨.slice ya yn yc, .slice yd ym ye, X.mon, X.cnt⟩) QA (boxBk_new _ _ _) (oY.below (below1 _ _))
  clear QA hb3 oY HC hs0
  generalize w2.heap.size = lo at Q hlo
  -- the rows of the bank that came in
  obtain ⟨xvm, xvc, mon, cnt⟩ := X
  simp only at HP Q hx ⊢
  obtain ⟨xma, xm, hvm, m1, m2⟩ := rdI_slice hx.mon
  obtain ⟨xca, xc, hvc, c1, c2⟩ := rdI_slice hx.cnt
  simp only at hvm hvc m1 c1
  have hn1 := HP.out.1.1
  have hn2 := HP.out.2.1.1
  rw [hn1] at hvm m1
  rw [hn2] at hvc c1
  subst hvm
  subst hvc
  have hxm := hx.mon.below Q.bel
  have hxc := hx.cnt.below Q.bel
  simp only at hxm hxc
  obtain ⟨bm, om, rfl, xvm⟩ := hxm.nth f (by omega)
  obtain ⟨bc, oc, rfl, xvc⟩ := hxc.nth f (by omega)
  clear hxm hxc hn1 hn2 hx
  obtain ⟨X, hX⟩ : ∃ X : BkX, X = ⟨.slice (some ⟨bm, om, none⟩) 8 xm, .slice (some ⟨bc, oc, none⟩) 8 xc, mon, cnt⟩ := ⟨_, rfl⟩
  have tX : BkAt _ w.heap.size _ := Q.arg _ rfl
  obtain ⟨d0, d1⟩ := tX
  obtain ⟨e0, e1, e2, e3⟩ := (Q.mov _ _ rfl).facts
  simp only at d0 d1 e0 e1 e2 e3
  rw [← hX] at Q
  obtain ⟨rfl, rfl⟩ : mon = X.mon ∧ cnt = X.cnt := by rw [hX]; exact ⟨rfl, rfl⟩
  clear hX
  have hfc : f < xm := by omega
  have hfd : f < xc := by omega
  have hf8 : (f : Int) < 8 := by omega
  have ht8 : (t : Int) < 8 := by omega
  obtain ⟨pm, hpm⟩ : ∃ pm, pm = nthI X.mon f := ⟨_, rfl⟩
  obtain ⟨pc, hpc⟩ : ∃ pc, pc = nthI X.cnt f := ⟨_, rfl⟩
  rw [← hpm] at xvm
  rw [← hpc] at xvc
  have HPM : Hid (pm = nthI X.mon f) := hpm
  have HPC : Hid (pc = nthI X.cnt f) := hpc
  clear hpm hpc
  by_cases hcc : c = pc
  · have hdc : (c != pc) = false := by simp [hcc]
    have R0 : Hid (∀ h3 : nthI X.mon f < s, _) := fun h3 => codR_three HP.out HQ2.out (by rw [← HPC.out]; exact hcc) h3
    have R1 : Hid (∀ h3 : ¬ nthI X.mon f < s, _) := fun h3 => codR_done HP.out HQ2.out (by rw [← HPC.out]; exact hcc) h3
    clear hcc
    go_wp2_with fail
    generalize w3.alloc (.cells #[.slice ya yn yc, .slice yd ym ye] 26) = W1 at Q d0 d1 e0 e1 e2 e3 xvm xvc ⊢
    generalize w3.heap.size = ob at Q ⊢
    refine wp_region_noPanic ?_
    refine wp_region_held_drew (S := fun W => (W.cell? ⟨w.heap.size, 0, none⟩ = some (.slice (some ⟨bm, om, none⟩) 8 xm) ∧ W.cell? ⟨w.heap.size, 1, none⟩ = some (.slice (some ⟨bc, oc, none⟩) 8 xc)) ∧ (W.cell? ⟨w.heap.size + 1, 0, none⟩ = some (.int .i64 (f : Int)) ∧ W.cell? ⟨w.heap.size + 1, 1, none⟩ = some (.int .i64 (t : Int)) ∧ W.cell? ⟨w.heap.size + 1, 2, none⟩ = some (.int .i64 s) ∧ W.cell? ⟨w.heap.size + 1, 3, none⟩ = some (.int .i64 c)) ∧ W.cell? ⟨bm, om + f, none⟩ = some (.int .i64 pm) ∧ W.cell? ⟨bc, oc + f, none⟩ = some (.int .i64 pc)) (by kernel_rfl) ⟨⟨d0, d1⟩, ⟨e0, e1, e2, e3⟩, xvm, xvc⟩ (fun hH => ?_)
    refine tkG 0 19 hH ?_
    try simp only [Act.put, List.setIfInBounds_toArray, List.set_cons_zero, List.set_cons_succ]
    refine tkG 1 20 hH ?_
    try simp only [Act.put, List.setIfInBounds_toArray, List.set_cons_zero, List.set_cons_succ]
    refine tkG 2 21 hH ?_
    try simp only [Act.put, List.setIfInBounds_toArray, List.set_cons_zero, List.set_cons_succ]
    refine tkG 3 22 hH ?_
    try simp only [Act.put, List.setIfInBounds_toArray, List.set_cons_zero, List.set_cons_succ]
    refine tkG 4 23 hH ?_
    try simp only [Act.put, List.setIfInBounds_toArray, List.set_cons_zero, List.set_cons_succ]
    refine tkG 5 24 hH ?_
    try simp only [Act.put, List.setIfInBounds_toArray, List.set_cons_zero, List.set_cons_succ]
    refine tkG 6 25 hH ?_
    try simp only [Act.put, List.setIfInBounds_toArray, List.set_cons_zero, List.set_cons_succ]
    refine tkG 7 26 hH ?_
    try simp only [Act.put, List.setIfInBounds_toArray, List.set_cons_zero, List.set_cons_succ]
    refine tkG 8 27 hH ?_
    try simp only [Act.put, List.setIfInBounds_toArray, List.set_cons_zero, List.set_cons_succ]
    refine tkG 9 18 hH ?_
    try simp only [Act.put, List.setIfInBounds_toArray, List.set_cons_zero, List.set_cons_succ]
    refine wpAnyH_done (by kernel_rfl) ?_ _
    refine NoPanic.normal ?_
    replace Q := Q.on ((Below.refl _ W1).drew)
    clear d0 d1 e0 e1 e2 e3 xvm xvc
    revert hH Q
    generalize W1.drew = V
    intro hH Q
    by_cases hss : pm < s
    · have hds : decide (pm < s) = true := decide_eq_true hss
      obtain ⟨RK, RM, RC⟩ := R0.out (by rw [← HPM.out]; exact hss)
      have RKH : Hid (codR _ _ _ = _) := RK
      clear R0 R1 hss RK
      replace RM : Hid (_ = _) := RM.symm
      replace RC : Hid (_ = _) := RC.symm
      go_wp2_with fail
      refine wp_region_noPanic ?_
      refine wp_region_held_drew (S := fun W => (W.cell? ⟨w.heap.size, 0, none⟩ = some (.slice (some ⟨bm, om, none⟩) 8 xm) ∧ W.cell? ⟨w.heap.size, 1, none⟩ = some (.slice (some ⟨bc, oc, none⟩) 8 xc)) ∧ (W.cell? ⟨w.heap.size + 1, 0, none⟩ = some (.int .i64 (f : Int)) ∧ W.cell? ⟨w.heap.size + 1, 1, none⟩ = some (.int .i64 (t : Int)) ∧ W.cell? ⟨w.heap.size + 1, 2, none⟩ = some (.int .i64 s) ∧ W.cell? ⟨w.heap.size + 1, 3, none⟩ = some (.int .i64 c)) ∧ W.cell? ⟨bm, om + f, none⟩ = some (.int .i64 pm) ∧ W.cell? ⟨bc, oc + f, none⟩ = some (.int .i64 pc)) (by kernel_rfl) hH (fun hG => ?_)
      refine tkG 0 30 hG ?_
      try simp only [Act.put, List.setIfInBounds_toArray, List.set_cons_zero, List.set_cons_succ]
      refine tkG 1 31 hG ?_
      try simp only [Act.put, List.setIfInBounds_toArray, List.set_cons_zero, List.set_cons_succ]
      refine tkG 2 32 hG ?_
      try simp only [Act.put, List.setIfInBounds_toArray, List.set_cons_zero, List.set_cons_succ]
      refine tkG 3 33 hG ?_
      try simp only [Act.put, List.setIfInBounds_toArray, List.set_cons_zero, List.set_cons_succ]
      refine tkG 4 34 hG ?_
      try simp only [Act.put, List.setIfInBounds_toArray, List.set_cons_zero, List.set_cons_succ]
      refine tkG 5 35 hG ?_
      try simp only [Act.put, List.setIfInBounds_toArray, List.set_cons_zero, List.set_cons_succ]
      refine tkG 6 36 hG ?_
      try simp only [Act.put, List.setIfInBounds_toArray, List.set_cons_zero, List.set_cons_succ]
      refine tkG 7 37 hG ?_
      try simp only [Act.put, List.setIfInBounds_toArray, List.set_cons_zero, List.set_cons_succ]
      refine tkG 8 38 hG ?_
      try simp only [Act.put, List.setIfInBounds_toArray, List.set_cons_zero, List.set_cons_succ]
      refine tkG 9 29 hG ?_
      try simp only [Act.put, List.setIfInBounds_toArray, List.set_cons_zero, List.set_cons_succ]
      refine wpAnyH_done (by kernel_rfl) ?_ _
      refine NoPanic.normal ?_
      replace Q := Q.on ((Below.refl _ V).drew)
      clear hG hH
      generalize V.drew = V1 at Q ⊢
      obtain ⟨z0, z1, z2, z3⟩ := (Q.bx ⟨w.heap.size + 2, w.heap.size + 3, ⟨.slice none 0 0, .slice none 0 0, [], []⟩⟩ (by simp)).facts
      obtain ⟨o0, o1, -, -⟩ := (Q.bx ⟨ob, lo, ⟨.slice ya yn yc, .slice yd ym ye, X.mon, X.cnt⟩⟩ (by simp)).facts
      simp only at z0 z1 z2 z3 o0 o1
      have zz := ((Q.bx ⟨w.heap.size + 2, w.heap.size + 3, ⟨.slice none 0 0, .slice none 0 0, [], []⟩⟩ (by simp)).set0 (u := .slice ya yn yc)).set1 (u := .slice yd ym ye)
      obtain ⟨f0, f1, -, -⟩ := zz.facts
      have HF : Hid (MovRes _ _ _ _ _ _) := moved_end (k := 3) Q (Q.ow ⟨ob, lo, ⟨.slice ya yn yc, .slice yd ym ye, X.mon, X.cnt⟩⟩ (by simp)) hlo RM RC
      clear Q zz
      go_wp2
      exact bodyPost_ret (v := .tuple #[.agg #[.slice ya yn yc, .slice yd ym ye], .int .i64 3]) (by simp [results, Tryd.results9, go_sem, f0, f1]) rfl (movRes_k HF.out RKH.out.symm)
    · have hds : decide (pm < s) = false := decide_eq_false hss
      obtain ⟨RK, RM, RC⟩ := R1.out (by rw [← HPM.out]; omega)
      have RKH : Hid (codR _ _ _ = _) := RK
      clear R0 R1 hss RK
      replace RM : Hid (_ = _) := RM.symm
      replace RC : Hid (_ = _) := RC.symm
      go_wp2_with fail
      refine wp_region_noPanic ?_
      refine wp_region_held_drew (S := fun W => (W.cell? ⟨w.heap.size, 0, none⟩ = some (.slice (some ⟨bm, om, none⟩) 8 xm) ∧ W.cell? ⟨w.heap.size, 1, none⟩ = some (.slice (some ⟨bc, oc, none⟩) 8 xc)) ∧ (W.cell? ⟨w.heap.size + 1, 0, none⟩ = some (.int .i64 (f : Int)) ∧ W.cell? ⟨w.heap.size + 1, 1, none⟩ = some (.int .i64 (t : Int)) ∧ W.cell? ⟨w.heap.size + 1, 2, none⟩ = some (.int .i64 s) ∧ W.cell? ⟨w.heap.size + 1, 3, none⟩ = some (.int .i64 c)) ∧ W.cell? ⟨bm, om + f, none⟩ = some (.int .i64 pm) ∧ W.cell? ⟨bc, oc + f, none⟩ = some (.int .i64 pc)) (by kernel_rfl) hH (fun hG => ?_)
      refine tkG 0 30 hG ?_
      try simp only [Act.put, List.setIfInBounds_toArray, List.set_cons_zero, List.set_cons_succ]
      refine tkG 1 31 hG ?_
      try simp only [Act.put, List.setIfInBounds_toArray, List.set_cons_zero, List.set_cons_succ]
      refine tkG 2 32 hG ?_
      try simp only [Act.put, List.setIfInBounds_toArray, List.set_cons_zero, List.set_cons_succ]
      refine tkG 3 33 hG ?_
      try simp only [Act.put, List.setIfInBounds_toArray, List.set_cons_zero, List.set_cons_succ]
      refine tkG 4 34 hG ?_
      try simp only [Act.put, List.setIfInBounds_toArray, List.set_cons_zero, List.set_cons_succ]
      refine tkG 5 35 hG ?_
      try simp only [Act.put, List.setIfInBounds_toArray, List.set_cons_zero, List.set_cons_succ]
      refine tkG 6 36 hG ?_
      try simp only [Act.put, List.setIfInBounds_toArray, List.set_cons_zero, List.set_cons_succ]
      refine tkG 7 37 hG ?_
      try simp only [Act.put, List.setIfInBounds_toArray, List.set_cons_zero, List.set_cons_succ]
      refine tkG 8 38 hG ?_
      try simp only [Act.put, List.setIfInBounds_toArray, List.set_cons_zero, List.set_cons_succ]
      refine tkG 9 29 hG ?_
      try simp only [Act.put, List.setIfInBounds_toArray, List.set_cons_zero, List.set_cons_succ]
      refine wpAnyH_done (by kernel_rfl) ?_ _
      refine NoPanic.normal ?_
      replace Q := Q.on ((Below.refl _ V).drew)
      clear hG hH
      generalize V.drew = V1 at Q ⊢
      have owY := Q.ow ⟨ob, lo, ⟨.slice ya yn yc, .slice yd ym ye, X.mon, X.cnt⟩⟩ (by simp)
      have bxY := Q.bx ⟨ob, lo, ⟨.slice ya yn yc, .slice yd ym ye, X.mon, X.cnt⟩⟩ (by simp)
      simp only at owY bxY
      have hbp := HP.out
      have hmp := HQ2.out
      obtain ⟨gm, cm, e1⟩ := ownI_some owY.mon (by intro h; have := hbp.1.1; simp only at h; rw [h] at this; simp at this)
      obtain ⟨gc, cc, e2⟩ := ownI_some owY.cnt (by intro h; have := hbp.2.1.1; simp only at h; rw [h] at this; simp at this)
      simp only [hbp.1.1, hbp.2.1.1, Value.slice.injEq] at e1 e2
      obtain ⟨e1a, e1b, e1c⟩ := e1
      obtain ⟨e2a, e2b, e2c⟩ := e2
      obtain rfl := e1c.symm
      obtain rfl := e2c.symm
      subst e1a
      subst e1b
      subst e2a
      subst e2b
      obtain ⟨_, cm', e1, k1, k2⟩ := rdI_slice owY.mon.rd
      obtain ⟨_, cc', e2, k3, k4⟩ := rdI_slice owY.cnt.rd
      simp only [Value.slice.injEq] at e1 e2
      simp only at k1 k3
      rw [hbp.1.1, ← e1.2.2] at k1
      rw [← e1.2.2] at k2
      rw [hbp.2.1.1, ← e2.2.2] at k3
      rw [← e2.2.2] at k4
      clear e1 e2
      have hfm : f < cm := by omega
      have htm : t < cm := by omega
      have hfc2 : f < cc := by omega
      have hs := hmp.2.2.1
      simp only at hs
      obtain ⟨hs0, hs1⟩ := hs
      have HB1 : Hid (0 ≤ nthI X.mon f ∧ nthI X.mon f ≤ 1000000000) := hbp.1.2 f hf
      have HB2 : Hid (-1000000000 ≤ nthI (X.mon.set f (nthI X.mon f - s)) t ∧ nthI (X.mon.set f (nthI X.mon f - s)) t ≤ 1000000000) := by
        unfold Hid
        rw [nthI_set (by rw [hbp.1.1]; exact hf)]
        have h1 := hbp.1.2 f hf
        have h2 := hbp.1.2 t ht
        split <;> omega
      have HB3 : Hid (0 ≤ nthI X.cnt f ∧ nthI X.cnt f ≤ 1000000) := hbp.2.1.2 f hf
      have bz : bkB ⟨.slice (some ⟨gm, 0, none⟩) 8 cm, .slice (some ⟨gc, 0, none⟩) 8 cc, X.mon, X.cnt⟩ = [gm, gc] := rfl
      have bdY : ∀ k ∈ [gm, gc], lo ≤ k := fun k hk => (owY.bound (by rw [bz]; exact hk)).1
      have obn : ob ∉ [gm, gc] := by rw [← bz]; exact bxY.out owY
      have lm : lo ≤ gm := bdY gm (by simp)
      have lc : lo ≤ gc := bdY gc (by simp)
      have ne0 : gm ≠ gc := fun e => owY.two gm rfl (by rw [e]; rfl)
      have ne1 : ob ≠ gm ∧ ob ≠ gc := by simpa using obn
      have P : PQ V1 V1 lo ob (w.heap.size + 1) gm cm gc cc f t s c X.mon X.cnt := ⟨⟨⟨bxY.facts.1, bxY.facts.2.1⟩, (Q.mov _ _ rfl).facts⟩, owY.mon, owY.cnt, Touch.refl _ _, ⟨ne0, ne1.1, ne1.2, by omega, by omega⟩, hbp.1.1, hbp.2.1.1⟩
      have HQQ : Hid (∀ W, Touch [gm, gc] V1 W → BoxBk W ob (.slice (some ⟨gm, 0, none⟩) 8 cm) (.slice (some ⟨gc, 0, none⟩) 8 cc) ∧ QB w W (some X) (some (28, ⟨(f : Int), (t : Int), s, c⟩)) [⟨w.heap.size + 2, w.heap.size + 3, ⟨.slice none 0 0, .slice none 0 0, [], []⟩⟩]) := fun W hto =>
        ⟨bxY.of_block (hto.block _ bxY.lt obn), Q.drop.touch hto (fun k hk => by have := bdY k hk; omega) (fun _ _ e => by have := bdY _ e; omega) (fun _ _ _ e => by have := bdY _ e; omega) (fun i hi e => by obtain rfl := List.mem_singleton.1 hi; have := bdY _ e; simp only at this; omega) (fun i hi k hk => by obtain rfl := List.mem_singleton.1 hi; simp [bkB, oneB, Value.ownBlock] at hk)⟩
      clear Q owY bxY bz bdY obn hbp hmp lm lc ne1
      go_wp2_with fail
      refine wp_region_noPanic ?_
      refine wp_region_held_drew (S := fun W => (W.cell? ⟨ob, 0, none⟩ = some (.slice (some ⟨gm, 0, none⟩) 8 cm) ∧ W.cell? ⟨ob, 1, none⟩ = some (.slice (some ⟨gc, 0, none⟩) 8 cc)) ∧ (W.cell? ⟨w.heap.size + 1, 0, none⟩ = some (.int .i64 (f : Int)) ∧ W.cell? ⟨w.heap.size + 1, 1, none⟩ = some (.int .i64 (t : Int)) ∧ W.cell? ⟨w.heap.size + 1, 2, none⟩ = some (.int .i64 s) ∧ W.cell? ⟨w.heap.size + 1, 3, none⟩ = some (.int .i64 c))) (by kernel_rfl) P.bx (fun hS => ?_)
      replace P := P.draw
      revert hS P
      generalize V1.drew = V1b
      intro hS P
      obtain ⟨xc, xf⟩ := ownI_cell P.mon f (by have := P.n2; omega)
      obtain ⟨px, hpx⟩ : ∃ px, px = nthI X.mon f := ⟨_, rfl⟩
      rw [← hpx] at xc
      have HPX : Hid (px = nthI X.mon f) := hpx
      have hb := HB1.out
      rw [← hpx] at hb
      obtain ⟨hb0, hb1⟩ := hb
      clear hpx
      have hwr : IntKind.i64.wrap (px - s) = px - s := wrap_inK (by omega) (by omega)
      have P2 := P.setM f (px - s)
      refine tkG 0 40 hS ?_
      try simp only [Act.put, List.setIfInBounds_toArray, List.set_cons_zero, List.set_cons_succ]
      refine tkG 1 41 hS ?_
      try simp only [Act.put, List.setIfInBounds_toArray, List.set_cons_zero, List.set_cons_succ]
      refine tkG 2 42 hS ?_
      try simp only [Act.put, List.setIfInBounds_toArray, List.set_cons_zero, List.set_cons_succ]
      refine tkG 3 43 hS ?_
      try simp only [Act.put, List.setIfInBounds_toArray, List.set_cons_zero, List.set_cons_succ]
      refine tkG 4 44 hS ?_
      try simp only [Act.put, List.setIfInBounds_toArray, List.set_cons_zero, List.set_cons_succ]
      refine tkG 5 45 hS ?_
      try simp only [Act.put, List.setIfInBounds_toArray, List.set_cons_zero, List.set_cons_succ]
      refine tkG 6 46 hS ?_
      try simp only [Act.put, List.setIfInBounds_toArray, List.set_cons_zero, List.set_cons_succ]
      refine tkG 7 47 hS ?_
      try simp only [Act.put, List.setIfInBounds_toArray, List.set_cons_zero, List.set_cons_succ]
      refine tkG 8 48 hS ?_
      try simp only [Act.put, List.setIfInBounds_toArray, List.set_cons_zero, List.set_cons_succ]
      refine tkG 10 50 hS ?_
      try simp only [Act.put, List.setIfInBounds_toArray, List.set_cons_zero, List.set_cons_succ]
      refine tkG 11 51 hS ?_
      try simp only [Act.put, List.setIfInBounds_toArray, List.set_cons_zero, List.set_cons_succ]
      refine wpAnyH_ready (rs := [9]) (by kernel_rfl) (by simp) ?_
      refine AllReadyH.cons rfl (fun K hK => ?_) AllReadyH.nil
      go_simp
      refine hK.out _ _ hS (fun hS2 => ?_)
      clear hK K hS
      have hS := hS2
      clear hS2
      try simp only [Act.put, List.setIfInBounds_toArray, List.set_cons_zero, List.set_cons_succ]
      refine tkG 12 52 hS ?_
      try simp only [Act.put, List.setIfInBounds_toArray, List.set_cons_zero, List.set_cons_succ]
      refine tkG 13 53 hS ?_
      try simp only [Act.put, List.setIfInBounds_toArray, List.set_cons_zero, List.set_cons_succ]
      refine wpAnyH_ready (rs := [14]) (by kernel_rfl) (by simp) ?_
      refine AllReadyH.cons rfl (fun K hK => ?_) AllReadyH.nil
      go_simp
      refine hK.out _ _ P2.bx (fun hS2 => ?_)
      clear hK K hS hS2
      refine wpAnyH_done (by kernel_rfl) ?_ _
      refine NoPanic.normal ?_
      clear P xc xf hwr hb0 hb1
      have P := P2
      clear P2
      rw [HPX.out] at P ⊢
      clear HPX px
      generalize V1b.setCell ⟨gm, f, none⟩ (.int .i64 (nthI X.mon f - s)) = W2 at P ⊢
      go_wp2_with fail
      refine wp_region_noPanic ?_
      refine wp_region_held_drew (S := fun W => (W.cell? ⟨ob, 0, none⟩ = some (.slice (some ⟨gm, 0, none⟩) 8 cm) ∧ W.cell? ⟨ob, 1, none⟩ = some (.slice (some ⟨gc, 0, none⟩) 8 cc)) ∧ (W.cell? ⟨w.heap.size + 1, 0, none⟩ = some (.int .i64 (f : Int)) ∧ W.cell? ⟨w.heap.size + 1, 1, none⟩ = some (.int .i64 (t : Int)) ∧ W.cell? ⟨w.heap.size + 1, 2, none⟩ = some (.int .i64 s) ∧ W.cell? ⟨w.heap.size + 1, 3, none⟩ = some (.int .i64 c))) (by kernel_rfl) P.bx (fun hS => ?_)
      replace P := P.draw
      revert hS P
      generalize W2.drew = V2
      intro hS P
      obtain ⟨xc, xf⟩ := ownI_cell P.mon t (by have := P.n2; omega)
      obtain ⟨px, hpx⟩ : ∃ px, px = nthI (X.mon.set f (nthI X.mon f - s)) t := ⟨_, rfl⟩
      rw [← hpx] at xc
      have HPX : Hid (px = nthI (X.mon.set f (nthI X.mon f - s)) t) := hpx
      have hb := HB2.out
      rw [← hpx] at hb
      obtain ⟨hb0, hb1⟩ := hb
      clear hpx
      have hwr : IntKind.i64.wrap (px + s) = px + s := wrap_inK (by omega) (by omega)
      have P2 := P.setM t (px + s)
      refine tkG 0 54 hS ?_
      try simp only [Act.put, List.setIfInBounds_toArray, List.set_cons_zero, List.set_cons_succ]
      refine tkG 1 55 hS ?_
      try simp only [Act.put, List.setIfInBounds_toArray, List.set_cons_zero, List.set_cons_succ]
      refine tkG 2 56 hS ?_
      try simp only [Act.put, List.setIfInBounds_toArray, List.set_cons_zero, List.set_cons_succ]
      refine tkG 3 57 hS ?_
      try simp only [Act.put, List.setIfInBounds_toArray, List.set_cons_zero, List.set_cons_succ]
      refine tkG 4 58 hS ?_
      try simp only [Act.put, List.setIfInBounds_toArray, List.set_cons_zero, List.set_cons_succ]
      refine tkG 5 59 hS ?_
      try simp only [Act.put, List.setIfInBounds_toArray, List.set_cons_zero, List.set_cons_succ]
      refine tkG 6 60 hS ?_
      try simp only [Act.put, List.setIfInBounds_toArray, List.set_cons_zero, List.set_cons_succ]
      refine tkG 7 61 hS ?_
      try simp only [Act.put, List.setIfInBounds_toArray, List.set_cons_zero, List.set_cons_succ]
      refine tkG 8 62 hS ?_
      try simp only [Act.put, List.setIfInBounds_toArray, List.set_cons_zero, List.set_cons_succ]
      refine tkG 10 64 hS ?_
      try simp only [Act.put, List.setIfInBounds_toArray, List.set_cons_zero, List.set_cons_succ]
      refine tkG 11 65 hS ?_
      try simp only [Act.put, List.setIfInBounds_toArray, List.set_cons_zero, List.set_cons_succ]
      refine wpAnyH_ready (rs := [9]) (by kernel_rfl) (by simp) ?_
      refine AllReadyH.cons rfl (fun K hK => ?_) AllReadyH.nil
      go_simp
      refine hK.out _ _ hS (fun hS2 => ?_)
      clear hK K hS
      have hS := hS2
      clear hS2
      try simp only [Act.put, List.setIfInBounds_toArray, List.set_cons_zero, List.set_cons_succ]
      refine tkG 12 66 hS ?_
      try simp only [Act.put, List.setIfInBounds_toArray, List.set_cons_zero, List.set_cons_succ]
      refine tkG 13 67 hS ?_
      try simp only [Act.put, List.setIfInBounds_toArray, List.set_cons_zero, List.set_cons_succ]
      refine wpAnyH_ready (rs := [14]) (by kernel_rfl) (by simp) ?_
      refine AllReadyH.cons rfl (fun K hK => ?_) AllReadyH.nil
      go_simp
      refine hK.out _ _ P2.bx (fun hS2 => ?_)
      clear hK K hS hS2
      refine wpAnyH_done (by kernel_rfl) ?_ _
      refine NoPanic.normal ?_
      clear P xc xf hwr hb0 hb1
      have P := P2
      clear P2
      rw [HPX.out] at P ⊢
      clear HPX px
      generalize V2.setCell ⟨gm, t, none⟩ (.int .i64 (nthI (X.mon.set f (nthI X.mon f - s)) t + s)) = W3 at P ⊢
      go_wp2_with fail
      refine wp_region_noPanic ?_
      refine wp_region_held_drew (S := fun W => (W.cell? ⟨ob, 0, none⟩ = some (.slice (some ⟨gm, 0, none⟩) 8 cm) ∧ W.cell? ⟨ob, 1, none⟩ = some (.slice (some ⟨gc, 0, none⟩) 8 cc)) ∧ (W.cell? ⟨w.heap.size + 1, 0, none⟩ = some (.int .i64 (f : Int)) ∧ W.cell? ⟨w.heap.size + 1, 1, none⟩ = some (.int .i64 (t : Int)) ∧ W.cell? ⟨w.heap.size + 1, 2, none⟩ = some (.int .i64 s) ∧ W.cell? ⟨w.heap.size + 1, 3, none⟩ = some (.int .i64 c))) (by kernel_rfl) P.bx (fun hS => ?_)
      replace P := P.draw
      revert hS P
      generalize W3.drew = V3
      intro hS P
      obtain ⟨xc, xf⟩ := ownI_cell P.cnt f (by have := P.n2; omega)
      obtain ⟨px, hpx⟩ : ∃ px, px = nthI X.cnt f := ⟨_, rfl⟩
      rw [← hpx] at xc
      have HPX : Hid (px = nthI X.cnt f) := hpx
      have hb := HB3.out
      rw [← hpx] at hb
      obtain ⟨hb0, hb1⟩ := hb
      clear hpx
      have hwr : IntKind.i64.wrap (px + 1) = px + 1 := wrap_inK (by omega) (by omega)
      have P2 := P.setC f (px + 1)
      refine tkG 0 68 hS ?_
      try simp only [Act.put, List.setIfInBounds_toArray, List.set_cons_zero, List.set_cons_succ]
      refine tkG 1 69 hS ?_
      try simp only [Act.put, List.setIfInBounds_toArray, List.set_cons_zero, List.set_cons_succ]
      refine tkG 2 70 hS ?_
      try simp only [Act.put, List.setIfInBounds_toArray, List.set_cons_zero, List.set_cons_succ]
      refine tkG 3 71 hS ?_
      try simp only [Act.put, List.setIfInBounds_toArray, List.set_cons_zero, List.set_cons_succ]
      refine tkG 4 72 hS ?_
      try simp only [Act.put, List.setIfInBounds_toArray, List.set_cons_zero, List.set_cons_succ]
      refine tkG 5 73 hS ?_
      try simp only [Act.put, List.setIfInBounds_toArray, List.set_cons_zero, List.set_cons_succ]
      refine tkG 6 74 hS ?_
      try simp only [Act.put, List.setIfInBounds_toArray, List.set_cons_zero, List.set_cons_succ]
      refine tkG 7 75 hS ?_
      try simp only [Act.put, List.setIfInBounds_toArray, List.set_cons_zero, List.set_cons_succ]
      refine tkG 8 76 hS ?_
      try simp only [Act.put, List.setIfInBounds_toArray, List.set_cons_zero, List.set_cons_succ]
      refine wpAnyH_ready (rs := [9]) (by kernel_rfl) (by simp) ?_
      refine AllReadyH.cons rfl (fun K hK => ?_) AllReadyH.nil
      go_simp
      refine hK.out _ _ hS (fun hS2 => ?_)
      clear hK K hS
      have hS := hS2
      clear hS2
      try simp only [Act.put, List.setIfInBounds_toArray, List.set_cons_zero, List.set_cons_succ]
      refine tkG 10 78 hS ?_
      try simp only [Act.put, List.setIfInBounds_toArray, List.set_cons_zero, List.set_cons_succ]
      refine tkG 11 79 hS ?_
      try simp only [Act.put, List.setIfInBounds_toArray, List.set_cons_zero, List.set_cons_succ]
      refine wpAnyH_ready (rs := [12]) (by kernel_rfl) (by simp) ?_
      refine AllReadyH.cons rfl (fun K hK => ?_) AllReadyH.nil
      go_simp
      refine hK.out _ _ P2.bx (fun hS2 => ?_)
      clear hK K hS hS2
      refine wpAnyH_done (by kernel_rfl) ?_ _
      refine NoPanic.normal ?_
      clear P xc xf hwr hb0 hb1
      have P := P2
      clear P2
      rw [HPX.out] at P ⊢
      clear HPX px
      generalize V3.setCell ⟨gc, f, none⟩ (.int .i64 (nthI X.cnt f + 1)) = W4 at P ⊢
      obtain ⟨bxZ, QE⟩ := HQQ.out _ P.tch
      have Q := QB.put (Y := ⟨.slice (some ⟨gm, 0, none⟩) 8 cm, .slice (some ⟨gc, 0, none⟩) 8 cc, payM X.mon f t s, payC X.cnt f⟩) QE bxZ ⟨P.mon, P.cnt, fun q h1 h2 => by have h3 : gm = q := Option.some.inj h1; have h4 : gc = q := Option.some.inj h2; exact ne0 (by omega)⟩
      clear P QE bxZ HQQ
      obtain ⟨z0, z1, z2, z3⟩ := (Q.bx ⟨w.heap.size + 2, w.heap.size + 3, ⟨.slice none 0 0, .slice none 0 0, [], []⟩⟩ (by simp)).facts
      obtain ⟨o0, o1, -, -⟩ := (Q.bx ⟨ob, lo, ⟨.slice (some ⟨gm, 0, none⟩) 8 cm, .slice (some ⟨gc, 0, none⟩) 8 cc, payM X.mon f t s, payC X.cnt f⟩⟩ (by simp)).facts
      simp only at z0 z1 z2 z3 o0 o1
      have zz := ((Q.bx ⟨w.heap.size + 2, w.heap.size + 3, ⟨.slice none 0 0, .slice none 0 0, [], []⟩⟩ (by simp)).set0 (u := .slice (some ⟨gm, 0, none⟩) 8 cm)).set1 (u := .slice (some ⟨gc, 0, none⟩) 8 cc)
      obtain ⟨f0, f1, -, -⟩ := zz.facts
      have HF : Hid (MovRes _ _ _ _ _ _) := moved_end (k := 0) Q (Q.ow ⟨ob, lo, ⟨.slice (some ⟨gm, 0, none⟩) 8 cm, .slice (some ⟨gc, 0, none⟩) 8 cc, payM X.mon f t s, payC X.cnt f⟩⟩ (by simp)) hlo RM RC
      clear Q zz
      go_wp2
      exact bodyPost_ret (v := .tuple #[.agg #[.slice (some ⟨gm, 0, none⟩) 8 cm, .slice (some ⟨gc, 0, none⟩) 8 cc], .int .i64 0]) (by simp [results, Tryd.results9, go_sem, f0, f1]) rfl (movRes_k HF.out RKH.out.symm)
  · have hdc : (c != pc) = true := by simp [hcc]
    obtain ⟨RK, RM, RC⟩ := codR_two HP.out HQ2.out (by rw [← HPC.out]; exact hcc)
    have RKH : Hid (codR _ _ _ = _) := RK
    clear hcc RK
    replace RM : Hid (_ = _) := RM.symm
    replace RC : Hid (_ = _) := RC.symm
    go_wp2_with fail
    generalize w3.alloc (.cells #[.slice ya yn yc, .slice yd ym ye] 26) = W1 at Q d0 d1 e0 e1 e2 e3 xvm xvc ⊢
    generalize w3.heap.size = ob at Q ⊢
    refine wp_region_noPanic ?_
    refine wp_region_held_drew (S := fun W => (W.cell? ⟨w.heap.size, 0, none⟩ = some (.slice (some ⟨bm, om, none⟩) 8 xm) ∧ W.cell? ⟨w.heap.size, 1, none⟩ = some (.slice (some ⟨bc, oc, none⟩) 8 xc)) ∧ (W.cell? ⟨w.heap.size + 1, 0, none⟩ = some (.int .i64 (f : Int)) ∧ W.cell? ⟨w.heap.size + 1, 1, none⟩ = some (.int .i64 (t : Int)) ∧ W.cell? ⟨w.heap.size + 1, 2, none⟩ = some (.int .i64 s) ∧ W.cell? ⟨w.heap.size + 1, 3, none⟩ = some (.int .i64 c)) ∧ W.cell? ⟨bm, om + f, none⟩ = some (.int .i64 pm) ∧ W.cell? ⟨bc, oc + f, none⟩ = some (.int .i64 pc)) (by kernel_rfl) ⟨⟨d0, d1⟩, ⟨e0, e1, e2, e3⟩, xvm, xvc⟩ (fun hH => ?_)
    refine tkG 0 19 hH ?_
    try simp only [Act.put, List.setIfInBounds_toArray, List.set_cons_zero, List.set_cons_succ]
    refine tkG 1 20 hH ?_
    try simp only [Act.put, List.setIfInBounds_toArray, List.set_cons_zero, List.set_cons_succ]
    refine tkG 2 21 hH ?_
    try simp only [Act.put, List.setIfInBounds_toArray, List.set_cons_zero, List.set_cons_succ]
    refine tkG 3 22 hH ?_
    try simp only [Act.put, List.setIfInBounds_toArray, List.set_cons_zero, List.set_cons_succ]
    refine tkG 4 23 hH ?_
    try simp only [Act.put, List.setIfInBounds_toArray, List.set_cons_zero, List.set_cons_succ]
    refine tkG 5 24 hH ?_
    try simp only [Act.put, List.setIfInBounds_toArray, List.set_cons_zero, List.set_cons_succ]
    refine tkG 6 25 hH ?_
    try simp only [Act.put, List.setIfInBounds_toArray, List.set_cons_zero, List.set_cons_succ]
    refine tkG 7 26 hH ?_
    try simp only [Act.put, List.setIfInBounds_toArray, List.set_cons_zero, List.set_cons_succ]
    refine tkG 8 27 hH ?_
    try simp only [Act.put, List.setIfInBounds_toArray, List.set_cons_zero, List.set_cons_succ]
    refine tkG 9 18 hH ?_
    try simp only [Act.put, List.setIfInBounds_toArray, List.set_cons_zero, List.set_cons_succ]
    refine wpAnyH_done (by kernel_rfl) ?_ _
    refine NoPanic.normal ?_
    replace Q := Q.on ((Below.refl _ W1).drew)
    clear hH d0 d1 e0 e1 e2 e3 xvm xvc
    generalize W1.drew = V at Q ⊢
    obtain ⟨z0, z1, z2, z3⟩ := (Q.bx ⟨w.heap.size + 2, w.heap.size + 3, ⟨.slice none 0 0, .slice none 0 0, [], []⟩⟩ (by simp)).facts
    obtain ⟨o0, o1, -, -⟩ := (Q.bx ⟨ob, lo, ⟨.slice ya yn yc, .slice yd ym ye, X.mon, X.cnt⟩⟩ (by simp)).facts
    simp only at z0 z1 z2 z3 o0 o1
    have zz := ((Q.bx ⟨w.heap.size + 2, w.heap.size + 3, ⟨.slice none 0 0, .slice none 0 0, [], []⟩⟩ (by simp)).set0 (u := .slice ya yn yc)).set1 (u := .slice yd ym ye)
    obtain ⟨f0, f1, -, -⟩ := zz.facts
    have HF : Hid (MovRes _ _ _ _ _ _) := moved_end (k := 2) Q (Q.ow ⟨ob, lo, ⟨.slice ya yn yc, .slice yd ym ye, X.mon, X.cnt⟩⟩ (by simp)) hlo RM RC
    clear Q zz
    go_wp2
    exact bodyPost_ret (v := .tuple #[.agg #[.slice ya yn yc, .slice yd ym ye], .int .i64 2]) (by simp [results, Tryd.results9, go_sem, f0, f1]) rfl (movRes_k HF.out RKH.out.symm)
end Go.Proofs.YtdleolgkbkoekaaDoor
