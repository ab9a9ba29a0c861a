/- The contracts of a move's code, of the payment, and of both Moved. -/
-- UNF Gen
import Derived.Test.YtdleolgkbkoekaaDoorBnkCpy
namespace Go.Proofs.YtdleolgkbkoekaaDoor
open Go.RowKit
/-- What is paid. -/
def payM (ms : List Int) (f t : Nat) (s : Int) : List Int := (ms.set f (nthI ms f - s)).set t (nthI (ms.set f (nthI ms f - s)) t + s)
def payC (cs : List Int) (f : Nat) : List Int := cs.set f (nthI cs f + 1)
def codR (ms cs : List Int) (m : Mov) : Int := if ¬ (BankP ms cs ∧ MovP m) then 1 else if m.cou ≠ nthI cs m.fr.toNat then 2 else if nthI ms m.fr.toNat < m.sum then 3 else 0
def movM (ms cs : List Int) (m : Mov) : List Int := if codR ms cs m = 1 then [] else if codR ms cs m = 0 then payM ms m.fr.toNat m.to'.toNat m.sum else ms
def movC (ms cs : List Int) (m : Mov) : List Int := if codR ms cs m = 1 then [] else if codR ms cs m = 0 then payC cs m.fr.toNat else cs
theorem ownI_set {w : World} {B g n cap : Nat} {ns : List Int} (h : OwnI w B (.slice (some ⟨g, 0, none⟩) n cap) ns) (j : Nat) (x : Int) : OwnI (w.setCell ⟨g, j, none⟩ (.int .i64 x)) B (.slice (some ⟨g, 0, none⟩) n cap) (ns.set j x) := by
  obtain rfl : n = ns.length := by obtain ⟨a, c, e⟩ := ownSl h; simp only [Value.slice.injEq] at e; exact e.2.1
  unfold OwnI
  rw [IV_set, List.length_set]
  exact (World.ownsRow.stored h j _).1
theorem ownI_cell {w : World} {B g n cap : Nat} {ns : List Int} (h : OwnI w B (.slice (some ⟨g, 0, none⟩) n cap) ns) (j : Nat) (hj : j < ns.length) : w.cell? ⟨g, j, none⟩ = some (.int .i64 (nthI ns j)) ∧ w.frozen? ⟨g, j, none⟩ = false := by
  obtain rfl : n = ns.length := by obtain ⟨a, c, e⟩ := ownSl h; simp only [Value.slice.injEq] at e; exact e.2.1
  refine ⟨?_, World.ownsRow.frozenAt h j⟩
  have := World.ownsRow.cellAt h j (by omega)
  rw [IV_get ns j hj] at this
  rw [nthI_eq hj]
  exact this
theorem nthI_set {ns : List Int} {i j : Nat} {x : Int} (hi : i < ns.length) : nthI (ns.set i x) j = if j = i then x else nthI ns j := by
  unfold nthI
  by_cases h : j = i
  · subst h; simp [hi]
  · rw [if_neg h]
    simp only [List.getD]
    rw [List.getElem?_set_ne (fun e => h e.symm)]
theorem codR_bad {ms cs : List Int} {m : Mov} (h : bankOk ms cs = false ∨ movOk m = false) : codR ms cs m = 1 ∧ movM ms cs m = [] ∧ movC ms cs m = [] := by
  have e : codR ms cs m = 1 := by
    unfold codR
    rw [if_pos]
    rintro ⟨h1, h2⟩
    rcases h with h | h
    · rw [bankOk_iff.2 h1] at h; cases h
    · rw [movOk_iff.2 h2] at h; cases h
  exact ⟨e, by unfold movM; rw [if_pos e], by unfold movC; rw [if_pos e]⟩
theorem codR_two {ms cs : List Int} {f t : Nat} {s c : Int} (h1 : BankP ms cs) (h2 : MovP ⟨(f : Int), (t : Int), s, c⟩) (h : c ≠ nthI cs f) : codR ms cs ⟨(f : Int), (t : Int), s, c⟩ = 2 ∧ movM ms cs ⟨(f : Int), (t : Int), s, c⟩ = ms ∧ movC ms cs ⟨(f : Int), (t : Int), s, c⟩ = cs := by
  have e : codR ms cs ⟨(f : Int), (t : Int), s, c⟩ = 2 := by
    unfold codR
    rw [if_neg (fun H => H ⟨h1, h2⟩), if_pos]
    simpa using h
  exact ⟨e, by unfold movM; rw [e]; rfl, by unfold movC; rw [e]; rfl⟩
theorem codR_three {ms cs : List Int} {f t : Nat} {s c : Int} (h1 : BankP ms cs) (h2 : MovP ⟨(f : Int), (t : Int), s, c⟩) (h : c = nthI cs f) (h3 : nthI ms f < s) : codR ms cs ⟨(f : Int), (t : Int), s, c⟩ = 3 ∧ movM ms cs ⟨(f : Int), (t : Int), s, c⟩ = ms ∧ movC ms cs ⟨(f : Int), (t : Int), s, c⟩ = cs := by
  have e : codR ms cs ⟨(f : Int), (t : Int), s, c⟩ = 3 := by
    unfold codR
    rw [if_neg (fun H => H ⟨h1, h2⟩), if_neg (fun H => H (by simpa using h)), if_pos (by simpa using h3)]
  exact ⟨e, by unfold movM; rw [e]; rfl, by unfold movC; rw [e]; rfl⟩
theorem codR_done {ms cs : List Int} {f t : Nat} {s c : Int} (h1 : BankP ms cs) (h2 : MovP ⟨(f : Int), (t : Int), s, c⟩) (h : c = nthI cs f) (h3 : ¬ nthI ms f < s) : codR ms cs ⟨(f : Int), (t : Int), s, c⟩ = 0 ∧ movM ms cs ⟨(f : Int), (t : Int), s, c⟩ = payM ms f t s ∧ movC ms cs ⟨(f : Int), (t : Int), s, c⟩ = payC cs f := by
  have e : codR ms cs ⟨(f : Int), (t : Int), s, c⟩ = 0 := by
    unfold codR
    rw [if_neg (fun H => H ⟨h1, h2⟩), if_neg (fun H => H (by simpa using h)), if_neg (by simpa using h3)]
  exact ⟨e, by unfold movM; rw [e]; rfl, by unfold movC; rw [e]; rfl⟩
/-- A right move's accounts are plain numbers. -/
theorem mov_nat {m : Mov} (h : MovP m) : ∃ f t : Nat, f < 8 ∧ t < 8 ∧ m = ⟨(f : Int), (t : Int), m.sum, m.cou⟩ := by
  obtain ⟨a, b, s, c⟩ := m
  obtain ⟨h1, h2, -, -⟩ := h
  simp only at h1 h2
  exact ⟨a.toNat, b.toNat, by omega, by omega, by simp; omega⟩
def MovRes (w : World) (ms cs : List Int) (k : Int) (e : Ending) (w' : World) : Prop := ∃ Y : BkX, e = .returned (.tuple #[.agg #[Y.vm, Y.vc], .int .i64 k]) ∧ Y.mon = ms ∧ Y.cnt = cs ∧ OwnBk w' w.heap.size Y ∧ Below w.heap.size w w'
set_option maxHeartbeats 4000000 in
set_option maxRecDepth 100000 in
theorem codeOf_any (X : BkX) (m : Mov) (w : World) (hx : RdBk w X) :
    Calls Tryd.prog 27 #[.agg #[X.vm, X.vc], .agg #[.int .i64 m.fr, .int .i64 m.to', .int .i64 m.sum, .int .i64 m.cou]] w fun e w' => e = .returned (.int .i64 (codR X.mon X.cnt m)) ∧ Below w.heap.size w w' := by
  have HB : Hid (∀ W, RdBk W X → Calls Tryd.prog 11 #[.agg #[X.vm, X.vc]] W fun e w' => e = .returned (.bool (bankOk X.mon X.cnt)) ∧ Below W.heap.size W w') := fun W h => implBankOk_any X W h
  have HM : Hid (∀ W, Calls Tryd.prog 13 #[.agg #[.int .i64 m.fr, .int .i64 m.to', .int .i64 m.sum, .int .i64 m.cou]] W fun e w' => e = .returned (.bool (movOk m)) ∧ Below W.heap.size W w') := fun W => implMoveOk_any m W
  cases hk : bankOk X.mon X.cnt with
  | false =>
    rw [hk] at HB
    have RES : Hid (codR X.mon X.cnt m = 1) := (codR_bad (.inl hk)).1
    have b0 := below2 w (.cells #[X.vm, X.vc] 26) (.cells #[.int .i64 m.fr, .int .i64 m.to', .int .i64 m.sum, .int .i64 m.cou] 28)
    obtain ⟨d0, d1⟩ := (bkAt_new w X 26).below (below1 _ (.cells #[.int .i64 m.fr, .int .i64 m.to', .int .i64 m.sum, .int .i64 m.cou] 28))
    clear hk HM
    go_enter Tryd.func27, Tryd.ntmps27
    go_wp2_with fail
    refine (HB.out _ (hx.below b0)).mono ?_
    rintro e w1 ⟨rfl, hb1⟩
    have b1 := b0.trans (hb1.mono b0.size)
    clear d0 d1
    go_wp2
    go_ret
    exact ⟨ret_intE RES.out.symm, b1⟩
  | true =>
  rw [hk] at HB
  cases hk2 : movOk m with
  | false =>
    rw [hk2] at HM
    have RES : Hid (codR X.mon X.cnt m = 1) := (codR_bad (.inr hk2)).1
    clear hk hk2
    obtain ⟨a, b, s, c⟩ := m
    simp only at HM RES ⊢
    have b0 := below2 w (.cells #[X.vm, X.vc] 26) (.cells #[.int .i64 a, .int .i64 b, .int .i64 s, .int .i64 c] 28)
    obtain ⟨d0, d1⟩ := (bkAt_new w X 26).below (below1 _ (.cells #[.int .i64 a, .int .i64 b, .int .i64 s, .int .i64 c] 28))
    have tm : Box4 ((w.alloc (.cells #[X.vm, X.vc] 26)).alloc (.cells #[.int .i64 a, .int .i64 b, .int .i64 s, .int .i64 c] 28)) (w.heap.size + 1) 28 ⟨a, b, s, c⟩ := by
      have h := heap_alloc_new (w.alloc (.cells #[X.vm, X.vc] 26)) (.cells #[.int .i64 a, .int .i64 b, .int .i64 s, .int .i64 c] 28)
      rwa [show (w.alloc (.cells #[X.vm, X.vc] 26)).heap.size = w.heap.size + 1 by simp] at h
    go_enter Tryd.func27, Tryd.ntmps27
    go_wp2_with fail
    refine (HB.out _ (hx.below b0)).mono ?_
    rintro e w1 ⟨rfl, hb1⟩
    have b1 := b0.trans (hb1.mono b0.size)
    have tm1 : Box4 w1 (w.heap.size + 1) 28 ⟨a, b, s, c⟩ := (hb1.block _ tm.lt).trans tm
    clear d0 d1 tm hb1
    obtain ⟨e0, e1, e2, e3⟩ := tm1.facts
    simp only at e0 e1 e2 e3
    go_wp2_with fail
    refine (HM.out _).mono ?_
    rintro e w2 ⟨rfl, hb2⟩
    have b2 := b1.trans (hb2.mono b1.size)
    clear e0 e1 e2 e3 tm1
    go_wp2
    go_ret
    exact ⟨ret_intE RES.out.symm, b2⟩
  | true =>
  rw [hk2] at HM
  have HP : Hid (BankP X.mon X.cnt) := bankOk_iff.1 hk
  have HQ := movOk_iff.1 hk2
  obtain ⟨f, t, hf, ht, hm⟩ := mov_nat HQ
  obtain ⟨a, b, s, c⟩ := m
  simp only [Mov.mk.injEq, and_true] at hm
  obtain ⟨rfl, rfl⟩ := hm
  have HQ2 : Hid (MovP ⟨(f : Int), (t : Int), s, c⟩) := HQ
  clear HQ hk hk2
  simp only at HM ⊢
  obtain ⟨vm, vc, mon, cnt⟩ := X
  simp only at HB HP ⊢
  obtain ⟨am, cm, hvm, m1, m2⟩ := rdI_slice hx.mon
  obtain ⟨ac, cc, hvc, c1, c2⟩ := rdI_slice hx.cnt
  simp only at hvm hvc m1 c1
  have hn1 := HP.out.1.1
  have hn2 := HP.out.2.1.1
  rw [hn1] at hvm m1
  rw [hn2] at hvc c1
  subst hvm
  subst hvc
  have hxm := hx.mon
  have hxc := hx.cnt
  simp only at hxm hxc
  obtain ⟨bm, om, rfl, xm⟩ := hxm.nth f (by omega)
  obtain ⟨bc, oc, rfl, xc⟩ := hxc.nth f (by omega)
  clear hxm hxc hn1 hn2
  have b0 := below2 w (.cells #[.slice (some ⟨bm, om, none⟩) 8 cm, .slice (some ⟨bc, oc, none⟩) 8 cc] 26) (.cells #[.int .i64 (f : Int), .int .i64 (t : Int), .int .i64 s, .int .i64 c] 28)
  have t0 := (bkAt_new w ⟨.slice (some ⟨bm, om, none⟩) 8 cm, .slice (some ⟨bc, oc, none⟩) 8 cc, mon, cnt⟩ 26).below (below1 _ (.cells #[.int .i64 (f : Int), .int .i64 (t : Int), .int .i64 s, .int .i64 c] 28))
  obtain ⟨d0, d1⟩ := id t0
  simp only at d0 d1
  have tm : Box4 ((w.alloc (.cells #[.slice (some ⟨bm, om, none⟩) 8 cm, .slice (some ⟨bc, oc, none⟩) 8 cc] 26)).alloc (.cells #[.int .i64 (f : Int), .int .i64 (t : Int), .int .i64 s, .int .i64 c] 28)) (w.heap.size + 1) 28 ⟨(f : Int), (t : Int), s, c⟩ := by
    have h := heap_alloc_new (w.alloc (.cells #[.slice (some ⟨bm, om, none⟩) 8 cm, .slice (some ⟨bc, oc, none⟩) 8 cc] 26)) (.cells #[.int .i64 (f : Int), .int .i64 (t : Int), .int .i64 s, .int .i64 c] 28)
    rwa [show (w.alloc (.cells #[.slice (some ⟨bm, om, none⟩) 8 cm, .slice (some ⟨bc, oc, none⟩) 8 cc] 26)).heap.size = w.heap.size + 1 by simp] at h
  go_enter Tryd.func27, Tryd.ntmps27
  go_wp2_with fail
  refine (HB.out _ (hx.below b0)).mono ?_
  rintro e w1 ⟨rfl, hb1⟩
  have b1 := b0.trans (hb1.mono b0.size)
  have tm1 : Box4 w1 (w.heap.size + 1) 28 ⟨(f : Int), (t : Int), s, c⟩ := (hb1.block _ tm.lt).trans tm
  have t1 := t0.below hb1
  clear d0 d1 tm t0 hb1
  obtain ⟨e0, e1, e2, e3⟩ := tm1.facts
  simp only at e0 e1 e2 e3
  go_wp2_with fail
  refine (HM.out _).mono ?_
  rintro e w2 ⟨rfl, hb2⟩
  have b2 := b1.trans (hb2.mono b1.size)
  have tm2 : Box4 w2 (w.heap.size + 1) 28 ⟨(f : Int), (t : Int), s, c⟩ := (hb2.block _ tm1.lt).trans tm1
  have t2 := t1.below hb2
  clear e0 e1 e2 e3 tm1 t1 b1 hb2
  obtain ⟨e0, e1, e2, e3⟩ := tm2.facts
  obtain ⟨d0, d1⟩ := id t2
  simp only at e0 e1 e2 e3 d0 d1
  have ym := (b2.cell (World.block_lt_of_cell? w _ xm)).trans xm
  have yc := (b2.cell (World.block_lt_of_cell? w _ xc)).trans xc
  clear xm xc
  obtain ⟨pm, hpm⟩ : ∃ pm, pm = nthI mon f := ⟨_, rfl⟩
  obtain ⟨pc, hpc⟩ : ∃ pc, pc = nthI cnt f := ⟨_, rfl⟩
  rw [← hpm] at ym
  rw [← hpc] at yc
  have HPM : Hid (pm = nthI mon f) := hpm
  have HPC : Hid (pc = nthI cnt f) := hpc
  clear hpm hpc
  have hfc : f < cm := by omega
  have hfd : f < cc := by omega
  have hf8 : (f : Int) < 8 := by omega
  by_cases hcc : c = pc
  · have hdc : (c != pc) = false := by simp [hcc]
    have R0 : Hid (∀ h3 : nthI mon f < s, codR mon cnt ⟨(f : Int), (t : Int), s, c⟩ = 3) := fun h3 => (codR_three HP.out HQ2.out (by rw [← HPC.out]; exact hcc) h3).1
    have R1 : Hid (∀ h3 : ¬ nthI mon f < s, codR mon cnt ⟨(f : Int), (t : Int), s, c⟩ = 0) := fun h3 => (codR_done HP.out HQ2.out (by rw [← HPC.out]; exact hcc) h3).1
    clear hcc
    go_wp2_with fail
    refine wp_region_noPanic ?_
    refine wp_region_held_drew (S := fun W => (W.cell? ⟨w.heap.size, 0, none⟩ = some (.slice (some ⟨bm, om, none⟩) 8 cm) ∧ W.cell? ⟨w.heap.size, 1, none⟩ = some (.slice (some ⟨bc, oc, none⟩) 8 cc)) ∧ (W.cell? ⟨w.heap.size + 1, 0, none⟩ = some (.int .i64 (f : Int)) ∧ W.cell? ⟨w.heap.size + 1, 1, none⟩ = some (.int .i64 (t : Int)) ∧ W.cell? ⟨w.heap.size + 1, 2, none⟩ = some (.int .i64 s) ∧ W.cell? ⟨w.heap.size + 1, 3, none⟩ = some (.int .i64 c)) ∧ W.cell? ⟨bm, om + f, none⟩ = some (.int .i64 pm) ∧ W.cell? ⟨bc, oc + f, none⟩ = some (.int .i64 pc)) (by kernel_rfl) ⟨⟨d0, d1⟩, ⟨e0, e1, e2, e3⟩, ym, yc⟩ (fun hH => ?_)
    refine tkG 0 15 hH ?_
    try simp only [Act.put, List.setIfInBounds_toArray, List.set_cons_zero, List.set_cons_succ]
    refine tkG 1 16 hH ?_
    try simp only [Act.put, List.setIfInBounds_toArray, List.set_cons_zero, List.set_cons_succ]
    refine tkG 2 17 hH ?_
    try simp only [Act.put, List.setIfInBounds_toArray, List.set_cons_zero, List.set_cons_succ]
    refine tkG 3 18 hH ?_
    try simp only [Act.put, List.setIfInBounds_toArray, List.set_cons_zero, List.set_cons_succ]
    refine tkG 4 19 hH ?_
    try simp only [Act.put, List.setIfInBounds_toArray, List.set_cons_zero, List.set_cons_succ]
    refine tkG 5 20 hH ?_
    try simp only [Act.put, List.setIfInBounds_toArray, List.set_cons_zero, List.set_cons_succ]
    refine tkG 6 21 hH ?_
    try simp only [Act.put, List.setIfInBounds_toArray, List.set_cons_zero, List.set_cons_succ]
    refine tkG 7 22 hH ?_
    try simp only [Act.put, List.setIfInBounds_toArray, List.set_cons_zero, List.set_cons_succ]
    refine tkG 8 23 hH ?_
    try simp only [Act.put, List.setIfInBounds_toArray, List.set_cons_zero, List.set_cons_succ]
    refine tkG 9 14 hH ?_
    try simp only [Act.put, List.setIfInBounds_toArray, List.set_cons_zero, List.set_cons_succ]
    refine wpAnyH_done (by kernel_rfl) ?_ _
    refine NoPanic.normal ?_
    replace b2 := b2.drew
    clear d0 d1 e0 e1 e2 e3 ym yc t2 tm2
    revert hH b2
    generalize w2.drew = V
    intro hH b2
    by_cases hss : pm < s
    · have hds : decide (pm < s) = true := decide_eq_true hss
      have RES : Hid (codR mon cnt ⟨(f : Int), (t : Int), s, c⟩ = 3) := R0.out (by rw [← HPM.out]; exact hss)
      clear R0 R1 hss
      go_wp2_with fail
      refine wp_region_noPanic ?_
      refine wp_region_held_drew (S := fun W => (W.cell? ⟨w.heap.size, 0, none⟩ = some (.slice (some ⟨bm, om, none⟩) 8 cm) ∧ W.cell? ⟨w.heap.size, 1, none⟩ = some (.slice (some ⟨bc, oc, none⟩) 8 cc)) ∧ (W.cell? ⟨w.heap.size + 1, 0, none⟩ = some (.int .i64 (f : Int)) ∧ W.cell? ⟨w.heap.size + 1, 1, none⟩ = some (.int .i64 (t : Int)) ∧ W.cell? ⟨w.heap.size + 1, 2, none⟩ = some (.int .i64 s) ∧ W.cell? ⟨w.heap.size + 1, 3, none⟩ = some (.int .i64 c)) ∧ W.cell? ⟨bm, om + f, none⟩ = some (.int .i64 pm) ∧ W.cell? ⟨bc, oc + f, none⟩ = some (.int .i64 pc)) (by kernel_rfl) hH (fun hG => ?_)
      refine tkG 0 25 hG ?_
      try simp only [Act.put, List.setIfInBounds_toArray, List.set_cons_zero, List.set_cons_succ]
      refine tkG 1 26 hG ?_
      try simp only [Act.put, List.setIfInBounds_toArray, List.set_cons_zero, List.set_cons_succ]
      refine tkG 2 27 hG ?_
      try simp only [Act.put, List.setIfInBounds_toArray, List.set_cons_zero, List.set_cons_succ]
      refine tkG 3 28 hG ?_
      try simp only [Act.put, List.setIfInBounds_toArray, List.set_cons_zero, List.set_cons_succ]
      refine tkG 4 29 hG ?_
      try simp only [Act.put, List.setIfInBounds_toArray, List.set_cons_zero, List.set_cons_succ]
      refine tkG 5 30 hG ?_
      try simp only [Act.put, List.setIfInBounds_toArray, List.set_cons_zero, List.set_cons_succ]
      refine tkG 6 31 hG ?_
      try simp only [Act.put, List.setIfInBounds_toArray, List.set_cons_zero, List.set_cons_succ]
      refine tkG 7 32 hG ?_
      try simp only [Act.put, List.setIfInBounds_toArray, List.set_cons_zero, List.set_cons_succ]
      refine tkG 8 33 hG ?_
      try simp only [Act.put, List.setIfInBounds_toArray, List.set_cons_zero, List.set_cons_succ]
      refine tkG 9 24 hG ?_
      try simp only [Act.put, List.setIfInBounds_toArray, List.set_cons_zero, List.set_cons_succ]
      refine wpAnyH_done (by kernel_rfl) ?_ _
      refine NoPanic.normal ?_
      clear hG hH
      go_wp2
      go_ret
      exact ⟨ret_intE RES.out.symm, b2.drew⟩
    · have hds : decide (pm < s) = false := decide_eq_false hss
      have RES : Hid (codR mon cnt ⟨(f : Int), (t : Int), s, c⟩ = 0) := R1.out (by rw [← HPM.out]; omega)
      clear R0 R1 hss
      go_wp2_with fail
      refine wp_region_noPanic ?_
      refine wp_region_held_drew (S := fun W => (W.cell? ⟨w.heap.size, 0, none⟩ = some (.slice (some ⟨bm, om, none⟩) 8 cm) ∧ W.cell? ⟨w.heap.size, 1, none⟩ = some (.slice (some ⟨bc, oc, none⟩) 8 cc)) ∧ (W.cell? ⟨w.heap.size + 1, 0, none⟩ = some (.int .i64 (f : Int)) ∧ W.cell? ⟨w.heap.size + 1, 1, none⟩ = some (.int .i64 (t : Int)) ∧ W.cell? ⟨w.heap.size + 1, 2, none⟩ = some (.int .i64 s) ∧ W.cell? ⟨w.heap.size + 1, 3, none⟩ = some (.int .i64 c)) ∧ W.cell? ⟨bm, om + f, none⟩ = some (.int .i64 pm) ∧ W.cell? ⟨bc, oc + f, none⟩ = some (.int .i64 pc)) (by kernel_rfl) hH (fun hG => ?_)
      refine tkG 0 25 hG ?_
      try simp only [Act.put, List.setIfInBounds_toArray, List.set_cons_zero, List.set_cons_succ]
      refine tkG 1 26 hG ?_
      try simp only [Act.put, List.setIfInBounds_toArray, List.set_cons_zero, List.set_cons_succ]
      refine tkG 2 27 hG ?_
      try simp only [Act.put, List.setIfInBounds_toArray, List.set_cons_zero, List.set_cons_succ]
      refine tkG 3 28 hG ?_
      try simp only [Act.put, List.setIfInBounds_toArray, List.set_cons_zero, List.set_cons_succ]
      refine tkG 4 29 hG ?_
      try simp only [Act.put, List.setIfInBounds_toArray, List.set_cons_zero, List.set_cons_succ]
      refine tkG 5 30 hG ?_
      try simp only [Act.put, List.setIfInBounds_toArray, List.set_cons_zero, List.set_cons_succ]
      refine tkG 6 31 hG ?_
      try simp only [Act.put, List.setIfInBounds_toArray, List.set_cons_zero, List.set_cons_succ]
      refine tkG 7 32 hG ?_
      try simp only [Act.put, List.setIfInBounds_toArray, List.set_cons_zero, List.set_cons_succ]
      refine tkG 8 33 hG ?_
      try simp only [Act.put, List.setIfInBounds_toArray, List.set_cons_zero, List.set_cons_succ]
      refine tkG 9 24 hG ?_
      try simp only [Act.put, List.setIfInBounds_toArray, List.set_cons_zero, List.set_cons_succ]
      refine wpAnyH_done (by kernel_rfl) ?_ _
      refine NoPanic.normal ?_
      clear hG hH
      go_wp2
      go_ret
      exact ⟨ret_intE RES.out.symm, b2.drew⟩
  · have hdc : (c != pc) = true := by simp [hcc]
    have RES : Hid (codR mon cnt ⟨(f : Int), (t : Int), s, c⟩ = 2) := (codR_two HP.out HQ2.out (by rw [← HPC.out]; exact hcc)).1
    clear hcc
    go_wp2_with fail
    refine wp_region_noPanic ?_
    refine wp_region_held_drew (S := fun W => (W.cell? ⟨w.heap.size, 0, none⟩ = some (.slice (some ⟨bm, om, none⟩) 8 cm) ∧ W.cell? ⟨w.heap.size, 1, none⟩ = some (.slice (some ⟨bc, oc, none⟩) 8 cc)) ∧ (W.cell? ⟨w.heap.size + 1, 0, none⟩ = some (.int .i64 (f : Int)) ∧ W.cell? ⟨w.heap.size + 1, 1, none⟩ = some (.int .i64 (t : Int)) ∧ W.cell? ⟨w.heap.size + 1, 2, none⟩ = some (.int .i64 s) ∧ W.cell? ⟨w.heap.size + 1, 3, none⟩ = some (.int .i64 c)) ∧ W.cell? ⟨bm, om + f, none⟩ = some (.int .i64 pm) ∧ W.cell? ⟨bc, oc + f, none⟩ = some (.int .i64 pc)) (by kernel_rfl) ⟨⟨d0, d1⟩, ⟨e0, e1, e2, e3⟩, ym, yc⟩ (fun hH => ?_)
    refine tkG 0 15 hH ?_
    try simp only [Act.put, List.setIfInBounds_toArray, List.set_cons_zero, List.set_cons_succ]
    refine tkG 1 16 hH ?_
    try simp only [Act.put, List.setIfInBounds_toArray, List.set_cons_zero, List.set_cons_succ]
    refine tkG 2 17 hH ?_
    try simp only [Act.put, List.setIfInBounds_toArray, List.set_cons_zero, List.set_cons_succ]
    refine tkG 3 18 hH ?_
    try simp only [Act.put, List.setIfInBounds_toArray, List.set_cons_zero, List.set_cons_succ]
    refine tkG 4 19 hH ?_
    try simp only [Act.put, List.setIfInBounds_toArray, List.set_cons_zero, List.set_cons_succ]
    refine tkG 5 20 hH ?_
    try simp only [Act.put, List.setIfInBounds_toArray, List.set_cons_zero, List.set_cons_succ]
    refine tkG 6 21 hH ?_
    try simp only [Act.put, List.setIfInBounds_toArray, List.set_cons_zero, List.set_cons_succ]
    refine tkG 7 22 hH ?_
    try simp only [Act.put, List.setIfInBounds_toArray, List.set_cons_zero, List.set_cons_succ]
    refine tkG 8 23 hH ?_
    try simp only [Act.put, List.setIfInBounds_toArray, List.set_cons_zero, List.set_cons_succ]
    refine tkG 9 14 hH ?_
    try simp only [Act.put, List.setIfInBounds_toArray, List.set_cons_zero, List.set_cons_succ]
    refine wpAnyH_done (by kernel_rfl) ?_ _
    refine NoPanic.normal ?_
    clear hH d0 d1 e0 e1 e2 e3 ym yc t2 tm2
    go_wp2
    go_ret
    exact ⟨ret_intE RES.out.symm, b2.drew⟩
end Go.Proofs.YtdleolgkbkoekaaDoor
