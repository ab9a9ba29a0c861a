/- The contracts of both Moved. -/
-- UNF Gen
import Derived.Test.YtdleolgkbkoekaaDoorBnkPay
namespace Go.Proofs.YtdleolgkbkoekaaDoor
open Go.RowKit
theorem moved_start (X : BkX) (m : Mov) (w : World) : QB w (((w.alloc (.cells #[X.vm, X.vc] 26)).alloc (.cells #[.int .i64 m.fr, .int .i64 m.to', .int .i64 m.sum, .int .i64 m.cou] 28)).alloc (.cells #[.slice none 0 0, .slice none 0 0] 26)) (some X) (some (28, m)) [⟨w.heap.size + 2, w.heap.size + 3, ⟨.slice none 0 0, .slice none 0 0, [], []⟩⟩] := by
  have t0 := bkAt_new w X 26
  have s0 : (w.alloc (.cells #[X.vm, X.vc] 26)).heap.size = w.heap.size + 1 := by simp
  have t1 := heap_alloc_new (w.alloc (.cells #[X.vm, X.vc] 26)) (.cells #[.int .i64 m.fr, .int .i64 m.to', .int .i64 m.sum, .int .i64 m.cou] 28)
  rw [s0] at t1
  have b1 := below1 (w.alloc (.cells #[X.vm, X.vc] 26)) (.cells #[.int .i64 m.fr, .int .i64 m.to', .int .i64 m.sum, .int .i64 m.cou] 28)
  have s1 : ((w.alloc (.cells #[X.vm, X.vc] 26)).alloc (.cells #[.int .i64 m.fr, .int .i64 m.to', .int .i64 m.sum, .int .i64 m.cou] 28)).heap.size = w.heap.size + 2 := by simp
  have b2 := below1 ((w.alloc (.cells #[X.vm, X.vc] 26)).alloc (.cells #[.int .i64 m.fr, .int .i64 m.to', .int .i64 m.sum, .int .i64 m.cou] 28)) (.cells #[.slice none 0 0, .slice none 0 0] 26)
  have t2 := boxBk_new ((w.alloc (.cells #[X.vm, X.vc] 26)).alloc (.cells #[.int .i64 m.fr, .int .i64 m.to', .int .i64 m.sum, .int .i64 m.cou] 28)) (.slice none 0 0) (.slice none 0 0)
  rw [s1] at t2
  refine ⟨(below2 w _ _).trans (b2.mono (by simp; omega)), fun X' e => ?_, fun t m' e => ?_, fun i hi => ?_, fun i hi => ?_⟩
  · cases e
    exact (t0.below b1).below b2
  · cases e
    exact (b2.block _ (by simp)).trans t1
  · obtain rfl := List.mem_singleton.1 hi
    exact t2
  · obtain rfl := List.mem_singleton.1 hi
    exact ownBk_zero _ _
theorem moved_end {w W : World} {X : BkX} {mt : Option (TypeId × Mov)} {l : List BI} {lo : Nat} {Y : BkX} {ms cs : List Int} {k : Int} (Q : QB w W (some X) mt l) (ho : OwnBk W lo Y) (hlo : w.heap.size + 3 ≤ lo) (hm : Y.mon = ms) (hc : Y.cnt = cs) :
    MovRes w ms cs k (.returned (.tuple #[.agg #[Y.vm, Y.vc], .int .i64 k])) ((W.setCell ⟨w.heap.size + 2, 0, none⟩ Y.vm).setCell ⟨w.heap.size + 2, 1, none⟩ Y.vc) :=
  ⟨Y, rfl, hm, hc, ⟨OwnI.mono (row_base (row_base ho.mon (by omega)) (by omega)) (by omega), OwnI.mono (row_base (row_base ho.cnt (by omega)) (by omega)) (by omega), ho.two⟩, (Q.bel.setCell (p := ⟨w.heap.size + 2, 0, none⟩) (by simp) _).setCell (p := ⟨w.heap.size + 2, 1, none⟩) (by simp) _⟩
theorem movRes_zero {w W : World} {X : BkX} {mt : Option (TypeId × Mov)} {l : List BI} {ms cs : List Int} {k : Int} (Q : QB w W (some X) mt l) (hm : ms = []) (hc : cs = []) :
    MovRes w ms cs k (.returned (.tuple #[.agg #[.slice none 0 0, .slice none 0 0], .int .i64 k])) ((W.setCell ⟨w.heap.size + 2, 0, none⟩ (.slice none 0 0)).setCell ⟨w.heap.size + 2, 1, none⟩ (.slice none 0 0)) :=
  moved_end (lo := w.heap.size + 3) (Y := ⟨.slice none 0 0, .slice none 0 0, [], []⟩) Q (ownBk_zero _ _) (Nat.le_refl _) hm.symm hc.symm
/-- A bank and a number that were told: the rows written out. -/
theorem MovRes.open {w w' : World} {ms cs : List Int} {k : Int} {e : Ending} (h : MovRes w ms cs k e w') : ∃ (a : Option Addr) (n c : Nat) (a' : Option Addr) (n' c' : Nat), e = .returned (.tuple #[.agg #[.slice a n c, .slice a' n' c'], .int .i64 k]) ∧ OwnBk w' w.heap.size ⟨.slice a n c, .slice a' n' c', ms, cs⟩ ∧ Below w.heap.size w w' := by
  obtain ⟨⟨vm, vc, m, c⟩, rfl, h1, h2, ho, hb⟩ := h
  simp only at h1 h2
  subst h1
  subst h2
  obtain ⟨a, n, e1⟩ := ownSl ho.mon
  obtain ⟨a', n', e2⟩ := ownSl ho.cnt
  simp only at e1 e2
  subst e1
  subst e2
  exact ⟨_, _, _, _, _, _, rfl, ho, hb⟩
theorem movRes_k {w w' : World} {ms cs : List Int} {k k' : Int} {e : Ending} (h : MovRes w ms cs k e w') (hk : k = k') : MovRes w ms cs k' e w' := by rw [← hk]; exact h
theorem cod_all (ms cs : List Int) (m : Mov) : (codR ms cs m = 1 ∧ movM ms cs m = [] ∧ movC ms cs m = []) ∨ ((codR ms cs m = 2 ∨ codR ms cs m = 3) ∧ movM ms cs m = ms ∧ movC ms cs m = cs) ∨ (codR ms cs m = 0 ∧ BankP ms cs ∧ MovP m ∧ movM ms cs m = payM ms m.fr.toNat m.to'.toNat m.sum ∧ movC ms cs m = payC cs m.fr.toNat) := by
  cases h1 : bankOk ms cs with
  | false => exact .inl (codR_bad (.inl h1))
  | true =>
    cases h2 : movOk m with
    | false => exact .inl (codR_bad (.inr h2))
    | true =>
      have hb := bankOk_iff.1 h1
      have hm := movOk_iff.1 h2
      obtain ⟨f, t, hf, ht, he⟩ := mov_nat hm
      generalize m.sum = s at he
      generalize m.cou = c at he
      subst he
      by_cases h3 : c = nthI cs f
      · by_cases h4 : nthI ms f < s
        · obtain ⟨a, b, d⟩ := codR_three hb hm h3 h4
          exact .inr (.inl ⟨.inr a, b, d⟩)
        · obtain ⟨a, b, d⟩ := codR_done hb hm h3 h4
          exact .inr (.inr ⟨a, hb, hm, by simpa using b, by simpa using d⟩)
      · obtain ⟨a, b, d⟩ := codR_two hb hm h3
        exact .inr (.inl ⟨.inl a, b, d⟩)
set_option maxHeartbeats 8000000 in
set_option maxRecDepth 100000 in
theorem implMoved_any (X : BkX) (m : Mov) (w : World) (hx : RdBk w X) (hl : X.mon.length + X.cnt.length ≤ 1048576) :
    Calls Tryd.prog 6 #[.agg #[X.vm, X.vc], .agg #[.int .i64 m.fr, .int .i64 m.to', .int .i64 m.sum, .int .i64 m.cou]] w fun e w' => MovRes w (movM X.mon X.cnt m) (movC X.mon X.cnt m) (codR X.mon X.cnt m) e w' := by
  have HC : Hid (∀ W, RdBk W X → Calls Tryd.prog 26 #[.agg #[X.vm, X.vc]] W fun e w' => ToBk W X.mon X.cnt e w') := fun W h => copiedBk_any X W h (.inr hl)
  have HK : Hid (∀ W, RdBk W X → Calls Tryd.prog 27 #[.agg #[X.vm, X.vc], .agg #[.int .i64 m.fr, .int .i64 m.to', .int .i64 m.sum, .int .i64 m.cou]] W fun e w' => e = .returned (.int .i64 (codR X.mon X.cnt m)) ∧ Below W.heap.size W w') := fun W h => codeOf_any X m W h
  have Q := moved_start X m w
  have hs0 : w.heap.size + 3 ≤ (((w.alloc (.cells #[X.vm, X.vc] 26)).alloc (.cells #[.int .i64 m.fr, .int .i64 m.to', .int .i64 m.sum, .int .i64 m.cou] 28)).alloc (.cells #[.slice none 0 0, .slice none 0 0] 26)).heap.size := by simp
  have HCOD : Hid ((codR X.mon X.cnt m = 1 ∧ movM X.mon X.cnt m = [] ∧ movC X.mon X.cnt m = []) ∨ ((codR X.mon X.cnt m = 2 ∨ codR X.mon X.cnt m = 3) ∧ movM X.mon X.cnt m = X.mon ∧ movC X.mon X.cnt m = X.cnt) ∨ (codR X.mon X.cnt m = 0 ∧ BankP X.mon X.cnt ∧ MovP m ∧ movM X.mon X.cnt m = payM X.mon m.fr.toNat m.to'.toNat m.sum ∧ movC X.mon X.cnt m = payC X.cnt m.fr.toNat)) := cod_all X.mon X.cnt m
  generalize codR X.mon X.cnt m = code at HK HCOD
  generalize movM X.mon X.cnt m = RMM at HCOD
  generalize movC X.mon X.cnt m = RCC at HCOD
  obtain ⟨d0, d1⟩ := Q.arg X rfl
  clear hl
  go_enter Tryd.func6, Tryd.ntmps6
  go_wp2_with fail
  generalize (((w.alloc (.cells #[X.vm, X.vc] 26)).alloc (.cells #[.int .i64 m.fr, .int .i64 m.to', .int .i64 m.sum, .int .i64 m.cou] 28)).alloc (.cells #[.slice none 0 0, .slice none 0 0] 26)) = W0 at Q hs0 d0 d1 ⊢
  refine (HC.out _ (hx.below Q.bel)).mono ?_
  intro e w1 h1
  obtain ⟨ya, yn, yc, yd, ym, ye, rfl, oY, hb1⟩ := h1.open
  clear h1 d0 d1
  have hlo : w.heap.size + 3 ≤ W0.heap.size := hs0
  have QA := (Q.on hb1).on (below1 w1 (.cells #[.slice ya yn yc, .slice yd ym ye] 26))
  replace Q := QB.put (Y := ⟨.slice ya yn yc, .slice yd ym ye, X.mon, X.cnt⟩) QA (boxBk_new _ _ _) (oY.below (below1 _ _))
  clear QA hb1 oY HC
  obtain ⟨d0, d1⟩ := Q.arg X rfl
  obtain ⟨e0, e1, e2, e3⟩ := (Q.mov _ _ rfl).facts
  generalize W0.heap.size = lo at Q hlo
  clear hs0
  go_wp2_with fail
  generalize w1.alloc (.cells #[.slice ya yn yc, .slice yd ym ye] 26) = W1 at Q d0 d1 e0 e1 e2 e3 ⊢
  generalize w1.heap.size = ob at Q ⊢
  refine (HK.out _ (hx.below Q.bel)).mono ?_
  rintro e w2 ⟨rfl, hb2⟩
  replace Q := Q.on hb2
  clear d0 d1 e0 e1 e2 e3 hb2 HK
  rcases HCOD.out with ⟨h1, h2, h3⟩ | ⟨h1, h2, h3⟩ | ⟨h1, hbp, hmp, h2, h3⟩
  · subst h1
    have RM := h2
    have RC := h3
    clear HCOD
    obtain ⟨z0, z1, z2, z3⟩ := (Q.bx ⟨w.heap.size + 2, w.heap.size + 3, ⟨.slice none 0 0, .slice none 0 0, [], []⟩⟩ (by simp)).facts
    simp only at z0 z1 z2 z3
    have zz := ((Q.bx ⟨w.heap.size + 2, w.heap.size + 3, ⟨.slice none 0 0, .slice none 0 0, [], []⟩⟩ (by simp)).set0 (u := .slice none 0 0)).set1 (u := .slice none 0 0)
    obtain ⟨f0, f1, -, -⟩ := zz.facts
    have HF : Hid (MovRes _ _ _ _ _ _) := movRes_zero (k := 1) Q RM RC
    clear Q zz
    go_wp2
    exact bodyPost_ret (v := .tuple #[.agg #[.slice none 0 0, .slice none 0 0], .int .i64 1]) (by simp [results, Tryd.results6, go_sem, f0, f1]) rfl HF.out
  · have RM := h2.symm
    have RC := h3.symm
    clear HCOD h2 h3
    rcases h1 with h1 | h1
    · subst h1
      obtain ⟨z0, z1, z2, z3⟩ := (Q.bx ⟨w.heap.size + 2, w.heap.size + 3, ⟨.slice none 0 0, .slice none 0 0, [], []⟩⟩ (by simp)).facts
      obtain ⟨o0, o1, -, -⟩ := (Q.bx ⟨ob, lo, ⟨.slice ya yn yc, .slice yd ym ye, X.mon, X.cnt⟩⟩ (by simp)).facts
      simp only at z0 z1 z2 z3 o0 o1
      have zz := ((Q.bx ⟨w.heap.size + 2, w.heap.size + 3, ⟨.slice none 0 0, .slice none 0 0, [], []⟩⟩ (by simp)).set0 (u := .slice ya yn yc)).set1 (u := .slice yd ym ye)
      obtain ⟨f0, f1, -, -⟩ := zz.facts
      have HF : Hid (MovRes _ _ _ _ _ _) := moved_end (k := 2) Q (Q.ow ⟨ob, lo, ⟨.slice ya yn yc, .slice yd ym ye, X.mon, X.cnt⟩⟩ (by simp)) hlo RM RC
      clear Q zz
      go_wp2
      exact bodyPost_ret (v := .tuple #[.agg #[.slice ya yn yc, .slice yd ym ye], .int .i64 2]) (by simp [results, Tryd.results6, go_sem, f0, f1]) rfl HF.out
    · subst h1
      obtain ⟨z0, z1, z2, z3⟩ := (Q.bx ⟨w.heap.size + 2, w.heap.size + 3, ⟨.slice none 0 0, .slice none 0 0, [], []⟩⟩ (by simp)).facts
      obtain ⟨o0, o1, -, -⟩ := (Q.bx ⟨ob, lo, ⟨.slice ya yn yc, .slice yd ym ye, X.mon, X.cnt⟩⟩ (by simp)).facts
      simp only at z0 z1 z2 z3 o0 o1
      have zz := ((Q.bx ⟨w.heap.size + 2, w.heap.size + 3, ⟨.slice none 0 0, .slice none 0 0, [], []⟩⟩ (by simp)).set0 (u := .slice ya yn yc)).set1 (u := .slice yd ym ye)
      obtain ⟨f0, f1, -, -⟩ := zz.facts
      have HF : Hid (MovRes _ _ _ _ _ _) := moved_end (k := 3) Q (Q.ow ⟨ob, lo, ⟨.slice ya yn yc, .slice yd ym ye, X.mon, X.cnt⟩⟩ (by simp)) hlo RM RC
      clear Q zz
      go_wp2
      exact bodyPost_ret (v := .tuple #[.agg #[.slice ya yn yc, .slice yd ym ye], .int .i64 3]) (by simp [results, Tryd.results6, go_sem, f0, f1]) rfl HF.out
  · subst h1
    obtain ⟨f, t, hf, ht, hm⟩ := mov_nat hmp
    obtain ⟨a, b, s, c⟩ := m
    simp only [Mov.mk.injEq, and_true] at hm
    obtain ⟨rfl, rfl⟩ := hm
    simp only [Int.toNat_natCast] at h2 h3
    have owY := Q.ow ⟨ob, lo, ⟨.slice ya yn yc, .slice yd ym ye, X.mon, X.cnt⟩⟩ (by simp)
    have bxY := Q.bx ⟨ob, lo, ⟨.slice ya yn yc, .slice yd ym ye, X.mon, X.cnt⟩⟩ (by simp)
    simp only at owY bxY
    obtain ⟨gm, cm, e1⟩ := ownI_some owY.mon (by intro h; have := hbp.1.1; simp only at h; rw [h] at this; simp at this)
    obtain ⟨gc, cc, e2⟩ := ownI_some owY.cnt (by intro h; have := hbp.2.1.1; simp only at h; rw [h] at this; simp at this)
    simp only [hbp.1.1, hbp.2.1.1, Value.slice.injEq] at e1 e2
    obtain ⟨e1a, e1b, e1c⟩ := e1
    obtain ⟨e2a, e2b, e2c⟩ := e2
    obtain rfl := e1c.symm
    obtain rfl := e2c.symm
    subst e1a
    subst e1b
    subst e2a
    subst e2b
    have HPY : Hid (∀ W, OwnBk W lo ⟨.slice (some ⟨gm, 0, none⟩) 8 cm, .slice (some ⟨gc, 0, none⟩) 8 cc, X.mon, X.cnt⟩ → Calls Tryd.prog 28 #[.agg #[.slice (some ⟨gm, 0, none⟩) 8 cm, .slice (some ⟨gc, 0, none⟩) 8 cc], .agg #[.int .i64 (f : Int), .int .i64 (t : Int), .int .i64 s, .int .i64 c]] W fun e w' => e = .returned (.tuple #[]) ∧ OwnBk w' lo ⟨.slice (some ⟨gm, 0, none⟩) 8 cm, .slice (some ⟨gc, 0, none⟩) 8 cc, payM X.mon f t s, payC X.cnt f⟩ ∧ Touch [gm, gc] W w') := fun W h => pay_any gm cm gc cc f t s c X.mon X.cnt lo W h hbp.1 hbp.2.1 hf ht hmp.2.2.1
    obtain ⟨e0, e1, e2, e3⟩ := (Q.mov _ _ rfl).facts
    obtain ⟨o0, o1, -, -⟩ := bxY.facts
    simp only at e0 e1 e2 e3
    clear HCOD hbp hmp
    go_wp2_with fail
    refine (HPY.out _ owY).mono ?_
    rintro e w3 ⟨rfl, owZ, hto⟩
    have bz : bkB ⟨.slice (some ⟨gm, 0, none⟩) 8 cm, .slice (some ⟨gc, 0, none⟩) 8 cc, X.mon, X.cnt⟩ = [gm, gc] := rfl
    have bdY : ∀ k ∈ [gm, gc], lo ≤ k := fun k hk => (owY.bound (by rw [bz]; exact hk)).1
    have bxZ : BoxBk w3 ob (.slice (some ⟨gm, 0, none⟩) 8 cm) (.slice (some ⟨gc, 0, none⟩) 8 cc) := bxY.of_block (hto.block _ bxY.lt (by rw [← bz]; exact bxY.out owY))
    have QD := Q.drop
    have QE := QD.touch hto (fun k hk => by have := bdY k hk; omega) (fun _ _ e => by have := bdY _ e; omega) (fun _ _ _ e => by have := bdY _ e; omega) (fun i hi e => by obtain rfl := List.mem_singleton.1 hi; have := bdY _ e; simp only at this; omega) (fun i hi k hk => by obtain rfl := List.mem_singleton.1 hi; simp [bkB, oneB, Value.ownBlock] at hk)
    clear Q QD
    have Q := QB.put (Y := ⟨.slice (some ⟨gm, 0, none⟩) 8 cm, .slice (some ⟨gc, 0, none⟩) 8 cc, payM X.mon f t s, payC X.cnt f⟩) QE bxZ owZ
    have RM := h2.symm
    have RC := h3.symm
    clear QE owY bxY owZ bxZ bz bdY hto e0 e1 e2 e3 o0 o1 h2 h3
    obtain ⟨z0, z1, z2, z3⟩ := (Q.bx ⟨w.heap.size + 2, w.heap.size + 3, ⟨.slice none 0 0, .slice none 0 0, [], []⟩⟩ (by simp)).facts
    obtain ⟨o0, o1, -, -⟩ := (Q.bx ⟨ob, lo, ⟨.slice (some ⟨gm, 0, none⟩) 8 cm, .slice (some ⟨gc, 0, none⟩) 8 cc, payM X.mon f t s, payC X.cnt f⟩⟩ (by simp)).facts
    simp only at z0 z1 z2 z3 o0 o1
    have zz := ((Q.bx ⟨w.heap.size + 2, w.heap.size + 3, ⟨.slice none 0 0, .slice none 0 0, [], []⟩⟩ (by simp)).set0 (u := .slice (some ⟨gm, 0, none⟩) 8 cm)).set1 (u := .slice (some ⟨gc, 0, none⟩) 8 cc)
    obtain ⟨f0, f1, -, -⟩ := zz.facts
    have HF : Hid (MovRes _ _ _ _ _ _) := moved_end (k := 0) Q (Q.ow ⟨ob, lo, ⟨.slice (some ⟨gm, 0, none⟩) 8 cm, .slice (some ⟨gc, 0, none⟩) 8 cc, payM X.mon f t s, payC X.cnt f⟩⟩ (by simp)) hlo RM RC
    clear Q zz
    go_wp2
    exact bodyPost_ret (v := .tuple #[.agg #[.slice (some ⟨gm, 0, none⟩) 8 cm, .slice (some ⟨gc, 0, none⟩) 8 cc], .int .i64 0]) (by simp [results, Tryd.results6, go_sem, f0, f1]) rfl HF.out
end Go.Proofs.YtdleolgkbkoekaaDoor
