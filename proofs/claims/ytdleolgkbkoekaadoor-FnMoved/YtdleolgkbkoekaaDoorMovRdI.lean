/- The contract of the program's ReadMove. -/
-- UNF Gen
import Derived.Test.YtdleolgkbkoekaaDoorMovRdS
namespace Go.Proofs.YtdleolgkbkoekaaDoor
open Go.RowKit
/-- What the package-level variables hold that moves are read by: the library's powers of ten, its two errors, the longest needle of its search. -/
structure MEnv (w : World) : Prop where
  tab : Tab w
  syn : ∃ te pe, w.cell? ⟨0, 0, none⟩ = some (.iface te pe)
  rng : ∃ te pe, w.cell? ⟨1, 0, none⟩ = some (.iface te pe)
  mx : ∃ m, w.cell? ⟨2, 0, none⟩ = some (.int .i64 m)
theorem MEnv.on {w w' : World} (h : MEnv w) (hb : Below w.heap.size w w') : MEnv w' := by
  refine ⟨h.tab.on hb, ?_, ?_, ?_⟩
  · obtain ⟨te, pe, e⟩ := h.syn
    exact ⟨te, pe, (hb.cell (World.block_lt_of_cell? w _ e)).trans e⟩
  · obtain ⟨te, pe, e⟩ := h.rng
    exact ⟨te, pe, (hb.cell (World.block_lt_of_cell? w _ e)).trans e⟩
  · obtain ⟨m, e⟩ := h.mx
    exact ⟨m, (hb.cell (World.block_lt_of_cell? w _ e)).trans e⟩
theorem parsedM_below {w w' : World} (h : w' = w ∨ ∃ t, w' = Lib.bytesWorld w 5 t) : Below w.heap.size w w' := by
  rcases h with rfl | ⟨t, rfl⟩
  · exact Below.refl _ _
  · exact Lib.bytesWorld_below _ _ _
/-- How a word is parsed: as a number, or with an error. -/
def PW (y : ByteArray) : Option Int → Prop
  | some n => ∀ W, MEnv W → Calls Tryd.prog 43 #[.string y, .int .i64 10, .int .i64 64] W fun e w' => e = .returned (.tuple #[.int .i64 n, .nilIface]) ∧ Below W.heap.size W w'
  | none => ∀ W, MEnv W → Calls Tryd.prog 43 #[.string y, .int .i64 10, .int .i64 64] W fun e w' => (∃ n N, e = .returned (.tuple #[.int .i64 n, .iface 86 (.pointer (some ⟨N, 0, none⟩))])) ∧ Below W.heap.size W w'
theorem pw_ex (y : ByteArray) (hy : y.size ≤ 1048576) : ∃ r, PW y r ∧ ∀ g, 0 ≤ g → g ≤ 1000000000 → y = itoaS g → r = some g := by
  cases hp : Lib.parseIntB 64 y.data.toList with
  | ok v =>
    refine ⟨some v, fun W _ => (Tryd.strconv_ParseInt_10_at64_ok y (by omega) v hp W).mono (by rintro e w3 ⟨rfl, h⟩; exact ⟨rfl, parsedM_below h⟩), fun g g0 g1 e => ?_⟩
    rw [e, parse_itoaZ g g0 g1] at hp
    injection hp with hp
    rw [hp]
  | «syntax» =>
    refine ⟨none, fun W hW => ?_, fun g g0 g1 e => ?_⟩
    · obtain ⟨te, pe, hv⟩ := hW.syn
      refine (Tryd.strconv_ParseInt_10_at64_syntax y (by omega) hp _ W hv (.inr ⟨te, pe, rfl⟩)).mono ?_
      rintro e w4 ⟨N, rfl, _, _, b3⟩
      exact ⟨⟨_, N, rfl⟩, b3⟩
    · rw [e, parse_itoaZ g g0 g1] at hp
      cases hp
  | range =>
    refine ⟨none, fun W hW => ?_, fun g g0 g1 e => ?_⟩
    · obtain ⟨te, pe, hv⟩ := hW.rng
      refine (Tryd.strconv_ParseInt_10_at64_range y (by omega) hp _ W hv (.inr ⟨te, pe, rfl⟩)).mono ?_
      rintro e w4 ⟨N, rfl, _, _, b3⟩
      exact ⟨⟨_, N, rfl⟩, b3⟩
    · rw [e, parse_itoaZ g g0 g1] at hp
      cases hp
/-- What SplitN answers lies in memory of its own. -/
theorem splitN_rd (s : ByteArray) (w : World) (hs : s.size ≤ 1048576) (he : MEnv w) :
    Calls Tryd.prog 42 #[.string s, .string ⟨#[32]⟩, .int .i64 5] w fun e w' => ∃ (b c : Nat) (ys : List ByteArray), e = .returned (.slice (some ⟨b, 0, none⟩) ys.length c) ∧ ys = Lib.splitB ⟨#[32]⟩ 0 (min 5 (s.size + 1) - 1) s ∧ ys.length ≤ c ∧ c ≤ 1048577 ∧ w.heap.size ≤ b ∧ (∀ j (h : j < ys.length), w'.cell? ⟨b, j, none⟩ = some (.string ys[j])) ∧ Below w.heap.size w w' := by
  obtain ⟨m, hm⟩ := he.mx
  refine (Tryd.strings_SplitN s ⟨#[32]⟩ 5 m w (by omega) hm (by decide) (by omega) (by omega)).mono ?_
  rintro e w' ⟨rfl, rfl⟩
  have hl := Lib.splitB_length_le ⟨#[32]⟩ 0 (min 5 (s.size + 1) - 1) s
  refine ⟨w.heap.size, min 5 (s.size + 1), _, rfl, rfl, by omega, by omega, Nat.le_refl _, fun j hj => ?_, below1 w _⟩
  generalize Lib.splitB ⟨#[32]⟩ 0 (min 5 (s.size + 1) - 1) s = ys at hl hj ⊢
  rw [World.cell?_alloc_at]
  · show (List.map Value.string ys ++ _).toArray[j]? = _
    rw [List.getElem?_toArray, List.getElem?_append_left (by simpa using hj), List.getElem?_map, List.getElem?_eq_getElem hj]
    rfl
  · rfl
theorem Box4.set0 {w : World} {b : Nat} {t : TypeId} {m : Mov} (h : Box4 w b t m) (x : Int) : Box4 (w.setCell ⟨b, 0, none⟩ (.int .i64 x)) b t ⟨x, m.to', m.sum, m.cou⟩ := heap_setCell_same w b 0 _ _ (.int .i64 x) h
theorem Box4.set1 {w : World} {b : Nat} {t : TypeId} {m : Mov} (h : Box4 w b t m) (x : Int) : Box4 (w.setCell ⟨b, 1, none⟩ (.int .i64 x)) b t ⟨m.fr, x, m.sum, m.cou⟩ := heap_setCell_same w b 1 _ _ (.int .i64 x) h
theorem Box4.set2 {w : World} {b : Nat} {t : TypeId} {m : Mov} (h : Box4 w b t m) (x : Int) : Box4 (w.setCell ⟨b, 2, none⟩ (.int .i64 x)) b t ⟨m.fr, m.to', x, m.cou⟩ := heap_setCell_same w b 2 _ _ (.int .i64 x) h
theorem Box4.set3 {w : World} {b : Nat} {t : TypeId} {m : Mov} (h : Box4 w b t m) (x : Int) : Box4 (w.setCell ⟨b, 3, none⟩ (.int .i64 x)) b t ⟨m.fr, m.to', m.sum, x⟩ := heap_setCell_same w b 3 _ _ (.int .i64 x) h
/-- Where the walk stands: the answer's box, the words, the numbers' box. -/
structure RQ (w W : World) (b g : Nat) (ys : List ByteArray) (m : Mov) : Prop where
  bel : Below w.heap.size w W
  env : MEnv W
  out : Box4 W w.heap.size 28 movZ
  num : Box4 W g 67 m
  wds : ∀ j (h : j < ys.length), W.cell? ⟨b, j, none⟩ = some (.string ys[j])
  lb : ys.length = 4 → b < W.heap.size
  ne : w.heap.size < b ∧ b < g
theorem RQ.on {w W W' : World} {b g : Nat} {ys : List ByteArray} {m : Mov} (h : RQ w W b g ys m) (hb : Below W.heap.size W W') : RQ w W' b g ys m :=
  ⟨h.bel.trans (hb.mono h.bel.size), h.env.on hb, h.out.below hb, h.num.below hb, fun j hj => (hb.cell (World.block_lt_of_cell? W _ (h.wds j hj))).trans (h.wds j hj), fun e => Nat.lt_of_lt_of_le (h.lb e) hb.size, h.ne⟩
theorem RQ.set {w W : World} {b g j : Nat} {ys : List ByteArray} {m m' : Mov} {x : Int} (h : RQ w W b g ys m) (hg : w.heap.size ≤ g) (hn : Box4 (W.setCell ⟨g, j, none⟩ (.int .i64 x)) g 67 m') (he : MEnv (W.setCell ⟨g, j, none⟩ (.int .i64 x))) : RQ w (W.setCell ⟨g, j, none⟩ (.int .i64 x)) b g ys m' := by
  have n1 := h.ne
  refine ⟨h.bel.setCell (p := ⟨g, j, none⟩) hg _, he, ?_, hn, fun i hi => ?_, fun e => by simpa using h.lb e, n1⟩
  · unfold Box4
    rw [heap_setCell_other W ⟨g, j, none⟩ w.heap.size _ (by show w.heap.size ≠ g; omega)]
    exact h.out
  · have hb : (W.setCell ⟨g, j, none⟩ (.int .i64 x)).heap[b]? = W.heap[b]? := heap_setCell_other W ⟨g, j, none⟩ b _ (by show b ≠ g; omega)
    exact (World.cell?_of_block (a := ⟨b, i, none⟩) hb).trans (h.wds i hi)
theorem MEnv.set {w W : World} {g j : Nat} {u : Value} (h : MEnv w) (hb : Below w.heap.size w W) (hg : w.heap.size ≤ g) : MEnv (W.setCell ⟨g, j, none⟩ u) := h.on (hb.setCell (p := ⟨g, j, none⟩) hg u)
set_option maxHeartbeats 8000000 in
set_option maxRecDepth 100000 in
theorem implReadMove_any (s : ByteArray) (R : Mov) (o : Bool) (w : World) (hs : s.size ≤ 1048576) (hR : RMR s R o) (he : MEnv w) :
    Calls Tryd.prog 32 #[.string s] w fun e w' => e = .returned (.tuple #[.agg #[.int .i64 R.fr, .int .i64 R.to', .int .i64 R.sum, .int .i64 R.cou], .bool o]) ∧ Below w.heap.size w w' := by
  have HR : Hid (RMR s R o) := hR
  have HE : Hid (MEnv w) := he
  clear hR
  have b0 := below1 w (.cells #[.int .i64 0, .int .i64 0, .int .i64 0, .int .i64 0] 28)
  have x0 : Box4 (w.alloc (.cells #[.int .i64 0, .int .i64 0, .int .i64 0, .int .i64 0] 28)) w.heap.size 28 movZ := heap_alloc_new w _
  have e0 := he.on b0
  clear he
  go_enter Tryd.func32, Tryd.ntmps32
  go_wp2_with fail
  generalize w.alloc (.cells #[.int .i64 0, .int .i64 0, .int .i64 0, .int .i64 0] 28) = W0 at b0 x0 e0 ⊢
  refine (splitN_rd s _ hs e0).mono ?_
  rintro e w1 ⟨b, cp, ys, rfl, hys, hc1, hc2, hbl, hcell, hb⟩
  have b1 := b0.trans (hb.mono b0.size)
  have x1 := x0.below hb
  have HB : Hid (w.heap.size < b) := Nat.lt_of_lt_of_le x0.lt hbl
  clear b0 x0 hb e0 hbl
  have HW : Hid (∀ k (h : k < ys.length), ys[k].size ≤ 1048576) := fun k h => by
    have := split_sizes ⟨#[32]⟩ _ s ys[k] (by rw [← hys]; exact List.getElem_mem h)
    omega
  have HY : Hid (o = true → MovP R ∧ ys = mwL R) := fun ho => by
    rcases HR.out with ⟨_, h1, h2⟩ | ⟨h1, _⟩
    · refine ⟨h1, ?_⟩
      rw [hys, ← h2, shw_split h1]
    · rw [ho] at h1; cases h1
  have HP : Hid (ys.length = 4 → 0 < s.size) := fun h4 => by
    rcases Nat.eq_zero_or_pos s.size with h0 | h0
    · rw [hys, h0, show min 5 (0 + 1) - 1 = 0 from rfl, Lib.splitB_zero] at h4
      simp at h4
    · exact h0
  clear hys
  obtain ⟨n, hn⟩ : ∃ n, n = ys.length := ⟨_, rfl⟩
  have HN : Hid (n = ys.length) := hn
  have HCE : Hid (∀ j (h : j < ys.length), w1.cell? ⟨b, j, none⟩ = some (.string ys[j])) := hcell
  rw [← hn] at hc1 ⊢
  clear hn hcell
  by_cases h4 : n = 4
  · subst h4
    obtain ⟨y0, y1, y2, y3, rfl⟩ : ∃ a b c d, ys = [a, b, c, d] := by
      match ys, HN.out with
      | [a, b, c, d], _ => exact ⟨a, b, c, d, rfl⟩
    have hps := HP.out rfl
    have HYQ : Hid (o = true → y0 = itoaS R.fr ∧ y1 = itoaS R.to' ∧ y2 = itoaS R.sum ∧ y3 = itoaS R.cou) := fun ho => by
      have := (HY.out ho).2
      unfold mwL at this
      injection this with e1 e
      injection e with e2 e
      injection e with e3 e
      injection e with e4 e
      exact ⟨e1, e2, e3, e4⟩
    have HMP : Hid (o = true → MovP R) := fun ho => (HY.out ho).1
    obtain ⟨r0, hr0, hq0⟩ := pw_ex y0 (HW.out 0 (by simp))
    obtain ⟨r1, hr1, hq1⟩ := pw_ex y1 (HW.out 1 (by simp))
    obtain ⟨r2, hr2, hq2⟩ := pw_ex y2 (HW.out 2 (by simp))
    obtain ⟨r3, hr3, hq3⟩ := pw_ex y3 (HW.out 3 (by simp))
    have HQ : Hid (o = true → r0 = some R.fr ∧ r1 = some R.to' ∧ r2 = some R.sum ∧ r3 = some R.cou) := fun ho => by
      obtain ⟨e0, e1, e2, e3⟩ := HYQ.out ho
      obtain ⟨⟨a0, a1⟩, ⟨p0, p1⟩, ⟨c0, c1⟩, ⟨d0, d1⟩⟩ := HMP.out ho
      exact ⟨hq0 _ a0 (by omega) e0, hq1 _ p0 (by omega) e1, hq2 _ (by omega) (by omega) e2, hq3 _ d0 (by omega) e3⟩
    clear hq0 hq1 hq2 hq3 HYQ HMP HY HW HP
    have HR0 : Hid (PW y0 r0) := hr0
    have HR1 : Hid (PW y1 r1) := hr1
    have HR2 : Hid (PW y2 r2) := hr2
    have HR3 : Hid (PW y3 r3) := hr3
    clear hr0 hr1 hr2 hr3
    have bA := below1 w1 (.cells #[.int .i64 0, .int .i64 0, .int .i64 0, .int .i64 0] 67)
    have Q0 : RQ w (w1.alloc (.cells #[.int .i64 0, .int .i64 0, .int .i64 0, .int .i64 0] 67)) b w1.heap.size [y0, y1, y2, y3] movZ :=
      ⟨b1.trans (bA.mono b1.size), HE.out.on (b1.trans (bA.mono b1.size)), x1.below bA, heap_alloc_new w1 _, fun j hj => (bA.cell (World.block_lt_of_cell? w1 _ (HCE.out j hj))).trans (HCE.out j hj), fun _ => Nat.lt_of_lt_of_le (World.block_lt_of_cell? w1 _ (HCE.out 0 (by simp))) bA.size, ⟨HB.out, World.block_lt_of_cell? w1 _ (HCE.out 0 (by simp))⟩⟩
    have hgw : w.heap.size ≤ w1.heap.size := b1.size
    have hbw : b < w1.heap.size := World.block_lt_of_cell? w1 _ (HCE.out 0 (by simp))
    clear bA x1 b1 HCE HN HB
    go_wp2
    generalize w1.alloc (.cells #[.int .i64 0, .int .i64 0, .int .i64 0, .int .i64 0] 67) = V0 at Q0 ⊢
    obtain ⟨g, hg⟩ : ∃ g, g = w1.heap.size := ⟨_, rfl⟩
    rw [← hg] at Q0 hgw hbw ⊢
    clear hg
    refine wp_loop_rounds 5 ?_
    rw [rounds_succ]
    have c0 : V0.cell? ⟨b, 0, none⟩ = some (.string y0) := Q0.wds 0 (by simp)
    go_wp2_with fail
    cases r0 with
    | none =>
      obtain ⟨hz, ho, -⟩ := rmr_no HR.out (fun h => by have := (HQ.out h).1; cases this)
      have HZ : Hid (R = movZ ∧ o = false) := ⟨hz, ho⟩
      clear hz ho
      refine (HR0.out _ Q0.env).mono ?_
      rintro e w9 ⟨⟨q, N, rfl⟩, hb9⟩
      have x9 := Q0.out.below hb9
      have b9 := Q0.bel.trans (hb9.mono Q0.bel.size)
      clear c0 hb9 Q0
      obtain ⟨d0, d1, d2, d3⟩ := x9.facts
      obtain ⟨f0, f1, f2, f3⟩ := x9.fz
      obtain ⟨k0, k1, k2, k3⟩ := (x9.put movZ).facts
      have HF : Hid (Below w.heap.size w (put4 w9 w.heap.size movZ)) := put4_below b9 (Nat.le_refl _) movZ
      unfold put4 movZ at k0 k1 k2 k3 HF
      simp only at k0 k1 k2 k3 HF
      clear x9 b9
      go_wp2
      exact bodyPost_ret (v := .tuple #[.agg #[.int .i64 0, .int .i64 0, .int .i64 0, .int .i64 0], .bool false]) (by simp [results, Tryd.results32, go_sem, k0, k1, k2, k3]) rfl ⟨ret_mov HZ.out.1 HZ.out.2, HF.out⟩
    | some v0 =>
      refine (HR0.out _ Q0.env).mono ?_
      rintro e u0 ⟨rfl, hb0⟩
      have P0 := Q0.on hb0
      clear c0 hb0 Q0
      obtain ⟨d0, d1, d2, d3⟩ := P0.num.facts
      obtain ⟨f0, f1, f2, f3⟩ := P0.num.fz
      have Q1 := P0.set (j := 0) (x := v0) (by omega) (P0.num.set0 v0) (HE.out.set P0.bel (by omega))
      go_wp2
      clear d0 d1 d2 d3 f0 f1 f2 f3 P0
      generalize u0.setCell ⟨g, 0, none⟩ (.int .i64 v0) = V1 at Q1 ⊢
      clear u0
      rw [rounds_succ]
      have c1 : V1.cell? ⟨b, 1, none⟩ = some (.string y1) := Q1.wds 1 (by simp)
      go_wp2_with fail
      cases r1 with
      | none =>
        obtain ⟨hz, ho, -⟩ := rmr_no HR.out (fun h => by have := (HQ.out h).2.1; cases this)
        have HZ : Hid (R = movZ ∧ o = false) := ⟨hz, ho⟩
        clear hz ho
        refine (HR1.out _ Q1.env).mono ?_
        rintro e w9 ⟨⟨q, N, rfl⟩, hb9⟩
        have x9 := Q1.out.below hb9
        have b9 := Q1.bel.trans (hb9.mono Q1.bel.size)
        clear c1 hb9 Q1
        obtain ⟨d0, d1, d2, d3⟩ := x9.facts
        obtain ⟨f0, f1, f2, f3⟩ := x9.fz
        obtain ⟨k0, k1, k2, k3⟩ := (x9.put movZ).facts
        have HF : Hid (Below w.heap.size w (put4 w9 w.heap.size movZ)) := put4_below b9 (Nat.le_refl _) movZ
        unfold put4 movZ at k0 k1 k2 k3 HF
        simp only at k0 k1 k2 k3 HF
        clear x9 b9
        go_wp2
        exact bodyPost_ret (v := .tuple #[.agg #[.int .i64 0, .int .i64 0, .int .i64 0, .int .i64 0], .bool false]) (by simp [results, Tryd.results32, go_sem, k0, k1, k2, k3]) rfl ⟨ret_mov HZ.out.1 HZ.out.2, HF.out⟩
      | some v1 =>
        refine (HR1.out _ Q1.env).mono ?_
        rintro e u1 ⟨rfl, hb1⟩
        have P1 := Q1.on hb1
        clear c1 hb1 Q1
        obtain ⟨d0, d1, d2, d3⟩ := P1.num.facts
        obtain ⟨f0, f1, f2, f3⟩ := P1.num.fz
        have Q2 := P1.set (j := 1) (x := v1) (by omega) (P1.num.set1 v1) (HE.out.set P1.bel (by omega))
        go_wp2
        clear d0 d1 d2 d3 f0 f1 f2 f3 P1
        generalize u1.setCell ⟨g, 1, none⟩ (.int .i64 v1) = V2 at Q2 ⊢
        clear u1
        rw [rounds_succ]
        have c2 : V2.cell? ⟨b, 2, none⟩ = some (.string y2) := Q2.wds 2 (by simp)
        go_wp2_with fail
        cases r2 with
        | none =>
          obtain ⟨hz, ho, -⟩ := rmr_no HR.out (fun h => by have := (HQ.out h).2.2.1; cases this)
          have HZ : Hid (R = movZ ∧ o = false) := ⟨hz, ho⟩
          clear hz ho
          refine (HR2.out _ Q2.env).mono ?_
          rintro e w9 ⟨⟨q, N, rfl⟩, hb9⟩
          have x9 := Q2.out.below hb9
          have b9 := Q2.bel.trans (hb9.mono Q2.bel.size)
          clear c2 hb9 Q2
          obtain ⟨d0, d1, d2, d3⟩ := x9.facts
          obtain ⟨f0, f1, f2, f3⟩ := x9.fz
          obtain ⟨k0, k1, k2, k3⟩ := (x9.put movZ).facts
          have HF : Hid (Below w.heap.size w (put4 w9 w.heap.size movZ)) := put4_below b9 (Nat.le_refl _) movZ
          unfold put4 movZ at k0 k1 k2 k3 HF
          simp only at k0 k1 k2 k3 HF
          clear x9 b9
          go_wp2
          exact bodyPost_ret (v := .tuple #[.agg #[.int .i64 0, .int .i64 0, .int .i64 0, .int .i64 0], .bool false]) (by simp [results, Tryd.results32, go_sem, k0, k1, k2, k3]) rfl ⟨ret_mov HZ.out.1 HZ.out.2, HF.out⟩
        | some v2 =>
          refine (HR2.out _ Q2.env).mono ?_
          rintro e u2 ⟨rfl, hb2⟩
          have P2 := Q2.on hb2
          clear c2 hb2 Q2
          obtain ⟨d0, d1, d2, d3⟩ := P2.num.facts
          obtain ⟨f0, f1, f2, f3⟩ := P2.num.fz
          have Q3 := P2.set (j := 2) (x := v2) (by omega) (P2.num.set2 v2) (HE.out.set P2.bel (by omega))
          go_wp2
          clear d0 d1 d2 d3 f0 f1 f2 f3 P2
          generalize u2.setCell ⟨g, 2, none⟩ (.int .i64 v2) = V3 at Q3 ⊢
          clear u2
          rw [rounds_succ]
          have c3 : V3.cell? ⟨b, 3, none⟩ = some (.string y3) := Q3.wds 3 (by simp)
          go_wp2_with fail
          cases r3 with
          | none =>
            obtain ⟨hz, ho, -⟩ := rmr_no HR.out (fun h => by have := (HQ.out h).2.2.2; cases this)
            have HZ : Hid (R = movZ ∧ o = false) := ⟨hz, ho⟩
            clear hz ho
            refine (HR3.out _ Q3.env).mono ?_
            rintro e w9 ⟨⟨q, N, rfl⟩, hb9⟩
            have x9 := Q3.out.below hb9
            have b9 := Q3.bel.trans (hb9.mono Q3.bel.size)
            clear c3 hb9 Q3
            obtain ⟨d0, d1, d2, d3⟩ := x9.facts
            obtain ⟨f0, f1, f2, f3⟩ := x9.fz
            obtain ⟨k0, k1, k2, k3⟩ := (x9.put movZ).facts
            have HF : Hid (Below w.heap.size w (put4 w9 w.heap.size movZ)) := put4_below b9 (Nat.le_refl _) movZ
            unfold put4 movZ at k0 k1 k2 k3 HF
            simp only at k0 k1 k2 k3 HF
            clear x9 b9
            go_wp2
            exact bodyPost_ret (v := .tuple #[.agg #[.int .i64 0, .int .i64 0, .int .i64 0, .int .i64 0], .bool false]) (by simp [results, Tryd.results32, go_sem, k0, k1, k2, k3]) rfl ⟨ret_mov HZ.out.1 HZ.out.2, HF.out⟩
          | some v3 =>
            refine (HR3.out _ Q3.env).mono ?_
            rintro e u3 ⟨rfl, hb3⟩
            have P3 := Q3.on hb3
            clear c3 hb3 Q3
            obtain ⟨d0, d1, d2, d3⟩ := P3.num.facts
            obtain ⟨f0, f1, f2, f3⟩ := P3.num.fz
            have Q4 := P3.set (j := 3) (x := v3) (by omega) (P3.num.set3 v3) (HE.out.set P3.bel (by omega))
            go_wp2
            clear d0 d1 d2 d3 f0 f1 f2 f3 P3
            generalize u3.setCell ⟨g, 3, none⟩ (.int .i64 v3) = V4 at Q4 ⊢
            clear u3
            rw [rounds_succ]
            have HO : Hid (o = true → R = ⟨v0, v1, v2, v3⟩) := fun ho => by
              obtain ⟨e0, e1, e2, e3⟩ := HQ.out ho
              injection e0 with e0
              injection e1 with e1
              injection e2 with e2
              injection e3 with e3
              cases R
              simp only at e0 e1 e2 e3
              rw [e0, e1, e2, e3]
            have HSH : Hid (∀ W, MEnv W → Calls Tryd.prog 44 #[.agg #[.int .i64 v0, .int .i64 v1, .int .i64 v2, .int .i64 v3]] W fun e w' => e = .returned (.string (shwS ⟨v0, v1, v2, v3⟩)) ∧ Below W.heap.size W w') := fun W h => implShowMove_any ⟨v0, v1, v2, v3⟩ W h.tab
            have x4 := Q4.out
            have y4 := Q4.num
            have b4 := Q4.bel
            have e4 := Q4.env
            clear HQ Q4
            obtain ⟨d0, d1, d2, d3⟩ := y4.facts
            simp only at d0 d1 d2 d3
            have bD := below1 V4 (.cells #[.int .i64 v0, .int .i64 v1, .int .i64 v2, .int .i64 v3] 28)
            have x5 := x4.below bD
            have b5 := b4.trans (bD.mono b4.size)
            have e5 := e4.on bD
            have y5 : Box4 (V4.alloc (.cells #[.int .i64 v0, .int .i64 v1, .int .i64 v2, .int .i64 v3] 28)) V4.heap.size 28 ⟨v0, v1, v2, v3⟩ := box4_new V4 28 ⟨v0, v1, v2, v3⟩
            have hne : V4.heap.size ≠ w.heap.size := by have := x4.lt; omega
            clear x4 b4 e4 bD y4
            obtain ⟨p0, p1, p2, p3⟩ := y5.facts
            simp only at p0 p1 p2 p3
            go_wp2_with fail
            refine (HSH.out _ e5).mono ?_
            generalize V4.alloc (.cells #[.int .i64 v0, .int .i64 v1, .int .i64 v2, .int .i64 v3] 28) = V at x5 b5 y5 p0 p1 p2 p3 ⊢
            obtain ⟨gm, hgm⟩ : ∃ gm, gm = V4.heap.size := ⟨_, rfl⟩
            rw [← hgm] at y5 p0 p1 p2 p3 hne ⊢
            clear e5 d0 d1 d2 d3 hgm
            cases o with
            | false =>
              obtain ⟨hz, -, hno⟩ := rmr_no HR.out (fun h => by cases h)
              have HZ : Hid (R = movZ) := hz
              have hsn := shw_ne hno hps ⟨v0, v1, v2, v3⟩
              generalize shwS ⟨v0, v1, v2, v3⟩ = TT at hsn ⊢
              rintro e w9 ⟨rfl, hb5⟩
              have x9 := x5.below hb5
              have b9 := b5.trans (hb5.mono b5.size)
              clear x5 b5 y5 p0 p1 p2 p3 hb5 HO HSH hno hz
              obtain ⟨d0, d1, d2, d3⟩ := x9.facts
              obtain ⟨f0, f1, f2, f3⟩ := x9.fz
              obtain ⟨k0, k1, k2, k3⟩ := (x9.put movZ).facts
              have HF : Hid (Below w.heap.size w (put4 w9 w.heap.size movZ)) := put4_below b9 (Nat.le_refl _) movZ
              unfold put4 movZ at k0 k1 k2 k3 HF
              simp only at k0 k1 k2 k3 HF
              clear x9 b9
              go_wp2
              exact bodyPost_ret (v := .tuple #[.agg #[.int .i64 0, .int .i64 0, .int .i64 0, .int .i64 0], .bool false]) (by simp [results, Tryd.results32, go_sem, k0, k1, k2, k3]) rfl ⟨ret_mov HZ.out rfl, HF.out⟩
            | true =>
              have hR := HO.out rfl
              have hsn : shwS ⟨v0, v1, v2, v3⟩ = s := by
                rcases HR.out with ⟨_, _, h2⟩ | ⟨h1, _⟩
                · rw [← hR]; exact h2
                · cases h1
              rw [hsn]
              rintro e w9 ⟨rfl, hb5⟩
              have x9 := x5.below hb5
              have y9 := y5.below hb5
              have b9 := b5.trans (hb5.mono b5.size)
              clear x5 b5 y5 p0 p1 p2 p3 hb5 HO HSH hsn
              obtain ⟨d0, d1, d2, d3⟩ := x9.facts
              obtain ⟨f0, f1, f2, f3⟩ := x9.fz
              obtain ⟨p0, p1, p2, p3⟩ := y9.facts
              obtain ⟨k0, k1, k2, k3⟩ := (x9.put ⟨v0, v1, v2, v3⟩).facts
              have HF : Hid (Below w.heap.size w (put4 w9 w.heap.size ⟨v0, v1, v2, v3⟩)) := put4_below b9 (Nat.le_refl _) ⟨v0, v1, v2, v3⟩
              unfold put4 at k0 k1 k2 k3 HF
              simp only at p0 p1 p2 p3 k0 k1 k2 k3 HF
              clear x9 y9 b9
              have HZ : Hid (R = ⟨v0, v1, v2, v3⟩) := hR
              clear hR
              go_wp2
              exact bodyPost_ret (v := .tuple #[.agg #[.int .i64 v0, .int .i64 v1, .int .i64 v2, .int .i64 v3], .bool true]) (by simp [results, Tryd.results32, go_sem, k0, k1, k2, k3]) rfl ⟨ret_mov1 HZ.out rfl, HF.out⟩
  · have hne : ((n : Int) != 4) = true := by simp; omega
    obtain ⟨hz, ho, -⟩ := rmr_no HR.out (fun h => by have := (HY.out h).2; rw [this] at HN; exact h4 HN.out)
    have HZ : Hid (R = movZ ∧ o = false) := ⟨hz, ho⟩
    clear hz ho
    obtain ⟨d0, d1, d2, d3⟩ := x1.facts
    obtain ⟨f0, f1, f2, f3⟩ := x1.fz
    obtain ⟨k0, k1, k2, k3⟩ := (x1.put movZ).facts
    have HF : Hid (Below w.heap.size w (put4 w1 w.heap.size movZ)) := put4_below b1 (Nat.le_refl _) movZ
    unfold put4 movZ at k0 k1 k2 k3 HF
    simp only at k0 k1 k2 k3 HF
    clear x1 b1
    go_wp2
    exact bodyPost_ret (v := .tuple #[.agg #[.int .i64 0, .int .i64 0, .int .i64 0, .int .i64 0], .bool false]) (by simp [results, Tryd.results32, go_sem, k0, k1, k2, k3]) rfl ⟨ret_mov HZ.out.1 HZ.out.2, HF.out⟩
end Go.Proofs.YtdleolgkbkoekaaDoor
