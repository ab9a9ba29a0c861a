/- The contracts of both BankOk, of both MoveOk, and of what they ask. -/
import Derived.Test.YtdleolgkbkoekaaDoorBnkBase
import Derived.BigQuiet
import Derived.Deep.QuietTactic
namespace Go.Proofs.YtdleolgkbkoekaaDoor
open Go.RowKit
set_option maxHeartbeats 400000 in
theorem inK_any (x lo hi : Int) (w : World) :
    Calls Tryd.prog 24 #[.int .i64 x, .int .i64 lo, .int .i64 hi] w fun e w' => e = .returned (.bool (decide (lo ≤ x ∧ x ≤ hi))) ∧ w' = w := by
  go_enter Tryd.func24, Tryd.ntmps24
  go_wp2
  all_goals go_ret
  · exact ⟨ret_bool (by rw [Bool.eq_iff_iff]; simp; omega), rfl⟩
  · exact ⟨ret_bool (by rw [Bool.eq_iff_iff]; simp; omega), rfl⟩
set_option maxHeartbeats 400000 in
theorem valueK_any (x : Int) (w : World) :
    Calls Tryd.prog 36 #[.int .i64 x] w fun e w' => e = .returned (.bool (decide (0 ≤ x ∧ x ≤ 1000000000))) ∧ w' = w := by
  go_enter Tryd.func36, Tryd.ntmps36
  go_wp2_with (go_at_call 24; refine (inK_any _ _ _ _).mono ?_; rintro e w' ⟨rfl, rfl⟩)
  go_ret
  exact ⟨ret_bool (by rw [Bool.eq_iff_iff]; simp), rfl⟩
theorem rowOk_no {ns : List Int} {m : Int} {k : Nat} (hk : k < 8) (h : ¬ (0 ≤ nthI ns k ∧ nthI ns k ≤ m)) : decide (RowOk ns m) = false := decide_eq_false (fun H => h (H.2 k hk))
theorem rowOk_len {ns : List Int} {m : Int} (h : ns.length ≠ 8) : decide (RowOk ns m) = false := decide_eq_false (fun H => h H.1)
set_option maxHeartbeats 1000000 in
set_option maxRecDepth 100000 in
theorem accountsOk_any (v : Value) (ns : List Int) (m : Int) (w : World) (hr : RdI w v ns) :
    Calls Tryd.prog 34 #[v, .int .i64 m] w fun e w' => e = .returned (.bool (decide (RowOk ns m))) ∧ w' = w := by
  obtain ⟨a, cap, hv, h1, h2⟩ := rdI_slice hr
  subst hv
  by_cases hn : ns.length = 8
  · have HR : Hid (RdI w (.slice a 8 cap) ns) := by unfold Hid; rw [← hn]; exact hr
    have HN : Hid (ns.length = 8) := hn
    rw [hn] at h1 ⊢
    clear hn hr
    go_enter Tryd.func34, Tryd.ntmps34
    go_wp2
    go_loopw [12] (fun i wr => ∃ k : Nat, k ≤ 8 ∧ i = .int .i64 k ∧ Hid (∀ j, j < k → 0 ≤ nthI ns j ∧ nthI ns j ≤ m) ∧ wr = w) (fun i _ => 8 - (intOf i).toNat)
    case atStart => exact ⟨0, by omega, rfl, (fun i hi => by omega), rfl⟩
    case round =>
      obtain ⟨k, hk, rfl, HO, hwr⟩ := hrel
      obtain rfl := hwr.symm
      by_cases hlt : k < 8
      · obtain ⟨b, off, rfl, hc⟩ := HR.out.nth k (by rw [HN.out]; exact hlt)
        obtain ⟨x, hx⟩ : ∃ x, x = nthI ns k := ⟨_, rfl⟩
        rw [← hx] at hc
        have HX : Hid (x = nthI ns k) := hx
        clear hx
        by_cases hx0 : x < 0
        · have RES : Hid (decide (RowOk ns m) = false) := rowOk_no hlt (fun H => by rw [← HX.out] at H; omega)
          go_wp2
          go_ret
          exact ⟨ret_bool RES.out.symm, rfl⟩
        · by_cases hx1 : m < x
          · have RES : Hid (decide (RowOk ns m) = false) := rowOk_no hlt (fun H => by rw [← HX.out] at H; omega)
            go_wp2
            go_ret
            exact ⟨ret_bool RES.out.symm, rfl⟩
          · have HO2 : Hid (∀ j, j < k + 1 → 0 ≤ nthI ns j ∧ nthI ns j ≤ m) := by
              intro j hj
              by_cases e : j = k
              · rw [e, ← HX.out]; omega
              · exact HO.out j (by omega)
            go_wp2
            go_roundw
            case rel => exact ⟨k + 1, by omega, by go_num, HO2, trivial⟩
            case measure => simp [intOf]; omega
      · have hke : k = 8 := by omega
        subst hke
        have RES : Hid (decide (RowOk ns m) = true) := decide_eq_true ⟨HN.out, HO.out⟩
        go_wp2
        go_ret
        exact ⟨ret_bool RES.out.symm, rfl⟩
  · have RES : Hid (decide (RowOk ns m) = false) := rowOk_len hn
    have hne : ((ns.length : Int) != 8) = true := by simp; omega
    go_enter Tryd.func34, Tryd.ntmps34
    go_wp2
    go_ret
    exact ⟨ret_bool RES.out.symm, rfl⟩
set_option maxHeartbeats 1000000 in
set_option maxRecDepth 100000 in
theorem sumOf_any (v : Value) (ns : List Int) (w : World) (hr : RdI w v ns) (ho : RowOk ns 1000000000) :
    Calls Tryd.prog 35 #[v] w fun e w' => e = .returned (.int .i64 (sumTo ns 8)) ∧ w' = w := by
  obtain ⟨a, cap, hv, h1, h2⟩ := rdI_slice hr
  subst hv
  have HN : Hid (ns.length = 8) := ho.1
  have HR : Hid (RdI w (.slice a 8 cap) ns) := by unfold Hid; rw [← ho.1]; exact hr
  have HB : Hid (∀ i, i < 8 → 0 ≤ nthI ns i ∧ nthI ns i ≤ 1000000000) := ho.2
  have HS : Hid (∀ k, k ≤ 8 → 0 ≤ sumTo ns k ∧ sumTo ns k ≤ 1000000000 * k) := sumTo_bd ho.2
  rw [ho.1] at h1 ⊢
  clear ho hr
  go_enter Tryd.func35, Tryd.ntmps35
  go_wp2
  go_loopw [3, 8] (fun s i wr => ∃ (k : Nat) (y : Int), k ≤ 8 ∧ s = .int .i64 y ∧ i = .int .i64 k ∧ Hid (y = sumTo ns k) ∧ wr = w) (fun _ i _ => 8 - (intOf i).toNat)
  case atStart => exact ⟨0, 0, by omega, rfl, rfl, rfl, rfl⟩
  case round =>
    obtain ⟨k, y, hk, rfl, rfl, HY, hwr⟩ := hrel
    obtain rfl := hwr.symm
    have hy := HS.out k hk
    rw [← HY.out] at hy
    by_cases hlt : k < 8
    · obtain ⟨b, off, rfl, hc⟩ := HR.out.nth k (by rw [HN.out]; exact hlt)
      have hx1 := HB.out k hlt
      obtain ⟨x, hx⟩ : ∃ x, x = nthI ns k := ⟨_, rfl⟩
      rw [← hx] at hc hx1
      have HX : Hid (x = nthI ns k) := hx
      clear hx
      have hy0 : 0 ≤ y := hy.1
      have hy1 : y ≤ 8000000000 := by omega
      have HY2 : Hid (y + x = sumTo ns (k + 1)) := by unfold Hid; rw [HY.out, HX.out]; rfl
      clear hy
      go_wp2
      go_roundw
      case rel => exact ⟨k + 1, _, by omega, rfl, by go_num, HY2, trivial⟩
      case measure => simp [intOf]; omega
    · have hke : k = 8 := by omega
      subst hke
      clear hy
      go_wp2
      go_ret
      exact ⟨ret_intE HY.out, rfl⟩
theorem bankOk_and (ms cs : List Int) : bankOk ms cs = (decide (RowOk ms 1000000000) && decide (sumTo ms 8 ≤ 1000000000) && decide (RowOk cs 1000000)) := by
  have h : bankOk ms cs = true ↔ BankP ms cs := by unfold bankOk; exact decide_eq_true_iff
  rw [Bool.eq_iff_iff, h]
  simp only [Bool.and_eq_true, decide_eq_true_eq]
  exact ⟨fun ⟨a, b, c⟩ => ⟨⟨a, c⟩, b⟩, fun ⟨⟨a, c⟩, b⟩ => ⟨a, b, c⟩⟩
set_option maxHeartbeats 1000000 in
set_option maxRecDepth 100000 in
theorem implBankOk_any (X : BkX) (w : World) (hx : RdBk w X) :
    Calls Tryd.prog 11 #[.agg #[X.vm, X.vc]] w fun e w' => e = .returned (.bool (bankOk X.mon X.cnt)) ∧ Below w.heap.size w w' := by
  have b0 := below1 w (.cells #[X.vm, X.vc] 26)
  have HA : Hid (∀ W, RdI W X.vm X.mon → Calls Tryd.prog 34 #[X.vm, .int .i64 1000000000] W fun e w' => e = .returned (.bool (decide (RowOk X.mon 1000000000))) ∧ w' = W) := fun W h => accountsOk_any _ _ _ W h
  have HC : Hid (∀ W, RdI W X.vc X.cnt → Calls Tryd.prog 34 #[X.vc, .int .i64 1000000] W fun e w' => e = .returned (.bool (decide (RowOk X.cnt 1000000))) ∧ w' = W) := fun W h => accountsOk_any _ _ _ W h
  have HB := bankOk_and X.mon X.cnt
  have hm := hx.mon.below b0
  have hc := hx.cnt.below b0
  obtain ⟨d0, d1⟩ := bkAt_new w X 26
  by_cases h1 : RowOk X.mon 1000000000
  · have HS : Hid (∀ W, RdI W X.vm X.mon → Calls Tryd.prog 35 #[X.vm] W fun e w' => e = .returned (.int .i64 (sumTo X.mon 8)) ∧ w' = W) := fun W h => sumOf_any _ _ W h h1
    rw [decide_eq_true h1] at HA HB
    by_cases h2 : sumTo X.mon 8 ≤ 1000000000
    · rw [decide_eq_true h2] at HB
      generalize decide (RowOk X.cnt 1000000) = r at HB HC
      have RES : Hid (bankOk X.mon X.cnt = r) := HB
      have hd : decide (sumTo X.mon 8 ≤ 1000000000) = true := decide_eq_true h2
      generalize sumTo X.mon 8 = S at HS hd
      clear HB h1 h2
      go_enter Tryd.func11, Tryd.ntmps11
      go_wp2_with fail
      refine (HA.out _ hm).mono ?_
      rintro e w0 ⟨rfl, hw0⟩
      subst hw0
      go_wp2_with fail
      refine (HS.out _ hm).mono ?_
      rintro e w1 ⟨rfl, hw1⟩
      subst hw1
      go_wp2_with fail
      refine (HC.out _ hc).mono ?_
      rintro e w2 ⟨rfl, hw2⟩
      subst hw2
      go_wp2
      go_ret
      exact ⟨ret_bool RES.out.symm, b0⟩
    · rw [decide_eq_false h2] at HB
      have RES : Hid (bankOk X.mon X.cnt = false) := HB
      have hd : decide (sumTo X.mon 8 ≤ 1000000000) = false := decide_eq_false h2
      generalize sumTo X.mon 8 = S at HS hd
      clear HB h1 h2
      go_enter Tryd.func11, Tryd.ntmps11
      go_wp2_with fail
      refine (HA.out _ hm).mono ?_
      rintro e w0 ⟨rfl, hw0⟩
      subst hw0
      go_wp2_with fail
      refine (HS.out _ hm).mono ?_
      rintro e w1 ⟨rfl, hw1⟩
      subst hw1
      go_wp2
      go_ret
      exact ⟨ret_bool RES.out.symm, b0⟩
  · rw [decide_eq_false h1] at HA HB
    have RES : Hid (bankOk X.mon X.cnt = false) := HB
    clear HB h1
    go_enter Tryd.func11, Tryd.ntmps11
    go_wp2_with fail
    refine (HA.out _ hm).mono ?_
    rintro e w0 ⟨rfl, hw0⟩
    subst hw0
    go_wp2
    go_ret
    exact ⟨ret_bool RES.out.symm, b0⟩
set_option maxHeartbeats 4000000 in
set_option maxRecDepth 100000 in
theorem specBankOk_any (X : BkX) (w : World) (hx : RdBk w X) :
    Calls Tryd.prog 12 #[.agg #[X.vm, X.vc]] w fun e w' => e = .returned (.bool (bankOk X.mon X.cnt)) ∧ Below w.heap.size w w' := by
  obtain ⟨vm, vc, mon, cnt⟩ := X
  obtain ⟨hm, hc⟩ := hx
  simp only at hm hc ⊢
  obtain ⟨am, cm, hvm, m1, m2⟩ := rdI_slice hm
  obtain ⟨ac, cc, hvc, c1, c2⟩ := rdI_slice hc
  have HB := bankOk_and mon cnt
  by_cases hn1 : mon.length = 8
  · by_cases hn2 : cnt.length = 8
    · have HN1 : Hid (mon.length = 8) := hn1
      have HN2 : Hid (cnt.length = 8) := hn2
      rw [hn1] at hvm m1
      rw [hn2] at hvc c1
      subst hvm
      subst hvc
      clear hn1 hn2
      have b0 := below1 w (.cells #[.slice am 8 cm, .slice ac 8 cc] 26)
      have HM : Hid (RdI _ _ _) := hm.below b0
      have HC : Hid (RdI _ _ _) := hc.below b0
      obtain ⟨d0, d1⟩ : BkAt (w.alloc (.cells #[.slice am 8 cm, .slice ac 8 cc] 26)) w.heap.size ⟨.slice am 8 cm, .slice ac 8 cc, mon, cnt⟩ := bkAt_new w ⟨.slice am 8 cm, .slice ac 8 cc, mon, cnt⟩ 26
      simp only at d0 d1
      have HB2 : Hid (bankOk mon cnt = (decide (RowOk mon 1000000000) && decide (sumTo mon 8 ≤ 1000000000) && decide (RowOk cnt 1000000))) := HB
      clear HB hm hc
      generalize bankOk mon cnt = ok at HB2
      go_enter Tryd.func12, Tryd.ntmps12
      go_wp2
      generalize w.alloc (.cells #[.slice am 8 cm, .slice ac 8 cc] 26) = W0 at b0 HM HC d0 d1 ⊢
      go_loopw [3, 4] (fun s i wr => ∃ (k : Nat) (y : Int), k ≤ 8 ∧ s = .int .i64 y ∧ i = .int .i64 k ∧ Hid (y = sumTo mon k) ∧ Hid (∀ j, j < k → (0 ≤ nthI mon j ∧ nthI mon j ≤ 1000000000) ∧ (0 ≤ nthI cnt j ∧ nthI cnt j ≤ 1000000)) ∧ (0 ≤ y ∧ y ≤ 1000000000 * (k : Int)) ∧ Drew W0 wr) (fun _ i _ => 8 - (intOf i).toNat)
      case atStart => exact ⟨0, 0, by omega, rfl, rfl, rfl, (fun j h => by omega), by omega, drew_refl _⟩
      case round =>
        obtain ⟨k, y, hk, rfl, rfl, HY, HO, ⟨hy0, hy1⟩, HW⟩ := hrel
        have hy2 : y ≤ 8000000000 := by omega
        by_cases hlt : k < 8
        · obtain ⟨b1, o1, rfl, e1⟩ := HM.out.nth k (by rw [HN1.out]; exact hlt)
          obtain ⟨b2, o2, rfl, e2⟩ := HC.out.nth k (by rw [HN2.out]; exact hlt)
          obtain ⟨x, hx⟩ : ∃ x, x = nthI mon k := ⟨_, rfl⟩
          obtain ⟨u, hu⟩ : ∃ u, u = nthI cnt k := ⟨_, rfl⟩
          rw [← hx, ← HW.cell] at e1
          rw [← hu, ← HW.cell] at e2
          have HX : Hid (x = nthI mon k) := hx
          have HU : Hid (u = nthI cnt k) := hu
          have d2 := (HW.cell ⟨w.heap.size, 0, none⟩).trans d0
          have d3 := (HW.cell ⟨w.heap.size, 1, none⟩).trans d1
          have hbz := b0.trans (HW.below.mono b0.size)
          clear hx hu
          by_cases h1 : 0 ≤ x ∧ x ≤ 1000000000
          · have H1 : ∀ W, Calls Tryd.prog 36 #[.int .i64 x] W fun e w' => e = .returned (.bool true) ∧ w' = W := fun W => by have := valueK_any x W; rwa [decide_eq_true h1] at this
            by_cases h2 : 0 ≤ u ∧ u ≤ 1000000
            · have H2 : ∀ W, Calls Tryd.prog 24 #[.int .i64 u, .int .i64 0, .int .i64 1000000] W fun e w' => e = .returned (.bool true) ∧ w' = W := fun W => by have := inK_any u 0 1000000 W; rwa [decide_eq_true h2] at this
              have HO2 : Hid (∀ j, j < k + 1 → (0 ≤ nthI mon j ∧ nthI mon j ≤ 1000000000) ∧ (0 ≤ nthI cnt j ∧ nthI cnt j ≤ 1000000)) := by
                intro j hj
                by_cases e : j = k
                · rw [e, ← HX.out, ← HU.out]; exact ⟨h1, h2⟩
                · exact HO.out j (by omega)
              have HY2 : Hid (y + x = sumTo mon (k + 1)) := by unfold Hid; rw [HY.out, HX.out]; rfl
              have hx0 : 0 ≤ x := h1.1
              have hx1 : x ≤ 1000000000 := h1.2
              clear h1 h2
              go_wp2_with fail
              refine (H1 _).mono ?_
              rintro e w1 ⟨rfl, hw1⟩
              subst hw1
              go_wp2_with fail
              refine (H2 _).mono ?_
              rintro e w1 ⟨rfl, hw1⟩
              subst hw1
              go_wp2
              go_roundw
              case rel => exact ⟨k + 1, _, by omega, rfl, by go_num, HY2, HO2, by omega, HW⟩
              case measure => simp [intOf]; omega
            · have H2 : ∀ W, Calls Tryd.prog 24 #[.int .i64 u, .int .i64 0, .int .i64 1000000] W fun e w' => e = .returned (.bool false) ∧ w' = W := fun W => by have := inK_any u 0 1000000 W; rwa [decide_eq_false h2] at this
              have RES : Hid (ok = false) := by
                have e : decide (RowOk cnt 1000000) = false := rowOk_no hlt (fun H => h2 (by rw [HU.out]; exact H))
                unfold Hid; rw [HB2.out, e, Bool.and_false]
              clear h1 h2
              go_wp2_with fail
              refine (H1 _).mono ?_
              rintro e w1 ⟨rfl, hw1⟩
              subst hw1
              go_wp2_with fail
              refine (H2 _).mono ?_
              rintro e w1 ⟨rfl, hw1⟩
              subst hw1
              go_wp2
              go_ret
              exact ⟨ret_bool RES.out.symm, hbz⟩
          · have H1 : ∀ W, Calls Tryd.prog 36 #[.int .i64 x] W fun e w' => e = .returned (.bool false) ∧ w' = W := fun W => by have := valueK_any x W; rwa [decide_eq_false h1] at this
            have RES : Hid (ok = false) := by
              have e : decide (RowOk mon 1000000000) = false := rowOk_no hlt (fun H => h1 (by rw [HX.out]; exact H))
              unfold Hid; rw [HB2.out, e, Bool.false_and, Bool.false_and]
            clear h1
            go_wp2_with fail
            refine (H1 _).mono ?_
            rintro e w1 ⟨rfl, hw1⟩
            subst hw1
            go_wp2
            go_ret
            exact ⟨ret_bool RES.out.symm, hbz⟩
        · have hke : k = 8 := by omega
          subst hke
          have hbz := b0.trans (HW.below.mono b0.size)
          have RES : Hid (ok = decide (y ≤ 1000000000)) := by
            have e1 : decide (RowOk mon 1000000000) = true := decide_eq_true ⟨HN1.out, fun j hj => (HO.out j hj).1⟩
            have e2 : decide (RowOk cnt 1000000) = true := decide_eq_true ⟨HN2.out, fun j hj => (HO.out j hj).2⟩
            unfold Hid; rw [HB2.out, e1, e2, HY.out, Bool.and_true, Bool.true_and]
          go_wp2
          go_ret
          exact ⟨ret_bool RES.out.symm, hbz⟩
    · have RES : Hid (bankOk mon cnt = false) := by
        unfold Hid; rw [HB, rowOk_len hn2, Bool.and_false]
      have hne : ((cnt.length : Int) != 8) = true := by simp; omega
      have hne1 : ((mon.length : Int) != 8) = false := by simp; omega
      subst hvm
      subst hvc
      have b0 := below1 w (.cells #[.slice am mon.length cm, .slice ac cnt.length cc] 26)
      clear HB hm hc hn1 hn2
      generalize mon.length = n1 at hne1 b0 m1 ⊢
      generalize cnt.length = n2 at hne b0 c1 ⊢
      go_enter Tryd.func12, Tryd.ntmps12
      go_wp2
      go_ret
      exact ⟨ret_bool RES.out.symm, b0⟩
  · have RES : Hid (bankOk mon cnt = false) := by
      unfold Hid; rw [HB, rowOk_len hn1, Bool.false_and, Bool.false_and]
    have hne : ((mon.length : Int) != 8) = true := by simp; omega
    subst hvm
    subst hvc
    have b0 := below1 w (.cells #[.slice am mon.length cm, .slice ac cnt.length cc] 26)
    clear HB hm hc hn1
    generalize mon.length = n1 at hne b0 m1 ⊢
    generalize cnt.length = n2 at b0 c1 ⊢
    go_enter Tryd.func12, Tryd.ntmps12
    go_wp2
    go_ret
    exact ⟨ret_bool RES.out.symm, b0⟩
set_option maxHeartbeats 400000 in
theorem accountOk_any (x : Int) (w : World) :
    Calls Tryd.prog 37 #[.int .i64 x] w fun e w' => e = .returned (.bool (decide (0 ≤ x ∧ x ≤ 7))) ∧ w' = w := by
  go_enter Tryd.func37, Tryd.ntmps37
  go_wp2
  all_goals go_ret
  · exact ⟨ret_bool (by rw [Bool.eq_iff_iff]; simp; omega), rfl⟩
  · exact ⟨ret_bool (by rw [Bool.eq_iff_iff]; simp; omega), rfl⟩
theorem movOk_and (a b s c : Int) : movOk ⟨a, b, s, c⟩ = (decide (0 ≤ a ∧ a ≤ 7) && (decide (0 ≤ b ∧ b ≤ 7) && (decide (1 ≤ s ∧ s ≤ 1000000000) && decide (0 ≤ c ∧ c ≤ 999999)))) := by
  have h : movOk ⟨a, b, s, c⟩ = true ↔ MovP ⟨a, b, s, c⟩ := by unfold movOk; exact decide_eq_true_iff
  rw [Bool.eq_iff_iff, h]
  simp only [Bool.and_eq_true, decide_eq_true_eq]
  exact Iff.rfl
theorem movOk_no {m : Mov} (h : ¬ MovP m) : movOk m = false := decide_eq_false h
set_option maxHeartbeats 2000000 in
set_option maxRecDepth 100000 in
theorem specMoveOk_any (m : Mov) (w : World) :
    Calls Tryd.prog 14 #[.agg #[.int .i64 m.fr, .int .i64 m.to', .int .i64 m.sum, .int .i64 m.cou]] w fun e w' => e = .returned (.bool (movOk m)) ∧ Below w.heap.size w w' := by
  obtain ⟨a, b, s, c⟩ := m
  simp only
  have b0 := below1 w (.cells #[.int .i64 a, .int .i64 b, .int .i64 s, .int .i64 c] 28)
  have HA : Hid (∀ W, Calls Tryd.prog 24 #[.int .i64 a, .int .i64 0, .int .i64 7] W fun e w' => e = .returned (.bool (decide (0 ≤ a ∧ a ≤ 7))) ∧ w' = W) := fun W => inK_any a 0 7 W
  have HB : Hid (∀ W, Calls Tryd.prog 24 #[.int .i64 b, .int .i64 0, .int .i64 7] W fun e w' => e = .returned (.bool (decide (0 ≤ b ∧ b ≤ 7))) ∧ w' = W) := fun W => inK_any b 0 7 W
  have HS : Hid (∀ W, Calls Tryd.prog 24 #[.int .i64 s, .int .i64 1, .int .i64 1000000000] W fun e w' => e = .returned (.bool (decide (1 ≤ s ∧ s ≤ 1000000000))) ∧ w' = W) := fun W => inK_any s 1 1000000000 W
  have HC : Hid (∀ W, Calls Tryd.prog 24 #[.int .i64 c, .int .i64 0, .int .i64 999999] W fun e w' => e = .returned (.bool (decide (0 ≤ c ∧ c ≤ 999999))) ∧ w' = W) := fun W => inK_any c 0 999999 W
  have HM : Hid (movOk ⟨a, b, s, c⟩ = (decide (0 ≤ a ∧ a ≤ 7) && (decide (0 ≤ b ∧ b ≤ 7) && (decide (1 ≤ s ∧ s ≤ 1000000000) && decide (0 ≤ c ∧ c ≤ 999999))))) := by
    exact movOk_and a b s c
  generalize decide (0 ≤ a ∧ a ≤ 7) = p1 at HA HM
  generalize decide (0 ≤ b ∧ b ≤ 7) = p2 at HB HM
  generalize decide (1 ≤ s ∧ s ≤ 1000000000) = p3 at HS HM
  generalize decide (0 ≤ c ∧ c ≤ 999999) = p4 at HC HM
  cases p1 with
  | false =>
    go_enter Tryd.func14, Tryd.ntmps14
    go_wp2_with fail
    refine (HA.out _).mono ?_
    rintro e w1 ⟨rfl, hw1⟩
    subst hw1
    go_wp2
    go_ret
    exact ⟨ret_bool HM.out.symm, b0⟩
  | true =>
    cases p2 with
    | false =>
      go_enter Tryd.func14, Tryd.ntmps14
      go_wp2_with fail
      refine (HA.out _).mono ?_
      rintro e w1 ⟨rfl, hw1⟩
      subst hw1
      go_wp2_with fail
      refine (HB.out _).mono ?_
      rintro e w1 ⟨rfl, hw1⟩
      subst hw1
      go_wp2
      go_ret
      exact ⟨ret_bool HM.out.symm, b0⟩
    | true =>
      cases p3 with
      | false =>
        go_enter Tryd.func14, Tryd.ntmps14
        go_wp2_with fail
        refine (HA.out _).mono ?_
        rintro e w1 ⟨rfl, hw1⟩
        subst hw1
        go_wp2_with fail
        refine (HB.out _).mono ?_
        rintro e w1 ⟨rfl, hw1⟩
        subst hw1
        go_wp2_with fail
        refine (HS.out _).mono ?_
        rintro e w1 ⟨rfl, hw1⟩
        subst hw1
        go_wp2
        go_ret
        exact ⟨ret_bool HM.out.symm, b0⟩
      | true =>
        go_enter Tryd.func14, Tryd.ntmps14
        go_wp2_with fail
        refine (HA.out _).mono ?_
        rintro e w1 ⟨rfl, hw1⟩
        subst hw1
        go_wp2_with fail
        refine (HB.out _).mono ?_
        rintro e w1 ⟨rfl, hw1⟩
        subst hw1
        go_wp2_with fail
        refine (HS.out _).mono ?_
        rintro e w1 ⟨rfl, hw1⟩
        subst hw1
        go_wp2_with fail
        refine (HC.out _).mono ?_
        rintro e w1 ⟨rfl, hw1⟩
        subst hw1
        go_wp2
        go_ret
        exact ⟨ret_bool HM.out.symm, b0⟩
set_option maxHeartbeats 2000000 in
set_option maxRecDepth 100000 in
theorem implMoveOk_any (m : Mov) (w : World) :
    Calls Tryd.prog 13 #[.agg #[.int .i64 m.fr, .int .i64 m.to', .int .i64 m.sum, .int .i64 m.cou]] w fun e w' => e = .returned (.bool (movOk m)) ∧ Below w.heap.size w w' := by
  obtain ⟨a, b, s, c⟩ := m
  simp only
  have b0 := below1 w (.cells #[.int .i64 a, .int .i64 b, .int .i64 s, .int .i64 c] 28)
  have HA : Hid (∀ W, Calls Tryd.prog 37 #[.int .i64 a] W fun e w' => e = .returned (.bool (decide (0 ≤ a ∧ a ≤ 7))) ∧ w' = W) := fun W => accountOk_any a W
  have HB : Hid (∀ W, Calls Tryd.prog 37 #[.int .i64 b] W fun e w' => e = .returned (.bool (decide (0 ≤ b ∧ b ≤ 7))) ∧ w' = W) := fun W => accountOk_any b W
  have HM : Hid (movOk ⟨a, b, s, c⟩ = (decide (0 ≤ a ∧ a ≤ 7) && (decide (0 ≤ b ∧ b ≤ 7) && (decide (1 ≤ s ∧ s ≤ 1000000000) && decide (0 ≤ c ∧ c ≤ 999999))))) := by
    exact movOk_and a b s c
  generalize decide (0 ≤ a ∧ a ≤ 7) = p1 at HA HM
  generalize decide (0 ≤ b ∧ b ≤ 7) = p2 at HB HM
  cases p1 with
  | false =>
    go_enter Tryd.func13, Tryd.ntmps13
    go_wp2_with fail
    refine (HA.out _).mono ?_
    rintro e w1 ⟨rfl, hw1⟩
    subst hw1
    go_wp2
    go_ret
    exact ⟨ret_bool HM.out.symm, b0⟩
  | true =>
    cases p2 with
    | false =>
      go_enter Tryd.func13, Tryd.ntmps13
      go_wp2_with fail
      refine (HA.out _).mono ?_
      rintro e w1 ⟨rfl, hw1⟩
      subst hw1
      go_wp2_with fail
      refine (HB.out _).mono ?_
      rintro e w1 ⟨rfl, hw1⟩
      subst hw1
      go_wp2
      go_ret
      exact ⟨ret_bool HM.out.symm, b0⟩
    | true =>
      have HM2 : Hid (movOk ⟨a, b, s, c⟩ = decide ((1 ≤ s ∧ s ≤ 1000000000) ∧ (0 ≤ c ∧ c ≤ 999999))) := by
        unfold Hid; rw [HM.out, Bool.eq_iff_iff]; simp only [Bool.true_and, Bool.and_eq_true, decide_eq_true_eq]
      go_enter Tryd.func13, Tryd.ntmps13
      go_wp2_with fail
      refine (HA.out _).mono ?_
      rintro e w1 ⟨rfl, hw1⟩
      subst hw1
      go_wp2_with fail
      refine (HB.out _).mono ?_
      rintro e w1 ⟨rfl, hw1⟩
      subst hw1
      go_wp2
      all_goals go_ret
      all_goals exact ⟨ret_bool (by rw [HM2.out, Bool.eq_iff_iff]; simp; omega), b0⟩
theorem bankOk_iff {ms cs : List Int} : bankOk ms cs = true ↔ BankP ms cs := by unfold bankOk; exact decide_eq_true_iff
theorem movOk_iff {m : Mov} : movOk m = true ↔ MovP m := by unfold movOk; exact decide_eq_true_iff
end Go.Proofs.YtdleolgkbkoekaaDoor
