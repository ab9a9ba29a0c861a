/- The contracts of both Totals. -/
import Derived.Test.YtdleolgkbkoekaaDoorBnkOk
namespace Go.Proofs.YtdleolgkbkoekaaDoor
open Go.RowKit
theorem totR_yes {ms cs : List Int} (h : bankOk ms cs = true) : totR ms cs = sumTo ms 8 := by unfold totR; rw [if_pos (bankOk_iff.1 h)]
theorem totR_no {ms cs : List Int} (h : bankOk ms cs = false) : totR ms cs = -1 := by
  unfold totR
  rw [if_neg (fun H => by rw [bankOk_iff.2 H] at h; cases h)]
set_option maxHeartbeats 2000000 in
set_option maxRecDepth 100000 in
theorem implTotal_any (X : BkX) (w : World) (hx : RdBk w X) :
    Calls Tryd.prog 17 #[.agg #[X.vm, X.vc]] w fun e w' => e = .returned (.int .i64 (totR X.mon X.cnt)) ∧ Below w.heap.size w w' := by
  have b0 := below1 w (.cells #[X.vm, X.vc] 26)
  have HB : Hid (∀ W, RdBk W X → Calls Tryd.prog 11 #[.agg #[X.vm, X.vc]] W fun e w' => e = .returned (.bool (bankOk X.mon X.cnt)) ∧ Below W.heap.size W w') := fun W h => implBankOk_any X W h
  have t0 := bkAt_new w X 26
  obtain ⟨d0, d1⟩ := id t0
  cases hk : bankOk X.mon X.cnt with
  | false =>
    rw [hk] at HB
    have RES : Hid (totR X.mon X.cnt = -1) := totR_no hk
    clear hk
    go_enter Tryd.func17, Tryd.ntmps17
    go_wp2_with fail
    refine (HB.out _ (hx.below b0)).mono ?_
    rintro e w1 ⟨rfl, hb1⟩
    have b1 := b0.trans (hb1.mono b0.size)
    clear d0 d1 t0
    go_wp2
    go_ret
    exact ⟨ret_intE RES.out.symm, b1⟩
  | true =>
    rw [hk] at HB
    have RES : Hid (totR X.mon X.cnt = sumTo X.mon 8) := totR_yes hk
    have HS : Hid (∀ W, RdI W X.vm X.mon → Calls Tryd.prog 35 #[X.vm] W fun e w' => e = .returned (.int .i64 (sumTo X.mon 8)) ∧ w' = W) := fun W h => sumOf_any _ _ W h (bankOk_iff.1 hk).1
    clear hk
    go_enter Tryd.func17, Tryd.ntmps17
    go_wp2_with fail
    refine (HB.out _ (hx.below b0)).mono ?_
    rintro e w1 ⟨rfl, hb1⟩
    have b1 := b0.trans (hb1.mono b0.size)
    have t1 := t0.below hb1
    clear d0 d1 t0 hb1
    obtain ⟨d0, d1⟩ := id t1
    go_wp2_with fail
    refine (HS.out _ (hx.mon.below b1)).mono ?_
    rintro e w2 ⟨rfl, hw2⟩
    subst hw2
    clear d0 d1 t1
    go_wp2
    go_ret
    exact ⟨ret_intE RES.out.symm, b1⟩
set_option maxHeartbeats 2000000 in
set_option maxRecDepth 100000 in
theorem specTotal_any (X : BkX) (w : World) (hx : RdBk w X) :
    Calls Tryd.prog 18 #[.agg #[X.vm, X.vc]] w fun e w' => e = .returned (.int .i64 (totR X.mon X.cnt)) ∧ Below w.heap.size w w' := by
  have HB : Hid (∀ W, RdBk W X → Calls Tryd.prog 12 #[.agg #[X.vm, X.vc]] W fun e w' => e = .returned (.bool (bankOk X.mon X.cnt)) ∧ Below W.heap.size W w') := fun W h => specBankOk_any X W h
  cases hk : bankOk X.mon X.cnt with
  | false =>
    rw [hk] at HB
    have RES : Hid (totR X.mon X.cnt = -1) := totR_no hk
    have b0 := below1 w (.cells #[X.vm, X.vc] 26)
    obtain ⟨d0, d1⟩ := bkAt_new w X 26
    clear hk
    go_enter Tryd.func18, Tryd.ntmps18
    go_wp2_with fail
    refine (HB.out _ (hx.below b0)).mono ?_
    rintro e w1 ⟨rfl, hb1⟩
    have b1 := b0.trans (hb1.mono b0.size)
    clear d0 d1
    go_wp2
    go_ret
    exact ⟨ret_intE RES.out.symm, b1⟩
  | true =>
    rw [hk] at HB
    have HP := bankOk_iff.1 hk
    have RES : Hid (totR X.mon X.cnt = sumTo X.mon 8) := totR_yes hk
    have HN : Hid (X.mon.length = 8) := HP.1.1
    have HBD : Hid (∀ i, i < 8 → 0 ≤ nthI X.mon i ∧ nthI X.mon i ≤ 1000000000) := HP.1.2
    have HS : Hid (∀ k, k ≤ 8 → 0 ≤ sumTo X.mon k ∧ sumTo X.mon k ≤ 1000000000 * k) := sumTo_bd HP.1.2
    clear hk HP
    obtain ⟨vm, vc, mon, cnt⟩ := X
    simp only at HB RES HN HBD HS ⊢
    obtain ⟨am, cm, hvm, m1, m2⟩ := rdI_slice hx.mon
    simp only at hvm m1
    rw [HN.out] at hvm m1
    subst hvm
    have b0 := below1 w (.cells #[.slice am 8 cm, vc] 26)
    have t0 : BkAt (w.alloc (.cells #[.slice am 8 cm, vc] 26)) w.heap.size ⟨.slice am 8 cm, vc, mon, cnt⟩ := bkAt_new w ⟨.slice am 8 cm, vc, mon, cnt⟩ 26
    obtain ⟨d0, d1⟩ := id t0
    simp only at d0 d1
    go_enter Tryd.func18, Tryd.ntmps18
    go_wp2_with fail
    refine (HB.out _ (hx.below b0)).mono ?_
    rintro e w1 ⟨rfl, hb1⟩
    have b1 := b0.trans (hb1.mono b0.size)
    have t1 := t0.below hb1
    have HR : Hid (RdI w1 (.slice am 8 cm) mon) := hx.mon.below b1
    clear d0 d1 t0 hb1 hx
    obtain ⟨d0, d1⟩ := t1
    simp only at d0 d1
    go_wp2
    go_loopw [3, 4] (fun s i wr => ∃ (k : Nat) (y : Int), k ≤ 8 ∧ s = .int .i64 y ∧ i = .int .i64 k ∧ Hid (y = sumTo mon k) ∧ wr = w1) (fun _ i _ => 8 - (intOf i).toNat)
    case atStart => exact ⟨0, 0, by omega, rfl, rfl, rfl, rfl⟩
    case round =>
      obtain ⟨k, y, hk, rfl, rfl, HY, hwr⟩ := hrel
      obtain rfl := hwr.symm
      have hy := HS.out k hk
      rw [← HY.out] at hy
      by_cases hlt : k < 8
      · obtain ⟨b, off, rfl, hc⟩ := HR.out.nth k (by rw [HN.out]; exact hlt)
        have hx1 := HBD.out k hlt
        obtain ⟨x, hx⟩ : ∃ x, x = nthI mon k := ⟨_, rfl⟩
        rw [← hx] at hc hx1
        have HX : Hid (x = nthI mon k) := hx
        clear hx
        have hy0 : 0 ≤ y := hy.1
        have hy1 : y ≤ 8000000000 := by omega
        have HY2 : Hid (y + x = sumTo mon (k + 1)) := by unfold Hid; rw [HY.out, HX.out]; rfl
        clear hy
        go_wp2
        go_roundw
        case rel => exact ⟨k + 1, _, by omega, rfl, by go_num, HY2, trivial⟩
        case measure => simp [intOf]; omega
      · have hke : k = 8 := by omega
        subst hke
        clear hy
        go_wp2
        go_ret
        exact ⟨ret_intE (by rw [RES.out]; exact HY.out), b1⟩
end Go.Proofs.YtdleolgkbkoekaaDoor
