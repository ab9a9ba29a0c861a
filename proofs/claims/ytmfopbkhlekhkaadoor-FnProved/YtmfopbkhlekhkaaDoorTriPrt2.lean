/- The contract of the model's Parted. -/
-- UNF Gen
import Derived.Test.YtmfopbkhlekhkaaDoorTriPart
namespace Go.Proofs.YtmfopbkhlekhkaaDoor
open Go.RowKit
theorem ptd_no {w w1 : World} {p v : Int} {ws : List Int} {o : Int} {us : List Int} (h : ptdB p v ws o us = false) (hb : Below w.heap.size w w1) : PtdPost w p v ws o us (.returned (.tuple #[.slice (some ⟨w1.heap.size, 0, none⟩) 0 0, .bool false])) (w1.alloc (.cells #[] 2)) := by
  refine ⟨_, by rw [h], ?_, hb.alloc hb.size _⟩
  unfold ptdR
  rw [h]
  exact (ownI_none w1).mono hb.size
theorem ptd_yes {w w1 : World} {p v : Int} {ws : List Int} {o : Int} {us : List Int} {u : Value} (h : ptdB p v ws o us = true) (ho : OwnI w1 w.heap.size u (fndL p.toNat v ws o us 8)) (hb : Below w.heap.size w w1) : PtdPost w p v ws o us (.returned (.tuple #[u, .bool true])) w1 := by
  refine ⟨_, by rw [h], ?_, hb⟩
  unfold ptdR
  rw [if_pos h]
  exact ho
theorem ownI_shapeP {w : World} {B : Nat} {v : Value} {ns : List Int} (h : OwnI w B v ns) : ∃ a c, v = .slice a ns.length c := by
  obtain ⟨a, c, e, -⟩ := h.rd
  exact ⟨a, c, e⟩
set_option maxHeartbeats 8000000 in
set_option maxRecDepth 100000 in
theorem specParted_any (p v o : Int) (vw vu : Value) (ws us : List Int) (w : World) (hr : RdI w vw ws) (hu : RdI w vu us) (hi : ∀ j, I64 (ws.getD j 0)) (hj : ∀ j, I64 (us.getD j 0)) :
    Calls Tryd.prog 27 #[.int .i64 p, .int .i64 v, vw, .int .i64 o, vu] w fun e w' => PtdPost w p v ws o us e w' := by
  have HT : Hid (∀ t, tldB p v ws.length = t → Calls Tryd.prog 51 #[.int .i64 p, .int .i64 v, vw] w fun e w' => e = .returned (.bool t) ∧ w' = w) := fun t h => by rw [← h]; exact l12Told_any p v vw ws w hr
  have HT2 : Hid (∀ t, tldB p o us.length = t → Calls Tryd.prog 51 #[.int .i64 p, .int .i64 o, vu] w fun e w' => e = .returned (.bool t) ∧ w' = w) := fun t h => by rw [← h]; exact l12Told_any p o vu us w hu
  obtain ⟨va, vc, hvw, hvc, hvm, -⟩ := id hr
  obtain ⟨ua, uc, hvu, huc, hum, -⟩ := id hu
  cases ht : tldB p v ws.length with
  | false =>
    have RES : Hid (ptdB p v ws o us = false) := by unfold Hid ptdB; rw [ht]; rfl
    subst hvw
    subst hvu
    go_enter Tryd.func27, Tryd.ntmps27
    go_wp2_with fail
    refine (HT.out false ht).mono ?_
    rintro e w1 ⟨rfl, hw1⟩
    obtain rfl : w = w1 := hw1.symm
    go_wp2
    go_ret2
    exact ptd_no RES.out (Below.refl _ _)
  | true =>
    cases ht2 : tldB p o us.length with
    | false =>
      have RES : Hid (ptdB p v ws o us = false) := by unfold Hid ptdB; rw [ht, ht2]; rfl
      subst hvw
      subst hvu
      go_enter Tryd.func27, Tryd.ntmps27
      go_wp2_with fail
      refine (HT.out true ht).mono ?_
      rintro e w1 ⟨rfl, hw1⟩
      obtain rfl : w = w1 := hw1.symm
      clear hw1
      go_wp2_with fail
      refine (HT2.out false ht2).mono ?_
      rintro e w1 ⟨rfl, hw1⟩
      obtain rfl : w = w1 := hw1.symm
      go_wp2
      go_ret2
      exact ptd_no RES.out (Below.refl _ _)
    | true =>
      by_cases hvo : v = o
      · have RES : Hid (ptdB p v ws o us = false) := by unfold Hid ptdB; rw [decide_eq_false (fun h => h hvo)]; simp
        have hvb : (v == o) = true := beq_iff_eq.2 hvo
        have HVO : Hid (v = o) := hvo
        subst hvw
        subst hvu
        clear hvo
        go_enter Tryd.func27, Tryd.ntmps27
        go_wp2_with fail
        refine (HT.out true ht).mono ?_
        rintro e w1 ⟨rfl, hw1⟩
        obtain rfl : w = w1 := hw1.symm
        clear hw1
        go_wp2_with fail
        refine (HT2.out true ht2).mono ?_
        rintro e w1 ⟨rfl, hw1⟩
        obtain rfl : w = w1 := hw1.symm
        go_wp2
        go_ret2
        exact ptd_no RES.out (Below.refl _ _)
      · obtain ⟨hp, hv, hn⟩ := tldB_iff.1 ht
        obtain ⟨-, ho, hn2⟩ := tldB_iff.1 ht2
        obtain ⟨A, rfl⟩ : ∃ A : Nat, p = (A : Int) := ⟨p.toNat, by omega⟩
        have RES : Hid (ptdB (A : Int) v ws o us = decide (rnL A v ws 8 = rnL A o us 8)) := by unfold Hid ptdB; rw [ht, ht2, Int.toNat_natCast, decide_eq_true hvo]; rfl
        have hvb : (v == o) = false := beq_false_of_ne hvo
        have hA : A ≤ 255 := by omega
        have HL1 : Hid (∀ W, Calls Tryd.prog 61 #[.int .i64 (A : Int), .int .i64 v] W fun e w' => e = .returned (.tuple #[.int .i64 (lpa A v ws 0), .int .i64 (lpb A v ws 0)]) ∧ w' = W) := fun W => l12Leaf_any A v ws W (by omega)
        have HL2 : Hid (∀ W, Calls Tryd.prog 61 #[.int .i64 (A : Int), .int .i64 o] W fun e w' => e = .returned (.tuple #[.int .i64 (lpa A o us 0), .int .i64 (lpb A o us 0)]) ∧ w' = W) := fun W => l12Leaf_any A o us W (by omega)
        have HN1 : Hid (∀ W, Calls Tryd.prog 52 #[.int .i64 (A : Int), .int .i64 v] W fun e w' => e = .returned (.int .i64 (rnL A v ws 0)) ∧ Below W.heap.size W w') := fun W => l12Number_any (A : Int) v W ⟨by omega, by omega⟩ ⟨by omega, by omega⟩
        have HN2 : Hid (∀ W, Calls Tryd.prog 52 #[.int .i64 (A : Int), .int .i64 o] W fun e w' => e = .returned (.int .i64 (rnL A o us 0)) ∧ Below W.heap.size W w') := fun W => l12Number_any (A : Int) o W ⟨by omega, by omega⟩ ⟨by omega, by omega⟩
        have HT1 : Hid (Calls Tryd.prog 51 #[.int .i64 (A : Int), .int .i64 v, vw] w fun e w' => e = .returned (.bool true) ∧ w' = w) := HT.out true ht
        have HT3 : Hid (Calls Tryd.prog 51 #[.int .i64 (A : Int), .int .i64 o, vu] w fun e w' => e = .returned (.bool true) ∧ w' = w) := HT2.out true ht2
        have HW : Hid (ws.length = 8) := hn
        have HU : Hid (us.length = 8) := hn2
        have HRW : Hid (RdI w vw ws) := hr
        have HRU : Hid (RdI w vu us) := hu
        have HI : Hid (∀ j, I64 (ws.getD j 0)) := hi
        have HJ : Hid (∀ j, I64 (us.getD j 0)) := hj
        unfold maxLen at hvm hum
        rw [hn] at hvw hvc
        rw [hn2] at hvu huc
        subst hvw
        subst hvu
        clear HT HT2 ht ht2 hp hv ho hn hn2 hvo hr hu hi hj
        go_enter Tryd.func27, Tryd.ntmps27
        go_wp2_with fail
        refine HT1.out.mono ?_
        rintro e w1 ⟨rfl, hw1⟩
        obtain rfl : w = w1 := hw1.symm
        clear hw1
        go_wp2_with fail
        refine HT3.out.mono ?_
        rintro e w1 ⟨rfl, hw1⟩
        obtain rfl : w = w1 := hw1.symm
        clear hw1 HT1 HT3
        go_wp2_with fail
        refine (HL1.out _).mono ?_
        rintro e w1 ⟨rfl, hw1⟩
        obtain rfl : w = w1 := hw1.symm
        clear hw1 HL1
        go_wp2_with fail
        refine (HL2.out _).mono ?_
        rintro e w1 ⟨rfl, hw1⟩
        obtain rfl : w = w1 := hw1.symm
        clear hw1 HL2
        go_wp2_with fail
        refine (HN1.out _).mono ?_
        rintro e w1 ⟨rfl, b1⟩
        go_wp2_with fail
        refine (HN2.out _).mono ?_
        rintro e w2 ⟨rfl, hb2⟩
        have b2 := b1.trans (hb2.mono b1.size)
        clear hb2 b1 HN1 HN2
        have b3 := b2.alloc b2.size (.cells #[] 2)
        obtain ⟨m0, hm0⟩ : ∃ m, m = rnL A v ws 0 := ⟨_, rfl⟩
        obtain ⟨n0, hn0⟩ : ∃ m, m = rnL A o us 0 := ⟨_, rfl⟩
        have HM0 : Hid (m0 = rnL A v ws 0) := hm0
        have HN0 : Hid (n0 = rnL A o us 0) := hn0
        rw [← hm0, ← hn0]
        clear hm0 hn0
        by_cases h0 : m0 = n0
        · have h0b : (m0 == n0) = true := beq_iff_eq.2 h0
          have HF : Hid (fndL A v ws o us 0 = [lpa A v ws 0, lpb A v ws 0, lpa A o us 0, lpb A o us 0]) := by unfold Hid fndL; rw [if_pos (HM0.out.symm.trans (h0.trans HN0.out))]; rfl
          have hof := ownI_four (w2.alloc (.cells #[] 2)) (lpa A v ws 0) (lpb A v ws 0) (lpa A o us 0) (lpb A o us 0)
          have b4 := b3.alloc b3.size (.cells #[.int .i64 (lpa A v ws 0), .int .i64 (lpb A v ws 0), .int .i64 (lpa A o us 0), .int .i64 (lpb A o us 0)] 2)
          rw [← HF.out] at hof
          rw [show (w2.alloc (.cells #[] 2)).heap.size = w2.heap.size + 1 by simp] at hof
          have hof2 := OwnI.mono hof (show w.heap.size ≤ w2.heap.size + 1 by have := b2.size; omega)
          have HFN0 : Hid (4 = (fndL A v ws o us 0).length) := by unfold Hid; rw [HF.out]; rfl
          clear HF hof b2 b3
          generalize lpa A v ws 0 = l0 at *
          generalize lpb A v ws 0 = l1 at *
          generalize lpa A o us 0 = l2 at *
          generalize lpb A o us 0 = l3 at *
          have HM00 := HM0
          replace HN0 : Hid (m0 = rnL A o us 0) := by rw [h0]; exact HN0.out
          subst h0
          clear HM00
          go_wp2
          go_loopw [0, 16, 17, 18, 19] (fun s0 s16 s17 s18 s19 wr => ∃ (k B : Nat) (m n : Int) (fa : Option Addr) (fn fc : Nat), k ≤ 8 ∧ s0 = .int .i64 (B : Int) ∧ s16 = .int .i64 m ∧ s17 = .int .i64 n ∧ s18 = .slice fa fn fc ∧ s19 = .int .i64 k ∧ Hid (B = A / 2 ^ k) ∧ Hid (m = rnL A v ws k) ∧ Hid (n = rnL A o us k) ∧ Hid (fn = (fndL A v ws o us k).length) ∧ OwnI wr w.heap.size (.slice fa fn fc) (fndL A v ws o us k) ∧ Below w.heap.size w wr) (fun _ _ _ _ s19 _ => 8 - (intOf s19).toNat)
          case atStart => exact ⟨0, A, _, _, _, _, _, by omega, rfl, rfl, rfl, rfl, rfl, by unfold Hid; simp, HM0, HN0, HFN0, hof2, b4⟩
          case round =>
            obtain ⟨k, B, m, n, fa, fn, fc, hk, rfl, rfl, rfl, rfl, rfl, HB, HM, HN, HFN, hof, hb⟩ := hrel
            clear b4 hof2 HM0 HN0
            have hfc : fn ≤ fc ∧ fc ≤ 9223372036854775807 := by
              obtain ⟨a', c', e, h1, h2, -⟩ := hof.rd
              unfold maxLen at h2
              simp only [Value.slice.injEq] at e
              have := HFN.out
              omega
            obtain ⟨hfc1, hfc2⟩ := hfc
            by_cases hlt : k < 8
            · obtain ⟨qb, qo, hqa, c0⟩ := (HRW.out.below hb).at k (by rw [HW.out]; exact hlt)
              obtain ⟨rb, ro, hra, d0⟩ := (HRU.out.below hb).at k (by rw [HU.out]; exact hlt)
              subst hqa
              subst hra
              rw [getD_at] at c0 d0
              have hB255 : B ≤ 255 := by rw [HB.out]; exact Nat.le_trans (Nat.div_le_self _ _) hA
              have H2 : Hid (∀ W, Calls Tryd.prog 53 #[.int .i64 (B : Int), .int .i64 m, .int .i64 (ws.getD k 0)] W fun e w' => e = .returned (.tuple #[.int .i64 (lpa A v ws (k + 1)), .int .i64 (lpb A v ws (k + 1))]) ∧ w' = W) := fun W => by
                have h := l12Two_any B m (ws.getD k 0) W
                rw [HM.out, (lp_two A v ws k B HB.out).1, (lp_two A v ws k B HB.out).2] at h
                rw [HM.out]
                exact h
              have H3 : Hid (∀ W, Calls Tryd.prog 53 #[.int .i64 (B : Int), .int .i64 n, .int .i64 (us.getD k 0)] W fun e w' => e = .returned (.tuple #[.int .i64 (lpa A o us (k + 1)), .int .i64 (lpb A o us (k + 1))]) ∧ w' = W) := fun W => by
                have h := l12Two_any B n (us.getD k 0) W
                rw [HN.out, (lp_two A o us k B HB.out).1, (lp_two A o us k B HB.out).2] at h
                rw [HN.out]
                exact h
              have H4 : Hid (∀ W, Calls Tryd.prog 54 #[.int .i64 (lpa A v ws (k + 1)), .int .i64 (lpb A v ws (k + 1))] W fun e w' => e = .returned (.int .i64 (rnL A v ws (k + 1))) ∧ Below W.heap.size W w') := fun W => by
                rw [← rn_two A v ws k B HB.out, ← (lp_two A v ws k B HB.out).1, ← (lp_two A v ws k B HB.out).2]
                exact specPr _ _ W (by split; exact rnL_i64 _ _ _ _; exact HI.out k) (by split; exact HI.out k; exact rnL_i64 _ _ _ _)
              have H5 : Hid (∀ W, Calls Tryd.prog 54 #[.int .i64 (lpa A o us (k + 1)), .int .i64 (lpb A o us (k + 1))] W fun e w' => e = .returned (.int .i64 (rnL A o us (k + 1))) ∧ Below W.heap.size W w') := fun W => by
                rw [← rn_two A o us k B HB.out, ← (lp_two A o us k B HB.out).1, ← (lp_two A o us k B HB.out).2]
                exact specPr _ _ W (by split; exact rnL_i64 _ _ _ _; exact HJ.out k) (by split; exact HJ.out k; exact rnL_i64 _ _ _ _)
              obtain ⟨M, hM⟩ : ∃ M, M = rnL A v ws (k + 1) := ⟨_, rfl⟩
              obtain ⟨N, hN⟩ : ∃ N, N = rnL A o us (k + 1) := ⟨_, rfl⟩
              have HM1 : Hid (M = rnL A v ws (k + 1)) := hM
              have HN1 : Hid (N = rnL A o us (k + 1)) := hN
              rw [← hM] at H4
              rw [← hN] at H5
              have H4L : Hid (fourL A v ws o us (k + 1) = [lpa A v ws (k + 1), lpb A v ws (k + 1), lpa A o us (k + 1), lpb A o us (k + 1)]) := rfl
              generalize lpa A v ws (k + 1) = x1 at H2 H4 H4L
              generalize lpb A v ws (k + 1) = x2 at H2 H4 H4L
              generalize lpa A o us (k + 1) = x3 at H3 H5 H4L
              generalize lpb A o us (k + 1) = x4 at H3 H5 H4L
              generalize ws.getD k 0 = z1 at c0 H2
              generalize us.getD k 0 = z2 at d0 H3
              have hk1 : (k : Int) < 8 := by omega
              have hB2 := half2_i64 B hB255
              have HB255 : Hid (B ≤ 255) := hB255
              have HB2 : Hid (B / 2 = A / 2 ^ (k + 1)) := by unfold Hid; rw [HB.out, Nat.div_div_eq_div_mul, ← Nat.pow_succ]
              clear hB255 HB HM HN hM hN
              have hd0 := (World.block_lt_of_cell? wr _ d0)
              go_wp2_with fail
              refine (H2.out _).mono ?_
              rintro e w3 ⟨rfl, hw3⟩
              obtain rfl : wr = w3 := hw3.symm
              clear hw3 H2
              go_wp2_with fail
              refine (H3.out _).mono ?_
              rintro e w3 ⟨rfl, hw3⟩
              obtain rfl : wr = w3 := hw3.symm
              clear hw3 H3 c0 d0 hd0
              go_wp2_with fail
              refine (H4.out _).mono ?_
              rintro e w4 ⟨rfl, hb4⟩
              have b4 := hb.trans (hb4.mono hb.size)
              have ho4 := OwnI.below hof hb4
              clear hb hb4 H4 hof
              go_wp2_with fail
              refine (H5.out _).mono ?_
              rintro e w5 ⟨rfl, hb5⟩
              have b5 := b4.trans (hb5.mono b4.size)
              have ho5 := OwnI.below ho4 hb5
              clear b4 hb5 H5 ho4
              have hBQ := half2_w64 B HB255.out
              by_cases hMN : M = N
              · have hmb : (M == N) = true := beq_iff_eq.2 hMN
                by_cases hf0 : fn = 0
                · have HE : Hid (fndL A v ws o us k = []) := List.length_eq_zero_iff.1 (HFN.out.symm.trans hf0)
                  have HNW : Hid (fndL A v ws o us (k + 1) = [x1, x2, x3, x4]) := (fnd_new HE.out (HM1.out.symm.trans (hMN.trans HN1.out))).trans H4L.out
                  have R1 := OwnI.mono (ownI_four w5 x1 x2 x3 x4) b5.size
                  rw [← HNW.out] at R1
                  have R2 := b5.alloc b5.size (.cells #[.int .i64 x1, .int .i64 x2, .int .i64 x3, .int .i64 x4] 2)
                  have R3 : Hid (4 = (fndL A v ws o us (k + 1)).length) := by unfold Hid; rw [HNW.out]; rfl
                  subst hf0
                  have HMN : Hid (M = N) := hMN
                  clear ho5 b5 hMN
                  go_wp2
                  go_roundw
                  case rel => exact ⟨k + 1, B / 2, _, _, _, 4, 4, by omega, by first | rfl | rw [hBQ] | rw [hB2], rfl, rfl, rfl, by go_num, HB2, (by first | exact HM1 | (rw [HMN.out]; exact HN1)), (by first | exact HN1 | (rw [← HMN.out]; exact HM1)), R3, R1, R2⟩
                  case measure => simp [intOf]; omega
                · have hfb : ((fn : Int) == 0) = false := beq_false_of_ne (by omega)
                  have HS : Hid (fndL A v ws o us (k + 1) = fndL A v ws o us k) := fnd_stay (fun e => hf0 (by rw [HFN.out, e]; rfl))
                  rw [← HS.out] at ho5
                  have R3 : Hid (fn = (fndL A v ws o us (k + 1)).length) := by unfold Hid; rw [HS.out]; exact HFN.out
                  have HMN : Hid (M = N) := hMN
                  clear hMN
                  go_wp2
                  go_roundw
                  case rel => exact ⟨k + 1, B / 2, _, _, _, _, _, by omega, by first | rfl | rw [hBQ] | rw [hB2], rfl, rfl, rfl, by go_num, HB2, (by first | exact HM1 | (rw [HMN.out]; exact HN1)), (by first | exact HN1 | (rw [← HMN.out]; exact HM1)), R3, ho5, b5⟩
                  case measure => simp [intOf]; omega
              · have hmb : (M == N) = false := beq_false_of_ne hMN
                have HS : Hid (fndL A v ws o us (k + 1) = fndL A v ws o us k) := by
                  unfold Hid
                  by_cases he : fndL A v ws o us k = []
                  · rw [he]; exact fnd_no he (fun e => hMN (HM1.out.trans (e.trans HN1.out.symm)))
                  · exact fnd_stay he
                rw [← HS.out] at ho5
                have R3 : Hid (fn = (fndL A v ws o us (k + 1)).length) := by unfold Hid; rw [HS.out]; exact HFN.out
                go_wp2
                go_roundw
                case rel => exact ⟨k + 1, B / 2, _, _, _, _, _, by omega, by first | rfl | rw [hBQ] | rw [hB2], rfl, rfl, rfl, by go_num, HB2, HM1, HN1, R3, ho5, b5⟩
                case measure => simp [intOf]; omega
            · obtain rfl : k = 8 := by omega
              by_cases hMN : m = n
              · have RES2 : Hid (ptdB (A : Int) v ws o us = true) := by unfold Hid; rw [RES.out, ← HM.out, ← HN.out, decide_eq_true hMN]
                have hf0 : ¬ fn = 0 := fun e => fndL_some A v ws o us 8 (HM.out.symm.trans (hMN.trans HN.out)) (List.length_eq_zero_iff.1 (HFN.out.symm.trans e))
                have hfb : ((fn : Int) == 0) = false := beq_false_of_ne (by omega)
                have hmb : (m != n) = false := by rw [bne_eq_false_iff_eq]; exact hMN
                have HE : Hid (PtdPost w (A : Int) v ws o us (.returned (.tuple #[.slice fa fn fc, .bool true])) wr) := ptd_yes RES2.out (by rw [Int.toNat_natCast]; exact hof) hb
                clear hof hb HM HN hMN
                go_wp2
                go_ret2
                exact HE.out
              · have RES2 : Hid (ptdB (A : Int) v ws o us = false) := by unfold Hid; rw [RES.out, ← HM.out, ← HN.out, decide_eq_false hMN]
                have hmb : (m != n) = true := by rw [bne_iff_ne]; exact hMN
                clear hof HM HN
                go_wp2
                go_ret2
                exact ptd_no RES2.out hb
        · have h0b : (m0 == n0) = false := beq_false_of_ne h0
          have HF : Hid (fndL A v ws o us 0 = []) := by unfold Hid fndL; rw [if_neg (fun e => h0 (HM0.out.trans (e.trans HN0.out.symm)))]
          have hof := ownI_none w2
          rw [← HF.out] at hof
          have hof2 := OwnI.mono hof b2.size
          have HFN0 : Hid (0 = (fndL A v ws o us 0).length) := by unfold Hid; rw [HF.out]; rfl
          clear HF hof b2
          go_wp2
          go_loopw [0, 16, 17, 18, 19] (fun s0 s16 s17 s18 s19 wr => ∃ (k B : Nat) (m n : Int) (fa : Option Addr) (fn fc : Nat), k ≤ 8 ∧ s0 = .int .i64 (B : Int) ∧ s16 = .int .i64 m ∧ s17 = .int .i64 n ∧ s18 = .slice fa fn fc ∧ s19 = .int .i64 k ∧ Hid (B = A / 2 ^ k) ∧ Hid (m = rnL A v ws k) ∧ Hid (n = rnL A o us k) ∧ Hid (fn = (fndL A v ws o us k).length) ∧ OwnI wr w.heap.size (.slice fa fn fc) (fndL A v ws o us k) ∧ Below w.heap.size w wr) (fun _ _ _ _ s19 _ => 8 - (intOf s19).toNat)
          case atStart => exact ⟨0, A, _, _, _, _, _, by omega, rfl, rfl, rfl, rfl, rfl, by unfold Hid; simp, HM0, HN0, HFN0, hof2, b3⟩
          case round =>
            obtain ⟨k, B, m, n, fa, fn, fc, hk, rfl, rfl, rfl, rfl, rfl, HB, HM, HN, HFN, hof, hb⟩ := hrel
            clear b3 hof2 HM0 HN0
            have hfc : fn ≤ fc ∧ fc ≤ 9223372036854775807 := by
              obtain ⟨a', c', e, h1, h2, -⟩ := hof.rd
              unfold maxLen at h2
              simp only [Value.slice.injEq] at e
              have := HFN.out
              omega
            obtain ⟨hfc1, hfc2⟩ := hfc
            by_cases hlt : k < 8
            · obtain ⟨qb, qo, hqa, c0⟩ := (HRW.out.below hb).at k (by rw [HW.out]; exact hlt)
              obtain ⟨rb, ro, hra, d0⟩ := (HRU.out.below hb).at k (by rw [HU.out]; exact hlt)
              subst hqa
              subst hra
              rw [getD_at] at c0 d0
              have hB255 : B ≤ 255 := by rw [HB.out]; exact Nat.le_trans (Nat.div_le_self _ _) hA
              have H2 : Hid (∀ W, Calls Tryd.prog 53 #[.int .i64 (B : Int), .int .i64 m, .int .i64 (ws.getD k 0)] W fun e w' => e = .returned (.tuple #[.int .i64 (lpa A v ws (k + 1)), .int .i64 (lpb A v ws (k + 1))]) ∧ w' = W) := fun W => by
                have h := l12Two_any B m (ws.getD k 0) W
                rw [HM.out, (lp_two A v ws k B HB.out).1, (lp_two A v ws k B HB.out).2] at h
                rw [HM.out]
                exact h
              have H3 : Hid (∀ W, Calls Tryd.prog 53 #[.int .i64 (B : Int), .int .i64 n, .int .i64 (us.getD k 0)] W fun e w' => e = .returned (.tuple #[.int .i64 (lpa A o us (k + 1)), .int .i64 (lpb A o us (k + 1))]) ∧ w' = W) := fun W => by
                have h := l12Two_any B n (us.getD k 0) W
                rw [HN.out, (lp_two A o us k B HB.out).1, (lp_two A o us k B HB.out).2] at h
                rw [HN.out]
                exact h
              have H4 : Hid (∀ W, Calls Tryd.prog 54 #[.int .i64 (lpa A v ws (k + 1)), .int .i64 (lpb A v ws (k + 1))] W fun e w' => e = .returned (.int .i64 (rnL A v ws (k + 1))) ∧ Below W.heap.size W w') := fun W => by
                rw [← rn_two A v ws k B HB.out, ← (lp_two A v ws k B HB.out).1, ← (lp_two A v ws k B HB.out).2]
                exact specPr _ _ W (by split; exact rnL_i64 _ _ _ _; exact HI.out k) (by split; exact HI.out k; exact rnL_i64 _ _ _ _)
              have H5 : Hid (∀ W, Calls Tryd.prog 54 #[.int .i64 (lpa A o us (k + 1)), .int .i64 (lpb A o us (k + 1))] W fun e w' => e = .returned (.int .i64 (rnL A o us (k + 1))) ∧ Below W.heap.size W w') := fun W => by
                rw [← rn_two A o us k B HB.out, ← (lp_two A o us k B HB.out).1, ← (lp_two A o us k B HB.out).2]
                exact specPr _ _ W (by split; exact rnL_i64 _ _ _ _; exact HJ.out k) (by split; exact HJ.out k; exact rnL_i64 _ _ _ _)
              obtain ⟨M, hM⟩ : ∃ M, M = rnL A v ws (k + 1) := ⟨_, rfl⟩
              obtain ⟨N, hN⟩ : ∃ N, N = rnL A o us (k + 1) := ⟨_, rfl⟩
              have HM1 : Hid (M = rnL A v ws (k + 1)) := hM
              have HN1 : Hid (N = rnL A o us (k + 1)) := hN
              rw [← hM] at H4
              rw [← hN] at H5
              have H4L : Hid (fourL A v ws o us (k + 1) = [lpa A v ws (k + 1), lpb A v ws (k + 1), lpa A o us (k + 1), lpb A o us (k + 1)]) := rfl
              generalize lpa A v ws (k + 1) = x1 at H2 H4 H4L
              generalize lpb A v ws (k + 1) = x2 at H2 H4 H4L
              generalize lpa A o us (k + 1) = x3 at H3 H5 H4L
              generalize lpb A o us (k + 1) = x4 at H3 H5 H4L
              generalize ws.getD k 0 = z1 at c0 H2
              generalize us.getD k 0 = z2 at d0 H3
              have hk1 : (k : Int) < 8 := by omega
              have hB2 := half2_i64 B hB255
              have HB255 : Hid (B ≤ 255) := hB255
              have HB2 : Hid (B / 2 = A / 2 ^ (k + 1)) := by unfold Hid; rw [HB.out, Nat.div_div_eq_div_mul, ← Nat.pow_succ]
              clear hB255 HB HM HN hM hN
              have hd0 := (World.block_lt_of_cell? wr _ d0)
              go_wp2_with fail
              refine (H2.out _).mono ?_
              rintro e w3 ⟨rfl, hw3⟩
              obtain rfl : wr = w3 := hw3.symm
              clear hw3 H2
              go_wp2_with fail
              refine (H3.out _).mono ?_
              rintro e w3 ⟨rfl, hw3⟩
              obtain rfl : wr = w3 := hw3.symm
              clear hw3 H3 c0 d0 hd0
              go_wp2_with fail
              refine (H4.out _).mono ?_
              rintro e w4 ⟨rfl, hb4⟩
              have b4 := hb.trans (hb4.mono hb.size)
              have ho4 := OwnI.below hof hb4
              clear hb hb4 H4 hof
              go_wp2_with fail
              refine (H5.out _).mono ?_
              rintro e w5 ⟨rfl, hb5⟩
              have b5 := b4.trans (hb5.mono b4.size)
              have ho5 := OwnI.below ho4 hb5
              clear b4 hb5 H5 ho4
              have hBQ := half2_w64 B HB255.out
              by_cases hMN : M = N
              · have hmb : (M == N) = true := beq_iff_eq.2 hMN
                by_cases hf0 : fn = 0
                · have HE : Hid (fndL A v ws o us k = []) := List.length_eq_zero_iff.1 (HFN.out.symm.trans hf0)
                  have HNW : Hid (fndL A v ws o us (k + 1) = [x1, x2, x3, x4]) := (fnd_new HE.out (HM1.out.symm.trans (hMN.trans HN1.out))).trans H4L.out
                  have R1 := OwnI.mono (ownI_four w5 x1 x2 x3 x4) b5.size
                  rw [← HNW.out] at R1
                  have R2 := b5.alloc b5.size (.cells #[.int .i64 x1, .int .i64 x2, .int .i64 x3, .int .i64 x4] 2)
                  have R3 : Hid (4 = (fndL A v ws o us (k + 1)).length) := by unfold Hid; rw [HNW.out]; rfl
                  subst hf0
                  have HMN : Hid (M = N) := hMN
                  clear ho5 b5 hMN
                  go_wp2
                  go_roundw
                  case rel => exact ⟨k + 1, B / 2, _, _, _, 4, 4, by omega, by first | rfl | rw [hBQ] | rw [hB2], rfl, rfl, rfl, by go_num, HB2, (by first | exact HM1 | (rw [HMN.out]; exact HN1)), (by first | exact HN1 | (rw [← HMN.out]; exact HM1)), R3, R1, R2⟩
                  case measure => simp [intOf]; omega
                · have hfb : ((fn : Int) == 0) = false := beq_false_of_ne (by omega)
                  have HS : Hid (fndL A v ws o us (k + 1) = fndL A v ws o us k) := fnd_stay (fun e => hf0 (by rw [HFN.out, e]; rfl))
                  rw [← HS.out] at ho5
                  have R3 : Hid (fn = (fndL A v ws o us (k + 1)).length) := by unfold Hid; rw [HS.out]; exact HFN.out
                  have HMN : Hid (M = N) := hMN
                  clear hMN
                  go_wp2
                  go_roundw
                  case rel => exact ⟨k + 1, B / 2, _, _, _, _, _, by omega, by first | rfl | rw [hBQ] | rw [hB2], rfl, rfl, rfl, by go_num, HB2, (by first | exact HM1 | (rw [HMN.out]; exact HN1)), (by first | exact HN1 | (rw [← HMN.out]; exact HM1)), R3, ho5, b5⟩
                  case measure => simp [intOf]; omega
              · have hmb : (M == N) = false := beq_false_of_ne hMN
                have HS : Hid (fndL A v ws o us (k + 1) = fndL A v ws o us k) := by
                  unfold Hid
                  by_cases he : fndL A v ws o us k = []
                  · rw [he]; exact fnd_no he (fun e => hMN (HM1.out.trans (e.trans HN1.out.symm)))
                  · exact fnd_stay he
                rw [← HS.out] at ho5
                have R3 : Hid (fn = (fndL A v ws o us (k + 1)).length) := by unfold Hid; rw [HS.out]; exact HFN.out
                go_wp2
                go_roundw
                case rel => exact ⟨k + 1, B / 2, _, _, _, _, _, by omega, by first | rfl | rw [hBQ] | rw [hB2], rfl, rfl, rfl, by go_num, HB2, HM1, HN1, R3, ho5, b5⟩
                case measure => simp [intOf]; omega
            · obtain rfl : k = 8 := by omega
              by_cases hMN : m = n
              · have RES2 : Hid (ptdB (A : Int) v ws o us = true) := by unfold Hid; rw [RES.out, ← HM.out, ← HN.out, decide_eq_true hMN]
                have hf0 : ¬ fn = 0 := fun e => fndL_some A v ws o us 8 (HM.out.symm.trans (hMN.trans HN.out)) (List.length_eq_zero_iff.1 (HFN.out.symm.trans e))
                have hfb : ((fn : Int) == 0) = false := beq_false_of_ne (by omega)
                have hmb : (m != n) = false := by rw [bne_eq_false_iff_eq]; exact hMN
                have HE : Hid (PtdPost w (A : Int) v ws o us (.returned (.tuple #[.slice fa fn fc, .bool true])) wr) := ptd_yes RES2.out (by rw [Int.toNat_natCast]; exact hof) hb
                clear hof hb HM HN hMN
                go_wp2
                go_ret2
                exact HE.out
              · have RES2 : Hid (ptdB (A : Int) v ws o us = false) := by unfold Hid; rw [RES.out, ← HM.out, ← HN.out, decide_eq_false hMN]
                have hmb : (m != n) = true := by rw [bne_iff_ne]; exact hMN
                clear hof HM HN
                go_wp2
                go_ret2
                exact ptd_no RES2.out hb
end Go.Proofs.YtmfopbkhlekhkaaDoor
