/- The contract of the model's Gathered. -/
-- UNF Gen
import Derived.Test.YtbnibnbmdbdibabDoorGatBase
import Derived.Test.YtbnibnbmdbdibabDoorBlkVok
namespace Go.Proofs.YtbnibnbmdbdibabDoor
open Go.RowKit
set_option maxHeartbeats 8000000 in
set_option maxRecDepth 100000 in
theorem specGathered_any (v : Value) (l : List Vot) (n : Int) (w : World) (hr : RdVo w v l) (hf : ∀ x ∈ l, FitVo x) :
    Calls Tryd.prog 12 #[v, .int .i64 n] w fun e w' => GatP w (gatR l n) e w' := by
  obtain ⟨a, cap, hv, hl, hm, -, -⟩ := id hr
  unfold maxLen at hm
  obtain ⟨m, hm1⟩ : ∃ m, m = l.length := ⟨_, rfl⟩
  have HM : Hid (m = l.length) := hm1
  rw [← hm1] at hv hl
  subst hv
  have HR : Hid (RdVo w (.slice a m cap) l) := hr
  have HQ : Hid (∀ z, quoR n = z → ∀ W, Calls Tryd.prog 29 #[.int .i64 n] W fun e w' => e = .returned (.int .i64 z) ∧ w' = W) := fun z hz W => specQuorumZ_any z n hz W
  have HSV : Hid (∀ b, srvB n = b → ∀ W, Calls Tryd.prog 25 #[.int .i64 n] W fun e w' => e = .returned (.bool b) ∧ w' = W) := fun b h W => l15ServersB_any b n h W
  have X0 := bx_new w 27 #[.int .i64 0, .int .i64 0, .slice none 0 0, .slice none 0 0]
  have HB0 : Hid (Below w.heap.size w (w.alloc (.cells #[.int .i64 0, .int .i64 0, .slice none 0 0, .slice none 0 0] 27))) := below1 w _
  obtain ⟨R, hR⟩ : ∃ R, R = gatR l n := ⟨_, rfl⟩
  rw [← hR]
  have HRR : Hid (R = gatR l n) := hR
  obtain ⟨c0, c1, c2, c3⟩ := X0.c4
  obtain ⟨f0, f1, f2, f3⟩ := X0.f4
  clear hr hm1 hR
  cases hS : srvB n with
  | false =>
    have HSf : Hid (srvB n = false) := hS
    have RES : Hid (R = none) := by unfold Hid; rw [HRR.out]; unfold gatR; rw [if_neg]; rintro ⟨h, _⟩; rw [hS] at h; cases h
    clear hS X0
    by_cases h0 : m = 0
    · subst h0
      go_enter Tryd.func12, Tryd.ntmps12
      go_wp2
      exact bodyPost_ret (v := .tuple #[.agg #[.int .i64 0, .int .i64 0, .slice none 0 0, .slice none 0 0], .bool false]) (by simp [results, Tryd.results12, go_sem]) rfl (GatP.no RES.out HB0.out)
    · have hm0 : ((m : Int) == 0) = false := by simp; omega
      clear h0
      go_enter Tryd.func12, Tryd.ntmps12
      go_wp2_with fail
      refine (HSV.out false HSf.out _).mono ?_
      rintro e w2 ⟨rfl, rfl⟩
      go_wp2
      exact bodyPost_ret (v := .tuple #[.agg #[.int .i64 0, .int .i64 0, .slice none 0 0, .slice none 0 0], .bool false]) (by simp [results, Tryd.results12, go_sem]) rfl (GatP.no RES.out HB0.out)
  | true =>
  have HS0 : Hid (srvB n = true) := hS
  obtain ⟨hq0, hq1, hn0, hn1⟩ := quoR_yes hS
  obtain ⟨q, hq⟩ : ∃ q, quoR n = q := ⟨_, rfl⟩
  rw [hq] at hq0 hq1
  have HQE : Hid (quoR n = q) := hq
  clear hq hS
  by_cases h0 : m = 0
  · have RES : Hid (R = none) := by unfold Hid; rw [HRR.out]; unfold gatR; rw [if_neg]; rintro ⟨_, h, _⟩; exact h (List.length_eq_zero_iff.1 (by rw [← HM.out]; exact h0))
    subst h0
    clear X0
    go_enter Tryd.func12, Tryd.ntmps12
    go_wp2
    exact bodyPost_ret (v := .tuple #[.agg #[.int .i64 0, .int .i64 0, .slice none 0 0, .slice none 0 0], .bool false]) (by simp [results, Tryd.results12, go_sem]) rfl (GatP.no RES.out HB0.out)
  have hm0 : ((m : Int) == 0) = false := by simp; omega
  have hm00 : 0 < m := by omega
  obtain ⟨w1, hw1⟩ : ∃ w1, w1 = w.alloc (.cells #[.int .i64 0, .int .i64 0, .slice none 0 0, .slice none 0 0] 27) := ⟨_, rfl⟩
  have s1 : w1.heap.size = w.heap.size + 1 := by rw [hw1]; simp
  clear c0 c1 c2 c3 f0 f1 f2 f3
  rw [← hw1] at X0 HB0
  obtain ⟨b, off, rfl, hc⟩ := (HR.out.below HB0.out).at HM.out 0 (by rw [← HM.out]; omega)
  obtain ⟨vw, hvw⟩ : ∃ vw, vw = (nthVo l 0).vw := ⟨_, rfl⟩
  obtain ⟨nm, hnm⟩ : ∃ nm, nm = (nthVo l 0).nm := ⟨_, rfl⟩
  have HGR : Hid (R = if quoR n ≤ ((gPr l vw nm n.toNat).sv.length : Int) then some (gPr l vw nm n.toNat) else none) := by
    unfold Hid
    rw [HRR.out, hvw, hnm]
    unfold gatR
    by_cases hc : quoR n ≤ ((gPr l (nthVo l 0).vw (nthVo l 0).nm n.toNat).sv.length : Int)
    · rw [if_pos hc, if_pos ⟨HS0.out, (fun e => h0 (by rw [HM.out, e]; rfl)), hc⟩]
    · rw [if_neg hc, if_neg (fun h => hc h.2.2)]
  have HFVW : Hid ((-9223372036854775808 ≤ vw ∧ vw ≤ 9223372036854775807) ∧ (-9223372036854775808 ≤ nm ∧ nm ≤ 9223372036854775807)) := by
    have hx := hf (nthVo l 0) (by rw [nthVo_eq (by rw [← HM.out]; omega)]; exact List.getElem_mem _)
    exact ⟨by rw [hvw]; exact hx.vw, by rw [hnm]; exact hx.nm⟩
  obtain ⟨hc0, hc1, -, -⟩ := hc
  rw [← hvw, Nat.zero_mul, Nat.add_zero] at hc0
  rw [← hnm, Nat.zero_mul, Nat.add_zero] at hc1
  have HS : Hid (∀ V, Below w1.heap.size w1 V → V.cell? ⟨b, off, none⟩ = some (.int .i64 vw) ∧ V.cell? ⟨b, off + 1, none⟩ = some (.int .i64 nm)) := fun V hb => ⟨(hb.cell (p := ⟨b, off, none⟩) (World.block_lt_of_cell? w1 _ hc0)).trans hc0, (hb.cell (p := ⟨b, off + 1, none⟩) (World.block_lt_of_cell? w1 _ hc1)).trans hc1⟩
  obtain ⟨N, hN⟩ := Int.eq_ofNat_of_zero_le (show 0 ≤ n by omega)
  subst hN
  rw [Int.toNat_natCast] at HGR
  clear hvw hnm hc0 hc1 HRR h0
  have XW : Hid (Bx w1 w.heap.size 27 #[.int .i64 0, .int .i64 0, .slice none 0 0, .slice none 0 0]) := X0
  have HFX : Hid (∀ x ∈ l, FitVo x) := hf
  have HVK : Hid (∀ (x : Vot) b, FitVo x → vokR x N = b → ∀ W, Calls Tryd.prog 30 #[.agg #[.int .i64 x.vw, .int .i64 x.nm, .int .i64 x.sv, .int .i64 x.tg], .int .i64 (N : Int)] W fun e w' => e = .returned (.bool b) ∧ Below W.heap.size W w') := fun x b hx hb W => by rw [← hb]; exact specVoteOk_any x N W hx
  clear hf
  go_enter Tryd.func12, Tryd.ntmps12
  go_wp2_with fail
  rw [← hw1]
  refine (HSV.out true HS0.out _).mono ?_
  rintro e w2 ⟨rfl, hw2⟩
  obtain rfl := hw2.symm
  clear hw1 X0
  go_wp2_with fail
  refine wp_region_noPanic ?_
  refine wp_region_held_drew (S := fun w' => w'.cell? ⟨b, off, none⟩ = some (.int .i64 vw) ∧ w'.cell? ⟨b, off + 1, none⟩ = some (.int .i64 nm)) (by kernel_rfl) (HS.out _ ((Below.refl _ _).drew)) (fun h0 => ?_)
  refine tkG 0 19 h0 ?_
  try simp only [Act.put, List.setIfInBounds_toArray, List.set_cons_zero, List.set_cons_succ]
  refine tkG 1 20 h0 ?_
  try simp only [Act.put, List.setIfInBounds_toArray, List.set_cons_zero, List.set_cons_succ]
  refine tkG 2 21 h0 ?_
  try simp only [Act.put, List.setIfInBounds_toArray, List.set_cons_zero, List.set_cons_succ]
  refine tkG 3 22 h0 ?_
  try simp only [Act.put, List.setIfInBounds_toArray, List.set_cons_zero, List.set_cons_succ]
  refine tkG 4 23 h0 ?_
  try simp only [Act.put, List.setIfInBounds_toArray, List.set_cons_zero, List.set_cons_succ]
  refine tkG 5 24 h0 ?_
  try simp only [Act.put, List.setIfInBounds_toArray, List.set_cons_zero, List.set_cons_succ]
  refine tkG 6 25 h0 ?_
  try simp only [Act.put, List.setIfInBounds_toArray, List.set_cons_zero, List.set_cons_succ]
  refine tkG 7 26 h0 ?_
  try simp only [Act.put, List.setIfInBounds_toArray, List.set_cons_zero, List.set_cons_succ]
  refine tkG 8 27 h0 ?_
  try simp only [Act.put, List.setIfInBounds_toArray, List.set_cons_zero, List.set_cons_succ]
  refine wpAnyH_ready (rs := [9]) (by kernel_rfl) (by simp) ?_
  refine AllReadyH.cons rfl (fun K hK => ?_) AllReadyH.nil
  go_simp
  have HSA := HS.out ((w1.alloc (.cells #[.int .i64 0, .int .i64 0, .slice none 0 0, .slice none 0 0] 27)).drew) ((below1 w1 _).drew)
  have Q0 : Bx ((w1.alloc (.cells #[.int .i64 0, .int .i64 0, .slice none 0 0, .slice none 0 0] 27)).drew) (w.heap.size + 1) 27 #[.int .i64 0, .int .i64 0, .slice none 0 0, .slice none 0 0] := by rw [← s1]; exact (bx_new w1 _ _).below (Below.refl _ _).drew
  obtain ⟨g0, g1, g2, g3⟩ := Q0.c4
  obtain ⟨e0, e1, e2, e3⟩ := Q0.f4
  have HSB := HS.out ((w1.alloc (.cells #[.int .i64 vw, .int .i64 nm, .slice none 0 0, .slice none 0 0] 27)).drew) ((below1 w1 _).drew)
  have L0 : PrBx w1 ((w1.alloc (.cells #[.int .i64 vw, .int .i64 nm, .slice none 0 0, .slice none 0 0] 27)).drew) (w.heap.size + 1) #[.int .i64 vw, .int .i64 nm, .slice none 0 0, .slice none 0 0] ⟨⟨vw, nm, [], []⟩, .slice none 0 0, .slice none 0 0⟩ := by rw [← s1]; exact (prBx_new vw nm (Below.refl _ _)).drew
  refine hK.out _ _ (HSA) (fun h1 => ?_)
  clear hK K
  try simp only [Act.put, List.setIfInBounds_toArray, List.set_cons_zero, List.set_cons_succ]
  clear h0
  refine wpAnyH_ready (rs := [10]) (by kernel_rfl) (by simp) ?_
  refine AllReadyH.cons rfl (fun K hK => ?_) AllReadyH.nil
  go_simp
  clear g0 g1 g2 g3 e0 e1 e2 e3 Q0
  refine hK.out _ _ (HSB) (fun h2 => ?_)
  clear hK K
  try simp only [Act.put, List.setIfInBounds_toArray, List.set_cons_zero, List.set_cons_succ]
  clear h1
  refine wpAnyH_done (by kernel_rfl) ?_ _
  refine NoPanic.normal ?_
  clear HSB HSA
  revert L0
  generalize (w1.alloc (.cells #[.int .i64 vw, .int .i64 nm, .slice none 0 0, .slice none 0 0] 27)).drew = W5
  intro L0
  go_wp2
  have HL0 : Hid (PrBx w1 W5 (w.heap.size + 1) #[.int .i64 vw, .int .i64 nm, .slice none 0 0, .slice none 0 0] ⟨⟨vw, nm, [], []⟩, .slice none 0 0, .slice none 0 0⟩) := L0
  have HS1 : Hid (w1.heap.size = w.heap.size + 1) := s1
  clear L0 hm00 s1
  go_loopw [7] (fun ii wr => ∃ (k : Nat) (sv tg : List Int) (a1 a2 : Option Addr) (n1 c1 n2 c2 : Nat), k ≤ N ∧ ii = .int .i64 k ∧ Hid (gPr l vw nm k = ⟨vw, nm, sv, tg⟩) ∧ Hid (PrBx w1 wr (w.heap.size + 1) #[.int .i64 vw, .int .i64 nm, .slice a1 n1 c1, .slice a2 n2 c2] ⟨⟨vw, nm, sv, tg⟩, .slice a1 n1 c1, .slice a2 n2 c2⟩)) (fun ii _ => N - (intOf ii).toNat)
  case atStart => exact ⟨0, [], [], none, none, 0, 0, 0, 0, Nat.zero_le _, rfl, gPr_zero l vw nm, HL0.out⟩
  case round =>
    obtain ⟨k, sv, tg, a1, a2, n1, c1, n2, c2, hk, rfl, HG, HL⟩ := hrel
    clear HL0
    by_cases hlt : k < N
    · have hk1 : (k : Int) < (N : Int) := by omega
      go_wp2
      go_loopw [8] (fun ii wr => ∃ i : Nat, i ≤ m ∧ ii = .int .i64 i ∧ Hid (∀ j, j < i → ¬ ((nthVo l j).sv = (k : Int) ∧ (nthVo l j).vw = vw ∧ (nthVo l j).nm = nm ∧ vokR (nthVo l j) N = true)) ∧ Hid (PrBx w1 wr (w.heap.size + 1) #[.int .i64 vw, .int .i64 nm, .slice a1 n1 c1, .slice a2 n2 c2] ⟨⟨vw, nm, sv, tg⟩, .slice a1 n1 c1, .slice a2 n2 c2⟩)) (fun ii _ => m - (intOf ii).toNat)
      case atStart => exact ⟨0, Nat.zero_le _, rfl, (fun j hj => by omega), HL.out⟩
      case round =>
        obtain ⟨i, hi, rfl, HO, HL⟩ := hrel
        by_cases hil : i < m
        · have hil1 : (i : Int) < (m : Int) := by omega
          have hie : i < l.length := by rw [← HM.out]; exact hil
          obtain ⟨b0, off0, hbo, hc⟩ := (HR.out.below (HB0.out.trans (HL.out.bel.mono HB0.out.size))).at HM.out i hie
          simp only [Option.some.injEq, Addr.mk.injEq] at hbo
          obtain ⟨rfl, rfl, _⟩ := hbo
          obtain ⟨x, hx⟩ : ∃ x, x = nthVo l i := ⟨_, rfl⟩
          rw [← hx] at hc
          have HXE : Hid (x = nthVo l i) := hx
          have HXF : Hid (FitVo x) := by unfold Hid; rw [hx, nthVo_eq hie]; exact HFX.out _ (List.getElem_mem hie)
          have HXM : Hid (x ∈ l) := by unfold Hid; rw [hx, nthVo_eq hie]; exact List.getElem_mem hie
          obtain ⟨l0, l1, l2, l3⟩ := hc
          have X4 := bx_new wr 58 #[.int .i64 x.vw, .int .i64 x.nm, .int .i64 x.sv, .int .i64 x.tg]
          have HL4 : Hid (PrBx w1 (wr.alloc (.cells #[.int .i64 x.vw, .int .i64 x.nm, .int .i64 x.sv, .int .i64 x.tg] 58)) (w.heap.size + 1) #[.int .i64 vw, .int .i64 nm, .slice a1 n1 c1, .slice a2 n2 c2] ⟨⟨vw, nm, sv, tg⟩, .slice a1 n1 c1, .slice a2 n2 c2⟩) := HL.out.below (below1 wr _)
          have HX4 : Hid (Bx (wr.alloc (.cells #[.int .i64 x.vw, .int .i64 x.nm, .int .i64 x.sv, .int .i64 x.tg] 58)) wr.heap.size 58 #[.int .i64 x.vw, .int .i64 x.nm, .int .i64 x.sv, .int .i64 x.tg]) := X4
          obtain ⟨x0, x1, x2, x3⟩ := X4.c4
          obtain ⟨g0, g1, g2, g3⟩ := HL4.out.box.c4
          clear X4 hx
          by_cases hsv : x.sv = (k : Int)
          · have es : (x.sv == (k : Int)) = true := by simp [hsv]
            by_cases hvw : x.vw = vw
            · have ev : (x.vw == vw) = true := by simp [hvw]
              by_cases hnm : x.nm = nm
              · have en : (x.nm == nm) = true := by simp [hnm]
                cases hvk : vokR x N with
                | false =>
                  have HVf : Hid (vokR x N = false) := hvk
                  have HO2 : Hid (∀ j, j < i + 1 → ¬ ((nthVo l j).sv = (k : Int) ∧ (nthVo l j).vw = vw ∧ (nthVo l j).nm = nm ∧ vokR (nthVo l j) N = true)) := by
                    intro j hj
                    by_cases hji : j = i
                    · rw [hji, ← HXE.out]; rintro ⟨q1, q2, q3, q4⟩; rw [hvk] at q4; cases q4
                    · exact HO.out j (by omega)
                  clear hsv hvw hnm hvk
                  go_wp2_with fail
                  refine (HVK.out x false HXF.out HVf.out _).mono ?_
                  rintro e w5 ⟨rfl, hb5⟩
                  have HL5 : Hid (PrBx w1 w5 (w.heap.size + 1) #[.int .i64 vw, .int .i64 nm, .slice a1 n1 c1, .slice a2 n2 c2] ⟨⟨vw, nm, sv, tg⟩, .slice a1 n1 c1, .slice a2 n2 c2⟩) := HL4.out.below hb5
                  clear hb5 x0 x1 x2 x3 g0 g1 g2 g3 l0 l1 l2 l3
                  go_wp2
                  go_roundw
                  case rel => exact ⟨i + 1, by omega, by go_num, HO2, HL5⟩
                  case measure => simp [intOf]; omega
                | true =>
                  have HVt : Hid (vokR x N = true) := hvk
                  have HTG : Hid (x.tg = (tagD k (balS vw nm) : Int)) := by
                    unfold Hid
                    unfold vokR at hvk
                    simp only [Bool.and_eq_true, decide_eq_true_eq] at hvk
                    rw [← hvk.2, hsv, hvw, hnm]
                  have HSL : Hid (selB l vw nm k = true) := by
                    unfold Hid
                    have h0 := hvk
                    unfold vokR at hvk
                    simp only [Bool.and_eq_true, decide_eq_true_eq] at hvk
                    obtain ⟨⟨⟨_, h1⟩, h2⟩, h3⟩ := hvk
                    rw [hvw] at h1
                    rw [hnm] at h2
                    unfold selB
                    rw [h1, h2]
                    have e : x = vtd k vw nm := by
                      unfold vtd
                      rw [hsv, hvw, hnm] at h3
                      rw [h3, ← hsv, ← hvw, ← hnm]
                    simp only [Bool.true_and, decide_eq_true_eq]
                    rw [← e]; exact HXM.out
                  have HG2 : Hid (gPr l vw nm (k + 1) = ⟨vw, nm, sv ++ [(k : Int)], tg ++ [x.tg]⟩) := by
                    unfold Hid
                    rw [gPr_yes HSL.out, HG.out, HTG.out]
                  have HLN : Hid (sv.length ≤ 1000 ∧ tg.length ≤ 1000) := by
                    have h1 := gPr_len l vw nm k
                    rw [HG.out] at h1
                    simp only at h1
                    unfold Hid
                    omega
                  clear hsv hvw hnm hvk
                  go_wp2_with fail
                  refine (HVK.out x true HXF.out HVt.out _).mono ?_
                  rintro e w5 ⟨rfl, hb5⟩
                  have L5 := HL4.out.below hb5
                  have X5 := HX4.out.below hb5
                  have L6 := L5.below (below1 w5 (.cells #[.int .i64 (k : Int)] 2))
                  have X6 := X5.below (below1 w5 (.cells #[.int .i64 (k : Int)] 2))
                  have R6 := rdI_one w5 (k : Int)
                  have HL6 : Hid (PrBx w1 (w5.alloc (.cells #[.int .i64 (k : Int)] 2)) (w.heap.size + 1) #[.int .i64 vw, .int .i64 nm, .slice a1 n1 c1, .slice a2 n2 c2] ⟨⟨vw, nm, sv, tg⟩, .slice a1 n1 c1, .slice a2 n2 c2⟩) := L6
                  have HX6 : Hid (Bx (w5.alloc (.cells #[.int .i64 (k : Int)] 2)) wr.heap.size 58 #[.int .i64 x.vw, .int .i64 x.nm, .int .i64 x.sv, .int .i64 x.tg]) := X6
                  have HXG : Hid (wr.heap.size ≠ w.heap.size + 1) := by
                    unfold Hid
                    intro e
                    have h1 := L5.box
                    have h2 := X5
                    rw [e] at h2
                    unfold Bx at h1 h2
                    rw [h1] at h2
                    injection h2 with h2
                    injection h2 with _ h3
                    exact absurd h3 (by decide)
                  clear x0 x1 x2 x3 g0 g1 g2 g3 l0 l1 l2 l3 L6 X6 X5 hb5
                  obtain ⟨g0, g1, g2, g3⟩ := L5.box.c4
                  obtain ⟨vh, hvh⟩ : ∃ vh, vh = wr.heap.size := ⟨_, rfl⟩
                  rw [← hvh] at HX6 HXG ⊢
                  clear hvh HX4 HL4 HL
                  go_wp2_with (at_builtin; (refine wpList_intsX rfl _ _ rfl w1.heap.size (.slice a1 n1 c1) (.slice (some ⟨w5.heap.size, 0, none⟩) 1 1) sv [(k : Int)] rfl rfl HL6.out.own.sv R6 (by have := HLN.out; simp; omega) HL6.out.bel.size ?_))
                  intro v7 w7 ho7 hg7 ha7
                  have X7 : Bx w7 vh 58 #[.int .i64 x.vw, .int .i64 x.nm, .int .i64 x.sv, .int .i64 x.tg] := HX6.out.of_block (hg7.block vh HX6.out.lt (fun e => HX6.out.row HL6.out.own.sv (by decide) vh e.symm rfl))
                  have ha7x : v7.ownBlock = (Value.slice a1 n1 c1).ownBlock ∨ v7.ownBlock = some (w5.alloc (.cells #[.int .i64 (k : Int)] 2)).heap.size := by rw [szX]; exact ha7
                  have L7 := PrBx.app HL6.out (zs := [(k : Int)]) ho7 hg7 ha7x
                  obtain ⟨s1a, s1c, hv7⟩ := ownSlX ho7
                  generalize (sv ++ [(k : Int)]).length = s1n at hv7
                  subst hv7
                  simp only at L7
                  obtain ⟨u0, u1, u2, u3⟩ := L7.box.c4
                  obtain ⟨f0, f1, f2, f3⟩ := L7.box.f4
                  have L8 := L7.set 2 (.slice s1a s1n s1c)
                  simp only [List.setIfInBounds_toArray, List.set_cons_zero, List.set_cons_succ] at L8
                  have X8 : Bx (w7.setCell ⟨w.heap.size + 1, 2, none⟩ (.slice s1a s1n s1c)) vh 58 #[.int .i64 x.vw, .int .i64 x.nm, .int .i64 x.sv, .int .i64 x.tg] := X7.other HXG.out
                  have L9 := L8.below (below1 _ (.cells #[.int .i64 x.tg] 2))
                  have R9 := rdI_one (w7.setCell ⟨w.heap.size + 1, 2, none⟩ (.slice s1a s1n s1c)) x.tg
                  have HL9 : Hid (PrBx w1 _ (w.heap.size + 1) _ _) := L9
                  obtain ⟨y0, y1, y2, y3⟩ := X8.c4
                  obtain ⟨z0, z1, z2, z3⟩ := L8.box.c4
                  clear ho7 hg7 ha7 ha7x X7 L7 L5 R6 HL6 HX6 L9 g0 g1 g2 g3
                  have hz8 : (w7.setCell ⟨w.heap.size + 1, 2, none⟩ (.slice s1a s1n s1c)).heap.size = w7.heap.size := by simp
                  rw [hz8] at R9
                  clear hz8
                  go_wp2_with (at_builtin; (refine wpList_intsX rfl _ _ rfl w1.heap.size (.slice a2 n2 c2) (.slice (some ⟨w7.heap.size, 0, none⟩) 1 1) tg [x.tg] rfl rfl HL9.out.own.tg R9 (by have := HLN.out; simp; omega) HL9.out.bel.size ?_))
                  intro v10 w10 ho10 hg10 ha10
                  have ha10x : v10.ownBlock = (Value.slice a2 n2 c2).ownBlock ∨ v10.ownBlock = some ((w7.setCell ⟨w.heap.size + 1, 2, none⟩ (.slice s1a s1n s1c)).alloc (.cells #[.int .i64 x.tg] 2)).heap.size := by
                    rw [szX, show (w7.setCell ⟨w.heap.size + 1, 2, none⟩ (.slice s1a s1n s1c)).heap.size = w7.heap.size by simp]; exact ha10
                  have L10 := PrBx.apt HL9.out (zs := [x.tg]) ho10 hg10 ha10x
                  obtain ⟨t1a, t1c, hv10⟩ := ownSlX ho10
                  generalize (tg ++ [x.tg]).length = t1n at hv10
                  subst hv10
                  simp only at L10
                  obtain ⟨d0, d1, d2, d3⟩ := L10.box.c4
                  obtain ⟨e0, e1, e2, e3⟩ := L10.box.f4
                  have L11 := L10.set 3 (.slice t1a t1n t1c)
                  simp only [List.setIfInBounds_toArray, List.set_cons_zero, List.set_cons_succ] at L11
                  have HL11 : Hid (PrBx w1 (w10.setCell ⟨w.heap.size + 1, 3, none⟩ (.slice t1a t1n t1c)) (w.heap.size + 1) #[.int .i64 vw, .int .i64 nm, .slice s1a s1n s1c, .slice t1a t1n t1c] ⟨⟨vw, nm, sv ++ [(k : Int)], tg ++ [x.tg]⟩, .slice s1a s1n s1c, .slice t1a t1n t1c⟩) := L11
                  clear ho10 hg10 ha10 ha10x L10 L11 L8 X8 R9 HL9 u0 u1 u2 u3 f0 f1 f2 f3 y0 y1 y2 y3 z0 z1 z2 z3
                  go_wp2
                  go_roundw
                  case rel => exact ⟨k + 1, _, _, s1a, t1a, s1n, s1c, t1n, t1c, by omega, by go_num, HG2, HL11⟩
                  case measure => simp [intOf]; omega
              · have en : (x.nm == nm) = false := beq_false_of_ne hnm
                have HO2 : Hid (∀ j, j < i + 1 → ¬ ((nthVo l j).sv = (k : Int) ∧ (nthVo l j).vw = vw ∧ (nthVo l j).nm = nm ∧ vokR (nthVo l j) N = true)) := by
                  intro j hj
                  by_cases hji : j = i
                  · rw [hji, ← HXE.out]; rintro ⟨q1, q2, q3, q4⟩; exact hnm q3
                  · exact HO.out j (by omega)
                clear hsv hvw hnm
                go_wp2
                go_roundw
                case rel => exact ⟨i + 1, by omega, by go_num, HO2, HL4⟩
                case measure => simp [intOf]; omega
            · have ev : (x.vw == vw) = false := beq_false_of_ne hvw
              have HO2 : Hid (∀ j, j < i + 1 → ¬ ((nthVo l j).sv = (k : Int) ∧ (nthVo l j).vw = vw ∧ (nthVo l j).nm = nm ∧ vokR (nthVo l j) N = true)) := by
                intro j hj
                by_cases hji : j = i
                · rw [hji, ← HXE.out]; rintro ⟨q1, q2, q3, q4⟩; exact hvw q2
                · exact HO.out j (by omega)
              clear hsv hvw
              go_wp2
              go_roundw
              case rel => exact ⟨i + 1, by omega, by go_num, HO2, HL4⟩
              case measure => simp [intOf]; omega
          · have es : (x.sv == (k : Int)) = false := beq_false_of_ne hsv
            have HO2 : Hid (∀ j, j < i + 1 → ¬ ((nthVo l j).sv = (k : Int) ∧ (nthVo l j).vw = vw ∧ (nthVo l j).nm = nm ∧ vokR (nthVo l j) N = true)) := by
              intro j hj
              by_cases hji : j = i
              · rw [hji, ← HXE.out]; rintro ⟨q1, q2, q3, q4⟩; exact hsv q1
              · exact HO.out j (by omega)
            clear hsv
            go_wp2
            go_roundw
            case rel => exact ⟨i + 1, by omega, by go_num, HO2, HL4⟩
            case measure => simp [intOf]; omega
        · have hie : i = m := by omega
          subst hie
          have HG2 : Hid (gPr l vw nm (k + 1) = ⟨vw, nm, sv, tg⟩) := by
            unfold Hid
            rw [gPr_no, HG.out]
            cases hsel : selB l vw nm k with
            | false => rfl
            | true =>
              exfalso
              unfold selB at hsel
              simp only [Bool.and_eq_true, decide_eq_true_eq] at hsel
              obtain ⟨j, hj, he⟩ := List.getElem_of_mem hsel.2.2
              refine HO.out j (by rw [HM.out]; exact hj) ?_
              rw [nthVo_eq hj, he]
              exact ⟨rfl, rfl, rfl, vtd_vok HS0.out (by omega) (by omega) hsel.1 hsel.2.1⟩
          go_wp2
          go_roundw
          case rel => exact ⟨k + 1, sv, tg, a1, a2, n1, c1, n2, c2, by omega, by go_num, HG2, HL⟩
          case measure => simp [intOf]; omega
    · have hke : k = N := by omega
      subst hke
      have hn1 := ownI_lenX HL.out.own.sv
      simp only at hn1
      have HSVL : Hid (n1 = (gPr l vw nm k).sv.length) := by unfold Hid; rw [HG.out]; exact hn1
      obtain ⟨x0, x1, x2, x3⟩ := HL.out.box.c4
      have X9 := XW.out.below HL.out.bel
      have HQ9 : ∀ W, Calls Tryd.prog 29 #[.int .i64 (k : Int)] W fun e w' => e = .returned (.int .i64 q) ∧ w' = W := HQ.out q HQE.out
      clear hn1
      go_wp2_with fail
      refine wp_region_noPanic ?_
      refine wp_region_held_drew (S := fun w' => w'.cell? ⟨w.heap.size + 1, 2, none⟩ = some (.slice a1 n1 c1)) (by kernel_rfl) x2 (fun h0 => ?_)
      refine tkG 0 79 h0 ?_
      try simp only [Act.put, List.setIfInBounds_toArray, List.set_cons_zero, List.set_cons_succ]
      refine tkG 1 80 h0 ?_
      try simp only [Act.put, List.setIfInBounds_toArray, List.set_cons_zero, List.set_cons_succ]
      refine tkG 2 81 h0 ?_
      try simp only [Act.put, List.setIfInBounds_toArray, List.set_cons_zero, List.set_cons_succ]
      refine tkG 3 82 h0 ?_
      try simp only [Act.put, List.setIfInBounds_toArray, List.set_cons_zero, List.set_cons_succ]
      refine wpAnyH_ready (rs := [4]) (by kernel_rfl) (by simp) ?_
      refine AllReadyH.cons rfl (fun K hK => ?_) AllReadyH.nil
      go_simp
      refine (HQ9 _).mono ?_
      rintro e w9 ⟨rfl, rfl⟩
      refine hK.out _ _ (h0) (fun h1 => ?_)
      clear hK K
      try simp only [Act.put, List.setIfInBounds_toArray, List.set_cons_zero, List.set_cons_succ]
      clear h0
      refine tkG 5 84 h1 ?_
      try simp only [Act.put, List.setIfInBounds_toArray, List.set_cons_zero, List.set_cons_succ]
      refine wpAnyH_done (by kernel_rfl) ?_ _
      refine NoPanic.normal ?_
      have x2d := x2
      by_cases hq : (n1 : Int) < q
      · have RES : Hid (R = none) := by unfold Hid; rw [HGR.out, HQE.out, if_neg (by rw [← HSVL.out]; omega)]
        obtain ⟨c0, c1', c2', c3⟩ := X9.c4
        obtain ⟨f0, f1, f2, f3⟩ := X9.f4
        obtain ⟨z0, z1, z2, z3⟩ := ((X9.put4 (.int .i64 0) (.int .i64 0) (.slice none 0 0) (.slice none 0 0)).below (Below.refl _ _).drew).c4
        have HZB : Hid (Below w.heap.size w (put4B wr w.heap.size (.int .i64 0) (.int .i64 0) (.slice none 0 0) (.slice none 0 0)).drew) := (put4B_below (HB0.out.trans (HL.out.bel.mono HB0.out.size)) (Nat.le_refl _)).drew
        unfold put4B at z0 z1 z2 z3 HZB
        clear X9
        go_wp2
        exact bodyPost_ret (v := .tuple #[.agg #[.int .i64 0, .int .i64 0, .slice none 0 0, .slice none 0 0], .bool false]) (by simp [results, Tryd.results12, go_sem, z0, z1, z2, z3]) rfl (GatP.no RES.out HZB.out)
      · have RES : Hid (R = some ⟨vw, nm, sv, tg⟩) := by unfold Hid; rw [HGR.out, HQE.out, if_pos (by rw [← HSVL.out]; omega), HG.out]
        obtain ⟨c0, c1', c2', c3⟩ := X9.c4
        obtain ⟨f0, f1, f2, f3⟩ := X9.f4
        obtain ⟨z0, z1, z2, z3⟩ := ((X9.put4 (.int .i64 vw) (.int .i64 nm) (.slice a1 n1 c1) (.slice a2 n2 c2)).below (Below.refl _ _).drew).c4
        have HZB : Hid (Below w.heap.size w (put4B wr w.heap.size (.int .i64 vw) (.int .i64 nm) (.slice a1 n1 c1) (.slice a2 n2 c2)).drew) := (put4B_below (HB0.out.trans (HL.out.bel.mono HB0.out.size)) (Nat.le_refl _)).drew
        have HOZ : Hid (OwnPr (put4B wr w.heap.size (.int .i64 vw) (.int .i64 nm) (.slice a1 n1 c1) (.slice a2 n2 c2)).drew w.heap.size ⟨⟨vw, nm, sv, tg⟩, .slice a1 n1 c1, .slice a2 n2 c2⟩) :=
          ((HL.out.own.touch put4B_touch (fun q hq e => by have s1 := HS1.out; have h1 := (HL.out.own.bound hq).1; have h2 := List.mem_singleton.1 e; omega)).mono (by have s1 := HS1.out; omega)).below (Below.refl _ _).drew
        unfold put4B at z0 z1 z2 z3 HZB HOZ
        clear X9
        go_wp2
        exact bodyPost_ret (v := .tuple #[.agg #[.int .i64 vw, .int .i64 nm, .slice a1 n1 c1, .slice a2 n2 c2], .bool true]) (by simp [results, Tryd.results12, go_sem, z0, z1, z2, z3]) rfl ⟨⟨⟨vw, nm, sv, tg⟩, .slice a1 n1 c1, .slice a2 n2 c2⟩, by rw [RES.out]; rfl, by rw [RES.out]; rfl, HOZ.out, HZB.out⟩
end Go.Proofs.YtbnibnbmdbdibabDoor
