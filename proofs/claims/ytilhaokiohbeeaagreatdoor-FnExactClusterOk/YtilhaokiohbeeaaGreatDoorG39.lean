/- The contract of the program's Gathered. The contract of the program's ProofOk. The contract of the program's voter.proofOk. -/
import Derived.Test.YtilhaokiohbeeaaGreatDoorG38
import Derived.Test.YtilhaokiohbeeaaGreatDoorBlkVok
import Derived.Test.YtilhaokiohbeeaaGreatDoorPrfSpec
import Derived.Test.YtilhaokiohbeeaaGreatDoorG37
-- UNF Gen
namespace Go.Proofs.YtilhaokiohbeeaaGreatDoor
open Go.RowKit
set_option maxHeartbeats 8000000 in
set_option maxRecDepth 100000 in
theorem implGathered_any (v : Value) (l : List Vot) (n : Int) (w : World) (hr : RdVo w v l) (hf : ∀ x ∈ l, FitVo x) (ht : Tab w) :
    Calls Tryz.prog 225 #[v, .int .i64 n] w fun e w' => GatP w (gatR l n) e w' := by
  obtain ⟨a, cap, hv, hl, hm, -, -⟩ := id hr
  unfold maxLen at hm
  obtain ⟨m, hm1⟩ : ∃ m, m = l.length := ⟨_, rfl⟩
  have HM : Hid (m = l.length) := hm1
  rw [← hm1] at hv hl
  subst hv
  have HR : Hid (RdVo w (.slice a m cap) l) := hr
  have HT : Hid (Tab w) := ht
  have HQ : Hid (∀ z, quoR n = z → ∀ W, Calls Tryz.prog 99 #[.int .i64 n] W fun e w' => e = .returned (.int .i64 z) ∧ w' = W) := fun z hz W => implQuorumZ_any z n hz W
  have X0 := bx_new w 26 #[.int .i64 0, .int .i64 0, .slice none 0 0, .slice none 0 0]
  have HB0 : Hid (Below w.heap.size w (w.alloc (.cells #[.int .i64 0, .int .i64 0, .slice none 0 0, .slice none 0 0] 26))) := below1 w _
  obtain ⟨R, hR⟩ : ∃ R, R = gatR l n := ⟨_, rfl⟩
  rw [← hR]
  have HRR : Hid (R = gatR l n) := hR
  obtain ⟨c0, c1, c2, c3⟩ := X0.c4
  obtain ⟨f0, f1, f2, f3⟩ := X0.f4
  clear hr ht hm1 hR
  cases hS : srvB n with
  | false =>
    have HQf : Hid (quoR n = -1) := quoR_no hS
    have RES : Hid (R = none) := by unfold Hid; rw [HRR.out]; unfold gatR; rw [if_neg]; rintro ⟨h, _⟩; rw [hS] at h; cases h
    clear hS X0
    go_enter Tryz.func225, Tryz.ntmps225
    go_wp2_with fail
    refine (HQ.out _ HQf.out _).mono ?_
    rintro e w2 ⟨rfl, rfl⟩
    go_wp2
    exact bodyPost_ret (v := .tuple #[.agg #[.int .i64 0, .int .i64 0, .slice none 0 0, .slice none 0 0], .bool false]) (by simp [results, Tryz.results225, go_sem]) rfl (GatP.no RES.out HB0.out)
  | true =>
  have HS0 : Hid (srvB n = true) := hS
  obtain ⟨hq0, hq1, hn0, hn1⟩ := quoR_yes hS
  obtain ⟨q, hq⟩ : ∃ q, quoR n = q := ⟨_, rfl⟩
  rw [hq] at hq0 hq1
  have HQE : Hid (quoR n = q) := hq
  have hqn : (q == -1) = false := beq_false_of_ne (by omega)
  clear hq hS
  by_cases h0 : m = 0
  · have RES : Hid (R = none) := by unfold Hid; rw [HRR.out]; unfold gatR; rw [if_neg]; rintro ⟨_, h, _⟩; exact h (List.length_eq_zero_iff.1 (by rw [← HM.out]; exact h0))
    subst h0
    clear X0
    go_enter Tryz.func225, Tryz.ntmps225
    go_wp2_with fail
    refine (HQ.out _ HQE.out _).mono ?_
    rintro e w2 ⟨rfl, rfl⟩
    go_wp2
    exact bodyPost_ret (v := .tuple #[.agg #[.int .i64 0, .int .i64 0, .slice none 0 0, .slice none 0 0], .bool false]) (by simp [results, Tryz.results225, go_sem]) rfl (GatP.no RES.out HB0.out)
  have hm0 : ((m : Int) == 0) = false := by simp; omega
  have hm00 : 0 < m := by omega
  obtain ⟨w1, hw1⟩ : ∃ w1, w1 = w.alloc (.cells #[.int .i64 0, .int .i64 0, .slice none 0 0, .slice none 0 0] 26) := ⟨_, rfl⟩
  have s1 : w1.heap.size = w.heap.size + 1 := by rw [hw1]; simp
  clear c0 c1 c2 c3 f0 f1 f2 f3
  rw [← hw1] at X0 HB0
  obtain ⟨b, off, rfl, hc⟩ := (HR.out.below HB0.out).at HM.out 0 (by rw [← HM.out]; omega)
  obtain ⟨vw, hvw⟩ : ∃ vw, vw = (nthVo l 0).vw := ⟨_, rfl⟩
  obtain ⟨nm, hnm⟩ : ∃ nm, nm = (nthVo l 0).nm := ⟨_, rfl⟩
  have HGR : Hid (R = if quoR n ≤ ((gPr l vw nm n.toNat).sv.length : Int) then some (gPr l vw nm n.toNat) else none) := by
    unfold Hid
    rw [HRR.out, hvw, hnm]
    unfold gatR
    by_cases hc : quoR n ≤ ((gPr l (nthVo l 0).vw (nthVo l 0).nm n.toNat).sv.length : Int)
    · rw [if_pos hc, if_pos ⟨HS0.out, (fun e => h0 (by rw [HM.out, e]; rfl)), hc⟩]
    · rw [if_neg hc, if_neg (fun h => hc h.2.2)]
  have HFVW : Hid ((-9223372036854775808 ≤ vw ∧ vw ≤ 9223372036854775807) ∧ (-9223372036854775808 ≤ nm ∧ nm ≤ 9223372036854775807)) := by
    have hx := hf (nthVo l 0) (by rw [nthVo_eq (by rw [← HM.out]; omega)]; exact List.getElem_mem _)
    exact ⟨by rw [hvw]; exact hx.vw, by rw [hnm]; exact hx.nm⟩
  obtain ⟨hc0, hc1, -, -⟩ := hc
  rw [← hvw, Nat.zero_mul, Nat.add_zero] at hc0
  rw [← hnm, Nat.zero_mul, Nat.add_zero] at hc1
  have HS : Hid (∀ V, Below w1.heap.size w1 V → V.cell? ⟨b, off, none⟩ = some (.int .i64 vw) ∧ V.cell? ⟨b, off + 1, none⟩ = some (.int .i64 nm)) := fun V hb => ⟨(hb.cell (p := ⟨b, off, none⟩) (World.block_lt_of_cell? w1 _ hc0)).trans hc0, (hb.cell (p := ⟨b, off + 1, none⟩) (World.block_lt_of_cell? w1 _ hc1)).trans hc1⟩
  obtain ⟨N, hN⟩ := Int.eq_ofNat_of_zero_le (show 0 ≤ n by omega)
  subst hN
  rw [Int.toNat_natCast] at HGR
  clear hvw hnm hc0 hc1 hf HRR h0
  have XW : Hid (Bx w1 w.heap.size 26 #[.int .i64 0, .int .i64 0, .slice none 0 0, .slice none 0 0]) := X0
  have HVO : Hid (∀ (k : Nat) W, Tab W → Calls Tryz.prog 212 #[.int .i64 (k : Int), .int .i64 vw, .int .i64 nm] W fun e w' => e = .returned (.agg (VC (votR k vw nm))) ∧ Below W.heap.size W w') := fun k W t => implVoted_any k vw nm W HFVW.out.1.1 HFVW.out.1.2 HFVW.out.2.1 HFVW.out.2.2 t
  have HVK : Hid (∀ (x : Vot) b, FitVo x → vokR x N = b → ∀ W, Tab W → Calls Tryz.prog 193 #[.agg #[.int .i64 x.vw, .int .i64 x.nm, .int .i64 x.sv, .int .i64 x.tg], .int .i64 (N : Int)] W fun e w' => e = .returned (.bool b) ∧ Below W.heap.size W w') := fun x b hx hb W t => by rw [← hb]; exact implVoteOk_any x N W hx t
  have HCT : Hid (∀ (x : Vot) c, decide (x ∈ l) = c → ∀ W, RdVo W (.slice (some ⟨b, off, none⟩) m cap) l → Calls Tryz.prog 228 #[.slice (some ⟨b, off, none⟩) m cap, .agg #[.int .i64 x.vw, .int .i64 x.nm, .int .i64 x.sv, .int .i64 x.tg]] W fun e w' => e = .returned (.bool c) ∧ Below W.heap.size W w') := fun x c hc W h => voContains_any c _ l x hc W h
  go_enter Tryz.func225, Tryz.ntmps225
  go_wp2_with fail
  rw [← hw1]
  refine (HQ.out _ HQE.out _).mono ?_
  rintro e w2 ⟨rfl, hw2⟩
  obtain rfl := hw2.symm
  clear hw1 X0
  go_wp2_with fail
  refine wp_region_noPanic ?_
  refine wp_region_held_drew (S := fun w' => w'.cell? ⟨b, off, none⟩ = some (.int .i64 vw) ∧ w'.cell? ⟨b, off + 1, none⟩ = some (.int .i64 nm)) (by kernel_rfl) (HS.out _ ((Below.refl _ _).drew)) (fun h0 => ?_)
  refine tkG 0 20 h0 ?_
  try simp only [Act.put, List.setIfInBounds_toArray, List.set_cons_zero, List.set_cons_succ]
  refine tkG 1 21 h0 ?_
  try simp only [Act.put, List.setIfInBounds_toArray, List.set_cons_zero, List.set_cons_succ]
  refine tkG 2 22 h0 ?_
  try simp only [Act.put, List.setIfInBounds_toArray, List.set_cons_zero, List.set_cons_succ]
  refine tkG 3 23 h0 ?_
  try simp only [Act.put, List.setIfInBounds_toArray, List.set_cons_zero, List.set_cons_succ]
  refine tkG 4 24 h0 ?_
  try simp only [Act.put, List.setIfInBounds_toArray, List.set_cons_zero, List.set_cons_succ]
  refine tkG 5 25 h0 ?_
  try simp only [Act.put, List.setIfInBounds_toArray, List.set_cons_zero, List.set_cons_succ]
  refine tkG 6 26 h0 ?_
  try simp only [Act.put, List.setIfInBounds_toArray, List.set_cons_zero, List.set_cons_succ]
  refine tkG 7 27 h0 ?_
  try simp only [Act.put, List.setIfInBounds_toArray, List.set_cons_zero, List.set_cons_succ]
  refine tkG 8 28 h0 ?_
  try simp only [Act.put, List.setIfInBounds_toArray, List.set_cons_zero, List.set_cons_succ]
  refine wpAnyH_ready (rs := [9]) (by kernel_rfl) (by simp) ?_
  refine AllReadyH.cons rfl (fun K hK => ?_) AllReadyH.nil
  go_simp
  have HSA := HS.out ((w1.alloc (.cells #[.int .i64 0, .int .i64 0, .slice none 0 0, .slice none 0 0] 26)).drew) ((below1 w1 _).drew)
  have Q0 : Bx ((w1.alloc (.cells #[.int .i64 0, .int .i64 0, .slice none 0 0, .slice none 0 0] 26)).drew) (w.heap.size + 1) 26 #[.int .i64 0, .int .i64 0, .slice none 0 0, .slice none 0 0] := by rw [← s1]; exact (bx_new w1 _ _).below (Below.refl _ _).drew
  obtain ⟨g0, g1, g2, g3⟩ := Q0.c4
  obtain ⟨e0, e1, e2, e3⟩ := Q0.f4
  have HSB := HS.out ((w1.alloc (.cells #[.int .i64 vw, .int .i64 nm, .slice none 0 0, .slice none 0 0] 26)).drew) ((below1 w1 _).drew)
  have L0 : PrBx w1 ((w1.alloc (.cells #[.int .i64 vw, .int .i64 nm, .slice none 0 0, .slice none 0 0] 26)).drew) (w.heap.size + 1) #[.int .i64 vw, .int .i64 nm, .slice none 0 0, .slice none 0 0] ⟨⟨vw, nm, [], []⟩, .slice none 0 0, .slice none 0 0⟩ := by rw [← s1]; exact (prBx_new vw nm (Below.refl _ _)).drew
  refine hK.out _ _ (HSA) (fun h1 => ?_)
  clear hK K
  try simp only [Act.put, List.setIfInBounds_toArray, List.set_cons_zero, List.set_cons_succ]
  clear h0
  refine wpAnyH_ready (rs := [10]) (by kernel_rfl) (by simp) ?_
  refine AllReadyH.cons rfl (fun K hK => ?_) AllReadyH.nil
  go_simp
  clear g0 g1 g2 g3 e0 e1 e2 e3 Q0
  refine hK.out _ _ (HSB) (fun h2 => ?_)
  clear hK K
  try simp only [Act.put, List.setIfInBounds_toArray, List.set_cons_zero, List.set_cons_succ]
  clear h1
  refine wpAnyH_done (by kernel_rfl) ?_ _
  refine NoPanic.normal ?_
  clear HSB HSA
  revert L0
  generalize (w1.alloc (.cells #[.int .i64 vw, .int .i64 nm, .slice none 0 0, .slice none 0 0] 26)).drew = W5
  intro L0
  go_wp2
  have HL0 : Hid (PrBx w1 W5 (w.heap.size + 1) #[.int .i64 vw, .int .i64 nm, .slice none 0 0, .slice none 0 0] ⟨⟨vw, nm, [], []⟩, .slice none 0 0, .slice none 0 0⟩) := L0
  clear L0 hm00
  go_loopw [30] (fun ii wr => ∃ (k : Nat) (sv tg : List Int) (a1 a2 : Option Addr) (n1 c1 n2 c2 : Nat), k ≤ N ∧ ii = .int .i64 k ∧ Hid (gPr l vw nm k = ⟨vw, nm, sv, tg⟩) ∧ Hid (PrBx w1 wr (w.heap.size + 1) #[.int .i64 vw, .int .i64 nm, .slice a1 n1 c1, .slice a2 n2 c2] ⟨⟨vw, nm, sv, tg⟩, .slice a1 n1 c1, .slice a2 n2 c2⟩)) (fun ii _ => N - (intOf ii).toNat)
  case atStart => exact ⟨0, [], [], none, none, 0, 0, 0, 0, Nat.zero_le _, rfl, gPr_zero l vw nm, HL0.out⟩
  case round =>
    obtain ⟨k, sv, tg, a1, a2, n1, c1, n2, c2, hk, rfl, HG, HL⟩ := hrel
    clear HL0
    by_cases hlt : k < N
    · obtain ⟨c0, c1', -, -⟩ := HL.out.box.c4
      obtain ⟨y, hy⟩ : ∃ y, y = votR k vw nm := ⟨_, rfl⟩
      have HSEL : Hid ((vokR y N && decide (y ∈ l)) = selB l vw nm k) := by unfold Hid; rw [hy]; exact sel_votR l vw nm HS0.out (by omega)
      have HYF : Hid (FitVo y) := by unfold Hid; rw [hy]; exact fit_votR _ _ _
      have HYV : Hid (vokR y N = true → y.sv = (k : Int) ∧ y.tg = (tagD k (balS vw nm) : Int)) := fun h => by rw [hy] at h ⊢; rw [(vok_votR h).1]; exact ⟨rfl, rfl⟩
      have HV1 : Hid (∀ W, Tab W → Calls Tryz.prog 212 #[.int .i64 (k : Int), .int .i64 vw, .int .i64 nm] W fun e w' => e = .returned (.agg (VC y)) ∧ Below W.heap.size W w') := fun W t => by rw [hy]; exact HVO.out k W t
      clear hy
      have hk1 : (k : Int) < (N : Int) := by omega
      go_wp2_with fail
      refine (HV1.out _ (HT.out.on (HB0.out.trans (HL.out.bel.mono HB0.out.size)))).mono ?_
      unfold VC
      rintro e w3 ⟨rfl, hb3⟩
      have L3 := HL.out.below hb3
      have X4 := bx_new w3 36 #[.int .i64 y.vw, .int .i64 y.nm, .int .i64 y.sv, .int .i64 y.tg]
      have HX4 : Hid (Bx (w3.alloc (.cells #[.int .i64 y.vw, .int .i64 y.nm, .int .i64 y.sv, .int .i64 y.tg] 36)) w3.heap.size 36 #[.int .i64 y.vw, .int .i64 y.nm, .int .i64 y.sv, .int .i64 y.tg]) := X4
      have HL4 : Hid (PrBx w1 (w3.alloc (.cells #[.int .i64 y.vw, .int .i64 y.nm, .int .i64 y.sv, .int .i64 y.tg] 36)) (w.heap.size + 1) #[.int .i64 vw, .int .i64 nm, .slice a1 n1 c1, .slice a2 n2 c2] ⟨⟨vw, nm, sv, tg⟩, .slice a1 n1 c1, .slice a2 n2 c2⟩) := L3.below (below1 w3 _)
      obtain ⟨x0, x1, x2, x3⟩ := X4.c4
      clear c0 c1' hb3 L3 X4 HL
      cases hvk : vokR y N with
      | false =>
        have HVf : Hid (vokR y N = false) := hvk
        have HG2 : Hid (gPr l vw nm (k + 1) = ⟨vw, nm, sv, tg⟩) := by
          unfold Hid
          rw [gPr_no (by rw [← HSEL.out, hvk]; rfl)]
          exact HG.out
        clear hvk
        go_wp2_with fail
        refine (HVK.out y false HYF.out HVf.out _ (HT.out.on (HB0.out.trans (HL4.out.bel.mono HB0.out.size)))).mono ?_
        rintro e w5 ⟨rfl, hb5⟩
        have HL5 : Hid (PrBx w1 w5 (w.heap.size + 1) #[.int .i64 vw, .int .i64 nm, .slice a1 n1 c1, .slice a2 n2 c2] ⟨⟨vw, nm, sv, tg⟩, .slice a1 n1 c1, .slice a2 n2 c2⟩) := HL4.out.below hb5
        clear x0 x1 x2 x3 hb5
        go_wp2
        go_roundw
        case rel => exact ⟨k + 1, sv, tg, a1, a2, n1, c1, n2, c2, by omega, by go_num, HG2, HL5⟩
        case measure => simp [intOf]; omega
      | true =>
        have HVt : Hid (vokR y N = true) := hvk
        cases hin : decide (y ∈ l) with
        | false =>
          have HIf : Hid (decide (y ∈ l) = false) := hin
          have HG2 : Hid (gPr l vw nm (k + 1) = ⟨vw, nm, sv, tg⟩) := by
            unfold Hid
            rw [gPr_no (by rw [← HSEL.out, hvk, hin]; rfl)]
            exact HG.out
          clear hvk hin
          go_wp2_with fail
          refine (HVK.out y true HYF.out HVt.out _ (HT.out.on (HB0.out.trans (HL4.out.bel.mono HB0.out.size)))).mono ?_
          rintro e w5 ⟨rfl, hb5⟩
          have HL5 : Hid (PrBx w1 w5 (w.heap.size + 1) #[.int .i64 vw, .int .i64 nm, .slice a1 n1 c1, .slice a2 n2 c2] ⟨⟨vw, nm, sv, tg⟩, .slice a1 n1 c1, .slice a2 n2 c2⟩) := HL4.out.below hb5
          have X5 := HX4.out.below hb5
          clear x0 x1 x2 x3 hb5
          obtain ⟨x0, x1, x2, x3⟩ := X5.c4
          go_wp2_with fail
          refine (HCT.out y false HIf.out _ (HR.out.below (HB0.out.trans (HL5.out.bel.mono HB0.out.size)))).mono ?_
          rintro e w6 ⟨rfl, hb6⟩
          have HL6 : Hid (PrBx w1 w6 (w.heap.size + 1) #[.int .i64 vw, .int .i64 nm, .slice a1 n1 c1, .slice a2 n2 c2] ⟨⟨vw, nm, sv, tg⟩, .slice a1 n1 c1, .slice a2 n2 c2⟩) := HL5.out.below hb6
          clear x0 x1 x2 x3 hb6 X5
          go_wp2
          go_roundw
          case rel => exact ⟨k + 1, sv, tg, a1, a2, n1, c1, n2, c2, by omega, by go_num, HG2, HL6⟩
          case measure => simp [intOf]; omega
        | true =>
          have HIt : Hid (decide (y ∈ l) = true) := hin
          have HG2 : Hid (gPr l vw nm (k + 1) = ⟨vw, nm, sv ++ [y.sv], tg ++ [y.tg]⟩) := by
            unfold Hid
            rw [gPr_yes (by rw [← HSEL.out, hvk, hin]; rfl), HG.out, (HYV.out hvk).1, (HYV.out hvk).2]
          have HLN : Hid (sv.length ≤ 1000 ∧ tg.length ≤ 1000) := by
            have h1 := gPr_len l vw nm k
            rw [HG.out] at h1
            simp only at h1
            unfold Hid
            omega
          clear hvk hin
          go_wp2_with fail
          refine (HVK.out y true HYF.out HVt.out _ (HT.out.on (HB0.out.trans (HL4.out.bel.mono HB0.out.size)))).mono ?_
          rintro e w5 ⟨rfl, hb5⟩
          have HL5 : Hid (PrBx w1 w5 (w.heap.size + 1) #[.int .i64 vw, .int .i64 nm, .slice a1 n1 c1, .slice a2 n2 c2] ⟨⟨vw, nm, sv, tg⟩, .slice a1 n1 c1, .slice a2 n2 c2⟩) := HL4.out.below hb5
          have X5 := HX4.out.below hb5
          clear x0 x1 x2 x3 hb5
          obtain ⟨x0, x1, x2, x3⟩ := X5.c4
          go_wp2_with fail
          refine (HCT.out y true HIt.out _ (HR.out.below (HB0.out.trans (HL5.out.bel.mono HB0.out.size)))).mono ?_
          rintro e w6 ⟨rfl, hb6⟩
          have HL6 : Hid (PrBx w1 w6 (w.heap.size + 1) #[.int .i64 vw, .int .i64 nm, .slice a1 n1 c1, .slice a2 n2 c2] ⟨⟨vw, nm, sv, tg⟩, .slice a1 n1 c1, .slice a2 n2 c2⟩) := HL5.out.below hb6
          have X6 := X5.below hb6
          clear x0 x1 x2 x3 hb6 X5
          obtain ⟨x0, x1, x2, x3⟩ := X6.c4
          go_wp2_with fail
          refine (add_at w1 w6 (w.heap.size + 1) vw nm sv tg a1 a2 n1 c1 n2 c2 y HL6.out HLN.out.1 HLN.out.2).mono ?_
          rintro e w7 ⟨X, rfl, L7, hX⟩
          clear x0 x1 x2 x3 X6
          obtain ⟨p, vs, vt⟩ := X
          simp only at hX L7
          subst hX
          obtain ⟨b1, d1, b2, d2, hvs, hvt⟩ := L7.own.slices
          simp only at hvs hvt L7
          generalize (sv ++ [y.sv]).length = l1 at hvs
          generalize (tg ++ [y.tg]).length = l2 at hvt
          subst hvs hvt
          have HL7 : Hid (PrBx w1 w7 (w.heap.size + 1) #[.int .i64 vw, .int .i64 nm, .slice b1 l1 d1, .slice b2 l2 d2] ⟨⟨vw, nm, sv ++ [y.sv], tg ++ [y.tg]⟩, .slice b1 l1 d1, .slice b2 l2 d2⟩) := L7
          clear L7
          go_wp2
          go_roundw
          case rel => exact ⟨k + 1, _, _, b1, b2, l1, d1, l2, d2, by omega, by go_num, HG2, HL7⟩
          case measure => simp [intOf]; omega
    · have hke : k = N := by omega
      subst hke
      have hn1 := ownI_lenX HL.out.own.sv
      simp only at hn1
      have HSVL : Hid (n1 = (gPr l vw nm k).sv.length) := by unfold Hid; rw [HG.out]; exact hn1
      obtain ⟨x0, x1, x2, x3⟩ := HL.out.box.c4
      have X9 := XW.out.below HL.out.bel
      clear hn1
      by_cases hq : (n1 : Int) < q
      · have RES : Hid (R = none) := by unfold Hid; rw [HGR.out, HQE.out, if_neg (by rw [← HSVL.out]; omega)]
        obtain ⟨c0, c1', c2', c3⟩ := X9.c4
        obtain ⟨f0, f1, f2, f3⟩ := X9.f4
        obtain ⟨z0, z1, z2, z3⟩ := (X9.put4 (.int .i64 0) (.int .i64 0) (.slice none 0 0) (.slice none 0 0)).c4
        have HZB : Hid (Below w.heap.size w (put4B wr w.heap.size (.int .i64 0) (.int .i64 0) (.slice none 0 0) (.slice none 0 0))) := put4B_below (HB0.out.trans (HL.out.bel.mono HB0.out.size)) (Nat.le_refl _)
        unfold put4B at z0 z1 z2 z3 HZB
        clear X9
        go_wp2
        exact bodyPost_ret (v := .tuple #[.agg #[.int .i64 0, .int .i64 0, .slice none 0 0, .slice none 0 0], .bool false]) (by simp [results, Tryz.results225, go_sem, z0, z1, z2, z3]) rfl (GatP.no RES.out HZB.out)
      · have RES : Hid (R = some ⟨vw, nm, sv, tg⟩) := by unfold Hid; rw [HGR.out, HQE.out, if_pos (by rw [← HSVL.out]; omega), HG.out]
        obtain ⟨c0, c1', c2', c3⟩ := X9.c4
        obtain ⟨f0, f1, f2, f3⟩ := X9.f4
        obtain ⟨z0, z1, z2, z3⟩ := (X9.put4 (.int .i64 vw) (.int .i64 nm) (.slice a1 n1 c1) (.slice a2 n2 c2)).c4
        have HZB : Hid (Below w.heap.size w (put4B wr w.heap.size (.int .i64 vw) (.int .i64 nm) (.slice a1 n1 c1) (.slice a2 n2 c2))) := put4B_below (HB0.out.trans (HL.out.bel.mono HB0.out.size)) (Nat.le_refl _)
        have HOZ : Hid (OwnPr (put4B wr w.heap.size (.int .i64 vw) (.int .i64 nm) (.slice a1 n1 c1) (.slice a2 n2 c2)) w.heap.size ⟨⟨vw, nm, sv, tg⟩, .slice a1 n1 c1, .slice a2 n2 c2⟩) :=
          (HL.out.own.touch put4B_touch (fun q hq e => by have h1 := (HL.out.own.bound hq).1; have h2 := List.mem_singleton.1 e; omega)).mono (by omega)
        unfold put4B at z0 z1 z2 z3 HZB HOZ
        clear X9
        go_wp2
        exact bodyPost_ret (v := .tuple #[.agg #[.int .i64 vw, .int .i64 nm, .slice a1 n1 c1, .slice a2 n2 c2], .bool true]) (by simp [results, Tryz.results225, go_sem, z0, z1, z2, z3]) rfl ⟨⟨⟨vw, nm, sv, tg⟩, .slice a1 n1 c1, .slice a2 n2 c2⟩, by rw [RES.out]; rfl, by rw [RES.out]; rfl, HOZ.out, HZB.out⟩
end Go.Proofs.YtilhaokiohbeeaaGreatDoor
-- UNF Gen
namespace Go.Proofs.YtilhaokiohbeeaaGreatDoor
open Go.RowKit
theorem fit_votesR {p : Prf} (h : FitPr p) : ∀ x ∈ votesR p, FitVo x := by
  intro x hx
  unfold votesR at hx
  split at hx
  · rename_i hl
    obtain ⟨i, hi, rfl⟩ := (votesL_mem p x).1 hx
    refine ⟨h.vw, h.nm, ?_, ?_⟩
    · show _ ≤ nI p.sv i ∧ nI p.sv i ≤ _
      rw [nI_eq hi]; exact h.sv _ (List.getElem_mem hi)
    · show _ ≤ nI p.tg i ∧ nI p.tg i ≤ _
      rw [nI_eq (by rw [← hl.1]; exact hi)]; exact h.tg _ (List.getElem_mem _)
  · cases hx
set_option maxHeartbeats 8000000 in
set_option maxRecDepth 100000 in
theorem implProofOk_any (X : PrX) (n : Int) (w : World) (hr : RdPr w X) (hf : FitPr X.p) (ht : Tab w) :
    Calls Tryz.prog 198 #[.agg #[.int .i64 X.p.vw, .int .i64 X.p.nm, X.vs, X.vt], .int .i64 n] w fun e w' => e = .returned (.bool (prfR X.p n)) ∧ Below w.heap.size w w' := by
  obtain ⟨p, vs, vt⟩ := X
  obtain ⟨hrs, hrt⟩ := hr
  simp only at hrs hrt hf ⊢
  obtain ⟨a1, c1, hv1, -⟩ := id hrs
  obtain ⟨a2, c2, hv2, -⟩ := id hrt
  obtain ⟨n1, hn1⟩ : ∃ n1, n1 = p.sv.length := ⟨_, rfl⟩
  obtain ⟨n2, hn2⟩ : ∃ n2, n2 = p.tg.length := ⟨_, rfl⟩
  have HFB : Hid ((decide (p.vw = 0) && (decide (p.nm = 0) && (decide (n1 = 0) && decide (n2 = 0)))) = frsB p) := by unfold Hid; rw [hn1, hn2]; rfl
  rw [← hn1] at hv1
  rw [← hn2] at hv2
  subst hv1 hv2
  have HT : Hid (Tab w) := ht
  have HRS : Hid (RdI w (.slice a1 n1 c1) p.sv) := hrs
  have X0 := bx_new w 26 #[.int .i64 p.vw, .int .i64 p.nm, .slice a1 n1 c1, .slice a2 n2 c2]
  have HB0 : Hid (Below w.heap.size w (w.alloc (.cells #[.int .i64 p.vw, .int .i64 p.nm, .slice a1 n1 c1, .slice a2 n2 c2] 26))) := below1 w _
  have HFR : Hid (∀ b, frsB p = b → ∀ W, Calls Tryz.prog 221 #[.agg #[.int .i64 p.vw, .int .i64 p.nm, .slice a1 n1 c1, .slice a2 n2 c2]] W fun e w' => e = .returned (.bool b) ∧ Below W.heap.size W w') := fun b h W => isFirst_any p.vw p.nm a1 a2 n1 c1 n2 c2 b (HFB.out.trans h) W
  have HQ : Hid (∀ z, quoR n = z → ∀ W, Calls Tryz.prog 99 #[.int .i64 n] W fun e w' => e = .returned (.int .i64 z) ∧ w' = W) := fun z hz W => implQuorumZ_any z n hz W
  have HVT : Hid (∀ W, Below w.heap.size w W → Calls Tryz.prog 224 #[.agg #[.int .i64 p.vw, .int .i64 p.nm, .slice a1 n1 c1, .slice a2 n2 c2]] W fun e w' => VotesP W p e w') := fun W hb => votes_at p a1 a2 n1 c1 n2 c2 W (hrs.below hb) (hrt.below hb) hn1 hn2
  have HGA : Hid (∀ u W, RdVo W u (votesR p) → Tab W → Calls Tryz.prog 225 #[u, .int .i64 n] W fun e w' => GatP W (gatR (votesR p) n) e w') := fun u W h t => implGathered_any u _ n W h (fit_votesR hf) t
  have HPG := prf_gat p n
  clear hrs hrt hf hn1 hn2 HFB ht
  obtain ⟨p0, p1, p2, p3⟩ := X0.c4
  cases hFr : frsB p with
  | true =>
    have HFf : Hid (frsB p = true) := hFr
    have RES : Hid (prfR p n = srvB n) := by unfold Hid; rw [HPG, hFr]; rfl
    clear hFr HPG X0
    cases hS : srvB n with
    | false =>
      have HQf : Hid (quoR n = -1) := quoR_no hS
      rw [hS] at RES
      clear hS
      go_enter Tryz.func198, Tryz.ntmps198
      go_wp2_with fail
      refine (HFR.out true HFf.out _).mono ?_
      rintro e w2 ⟨rfl, hb2⟩
      have bz := HB0.out.trans (hb2.mono HB0.out.size)
      clear hb2 p0 p1 p2 p3
      go_wp2_with fail
      refine (HQ.out _ HQf.out _).mono ?_
      rintro e w3 ⟨rfl, rfl⟩
      go_wp2
      go_ret
      exact ⟨ret_bool RES.out.symm, bz⟩
    | true =>
      have hq0 := (quoR_yes hS).1
      obtain ⟨q, hq⟩ : ∃ q, quoR n = q := ⟨_, rfl⟩
      rw [hq] at hq0
      have HQf : Hid (quoR n = q) := hq
      have hqn : (q != -1) = true := by simp; omega
      rw [hS] at RES
      clear hS hq
      go_enter Tryz.func198, Tryz.ntmps198
      go_wp2_with fail
      refine (HFR.out true HFf.out _).mono ?_
      rintro e w2 ⟨rfl, hb2⟩
      have bz := HB0.out.trans (hb2.mono HB0.out.size)
      clear hb2 p0 p1 p2 p3
      go_wp2_with fail
      refine (HQ.out _ HQf.out _).mono ?_
      rintro e w3 ⟨rfl, rfl⟩
      go_wp2
      go_ret
      exact ⟨ret_bool RES.out.symm, bz⟩
  | false =>
    have HFf : Hid (frsB p = false) := hFr
    have RES : Hid (prfR p n = match gatR (votesR p) n with | none => false | some q => decide (q.sv = p.sv)) := by unfold Hid; rw [HPG, hFr]; rfl
    obtain ⟨G, hG⟩ : ∃ G, G = gatR (votesR p) n := ⟨_, rfl⟩
    rw [← hG] at RES HGA
    clear hFr HPG hG
    go_enter Tryz.func198, Tryz.ntmps198
    go_wp2_with fail
    refine (HFR.out false HFf.out _).mono ?_
    rintro e w2 ⟨rfl, hb2⟩
    have X2 := X0.below hb2
    have b2 := HB0.out.trans (hb2.mono HB0.out.size)
    clear hb2 p0 p1 p2 p3 X0
    obtain ⟨p0, p1, p2, p3⟩ := X2.c4
    go_wp2_with fail
    refine (HVT.out _ b2).mono ?_
    rintro e w3 ⟨u, rfl, ou, hb3⟩
    have X3 := X2.below hb3
    have b3 := b2.trans (hb3.mono b2.size)
    obtain ⟨ua, uc, hu⟩ := ownSlX ou
    have OU : Hid (RdVo w3 u (votesR p)) := ou.rd
    generalize (votesR p).length = un at hu
    subst hu
    clear ou hb3 p0 p1 p2 p3 X2 b2
    go_wp2_with fail
    refine (HGA.out _ _ OU.out (HT.out.on b3)).mono ?_
    rintro e w4 ⟨Y, rfl, hY, oY, hb4⟩
    have X4 := X3.below hb4
    have b4 := b3.trans (hb4.mono b3.size)
    obtain ⟨d1, e1, d2, e2, hys, hyt⟩ := oY.slices
    obtain ⟨yp, ys, yt⟩ := Y
    simp only at hY hys hyt oY
    have HYY : Hid (yp = G.getD prfZ) := hY
    clear hY
    have HRY : Hid (RdI w4 ys yp.sv) := oY.sv.rd
    generalize yp.sv.length = l1 at hys
    generalize yp.tg.length = l2 at hyt
    subst hys hyt
    clear X3 b3 hb4 oY OU
    have Y5 := bx_new w4 26 #[.int .i64 yp.vw, .int .i64 yp.nm, .slice d1 l1 e1, .slice d2 l2 e2]
    have b5 := b4.alloc b4.size (.cells #[.int .i64 yp.vw, .int .i64 yp.nm, .slice d1 l1 e1, .slice d2 l2 e2] 26)
    have X5 := X4.below (below1 w4 (.cells #[.int .i64 yp.vw, .int .i64 yp.nm, .slice d1 l1 e1, .slice d2 l2 e2] 26))
    have HRY5 : Hid (RdI (w4.alloc (.cells #[.int .i64 yp.vw, .int .i64 yp.nm, .slice d1 l1 e1, .slice d2 l2 e2] 26)) (.slice d1 l1 e1) yp.sv) := HRY.out.below (below1 w4 _)
    have HRS5 : Hid (RdI (w4.alloc (.cells #[.int .i64 yp.vw, .int .i64 yp.nm, .slice d1 l1 e1, .slice d2 l2 e2] 26)) (.slice a1 n1 c1) p.sv) := HRS.out.below b5
    have HB5 : Hid (Below w.heap.size w (w4.alloc (.cells #[.int .i64 yp.vw, .int .i64 yp.nm, .slice d1 l1 e1, .slice d2 l2 e2] 26))) := b5
    obtain ⟨-, -, p2, -⟩ := X5.c4
    obtain ⟨-, -, y2, -⟩ := Y5.c4
    clear X4 X5 Y5 b4 b5
    cases G with
    | none =>
      clear p2 y2
      simp only [Option.isSome]
      go_wp2
      go_ret
      exact ⟨ret_bool RES.out.symm, HB5.out⟩
    | some q =>
      have HE : Hid (decide (yp.sv = p.sv) = prfR p n) := by unfold Hid; rw [RES.out, HYY.out]; rfl
      simp only [Option.isSome]
      clear HYY RES
      go_wp2_with fail
      refine (equalI_any (prfR p n) _ _ yp.sv p.sv HE.out _ HRY5.out HRS5.out).mono ?_
      rintro e w6 ⟨rfl, hb6⟩
      have b6 := HB5.out.trans (hb6.mono HB5.out.size)
      clear p2 y2 hb6 HRY5 HRS5
      go_wp2
      go_ret
      exact ⟨rfl, b6⟩
end Go.Proofs.YtilhaokiohbeeaaGreatDoor
-- UNF Gen
namespace Go.Proofs.YtilhaokiohbeeaaGreatDoor
open Go.RowKit
set_option maxHeartbeats 4000000 in
set_option maxRecDepth 100000 in
theorem proofOkV_any {w0 W : World} {g : Nat} {V : Vt} (P : PrX) (h : VtA w0 W g V) (hp : RdPr W P) (hf : FitPr P.p) (ht : Tab W) :
    Calls Tryz.prog 148 #[.pointer (some ⟨g, 0, none⟩), .agg #[.int .i64 P.p.vw, .int .i64 P.p.nm, P.vs, P.vt]] W fun e w' => e = .returned (.bool (prfR P.p V.X.n && knoB (bsOf V.X.bs) P.p)) ∧ Below W.heap.size W w' := by
  have hg := h.lt
  have hn : W.cell? ⟨g, 1, none⟩ = some (.int .i64 V.X.n) := h.box.c17.2.1
  obtain ⟨⟨pv, pn, ps, pt⟩, pvs, pvt⟩ := P
  obtain ⟨p, hpp⟩ : ∃ z, prfR ⟨pv, pn, ps, pt⟩ V.X.n = z := ⟨_, rfl⟩
  obtain ⟨k, hkk⟩ : ∃ z, knoB (bsOf V.X.bs) ⟨pv, pn, ps, pt⟩ = z := ⟨_, rfl⟩
  obtain ⟨n, hne⟩ : ∃ n, n = V.X.n := ⟨_, rfl⟩
  rw [← hne] at hn hpp
  simp only
  rw [hkk, ← hne, hpp]
  have HPO : Hid (∀ W', Below W.heap.size W W' → Calls Tryz.prog 198 #[.agg #[.int .i64 pv, .int .i64 pn, pvs, pvt], .int .i64 n] W' fun e w' => e = .returned (.bool p) ∧ Below W'.heap.size W' w') := fun W' hb => by rw [← hpp]; exact implProofOk_any ⟨⟨pv, pn, ps, pt⟩, pvs, pvt⟩ n W' (hp.below hb) hf (ht.on hb)
  have HKN : Hid (∀ W', Below W.heap.size W W' → Calls Tryz.prog 195 #[.pointer (some ⟨g, 0, none⟩), .agg #[.int .i64 pv, .int .i64 pn, pvs, pvt]] W' fun e w' => e = .returned (.bool k) ∧ Below W'.heap.size W' w') := fun W' hb => by rw [← hkk]; exact knowsV_any ⟨⟨pv, pn, ps, pt⟩, pvs, pvt⟩ (h.next hb) (hp.below hb) hf
  have t2 := bx_new W 26 #[.int .i64 pv, .int .i64 pn, pvs, pvt]
  have b2 := below1 W (.cells #[.int .i64 pv, .int .i64 pn, pvs, pvt] 26)
  clear hpp hkk hne h hp hf ht
  go_enter Tryz.func148, Tryz.ntmps148
  cases p with
  | false =>
    go_wp2_with fail
    generalize W.alloc (.cells #[.int .i64 pv, .int .i64 pn, pvs, pvt] 26) = W2 at t2 b2 ⊢
    refine wp_region_noPanic ?_
    refine wp_region_held_drew (S := fun w' => (w'.cell? ⟨W.heap.size, 0, none⟩ = some (.int .i64 pv) ∧ w'.cell? ⟨W.heap.size, 1, none⟩ = some (.int .i64 pn) ∧ w'.cell? ⟨W.heap.size, 2, none⟩ = some (pvs) ∧ w'.cell? ⟨W.heap.size, 3, none⟩ = some (pvt)) ∧ w'.cell? ⟨g, 1, none⟩ = some (.int .i64 n)) (by kernel_rfl) ⟨(t2.below (Below.refl _ _).drew).c4, (b2.drew.cell (p := ⟨g, 1, none⟩) hg).trans hn⟩ (fun h0 => ?_)
    refine tkG 0 5 h0 ?_
    try simp only [Act.put, List.setIfInBounds_toArray, List.set_cons_zero, List.set_cons_succ]
    refine tkG 1 6 h0 ?_
    try simp only [Act.put, List.setIfInBounds_toArray, List.set_cons_zero, List.set_cons_succ]
    refine tkG 2 7 h0 ?_
    try simp only [Act.put, List.setIfInBounds_toArray, List.set_cons_zero, List.set_cons_succ]
    refine tkG 3 8 h0 ?_
    try simp only [Act.put, List.setIfInBounds_toArray, List.set_cons_zero, List.set_cons_succ]
    refine tkG 4 9 h0 ?_
    try simp only [Act.put, List.setIfInBounds_toArray, List.set_cons_zero, List.set_cons_succ]
    refine tkG 5 10 h0 ?_
    try simp only [Act.put, List.setIfInBounds_toArray, List.set_cons_zero, List.set_cons_succ]
    refine wpAnyH_ready (rs := [6]) (by kernel_rfl) (by simp) ?_
    refine AllReadyH.cons rfl (fun K hK => ?_) AllReadyH.nil
    go_simp
    refine (HPO.out _ b2.drew).mono ?_
    rintro e w5 ⟨rfl, hb5⟩
    have b5 := b2.drew.trans (hb5.mono b2.drew.size)
    have t5 := (t2.below (Below.refl _ _).drew).below hb5
    refine hK.out _ _ (⟨t5.c4, (b5.cell (p := ⟨g, 1, none⟩) hg).trans hn⟩) (fun h1 => ?_)
    clear hK K
    try simp only [Act.put, List.setIfInBounds_toArray, List.set_cons_zero, List.set_cons_succ]
    clear h0
    refine tkG 7 12 h1 ?_
    try simp only [Act.put, List.setIfInBounds_toArray, List.set_cons_zero, List.set_cons_succ]
    refine tkS 8 13 h1 ?_
    try simp only [Act.put, List.setIfInBounds_toArray, List.set_cons_zero, List.set_cons_succ]
    refine tkS 9 14 h1 ?_
    try simp only [Act.put, List.setIfInBounds_toArray, List.set_cons_zero, List.set_cons_succ]
    refine tkS 10 15 h1 ?_
    try simp only [Act.put, List.setIfInBounds_toArray, List.set_cons_zero, List.set_cons_succ]
    refine tkG 11 16 h1 ?_
    try simp only [Act.put, List.setIfInBounds_toArray, List.set_cons_zero, List.set_cons_succ]
    refine tkG 12 4 h1 ?_
    try simp only [Act.put, List.setIfInBounds_toArray, List.set_cons_zero, List.set_cons_succ]
    refine wpAnyH_done (by kernel_rfl) ?_ _
    refine NoPanic.normal ?_
    go_wp2
    go_ret
    exact ⟨rfl, b5⟩
  | true =>
    go_wp2_with fail
    generalize W.alloc (.cells #[.int .i64 pv, .int .i64 pn, pvs, pvt] 26) = W2 at t2 b2 ⊢
    refine wp_region_noPanic ?_
    refine wp_region_held_drew (S := fun w' => (w'.cell? ⟨W.heap.size, 0, none⟩ = some (.int .i64 pv) ∧ w'.cell? ⟨W.heap.size, 1, none⟩ = some (.int .i64 pn) ∧ w'.cell? ⟨W.heap.size, 2, none⟩ = some (pvs) ∧ w'.cell? ⟨W.heap.size, 3, none⟩ = some (pvt)) ∧ w'.cell? ⟨g, 1, none⟩ = some (.int .i64 n)) (by kernel_rfl) ⟨(t2.below (Below.refl _ _).drew).c4, (b2.drew.cell (p := ⟨g, 1, none⟩) hg).trans hn⟩ (fun h0 => ?_)
    refine tkG 0 5 h0 ?_
    try simp only [Act.put, List.setIfInBounds_toArray, List.set_cons_zero, List.set_cons_succ]
    refine tkG 1 6 h0 ?_
    try simp only [Act.put, List.setIfInBounds_toArray, List.set_cons_zero, List.set_cons_succ]
    refine tkG 2 7 h0 ?_
    try simp only [Act.put, List.setIfInBounds_toArray, List.set_cons_zero, List.set_cons_succ]
    refine tkG 3 8 h0 ?_
    try simp only [Act.put, List.setIfInBounds_toArray, List.set_cons_zero, List.set_cons_succ]
    refine tkG 4 9 h0 ?_
    try simp only [Act.put, List.setIfInBounds_toArray, List.set_cons_zero, List.set_cons_succ]
    refine tkG 5 10 h0 ?_
    try simp only [Act.put, List.setIfInBounds_toArray, List.set_cons_zero, List.set_cons_succ]
    refine wpAnyH_ready (rs := [6]) (by kernel_rfl) (by simp) ?_
    refine AllReadyH.cons rfl (fun K hK => ?_) AllReadyH.nil
    go_simp
    refine (HPO.out _ b2.drew).mono ?_
    rintro e w5 ⟨rfl, hb5⟩
    have b5 := b2.drew.trans (hb5.mono b2.drew.size)
    have t5 := (t2.below (Below.refl _ _).drew).below hb5
    refine hK.out _ _ (⟨t5.c4, (b5.cell (p := ⟨g, 1, none⟩) hg).trans hn⟩) (fun h1 => ?_)
    clear hK K
    try simp only [Act.put, List.setIfInBounds_toArray, List.set_cons_zero, List.set_cons_succ]
    clear h0
    refine tkG 7 12 h1 ?_
    try simp only [Act.put, List.setIfInBounds_toArray, List.set_cons_zero, List.set_cons_succ]
    refine tkG 8 13 h1 ?_
    try simp only [Act.put, List.setIfInBounds_toArray, List.set_cons_zero, List.set_cons_succ]
    refine tkG 9 14 h1 ?_
    try simp only [Act.put, List.setIfInBounds_toArray, List.set_cons_zero, List.set_cons_succ]
    refine wpAnyH_ready (rs := [10]) (by kernel_rfl) (by simp) ?_
    refine AllReadyH.cons rfl (fun K hK => ?_) AllReadyH.nil
    go_simp
    refine (HKN.out _ b5).mono ?_
    rintro e w6 ⟨rfl, hb6⟩
    have b6 := b5.trans (hb6.mono b5.size)
    have t6 := t5.below hb6
    refine hK.out _ _ (⟨t6.c4, (b6.cell (p := ⟨g, 1, none⟩) hg).trans hn⟩) (fun h2 => ?_)
    clear hK K
    try simp only [Act.put, List.setIfInBounds_toArray, List.set_cons_zero, List.set_cons_succ]
    clear h1
    refine tkG 11 16 h2 ?_
    try simp only [Act.put, List.setIfInBounds_toArray, List.set_cons_zero, List.set_cons_succ]
    refine tkG 12 4 h2 ?_
    try simp only [Act.put, List.setIfInBounds_toArray, List.set_cons_zero, List.set_cons_succ]
    refine wpAnyH_done (by kernel_rfl) ?_ _
    refine NoPanic.normal ?_
    go_wp2
    go_ret
    exact ⟨rfl, b6⟩
end Go.Proofs.YtilhaokiohbeeaaGreatDoor
