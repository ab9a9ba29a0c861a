/- The contract of the program's Gathered. -/
import Derived.Test.YtahihlnhimmgdaaGreatDoorG34
import Derived.Test.YtahihlnhimmgdaaGreatDoorPrfAdd
import Derived.Test.YtahihlnhimmgdaaGreatDoorBlkVok
-- UNF Gen
namespace Go.Proofs.YtahihlnhimmgdaaGreatDoor
open Go.RowKit
set_option maxHeartbeats 8000000 in
set_option maxRecDepth 100000 in
theorem implGathered_any (v : Value) (l : List Vot) (n : Int) (w : World) (hr : RdVo w v l) (hf : ∀ x ∈ l, FitVo x) (ht : Tab w) :
    Calls Tryz.prog 174 #[v, .int .i64 n] w fun e w' => GatP w (gatR l n) e w' := by
  obtain ⟨a, cap, hv, hl, hm, -, -⟩ := id hr
  unfold maxLen at hm
  obtain ⟨m, hm1⟩ : ∃ m, m = l.length := ⟨_, rfl⟩
  have HM : Hid (m = l.length) := hm1
  rw [← hm1] at hv hl
  subst hv
  have HR : Hid (RdVo w (.slice a m cap) l) := hr
  have HT : Hid (Tab w) := ht
  have HQ : Hid (∀ z, quoR n = z → ∀ W, Calls Tryz.prog 163 #[.int .i64 n] W fun e w' => e = .returned (.int .i64 z) ∧ w' = W) := fun z hz W => implQuorumZ_any z n hz W
  have X0 := bx_new w 26 #[.int .i64 0, .int .i64 0, .slice none 0 0, .slice none 0 0]
  have HB0 : Hid (Below w.heap.size w (w.alloc (.cells #[.int .i64 0, .int .i64 0, .slice none 0 0, .slice none 0 0] 26))) := below1 w _
  obtain ⟨R, hR⟩ : ∃ R, R = gatR l n := ⟨_, rfl⟩
  rw [← hR]
  have HRR : Hid (R = gatR l n) := hR
  obtain ⟨c0, c1, c2, c3⟩ := X0.c4
  obtain ⟨f0, f1, f2, f3⟩ := X0.f4
  clear hr ht hm1 hR
  cases hS : srvB n with
  | false =>
    have HQf : Hid (quoR n = -1) := quoR_no hS
    have RES : Hid (R = none) := by unfold Hid; rw [HRR.out]; unfold gatR; rw [if_neg]; rintro ⟨h, _⟩; rw [hS] at h; cases h
    clear hS X0
    go_enter Tryz.func174, Tryz.ntmps174
    go_wp2_with fail
    refine (HQ.out _ HQf.out _).mono ?_
    rintro e w2 ⟨rfl, rfl⟩
    go_wp2
    exact bodyPost_ret (v := .tuple #[.agg #[.int .i64 0, .int .i64 0, .slice none 0 0, .slice none 0 0], .bool false]) (by simp [results, Tryz.results174, go_sem]) rfl (GatP.no RES.out HB0.out)
  | true =>
  have HS0 : Hid (srvB n = true) := hS
  obtain ⟨hq0, hq1, hn0, hn1⟩ := quoR_yes hS
  obtain ⟨q, hq⟩ : ∃ q, quoR n = q := ⟨_, rfl⟩
  rw [hq] at hq0 hq1
  have HQE : Hid (quoR n = q) := hq
  have hqn : (q == -1) = false := beq_false_of_ne (by omega)
  clear hq hS
  by_cases h0 : m = 0
  · have RES : Hid (R = none) := by unfold Hid; rw [HRR.out]; unfold gatR; rw [if_neg]; rintro ⟨_, h, _⟩; exact h (List.length_eq_zero_iff.1 (by rw [← HM.out]; exact h0))
    subst h0
    clear X0
    go_enter Tryz.func174, Tryz.ntmps174
    go_wp2_with fail
    refine (HQ.out _ HQE.out _).mono ?_
    rintro e w2 ⟨rfl, rfl⟩
    go_wp2
    exact bodyPost_ret (v := .tuple #[.agg #[.int .i64 0, .int .i64 0, .slice none 0 0, .slice none 0 0], .bool false]) (by simp [results, Tryz.results174, go_sem]) rfl (GatP.no RES.out HB0.out)
  have hm0 : ((m : Int) == 0) = false := by simp; omega
  have hm00 : 0 < m := by omega
  obtain ⟨w1, hw1⟩ : ∃ w1, w1 = w.alloc (.cells #[.int .i64 0, .int .i64 0, .slice none 0 0, .slice none 0 0] 26) := ⟨_, rfl⟩
  have s1 : w1.heap.size = w.heap.size + 1 := by rw [hw1]; simp
  clear c0 c1 c2 c3 f0 f1 f2 f3
  rw [← hw1] at X0 HB0
  obtain ⟨b, off, rfl, hc⟩ := (HR.out.below HB0.out).at HM.out 0 (by rw [← HM.out]; omega)
  obtain ⟨vw, hvw⟩ : ∃ vw, vw = (nthVo l 0).vw := ⟨_, rfl⟩
  obtain ⟨nm, hnm⟩ : ∃ nm, nm = (nthVo l 0).nm := ⟨_, rfl⟩
  have HGR : Hid (R = if quoR n ≤ ((gPr l vw nm n.toNat).sv.length : Int) then some (gPr l vw nm n.toNat) else none) := by
    unfold Hid
    rw [HRR.out, hvw, hnm]
    unfold gatR
    by_cases hc : quoR n ≤ ((gPr l (nthVo l 0).vw (nthVo l 0).nm n.toNat).sv.length : Int)
    · rw [if_pos hc, if_pos ⟨HS0.out, (fun e => h0 (by rw [HM.out, e]; rfl)), hc⟩]
    · rw [if_neg hc, if_neg (fun h => hc h.2.2)]
  have HFVW : Hid ((-9223372036854775808 ≤ vw ∧ vw ≤ 9223372036854775807) ∧ (-9223372036854775808 ≤ nm ∧ nm ≤ 9223372036854775807)) := by
    have hx := hf (nthVo l 0) (by rw [nthVo_eq (by rw [← HM.out]; omega)]; exact List.getElem_mem _)
    exact ⟨by rw [hvw]; exact hx.vw, by rw [hnm]; exact hx.nm⟩
  obtain ⟨hc0, hc1, -, -⟩ := hc
  rw [← hvw, Nat.zero_mul, Nat.add_zero] at hc0
  rw [← hnm, Nat.zero_mul, Nat.add_zero] at hc1
  have HS : Hid (∀ V, Below w1.heap.size w1 V → V.cell? ⟨b, off, none⟩ = some (.int .i64 vw) ∧ V.cell? ⟨b, off + 1, none⟩ = some (.int .i64 nm)) := fun V hb => ⟨(hb.cell (p := ⟨b, off, none⟩) (World.block_lt_of_cell? w1 _ hc0)).trans hc0, (hb.cell (p := ⟨b, off + 1, none⟩) (World.block_lt_of_cell? w1 _ hc1)).trans hc1⟩
  obtain ⟨N, hN⟩ := Int.eq_ofNat_of_zero_le (show 0 ≤ n by omega)
  subst hN
  rw [Int.toNat_natCast] at HGR
  clear hvw hnm hc0 hc1 hf HRR h0
  have XW : Hid (Bx w1 w.heap.size 26 #[.int .i64 0, .int .i64 0, .slice none 0 0, .slice none 0 0]) := X0
  have HVO : Hid (∀ (k : Nat) W, Tab W → Calls Tryz.prog 171 #[.int .i64 (k : Int), .int .i64 vw, .int .i64 nm] W fun e w' => e = .returned (.agg (VC (votR k vw nm))) ∧ Below W.heap.size W w') := fun k W t => implVoted_any k vw nm W HFVW.out.1.1 HFVW.out.1.2 HFVW.out.2.1 HFVW.out.2.2 t
  have HVK : Hid (∀ (x : Vot) b, FitVo x → vokR x N = b → ∀ W, Tab W → Calls Tryz.prog 164 #[.agg #[.int .i64 x.vw, .int .i64 x.nm, .int .i64 x.sv, .int .i64 x.tg], .int .i64 (N : Int)] W fun e w' => e = .returned (.bool b) ∧ Below W.heap.size W w') := fun x b hx hb W t => by rw [← hb]; exact implVoteOk_any x N W hx t
  have HCT : Hid (∀ (x : Vot) c, decide (x ∈ l) = c → ∀ W, RdVo W (.slice (some ⟨b, off, none⟩) m cap) l → Calls Tryz.prog 173 #[.slice (some ⟨b, off, none⟩) m cap, .agg #[.int .i64 x.vw, .int .i64 x.nm, .int .i64 x.sv, .int .i64 x.tg]] W fun e w' => e = .returned (.bool c) ∧ Below W.heap.size W w') := fun x c hc W h => voContains_any c _ l x hc W h
  go_enter Tryz.func174, Tryz.ntmps174
  go_wp2_with fail
  rw [← hw1]
  refine (HQ.out _ HQE.out _).mono ?_
  rintro e w2 ⟨rfl, hw2⟩
  obtain rfl := hw2.symm
  clear hw1 X0
  go_wp2_with fail
  refine wp_region_noPanic ?_
  refine wp_region_held_drew (S := fun w' => w'.cell? ⟨b, off, none⟩ = some (.int .i64 vw) ∧ w'.cell? ⟨b, off + 1, none⟩ = some (.int .i64 nm)) (by kernel_rfl) (HS.out _ ((Below.refl _ _).drew)) (fun h0 => ?_)
  refine tkG 0 20 h0 ?_
  try simp only [Act.put, List.setIfInBounds_toArray, List.set_cons_zero, List.set_cons_succ]
  refine tkG 1 21 h0 ?_
  try simp only [Act.put, List.setIfInBounds_toArray, List.set_cons_zero, List.set_cons_succ]
  refine tkG 2 22 h0 ?_
  try simp only [Act.put, List.setIfInBounds_toArray, List.set_cons_zero, List.set_cons_succ]
  refine tkG 3 23 h0 ?_
  try simp only [Act.put, List.setIfInBounds_toArray, List.set_cons_zero, List.set_cons_succ]
  refine tkG 4 24 h0 ?_
  try simp only [Act.put, List.setIfInBounds_toArray, List.set_cons_zero, List.set_cons_succ]
  refine tkG 5 25 h0 ?_
  try simp only [Act.put, List.setIfInBounds_toArray, List.set_cons_zero, List.set_cons_succ]
  refine tkG 6 26 h0 ?_
  try simp only [Act.put, List.setIfInBounds_toArray, List.set_cons_zero, List.set_cons_succ]
  refine tkG 7 27 h0 ?_
  try simp only [Act.put, List.setIfInBounds_toArray, List.set_cons_zero, List.set_cons_succ]
  refine tkG 8 28 h0 ?_
  try simp only [Act.put, List.setIfInBounds_toArray, List.set_cons_zero, List.set_cons_succ]
  refine wpAnyH_ready (rs := [9]) (by kernel_rfl) (by simp) ?_
  refine AllReadyH.cons rfl (fun K hK => ?_) AllReadyH.nil
  go_simp
  have HSA := HS.out ((w1.alloc (.cells #[.int .i64 0, .int .i64 0, .slice none 0 0, .slice none 0 0] 26)).drew) ((below1 w1 _).drew)
  have Q0 : Bx ((w1.alloc (.cells #[.int .i64 0, .int .i64 0, .slice none 0 0, .slice none 0 0] 26)).drew) (w.heap.size + 1) 26 #[.int .i64 0, .int .i64 0, .slice none 0 0, .slice none 0 0] := by rw [← s1]; exact (bx_new w1 _ _).below (Below.refl _ _).drew
  obtain ⟨g0, g1, g2, g3⟩ := Q0.c4
  obtain ⟨e0, e1, e2, e3⟩ := Q0.f4
  have HSB := HS.out ((w1.alloc (.cells #[.int .i64 vw, .int .i64 nm, .slice none 0 0, .slice none 0 0] 26)).drew) ((below1 w1 _).drew)
  have L0 : PrBx w1 ((w1.alloc (.cells #[.int .i64 vw, .int .i64 nm, .slice none 0 0, .slice none 0 0] 26)).drew) (w.heap.size + 1) #[.int .i64 vw, .int .i64 nm, .slice none 0 0, .slice none 0 0] ⟨⟨vw, nm, [], []⟩, .slice none 0 0, .slice none 0 0⟩ := by rw [← s1]; exact (prBx_new vw nm (Below.refl _ _)).drew
  refine hK.out _ _ (HSA) (fun h1 => ?_)
  clear hK K
  try simp only [Act.put, List.setIfInBounds_toArray, List.set_cons_zero, List.set_cons_succ]
  clear h0
  refine wpAnyH_ready (rs := [10]) (by kernel_rfl) (by simp) ?_
  refine AllReadyH.cons rfl (fun K hK => ?_) AllReadyH.nil
  go_simp
  clear g0 g1 g2 g3 e0 e1 e2 e3 Q0
  refine hK.out _ _ (HSB) (fun h2 => ?_)
  clear hK K
  try simp only [Act.put, List.setIfInBounds_toArray, List.set_cons_zero, List.set_cons_succ]
  clear h1
  refine wpAnyH_done (by kernel_rfl) ?_ _
  refine NoPanic.normal ?_
  clear HSB HSA
  revert L0
  generalize (w1.alloc (.cells #[.int .i64 vw, .int .i64 nm, .slice none 0 0, .slice none 0 0] 26)).drew = W5
  intro L0
  go_wp2
  have HL0 : Hid (PrBx w1 W5 (w.heap.size + 1) #[.int .i64 vw, .int .i64 nm, .slice none 0 0, .slice none 0 0] ⟨⟨vw, nm, [], []⟩, .slice none 0 0, .slice none 0 0⟩) := L0
  clear L0 hm00
  go_loopw [30] (fun ii wr => ∃ (k : Nat) (sv tg : List Int) (a1 a2 : Option Addr) (n1 c1 n2 c2 : Nat), k ≤ N ∧ ii = .int .i64 k ∧ Hid (gPr l vw nm k = ⟨vw, nm, sv, tg⟩) ∧ Hid (PrBx w1 wr (w.heap.size + 1) #[.int .i64 vw, .int .i64 nm, .slice a1 n1 c1, .slice a2 n2 c2] ⟨⟨vw, nm, sv, tg⟩, .slice a1 n1 c1, .slice a2 n2 c2⟩)) (fun ii _ => N - (intOf ii).toNat)
  case atStart => exact ⟨0, [], [], none, none, 0, 0, 0, 0, Nat.zero_le _, rfl, gPr_zero l vw nm, HL0.out⟩
  case round =>
    obtain ⟨k, sv, tg, a1, a2, n1, c1, n2, c2, hk, rfl, HG, HL⟩ := hrel
    clear HL0
    by_cases hlt : k < N
    · obtain ⟨c0, c1', -, -⟩ := HL.out.box.c4
      obtain ⟨y, hy⟩ : ∃ y, y = votR k vw nm := ⟨_, rfl⟩
      have HSEL : Hid ((vokR y N && decide (y ∈ l)) = selB l vw nm k) := by unfold Hid; rw [hy]; exact sel_votR l vw nm HS0.out (by omega)
      have HYF : Hid (FitVo y) := by unfold Hid; rw [hy]; exact fit_votR _ _ _
      have HYV : Hid (vokR y N = true → y.sv = (k : Int) ∧ y.tg = (tagD k (balS vw nm) : Int)) := fun h => by rw [hy] at h ⊢; rw [(vok_votR h).1]; exact ⟨rfl, rfl⟩
      have HV1 : Hid (∀ W, Tab W → Calls Tryz.prog 171 #[.int .i64 (k : Int), .int .i64 vw, .int .i64 nm] W fun e w' => e = .returned (.agg (VC y)) ∧ Below W.heap.size W w') := fun W t => by rw [hy]; exact HVO.out k W t
      clear hy
      have hk1 : (k : Int) < (N : Int) := by omega
      go_wp2_with fail
      refine (HV1.out _ (HT.out.on (HB0.out.trans (HL.out.bel.mono HB0.out.size)))).mono ?_
      unfold VC
      rintro e w3 ⟨rfl, hb3⟩
      have L3 := HL.out.below hb3
      have X4 := bx_new w3 36 #[.int .i64 y.vw, .int .i64 y.nm, .int .i64 y.sv, .int .i64 y.tg]
      have HX4 : Hid (Bx (w3.alloc (.cells #[.int .i64 y.vw, .int .i64 y.nm, .int .i64 y.sv, .int .i64 y.tg] 36)) w3.heap.size 36 #[.int .i64 y.vw, .int .i64 y.nm, .int .i64 y.sv, .int .i64 y.tg]) := X4
      have HL4 : Hid (PrBx w1 (w3.alloc (.cells #[.int .i64 y.vw, .int .i64 y.nm, .int .i64 y.sv, .int .i64 y.tg] 36)) (w.heap.size + 1) #[.int .i64 vw, .int .i64 nm, .slice a1 n1 c1, .slice a2 n2 c2] ⟨⟨vw, nm, sv, tg⟩, .slice a1 n1 c1, .slice a2 n2 c2⟩) := L3.below (below1 w3 _)
      obtain ⟨x0, x1, x2, x3⟩ := X4.c4
      clear c0 c1' hb3 L3 X4 HL
      cases hvk : vokR y N with
      | false =>
        have HVf : Hid (vokR y N = false) := hvk
        have HG2 : Hid (gPr l vw nm (k + 1) = ⟨vw, nm, sv, tg⟩) := by
          unfold Hid
          rw [gPr_no (by rw [← HSEL.out, hvk]; rfl)]
          exact HG.out
        clear hvk
        go_wp2_with fail
        refine (HVK.out y false HYF.out HVf.out _ (HT.out.on (HB0.out.trans (HL4.out.bel.mono HB0.out.size)))).mono ?_
        rintro e w5 ⟨rfl, hb5⟩
        have HL5 : Hid (PrBx w1 w5 (w.heap.size + 1) #[.int .i64 vw, .int .i64 nm, .slice a1 n1 c1, .slice a2 n2 c2] ⟨⟨vw, nm, sv, tg⟩, .slice a1 n1 c1, .slice a2 n2 c2⟩) := HL4.out.below hb5
        clear x0 x1 x2 x3 hb5
        go_wp2
        go_roundw
        case rel => exact ⟨k + 1, sv, tg, a1, a2, n1, c1, n2, c2, by omega, by go_num, HG2, HL5⟩
        case measure => simp [intOf]; omega
      | true =>
        have HVt : Hid (vokR y N = true) := hvk
        cases hin : decide (y ∈ l) with
        | false =>
          have HIf : Hid (decide (y ∈ l) = false) := hin
          have HG2 : Hid (gPr l vw nm (k + 1) = ⟨vw, nm, sv, tg⟩) := by
            unfold Hid
            rw [gPr_no (by rw [← HSEL.out, hvk, hin]; rfl)]
            exact HG.out
          clear hvk hin
          go_wp2_with fail
          refine (HVK.out y true HYF.out HVt.out _ (HT.out.on (HB0.out.trans (HL4.out.bel.mono HB0.out.size)))).mono ?_
          rintro e w5 ⟨rfl, hb5⟩
          have HL5 : Hid (PrBx w1 w5 (w.heap.size + 1) #[.int .i64 vw, .int .i64 nm, .slice a1 n1 c1, .slice a2 n2 c2] ⟨⟨vw, nm, sv, tg⟩, .slice a1 n1 c1, .slice a2 n2 c2⟩) := HL4.out.below hb5
          have X5 := HX4.out.below hb5
          clear x0 x1 x2 x3 hb5
          obtain ⟨x0, x1, x2, x3⟩ := X5.c4
          go_wp2_with fail
          refine (HCT.out y false HIf.out _ (HR.out.below (HB0.out.trans (HL5.out.bel.mono HB0.out.size)))).mono ?_
          rintro e w6 ⟨rfl, hb6⟩
          have HL6 : Hid (PrBx w1 w6 (w.heap.size + 1) #[.int .i64 vw, .int .i64 nm, .slice a1 n1 c1, .slice a2 n2 c2] ⟨⟨vw, nm, sv, tg⟩, .slice a1 n1 c1, .slice a2 n2 c2⟩) := HL5.out.below hb6
          clear x0 x1 x2 x3 hb6 X5
          go_wp2
          go_roundw
          case rel => exact ⟨k + 1, sv, tg, a1, a2, n1, c1, n2, c2, by omega, by go_num, HG2, HL6⟩
          case measure => simp [intOf]; omega
        | true =>
          have HIt : Hid (decide (y ∈ l) = true) := hin
          have HG2 : Hid (gPr l vw nm (k + 1) = ⟨vw, nm, sv ++ [y.sv], tg ++ [y.tg]⟩) := by
            unfold Hid
            rw [gPr_yes (by rw [← HSEL.out, hvk, hin]; rfl), HG.out, (HYV.out hvk).1, (HYV.out hvk).2]
          have HLN : Hid (sv.length ≤ 1000 ∧ tg.length ≤ 1000) := by
            have h1 := gPr_len l vw nm k
            rw [HG.out] at h1
            simp only at h1
            unfold Hid
            omega
          clear hvk hin
          go_wp2_with fail
          refine (HVK.out y true HYF.out HVt.out _ (HT.out.on (HB0.out.trans (HL4.out.bel.mono HB0.out.size)))).mono ?_
          rintro e w5 ⟨rfl, hb5⟩
          have HL5 : Hid (PrBx w1 w5 (w.heap.size + 1) #[.int .i64 vw, .int .i64 nm, .slice a1 n1 c1, .slice a2 n2 c2] ⟨⟨vw, nm, sv, tg⟩, .slice a1 n1 c1, .slice a2 n2 c2⟩) := HL4.out.below hb5
          have X5 := HX4.out.below hb5
          clear x0 x1 x2 x3 hb5
          obtain ⟨x0, x1, x2, x3⟩ := X5.c4
          go_wp2_with fail
          refine (HCT.out y true HIt.out _ (HR.out.below (HB0.out.trans (HL5.out.bel.mono HB0.out.size)))).mono ?_
          rintro e w6 ⟨rfl, hb6⟩
          have HL6 : Hid (PrBx w1 w6 (w.heap.size + 1) #[.int .i64 vw, .int .i64 nm, .slice a1 n1 c1, .slice a2 n2 c2] ⟨⟨vw, nm, sv, tg⟩, .slice a1 n1 c1, .slice a2 n2 c2⟩) := HL5.out.below hb6
          have X6 := X5.below hb6
          clear x0 x1 x2 x3 hb6 X5
          obtain ⟨x0, x1, x2, x3⟩ := X6.c4
          go_wp2_with fail
          refine (add_at w1 w6 (w.heap.size + 1) vw nm sv tg a1 a2 n1 c1 n2 c2 y HL6.out HLN.out.1 HLN.out.2).mono ?_
          rintro e w7 ⟨X, rfl, L7, hX⟩
          clear x0 x1 x2 x3 X6
          obtain ⟨p, vs, vt⟩ := X
          simp only at hX L7
          subst hX
          obtain ⟨b1, d1, b2, d2, hvs, hvt⟩ := L7.own.slices
          simp only at hvs hvt L7
          generalize (sv ++ [y.sv]).length = l1 at hvs
          generalize (tg ++ [y.tg]).length = l2 at hvt
          subst hvs hvt
          have HL7 : Hid (PrBx w1 w7 (w.heap.size + 1) #[.int .i64 vw, .int .i64 nm, .slice b1 l1 d1, .slice b2 l2 d2] ⟨⟨vw, nm, sv ++ [y.sv], tg ++ [y.tg]⟩, .slice b1 l1 d1, .slice b2 l2 d2⟩) := L7
          clear L7
          go_wp2
          go_roundw
          case rel => exact ⟨k + 1, _, _, b1, b2, l1, d1, l2, d2, by omega, by go_num, HG2, HL7⟩
          case measure => simp [intOf]; omega
    · have hke : k = N := by omega
      subst hke
      have hn1 := ownI_lenX HL.out.own.sv
      simp only at hn1
      have HSVL : Hid (n1 = (gPr l vw nm k).sv.length) := by unfold Hid; rw [HG.out]; exact hn1
      obtain ⟨x0, x1, x2, x3⟩ := HL.out.box.c4
      have X9 := XW.out.below HL.out.bel
      clear hn1
      by_cases hq : (n1 : Int) < q
      · have RES : Hid (R = none) := by unfold Hid; rw [HGR.out, HQE.out, if_neg (by rw [← HSVL.out]; omega)]
        obtain ⟨c0, c1', c2', c3⟩ := X9.c4
        obtain ⟨f0, f1, f2, f3⟩ := X9.f4
        obtain ⟨z0, z1, z2, z3⟩ := (X9.put4 (.int .i64 0) (.int .i64 0) (.slice none 0 0) (.slice none 0 0)).c4
        have HZB : Hid (Below w.heap.size w (put4B wr w.heap.size (.int .i64 0) (.int .i64 0) (.slice none 0 0) (.slice none 0 0))) := put4B_below (HB0.out.trans (HL.out.bel.mono HB0.out.size)) (Nat.le_refl _)
        unfold put4B at z0 z1 z2 z3 HZB
        clear X9
        go_wp2
        exact bodyPost_ret (v := .tuple #[.agg #[.int .i64 0, .int .i64 0, .slice none 0 0, .slice none 0 0], .bool false]) (by simp [results, Tryz.results174, go_sem, z0, z1, z2, z3]) rfl (GatP.no RES.out HZB.out)
      · have RES : Hid (R = some ⟨vw, nm, sv, tg⟩) := by unfold Hid; rw [HGR.out, HQE.out, if_pos (by rw [← HSVL.out]; omega), HG.out]
        obtain ⟨c0, c1', c2', c3⟩ := X9.c4
        obtain ⟨f0, f1, f2, f3⟩ := X9.f4
        obtain ⟨z0, z1, z2, z3⟩ := (X9.put4 (.int .i64 vw) (.int .i64 nm) (.slice a1 n1 c1) (.slice a2 n2 c2)).c4
        have HZB : Hid (Below w.heap.size w (put4B wr w.heap.size (.int .i64 vw) (.int .i64 nm) (.slice a1 n1 c1) (.slice a2 n2 c2))) := put4B_below (HB0.out.trans (HL.out.bel.mono HB0.out.size)) (Nat.le_refl _)
        have HOZ : Hid (OwnPr (put4B wr w.heap.size (.int .i64 vw) (.int .i64 nm) (.slice a1 n1 c1) (.slice a2 n2 c2)) w.heap.size ⟨⟨vw, nm, sv, tg⟩, .slice a1 n1 c1, .slice a2 n2 c2⟩) :=
          (HL.out.own.touch put4B_touch (fun q hq e => by have h1 := (HL.out.own.bound hq).1; have h2 := List.mem_singleton.1 e; omega)).mono (by omega)
        unfold put4B at z0 z1 z2 z3 HZB HOZ
        clear X9
        go_wp2
        exact bodyPost_ret (v := .tuple #[.agg #[.int .i64 vw, .int .i64 nm, .slice a1 n1 c1, .slice a2 n2 c2], .bool true]) (by simp [results, Tryz.results174, go_sem, z0, z1, z2, z3]) rfl ⟨⟨⟨vw, nm, sv, tg⟩, .slice a1 n1 c1, .slice a2 n2 c2⟩, by rw [RES.out]; rfl, by rw [RES.out]; rfl, HOZ.out, HZB.out⟩
end Go.Proofs.YtahihlnhimmgdaaGreatDoor
