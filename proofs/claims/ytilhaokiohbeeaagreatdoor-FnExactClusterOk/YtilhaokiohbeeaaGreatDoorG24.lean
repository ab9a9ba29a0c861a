/- The contract of the model's ShowBlock. The votes that a proof is made of: plain. -/
import Derived.Test.YtilhaokiohbeeaaGreatDoorBlxRow
import Derived.Deep.RegionHeld3
import Derived.Test.YtilhaokiohbeeaaGreatDoorG03
-- UNF Gen
namespace Go.Proofs.YtilhaokiohbeeaaGreatDoor
open Go.RowKit
theorem ownI_two (w : World) (x y : Int) : OwnI (w.alloc (.cells #[.int .i64 x, .int .i64 y] 2)) w.heap.size (.slice (some ⟨w.heap.size, 0, none⟩) 2 2) [x, y] := World.ownsRow_lit w #[.int .i64 x, .int .i64 y] 2 (Nat.le_refl _) (by unfold maxLen; omega) rfl
theorem ownI_five (w : World) (a b c d e : Int) : OwnI (w.alloc (.cells #[.int .i64 a, .int .i64 b, .int .i64 c, .int .i64 d, .int .i64 e] 2)) w.heap.size (.slice (some ⟨w.heap.size, 0, none⟩) 5 5) [a, b, c, d, e] := World.ownsRow_lit w #[.int .i64 a, .int .i64 b, .int .i64 c, .int .i64 d, .int .i64 e] 5 (Nat.le_refl _) (by unfold maxLen; omega) rfl
/-- One operation that only makes a value, as a step of a region that draws its order. -/
theorem step_valX {w : World} {ops : Array Oper} {o : Oper} {a : Act} {K : Act → World → Prop} {Q : Exit → Act → World → Prop} {E : Prop} (hgd : o.guard = none) (d : Nat) (hd : o.dst = some d) (v : Value)
    (hrun : (execOp a.eval o).run Tryz.prog w = .ok (.value v) w) (h : K (a.put (some d) v) w) :
    if Region.wanted o (yielded ops a.tmps) = true then Oper.wp Tryz.prog o a w K Q else E := by
  have hw : Region.wanted o (yielded ops a.tmps) = true := by simp [Region.wanted, hgd]
  rw [if_pos hw]
  rw [← hd] at h
  unfold Oper.wp
  rw [hrun]
  exact h
theorem ret_str {a b : ByteArray} (h : a = b) : Ending.returned (.string a) = .returned (.string b) := by rw [h]
set_option maxHeartbeats 8000000 in
set_option maxRecDepth 100000 in
theorem specShow_any (X : BlX) (w : World) (hr : RdBl w X) (hz : ∀ s ∈ X.b.mo, s.size ≤ 1048576) :
    Calls Tryz.prog 165 #[.agg #[.int .i64 X.b.vw, .int .i64 X.b.pa, .int .i64 X.b.p.vw, .int .i64 X.b.p.nm, X.vs, X.vt, X.vm, .int .i64 X.b.sv]] w fun e w' => e = .returned (.string ⟨(shwB X.b).toArray⟩) ∧ Below w.heap.size w w' := by
  obtain ⟨⟨vw, pa, ⟨pv, pn, sv, tg⟩, mo, bb⟩, vs, vt, vm⟩ := X
  obtain ⟨⟨hrs, hrt⟩, hrm⟩ := hr
  simp only [BlX.pr] at hrs hrt hrm hz ⊢
  obtain ⟨a1, c1, hv1, hl1, hm1, -, -⟩ := id hrs
  obtain ⟨a2, c2, hv2, hl2, hm2, -, -⟩ := id hrt
  obtain ⟨a3, c3, hv3, hl3, hm3, -⟩ := id hrm
  unfold maxLen at hm1 hm2 hm3
  obtain ⟨n1, hn1⟩ : ∃ n1, n1 = sv.length := ⟨_, rfl⟩
  obtain ⟨n2, hn2⟩ : ∃ n2, n2 = tg.length := ⟨_, rfl⟩
  obtain ⟨n3, hn3⟩ : ∃ n3, n3 = mo.length := ⟨_, rfl⟩
  rw [← hn1] at hv1 hl1
  rw [← hn2] at hv2 hl2
  rw [← hn3] at hv3 hl3
  subst hv1 hv2 hv3
  obtain ⟨T, hT⟩ : ∃ T, T = shwB ⟨vw, pa, ⟨pv, pn, sv, tg⟩, mo, bb⟩ := ⟨_, rfl⟩
  have HT : Hid (T = shwB ⟨vw, pa, ⟨pv, pn, sv, tg⟩, mo, bb⟩) := hT
  have HN1 : Hid (n1 = sv.length) := hn1
  have HN2 : Hid (n2 = tg.length) := hn2
  have HRS : Hid (RdI w (.slice a1 n1 c1) sv) := hrs
  have HRT : Hid (RdI w (.slice a2 n2 c2) tg) := hrt
  have HTX : Hid (∀ W, Below w.heap.size w W → Calls Tryz.prog 207 #[.slice a3 n3 c3] W fun e w' => ∃ u, e = .returned u ∧ Own w' W.heap.size u (textsOf mo) ∧ Below W.heap.size W w') := fun W hb => specTexts_any _ mo W (hrm.below hb) hz
  have X0 := bx_new w 34 #[.int .i64 vw, .int .i64 pa, .int .i64 pv, .int .i64 pn, .slice a1 n1 c1, .slice a2 n2 c2, .slice a3 n3 c3, .int .i64 bb]
  have HB0 : Hid (Below w.heap.size w (w.alloc (.cells #[.int .i64 vw, .int .i64 pa, .int .i64 pv, .int .i64 pn, .slice a1 n1 c1, .slice a2 n2 c2, .slice a3 n3 c3, .int .i64 bb] 34))) := below1 w _
  obtain ⟨w2, hw2⟩ : ∃ w2, w2 = w.alloc (.cells #[.int .i64 vw, .int .i64 pa, .int .i64 pv, .int .i64 pn, .slice a1 n1 c1, .slice a2 n2 c2, .slice a3 n3 c3, .int .i64 bb] 34) := ⟨_, rfl⟩
  have s2 : w2.heap.size = w.heap.size + 1 := by rw [hw2]; simp
  have BZ0 := HB0.out.alloc HB0.out.size (.cells #[.int .i64 vw, .int .i64 pa, .int .i64 pv, .int .i64 pn, .int .i64 (n1 : Int)] 2)
  obtain ⟨p0, p1, p2, p3, p4, p5, -, -⟩ := X0.c8
  rw [← hT]
  clear hT hrs hrt hrm hz hn1 hn2 hn3
  by_cases h7 : (7 : Int) < (n1 : Int)
  · have RES : Hid (T = []) := HT.out.trans (shwB_many (by unfold prB7; exact decide_eq_false (fun h => by have h1 := h.2; simp only at h1; rw [← HN1.out] at h1; omega)))
    have Q : Hid (Below w.heap.size w ((w.alloc (.cells #[.int .i64 vw, .int .i64 pa, .int .i64 pv, .int .i64 pn, .slice a1 n1 c1, .slice a2 n2 c2, .slice a3 n3 c3, .int .i64 bb] 34)).alloc (.cells #[.int .i64 vw, .int .i64 pa, .int .i64 pv, .int .i64 pn, .int .i64 (n1 : Int)] 2))) := BZ0
    clear BZ0 hw2 w2 s2
    go_enter Tryz.func165, Tryz.ntmps165
    go_wp2
    go_ret
    exact ⟨by rw [RES.out]; rfl, Q.out⟩
  by_cases hne : n1 = n2
  case neg =>
    have RES : Hid (T = []) := HT.out.trans (shwB_many (by unfold prB7; exact decide_eq_false (fun h => by have h1 := h.1; simp only at h1; rw [← HN1.out, ← HN2.out] at h1; exact hne h1)))
    have hnd : ((n1 : Int) != (n2 : Int)) = true := by simp; omega
    have Q : Hid (Below w.heap.size w ((w.alloc (.cells #[.int .i64 vw, .int .i64 pa, .int .i64 pv, .int .i64 pn, .slice a1 n1 c1, .slice a2 n2 c2, .slice a3 n3 c3, .int .i64 bb] 34)).alloc (.cells #[.int .i64 vw, .int .i64 pa, .int .i64 pv, .int .i64 pn, .int .i64 (n1 : Int)] 2))) := BZ0
    clear BZ0 hw2 w2 s2 hne
    go_enter Tryz.func165, Tryz.ntmps165
    go_wp2
    go_ret
    exact ⟨by rw [RES.out]; rfl, Q.out⟩
  case pos =>
    subst hne
    have h7n : n1 ≤ 7 := by omega
    have H7 : Hid (n1 ≤ 7) := h7n
    have HPB : Hid (prB7 ⟨pv, pn, sv, tg⟩ = true) := by unfold Hid prB7; exact decide_eq_true ⟨by simp only; rw [← HN1.out, ← HN2.out], by simp only; rw [← HN1.out]; exact h7n⟩
    have hnd : ((n1 : Int) != (n1 : Int)) = false := by simp
    have O2 : OwnI (w2.alloc (.cells #[.int .i64 vw, .int .i64 pa, .int .i64 pv, .int .i64 pn, .int .i64 (n1 : Int)] 2)) w2.heap.size (.slice (some ⟨w.heap.size + 1, 0, none⟩) 5 5) [vw, pa, pv, pn, (n1 : Int)] := by rw [← s2]; exact ownI_five w2 _ _ _ _ _
    rw [← hw2] at X0 HB0
    have HX : Hid (Bx w2 w.heap.size 34 #[.int .i64 vw, .int .i64 pa, .int .i64 pv, .int .i64 pn, .slice a1 n1 c1, .slice a2 n1 c2, .slice a3 n3 c3, .int .i64 bb]) := X0
    have HWE : Hid (w.alloc (.cells #[.int .i64 vw, .int .i64 pa, .int .i64 pv, .int .i64 pn, .slice a1 n1 c1, .slice a2 n1 c2, .slice a3 n3 c3, .int .i64 bb] 34) = w2) := hw2.symm
    clear BZ0 X0 hw2
    go_enter Tryz.func165, Tryz.ntmps165
    go_wp2
    rw [HWE.out]
    have HO1 : Hid (OwnI (w2.alloc (.cells #[.int .i64 vw, .int .i64 pa, .int .i64 pv, .int .i64 pn, .int .i64 (n1 : Int)] 2)) w2.heap.size (.slice (some ⟨w.heap.size + 1, 0, none⟩) 5 5) [vw, pa, pv, pn, (n1 : Int)]) := O2
    clear p0 p1 p2 p3 p4 p5 O2 HWE
    go_loopw [3, 4] (fun ll ii wr => ∃ (k : Nat) (la : Option Addr) (ln lc : Nat) (ys : List Int), k ≤ n1 ∧ ii = .int .i64 k ∧ ll = .slice la ln lc ∧ Hid (OwnI wr w2.heap.size (.slice la ln lc) ys) ∧ Hid (ys = [vw, pa, pv, pn, (n1 : Int)] ++ altI (sv.take k) (tg.take k)) ∧ Hid (Below w2.heap.size w2 wr)) (fun _ ii _ => n1 - (intOf ii).toNat)
    case atStart => exact ⟨0, some ⟨w.heap.size + 1, 0, none⟩, 5, 5, _, Nat.zero_le _, rfl, rfl, HO1, by unfold Hid; simp [altI], (Below.refl _ _).alloc (Nat.le_refl _) _⟩
    case round =>
      obtain ⟨k, la, ln, lc, ys, hk, rfl, rfl, HO, HY, HW⟩ := hrel
      have hc4 := (HX.out.below HW.out).c8.2.2.2.2.1
      by_cases hlt : k < n1
      · have hks : k < sv.length := by rw [← HN1.out]; exact hlt
        have hkt : k < tg.length := by rw [← HN2.out]; exact hlt
        have HYL : Hid (ys.length = 5 + 2 * k ∧ k ≤ 7) := by
          unfold Hid
          rw [HY.out, List.length_append, altI_len _ _ (by rw [List.length_take, List.length_take]; omega), List.length_take]
          simp; omega
        obtain ⟨b1, o1, rfl, hc1⟩ := HRS.out.at k hks
        obtain ⟨b2, o2, rfl, hc2⟩ := HRT.out.at k hkt
        obtain ⟨y, hy⟩ : ∃ y, y = sv[k] := ⟨_, rfl⟩
        obtain ⟨t, ht⟩ : ∃ t, t = tg[k] := ⟨_, rfl⟩
        rw [← hy] at hc1
        rw [← ht] at hc2
        have HY2 : Hid (ys ++ [y, t] = [vw, pa, pv, pn, (n1 : Int)] ++ altI (sv.take (k + 1)) (tg.take (k + 1))) := by
          unfold Hid
          rw [HY.out, altI_snoc sv tg k hks hkt, hy, ht, List.append_assoc]
        have hk1 : (k : Int) < (n1 : Int) := by omega
        have HS : Hid (∀ V, Below w2.heap.size w2 V → V.cell? ⟨w.heap.size, 4, none⟩ = some (.slice (some ⟨b1, o1, none⟩) n1 c1) ∧ V.cell? ⟨w.heap.size, 5, none⟩ = some (.slice (some ⟨b2, o2, none⟩) n1 c2) ∧ V.cell? ⟨b1, o1 + k, none⟩ = some (.int .i64 y) ∧ V.cell? ⟨b2, o2 + k, none⟩ = some (.int .i64 t)) := fun V hb => ⟨(HX.out.below hb).c8.2.2.2.2.1, (HX.out.below hb).c8.2.2.2.2.2.1, ((Below.cell (HB0.out.trans (hb.mono HB0.out.size)) (p := ⟨b1, o1 + k, none⟩) (World.block_lt_of_cell? w _ hc1)).trans hc1), ((Below.cell (HB0.out.trans (hb.mono HB0.out.size)) (p := ⟨b2, o2 + k, none⟩) (World.block_lt_of_cell? w _ hc2)).trans hc2)⟩
        clear hy ht hc1 hc2 hks hkt
        go_wp2_with fail
        refine wp_region_noPanic ?_
        refine wp_region_held_drew (S := fun w' => w'.cell? ⟨w.heap.size, 4, none⟩ = some (.slice (some ⟨b1, o1, none⟩) n1 c1) ∧ w'.cell? ⟨w.heap.size, 5, none⟩ = some (.slice (some ⟨b2, o2, none⟩) n1 c2) ∧ w'.cell? ⟨b1, o1 + k, none⟩ = some (.int .i64 y) ∧ w'.cell? ⟨b2, o2 + k, none⟩ = some (.int .i64 t)) (by kernel_rfl) (HS.out _ HW.out.drew) (fun h0 => ?_)
        refine tkG 0 47 h0 ?_
        try simp only [Act.put, List.setIfInBounds_toArray, List.set_cons_zero, List.set_cons_succ]
        refine tkG 1 48 h0 ?_
        try simp only [Act.put, List.setIfInBounds_toArray, List.set_cons_zero, List.set_cons_succ]
        refine tkG 2 49 h0 ?_
        try simp only [Act.put, List.setIfInBounds_toArray, List.set_cons_zero, List.set_cons_succ]
        refine tkG 3 50 h0 ?_
        try simp only [Act.put, List.setIfInBounds_toArray, List.set_cons_zero, List.set_cons_succ]
        refine tkG 4 51 h0 ?_
        try simp only [Act.put, List.setIfInBounds_toArray, List.set_cons_zero, List.set_cons_succ]
        refine tkG 5 52 h0 ?_
        try simp only [Act.put, List.setIfInBounds_toArray, List.set_cons_zero, List.set_cons_succ]
        refine tkG 6 53 h0 ?_
        try simp only [Act.put, List.setIfInBounds_toArray, List.set_cons_zero, List.set_cons_succ]
        refine tkG 7 54 h0 ?_
        try simp only [Act.put, List.setIfInBounds_toArray, List.set_cons_zero, List.set_cons_succ]
        refine tkG 8 55 h0 ?_
        try simp only [Act.put, List.setIfInBounds_toArray, List.set_cons_zero, List.set_cons_succ]
        refine tkG 9 56 h0 ?_
        try simp only [Act.put, List.setIfInBounds_toArray, List.set_cons_zero, List.set_cons_succ]
        refine tkG 10 57 h0 ?_
        try simp only [Act.put, List.setIfInBounds_toArray, List.set_cons_zero, List.set_cons_succ]
        refine tkG 11 58 h0 ?_
        try simp only [Act.put, List.setIfInBounds_toArray, List.set_cons_zero, List.set_cons_succ]
        refine tkG 12 59 h0 ?_
        try simp only [Act.put, List.setIfInBounds_toArray, List.set_cons_zero, List.set_cons_succ]
        refine wpAnyH_ready (rs := [13]) (by kernel_rfl) (by simp) ?_
        refine AllReadyH.cons rfl (fun K hK => ?_) AllReadyH.nil
        refine step_objX rfl 60 rfl (.cells #[.int .i64 y, .int .i64 t] 2) (.slice (some ⟨wr.drew.heap.size, 0, none⟩) 2 2) (by go_simp; (try rfl)) ?_
        have hrow : RdI (wr.drew.alloc (.cells #[.int .i64 y, .int .i64 t] 2)) (.slice (some ⟨wr.drew.heap.size, 0, none⟩) 2 2) [y, t] := (ownI_two wr.drew y t).rd
        have HW1 : Below w2.heap.size w2 (wr.drew.alloc (.cells #[.int .i64 y, .int .i64 t] 2)) := HW.out.drew.alloc HW.out.drew.size _
        have OW1 := OwnI.below HO.out (w' := wr.drew.alloc (.cells #[.int .i64 y, .int .i64 t] 2)) ((Below.refl _ _).drew.alloc (by simp) _)
        refine hK.out _ _ (HS.out _ HW1) (fun h1 => ?_)
        clear hK K
        try simp only [Act.put, List.setIfInBounds_toArray, List.set_cons_zero, List.set_cons_succ]
        clear h0
        refine wpAnyH_ready (rs := [14]) (by kernel_rfl) (by simp) ?_
        refine AllReadyH.cons rfl (fun K hK => ?_) AllReadyH.nil
        refine step_append_ints rfl 61 rfl _ _ rfl w2.heap.size (.slice la ln lc) (.slice (some ⟨wr.drew.heap.size, 0, none⟩) 2 2) ys [y, t] rfl rfl OW1 hrow (by have := HYL.out; simp; omega) HW1.size ?_
        intro u2 W2 OW2 hg2
        have HW2 : Below w2.heap.size w2 W2 := HW1.grown hg2 HW1.size (fun q hq => (World.ownsRow.lt OW1 q hq).1)
        obtain ⟨la, lc, hu2⟩ := ownSlX OW2
        have HO2 : Hid (OwnI W2 w2.heap.size u2 (ys ++ [y, t])) := OW2
        clear OW2 hg2 OW1 hrow
        generalize (ys ++ [y, t]).length = ln at hu2
        subst hu2
        refine hK.out _ _ (HS.out _ HW2) (fun h2 => ?_)
        clear hK K
        try simp only [Act.put, List.setIfInBounds_toArray, List.set_cons_zero, List.set_cons_succ]
        clear h1
        refine tkG 15 3 h2 ?_
        try simp only [Act.put, List.setIfInBounds_toArray, List.set_cons_zero, List.set_cons_succ]
        refine wpAnyH_done (by kernel_rfl) ?_ _
        refine NoPanic.normal ?_
        have HWN : Hid (Below w2.heap.size w2 W2) := HW2
        go_wp2
        go_roundw
        case rel => exact ⟨k + 1, la, ln, lc, _, by omega, by go_num, rfl, HO2, HY2, HWN⟩
        case measure => simp [intOf]; omega
      · have hke : n1 = k := by omega
        subst hke
        obtain ⟨wA, hwA⟩ : ∃ wA, wA = wr := ⟨_, rfl⟩
        subst hwA
        obtain ⟨ns, hns⟩ : ∃ ns, ns = blN ⟨vw, pa, ⟨pv, pn, sv, tg⟩, mo, bb⟩ := ⟨_, rfl⟩
        have HNS : Hid (ns = blN ⟨vw, pa, ⟨pv, pn, sv, tg⟩, mo, bb⟩) := hns
        have HYN : Hid (ys = ns) := by
          unfold Hid
          rw [HY.out, hns, HN1.out, List.take_length, show sv.length = tg.length by rw [← HN1.out, ← HN2.out], List.take_length]
          simp only [blN, prN, List.cons_append, List.nil_append]
          rw [show (tg.length : Int) = (sv.length : Int) by rw [← HN1.out, ← HN2.out]]
        have HNL : Hid (ns.length ≤ 19) := by
          unfold Hid
          have h1 := (blN_len (b := ⟨vw, pa, ⟨pv, pn, sv, tg⟩, mo, bb⟩) HPB.out).1
          have h2 := H7.out
          have h3 := HN1.out
          rw [hns]; simp only at h1; omega
        obtain ⟨m, hm⟩ : ∃ m, m = ns.length := ⟨_, rfl⟩
        have HM : Hid (m = ns.length) := hm
        have HRL : Hid (RdI wA (.slice la ln lc) ns) := by unfold Hid; rw [← HYN.out]; exact HO.out.rd
        obtain ⟨_, _, hvv, -, -, -, -⟩ := id HRL.out
        simp only [Value.slice.injEq] at hvv
        have hln : ln = m := by rw [hm]; exact hvv.2.1
        subst hln
        have hml : ln ≤ 19 := by rw [hm]; exact HNL.out
        have HWX : Hid (Below w2.heap.size w2 wA) := HW
        have HX7 : Hid (Bx wA w.heap.size 34 #[.int .i64 vw, .int .i64 pa, .int .i64 pv, .int .i64 pn, .slice a1 n1 c1, .slice a2 n1 c2, .slice a3 n3 c3, .int .i64 bb]) := HX.out.below HW.out
        clear hvv hns hm HO HY HW HYN
        go_wp2
        clear hc4
        go_loopw [5, 6] (fun oo ii wq => ∃ (k : Nat) (oa : Option Addr) (on oc : Nat), k ≤ ln ∧ ii = .int .i64 k ∧ oo = .slice oa on oc ∧ Hid (Own wq wA.heap.size (.slice oa on oc) (numL (ns.take k))) ∧ Hid (∀ j (h : j < ns.length), j < k → inO ns[j] = true) ∧ Hid (Below wA.heap.size wA wq)) (fun _ ii _ => ln - (intOf ii).toNat)
        case atStart => exact ⟨0, some ⟨wA.heap.size, 0, none⟩, 0, 0, Nat.zero_le _, rfl, rfl, own_none wA, (fun j h h' => by omega), below1 wA _⟩
        case round =>
          obtain ⟨q, oa, on, oc, hq, rfl, rfl, HO, HJ, HW⟩ := hrel
          by_cases hlt : q < ln
          · have hqn : q < ns.length := by rw [← HM.out]; exact hlt
            obtain ⟨b1, o1, rfl, hc1⟩ := HRL.out.at q hqn
            obtain ⟨y, hy⟩ : ∃ y, y = ns[q] := ⟨_, rfl⟩
            rw [← hy] at hc1
            have HY : Hid (y = ns[q]) := hy
            have hcr : wr.cell? ⟨b1, o1 + q, none⟩ = some (.int .i64 y) := (Below.cell HW.out (p := ⟨b1, o1 + q, none⟩) (World.block_lt_of_cell? wA _ hc1)).trans hc1
            have hq1 : (q : Int) < (ln : Int) := by omega
            clear hy hc1
            cases hin : inO y with
            | false =>
              have hdi : (decide ((0 : Int) ≤ y) && decide (y ≤ 1099511627776)) = false := by rw [← hin]; unfold inO; rw [Bool.decide_and]
              have RES : Hid (T = []) := HT.out.trans (shwB_num (k := q) (by rw [← HNS.out]; exact hqn) (by simp only [← HNS.out, ← HY.out]; exact hin))
              have HD : Hid ((decide ((0 : Int) ≤ y) && decide (y ≤ 1099511627776)) = false) := hdi
              clear hin hdi
              go_wp2_with fail
              refine (l1In_num y 0 1099511627776 _).mono ?_
              rintro e w4 ⟨rfl, rfl⟩
              rw [HD.out]
              go_wp2
              go_ret
              exact ⟨by rw [RES.out]; rfl, HB0.out.trans ((HWX.out.trans (HW.out.mono HWX.out.size)).mono HB0.out.size)⟩
            | true =>
              have hdi : (decide ((0 : Int) ≤ y) && decide (y ≤ 1099511627776)) = true := by rw [← hin]; unfold inO; rw [Bool.decide_and]
              have HIN : Hid (inO y = true) := hin
              have hy0 := (inO_yes hin).1
              have hy1 := (inO_yes hin).2
              have HD : Hid ((decide ((0 : Int) ≤ y) && decide (y ≤ 1099511627776)) = true) := hdi
              have HNM : Hid (numL (ns.take (q + 1)) = numL (ns.take q) ++ enc y.toNat) := by unfold Hid; rw [numL_snoc ns q hqn, ← HY.out, num_yes hin]
              clear hin hdi
              go_wp2_with fail
              refine (l1In_num y 0 1099511627776 _).mono ?_
              rintro e w4 ⟨rfl, rfl⟩
              rw [HD.out]
              clear HD
              go_wp2_with fail
              refine (l1Number_any y _ hy0 (by omega)).mono ?_
              rintro e w5 ⟨v5, rfl, ho5, hb5⟩
              have HO5 : Hid (Own w5 wA.heap.size (.slice oa on oc) (numL (ns.take q))) := Own.below HO.out hb5
              have HB5 : Hid (Below wA.heap.size wA w5) := HW.out.trans (hb5.mono HW.out.size)
              have HR5 : Hid (Rd w5 v5 (enc y.toNat) ∧ NilOk v5) := ⟨ho5.rd, own_nil ho5⟩
              obtain ⟨va, vc, hv5⟩ := ownSlX ho5
              have HLL : Hid ((numL (ns.take q)).length + (enc y.toNat).length ≤ 1000000000) := by
                unfold Hid
                have h1 := numL_len (ns.take q)
                have h2 := enc_len9 y.toNat (by omega)
                rw [List.length_take] at h1
                have h3 := HNL.out
                omega
              generalize (enc y.toNat).length = vn at hv5
              subst hv5
              clear ho5 hb5 HW HO
              go_wp2_with (at_builtin; (refine wpList_append_byts rfl _ _ rfl wA.heap.size (.slice oa on oc) (.slice va vn vc) _ (enc y.toNat) rfl rfl HO5.out HR5.out.1 HR5.out.2 HLL.out HB5.out.size ?_))
              intro v6 w6 ho6 hg6
              have HB6 : Hid (Below wA.heap.size wA w6) := HB5.out.grown hg6 HB5.out.size (fun q hq => (World.ownsRow.lt HO5.out q hq).1)
              obtain ⟨ua, uc, hv6⟩ := ownSlX ho6
              have HO6 : Hid (Own w6 wA.heap.size v6 (numL (ns.take (q + 1)))) := by unfold Hid; rw [HNM.out]; exact ho6
              have HJ6 : Hid (∀ j (h : j < ns.length), j < q + 1 → inO ns[j] = true) := fun j h h' => by
                by_cases hjq : j = q
                · subst hjq; rw [← HY.out]; exact HIN.out
                · exact HJ.out j h (by omega)
              generalize (numL (ns.take q) ++ enc y.toNat).length = un at hv6
              subst hv6
              clear ho6 hg6 HO5 HR5 HB5 hy0 hy1
              go_wp2
              go_roundw
              case rel => exact ⟨q + 1, ua, un, uc, by omega, by go_num, rfl, HO6, HJ6, HB6⟩
              case measure => simp [intOf]; omega
          · have hqe : ln = q := by omega
            subst hqe
            have HALL : Hid ((blN ⟨vw, pa, ⟨pv, pn, sv, tg⟩, mo, bb⟩).all inO = true) := by unfold Hid; rw [← HNS.out]; exact all_yes (fun k hk => HJ.out k hk (by rw [HM.out]; exact hk))
            have HX8 : Hid (Bx wr w.heap.size 34 #[.int .i64 vw, .int .i64 pa, .int .i64 pv, .int .i64 pn, .slice a1 n1 c1, .slice a2 n1 c2, .slice a3 n3 c3, .int .i64 bb]) := HX7.out.below HW.out
            have HW8 : Hid (Below w2.heap.size w2 wr) := HWX.out.trans (HW.out.mono HWX.out.size)
            have HO8 : Hid (Own wr w2.heap.size (.slice oa on oc) (numL ns)) := by unfold Hid; have h := HO.out; rw [HM.out, List.take_length] at h; exact h.mono HWX.out.size
            have HLN : Hid ((numL ns).length ≤ 200) := by unfold Hid; have h1 := numL_len ns; have h2 := HNL.out; omega
            obtain ⟨-, -, -, -, -, -, p6, -⟩ := HX8.out.c8
            clear HJ HO HW HRL
            go_wp2_with fail
            refine (HTX.out _ (HB0.out.trans (HW8.out.mono HB0.out.size))).mono ?_
            rintro e w3 ⟨v3, rfl, ho3, hb3⟩
            have HX3 : Hid (Bx w3 w.heap.size 34 #[.int .i64 vw, .int .i64 pa, .int .i64 pv, .int .i64 pn, .slice a1 n1 c1, .slice a2 n1 c2, .slice a3 n3 c3, .int .i64 bb]) := HX8.out.below hb3
            have HW3 : Hid (Below w2.heap.size w2 w3) := HW8.out.trans (hb3.mono HW8.out.size)
            have HO3 : Hid (Own w3 w2.heap.size (.slice oa on oc) (numL ns)) := Own.below HO8.out hb3
            have HT3 : Hid (Rd w3 v3 (textsOf mo) ∧ NilOk v3) := ⟨ho3.rd, own_nil ho3⟩
            obtain ⟨ta, tc, hv3⟩ := ownSlX ho3
            obtain ⟨tn, htn⟩ : ∃ tn, tn = (textsOf mo).length := ⟨_, rfl⟩
            rw [← htn] at hv3
            have HTN : Hid (tn = (textsOf mo).length) := htn
            subst hv3
            clear ho3 hb3 htn p6 HX8 HW8 HO8
            by_cases ht0 : tn = 0
            · have RES : Hid (T = []) := HT.out.trans (shwB_txt (List.length_eq_zero_iff.1 (by rw [← HTN.out]; exact ht0)))
              subst ht0
              go_wp2
              go_ret
              exact ⟨by rw [RES.out]; rfl, HB0.out.trans (HW3.out.mono HB0.out.size)⟩
            · have HTE : Hid (textsOf mo ≠ []) := fun h => ht0 (by rw [HTN.out, h]; rfl)
              have htd : ((tn : Int) == 0) = false := by simp; omega
              obtain ⟨-, -, -, -, -, -, -, p7⟩ := HX3.out.c8
              cases hin : inO bb with
              | false =>
                have HD : Hid ((decide ((0 : Int) ≤ bb) && decide (bb ≤ 1099511627776)) = false) := by unfold Hid; rw [← hin]; unfold inO; rw [Bool.decide_and]
                have RES : Hid (T = []) := HT.out.trans (shwB_by hin)
                clear hin
                go_wp2_with fail
                refine (l1In_num bb 0 1099511627776 _).mono ?_
                rintro e w4 ⟨rfl, rfl⟩
                rw [HD.out]
                go_wp2
                go_ret
                exact ⟨by rw [RES.out]; rfl, HB0.out.trans (HW3.out.mono HB0.out.size)⟩
              | true =>
                have HD : Hid ((decide ((0 : Int) ≤ bb) && decide (bb ≤ 1099511627776)) = true) := by unfold Hid; rw [← hin]; unfold inO; rw [Bool.decide_and]
                have hb0 := (inO_yes hin).1
                have hb1 := (inO_yes hin).2
                have HNB : Hid (∀ W, Calls Tryz.prog 206 #[.int .i64 bb] W fun e w' => ∃ v, e = .returned v ∧ Own w' W.heap.size v (enc bb.toNat) ∧ Below W.heap.size W w') := fun W => l1Number_any bb W hb0 (by omega)
                have RES : Hid (T = numL ns ++ textsOf mo ++ enc bb.toNat) := by
                  unfold Hid
                  rw [HT.out, shwB_yes HPB.out HALL.out HTE.out hin, num_yes hin, ← HNS.out]
                have HLT : Hid ((numL ns).length + (textsOf mo).length ≤ 1000000000) := by unfold Hid; have h1 := HLN.out; have h2 := textsOf_len mo; omega
                have HLU : Hid ((numL ns ++ textsOf mo).length + (enc bb.toNat).length ≤ 1000000000) := by unfold Hid; have h1 := HLN.out; have h2 := textsOf_len mo; have h3 := enc_len9 bb.toNat (by omega); rw [List.length_append]; omega
                clear hin hb0 hb1
                go_wp2_with fail
                refine (l1In_num bb 0 1099511627776 _).mono ?_
                rintro e w5 ⟨rfl, rfl⟩
                rw [HD.out]
                clear HD p7
                have HB5 : Hid (Below w2.heap.size w2 w5) := HW3
                have HOD : Hid (Own w5.drew w2.heap.size (.slice oa on oc) (numL ns)) := HO3
                have HTD : Hid (Rd w5.drew (.slice ta tn tc) (textsOf mo) ∧ NilOk (.slice ta tn tc)) := HT3
                have HC7 : Hid (∀ V, Below w2.heap.size w2 V → V.cell? ⟨w.heap.size, 7, none⟩ = some (.int .i64 bb)) := fun V hb => (HX.out.below hb).c8.2.2.2.2.2.2.2
                go_wp2_with fail
                refine wp_region_noPanic ?_
                refine wp_region_held_drew (S := fun w' => w'.cell? ⟨w.heap.size, 7, none⟩ = some (.int .i64 bb)) (by kernel_rfl) (HC7.out _ HB5.out.drew) (fun j0 => ?_)
                refine tkG 0 94 j0 ?_
                try simp only [Act.put, List.setIfInBounds_toArray, List.set_cons_zero, List.set_cons_succ]
                refine tkG 1 95 j0 ?_
                try simp only [Act.put, List.setIfInBounds_toArray, List.set_cons_zero, List.set_cons_succ]
                refine tkG 3 97 j0 ?_
                try simp only [Act.put, List.setIfInBounds_toArray, List.set_cons_zero, List.set_cons_succ]
                refine tkG 4 98 j0 ?_
                try simp only [Act.put, List.setIfInBounds_toArray, List.set_cons_zero, List.set_cons_succ]
                refine wpAnyH_ready (rs := [2]) (by kernel_rfl) (by simp) ?_
                refine AllReadyH.cons rfl (fun K hK => ?_) AllReadyH.nil
                refine step_append_byts rfl 96 rfl _ _ rfl w2.heap.size (.slice oa on oc) (.slice ta tn tc) _ (textsOf mo) rfl rfl HOD.out HTD.out.1 HTD.out.2 HLT.out HB5.out.drew.size ?_
                intro u6 w6 ho6 hg6
                have HB6 : Hid (Below w2.heap.size w2 w6) := HB5.out.drew.grown hg6 HB5.out.drew.size (fun q hq => (World.ownsRow.lt HOD.out q hq).1)
                obtain ⟨xa, xc, hu6⟩ := ownSlX ho6
                have HO6 : Hid (Own w6 w2.heap.size u6 (numL ns ++ textsOf mo)) := ho6
                clear ho6 hg6
                generalize (numL ns ++ textsOf mo).length = xn at hu6
                subst hu6
                refine hK.out _ _ (HC7.out _ HB6.out) (fun j1 => ?_)
                clear hK K
                try simp only [Act.put, List.setIfInBounds_toArray, List.set_cons_zero, List.set_cons_succ]
                clear j0
                refine wpAnyH_ready (rs := [5]) (by kernel_rfl) (by simp) ?_
                refine AllReadyH.cons rfl (fun K hK => ?_) AllReadyH.nil
                go_simp
                refine (HNB.out _).mono ?_
                rintro e w7 ⟨v7, rfl, ho7, hb7⟩
                have HB7 : Hid (Below w2.heap.size w2 w7) := HB6.out.trans (hb7.mono HB6.out.size)
                have HO7 : Hid (Own w7 w2.heap.size (.slice xa xn xc) (numL ns ++ textsOf mo)) := Own.below HO6.out hb7
                obtain ⟨ya, yc, hv7⟩ := ownSlX ho7
                have HY7 : Hid (Rd w7 v7 (enc bb.toNat) ∧ NilOk v7) := ⟨ho7.rd, own_nil ho7⟩
                clear ho7 hb7
                generalize (enc bb.toNat).length = yn at hv7
                subst hv7
                refine hK.out _ _ (HC7.out _ HB7.out) (fun j2 => ?_)
                clear hK K
                try simp only [Act.put, List.setIfInBounds_toArray, List.set_cons_zero, List.set_cons_succ]
                clear j1
                refine wpAnyH_ready (rs := [6]) (by kernel_rfl) (by simp) ?_
                refine AllReadyH.cons rfl (fun K hK => ?_) AllReadyH.nil
                refine step_append_byts rfl 100 rfl _ _ rfl w2.heap.size (.slice xa xn xc) (.slice ya yn yc) _ (enc bb.toNat) rfl rfl HO7.out HY7.out.1 HY7.out.2 HLU.out HB7.out.size ?_
                intro u8 w8 ho8 hg8
                have HB8 : Hid (Below w2.heap.size w2 w8) := HB7.out.grown hg8 HB7.out.size (fun q hq => (World.ownsRow.lt HO7.out q hq).1)
                obtain ⟨zz, hzz⟩ : ∃ zz, zz = numL ns ++ textsOf mo ++ enc bb.toNat := ⟨_, rfl⟩
                have HZZ : Hid (zz = numL ns ++ textsOf mo ++ enc bb.toNat) := hzz
                have HCV : Hid ((convert 22 9 u8).run Tryz.prog w8 = .ok (.string ⟨zz.toArray⟩) w8) := by unfold Hid; rw [hzz]; exact conv_own ho8
                clear hzz
                clear ho8 hg8
                refine hK.out _ _ (HC7.out _ HB8.out) (fun j3 => ?_)
                clear hK K
                try simp only [Act.put, List.setIfInBounds_toArray, List.set_cons_zero, List.set_cons_succ]
                clear j2
                refine wpAnyH_ready (rs := [7]) (by kernel_rfl) (by simp) ?_
                refine AllReadyH.cons rfl (fun K hK => ?_) AllReadyH.nil
                refine step_valX rfl 101 rfl (.string ⟨zz.toArray⟩) (by go_simp; rw [HCV.out]; rfl) ?_
                refine hK.out _ _ (HC7.out _ HB8.out) (fun j4 => ?_)
                clear hK K
                try simp only [Act.put, List.setIfInBounds_toArray, List.set_cons_zero, List.set_cons_succ]
                clear j3
                refine tkG 8 2 j4 ?_
                try simp only [Act.put, List.setIfInBounds_toArray, List.set_cons_zero, List.set_cons_succ]
                refine wpAnyH_done (by kernel_rfl) ?_ _
                refine NoPanic.normal ?_
                go_wp2
                go_ret
                exact ⟨ret_str (by rw [RES.out, HZZ.out]), HB0.out.trans (HB8.out.mono HB0.out.size)⟩
end Go.Proofs.YtilhaokiohbeeaaGreatDoor
namespace Go.Proofs.YtilhaokiohbeeaaGreatDoor
def nI (l : List Int) (i : Nat) : Int := l.getD i 0
theorem nI_eq {l : List Int} {i : Nat} (h : i < l.length) : nI l i = l[i] := by simp [nI, h]
/-- The vote of a proof's server number i. -/
def vAt (p : Prf) (i : Nat) : Vot := ⟨p.vw, p.nm, nI p.sv i, nI p.tg i⟩
/-- Is it the first one? -/
def frsB (p : Prf) : Bool := decide (p.vw = 0) && (decide (p.nm = 0) && (decide (p.sv.length = 0) && decide (p.tg.length = 0)))
def votesL (p : Prf) : List Vot := (List.range p.sv.length).map (vAt p)
/-- The votes that a proof is made of: none where there are not as many tags, or more than 7. -/
def votesR (p : Prf) : List Vot := if p.sv.length = p.tg.length ∧ p.sv.length ≤ 7 then votesL p else []
theorem votesL_mem (p : Prf) (x : Vot) : x ∈ votesL p ↔ ∃ i, i < p.sv.length ∧ vAt p i = x := by
  unfold votesL
  simp only [List.mem_map, List.mem_range]
theorem votesL_hd {p : Prf} (h : 0 < p.sv.length) : nthVo (votesL p) 0 = vAt p 0 := by
  unfold votesL
  rw [nthVo_eq (by rw [List.length_map, List.length_range]; exact h)]
  simp
theorem votesL_len (p : Prf) : (votesL p).length = p.sv.length := by unfold votesL; simp
end Go.Proofs.YtilhaokiohbeeaaGreatDoor
