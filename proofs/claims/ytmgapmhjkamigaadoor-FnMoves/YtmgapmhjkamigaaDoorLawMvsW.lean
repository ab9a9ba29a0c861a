/- The walk of FnMoves: a move is read from what it is shown as, and a list of moves is done as its parts. -/
-- UNF Gen
import Derived.Test.YtmgapmhjkamigaaDoorMovLike
import Derived.Deep.RegionWith
import Derived.Deep.DeepCutAuto
namespace Go.Proofs.YtmgapmhjkamigaaDoor
open Go.RowKit
theorem shw_empty {m : Mov} (h : ¬ MovP m) : (shwS m).toList.isEmpty = true := by
  unfold shwS
  rw [if_neg h]
  exact toList_nil rfl
theorem shw_some {m : Mov} (h : MovP m) : (shwS m).toList.isEmpty = false := toList_ne (by have := (shw_size h).1; omega)
theorem wpList_append_intsW {w : World} {ops : Array Oper} {rest : List Oper} {o : Oper} {a : Act} {Q : Exit → Act → World → Prop} (hw : Region.wanted o (yielded ops a.tmps) = true) (s x : Operand)
    (ho : o.op = .call { callee := .builtin .append, args := #[s, x], argTypes := #[24, 24] }) (base : Nat) (v u : Value) (ys zs : List Int) (hs : a.eval s = v) (hx : a.eval x = u) (hown : OwnI w base v ys) (hr : RdI w u zs) (hl : ys.length + zs.length ≤ 1000000000) (hbase : base ≤ w.heap.size)
    (h : ∀ v' w', OwnI w' base v' (ys ++ zs) → w.grownBy w' v.ownBlock → wpList Tryd.prog ops Q rest (a.put o.dst v') w') : wpList Tryd.prog ops Q (o :: rest) a w := by
  refine wpList_step fun K hK => ?_
  rw [if_pos hw]
  obtain ⟨v', w', hrun, r1, r2⟩ := run_append_ints o.type hown hr hl hbase
  unfold Oper.wp
  simp [execOp, ho, resolve, invoke, builtin, hs, hx, hrun, Result.andThen]
  exact hK _ _ (h v' w' r1 r2)
theorem allRL_len (ms cs : List Int) (rs : List (Mov × Bool)) : (allR ms cs rs).cod.length ≤ rs.length := by
  unfold allR
  split
  · have h := nthA_len ⟨ms, cs, []⟩ rs rs.length (Nat.le_refl _)
    rw [nthA_all] at h
    simp only [List.length_nil, Nat.zero_add] at h
    omega
  · exact Nat.zero_le _
theorem rdS_drop {w : World} {b cap : Nat} {ss : List ByteArray} (h : RdS w (.slice (some ⟨b, 0, none⟩) ss.length cap) ss) (k : Nat) (hk : k ≤ ss.length) : RdS w (.slice (if cap = k then some ⟨b, 0, none⟩ else some ⟨b, k, none⟩) (ss.length - k) (cap - k)) (ss.drop k) := by
  obtain ⟨a', c', e, h1, h2, h3⟩ := h
  injection e with e1 e2 e3
  subst e1
  subst e3
  refine ⟨_, _, by rw [List.length_drop], by rw [List.length_drop]; omega, by omega, ?_⟩
  by_cases he : ss.drop k = []
  · exact .inl he
  · have hlt : k < ss.length := by
      rcases Nat.lt_or_ge k ss.length with h | h
      · exact h
      · exact absurd (List.drop_eq_nil_of_le h) he
    rcases h3 with h3 | ⟨b', off, hb, hc⟩
    · rw [h3] at hlt; simp at hlt
    · simp only [Option.some.injEq, Addr.mk.injEq, and_true] at hb
      obtain ⟨rfl, rfl⟩ := hb
      refine .inr ⟨b, k, if_neg (by omega), fun i hi => ?_⟩
      rw [List.length_drop] at hi
      rw [List.getElem_drop]
      have h5 := hc (k + i) (by omega)
      rw [Nat.zero_add] at h5
      exact h5
set_option maxHeartbeats 16000000 in
set_option maxRecDepth 100000 in
theorem lawMoves (v : Value) (bs : List UInt8) (w : World) (hr : Rd w v bs) (he : MEnv w) :
    Calls Tryd.prog 4 #[v] w fun e w' => e = .returned (.bool true) ∧ Below w.heap.size w w' := by
  have HE : Hid (MEnv w) := he
  obtain ⟨va, vc, hv, -⟩ := id hr
  subst hv
  have HRD : Hid (Rd w (.slice va bs.length vc) bs) := hr
  clear hr he
  go_enter Tryd.func4, Tryd.ntmps4
  go_wp2_with fail
  refine (bigM_any _ bs _ HRD.out).mono ?_
  rintro e w1 ⟨rfl, hw1⟩
  obtain rfl := hw1.symm
  by_cases hbig : 4096 < bs.length
  · have hd : decide (4096 < (bs.length : Int)) = true := by simp; omega
    rw [hd]
    go_wp2
    go_ret
    exact ⟨rfl, Below.refl _ _⟩
  have hd : decide (4096 < (bs.length : Int)) = false := by simp; omega
  rw [hd]
  have HB : Hid (bs.length ≤ 4096) := by unfold Hid; omega
  clear hd hbig
  go_wp2_with fail
  refine (drawShowMove_any _ bs _ HRD.out HB.out).mono ?_
  rintro e w2 ⟨m, rfl, bel⟩
  have hb := below1 w2 (.cells #[.int .i64 m.fr, .int .i64 m.to', .int .i64 m.sum, .int .i64 m.cou] 28)
  have bm := box4_new w2 28 m
  replace bel := bel.trans (hb.mono bel.size)
  clear hb
  obtain ⟨p0, p1, p2, p3⟩ := bm.facts
  have HSI : Hid (∀ W, MEnv W → Calls Tryd.prog 24 #[.agg #[.int .i64 m.fr, .int .i64 m.to', .int .i64 m.sum, .int .i64 m.cou]] W fun e w' => e = .returned (.string (shwS m)) ∧ Below W.heap.size W w') := fun W h => implShowMove_any m W h.tab
  have HSS : Hid (∀ W, Calls Tryd.prog 28 #[.agg #[.int .i64 m.fr, .int .i64 m.to', .int .i64 m.sum, .int .i64 m.cou]] W fun e w' => e = .returned (.string (shwS m)) ∧ Below W.heap.size W w') := fun W => specShowMove_any m W
  have HMO : Hid (∀ W, Calls Tryd.prog 15 #[.agg #[.int .i64 m.fr, .int .i64 m.to', .int .i64 m.sum, .int .i64 m.cou]] W fun e w' => e = .returned (.bool (movOk m)) ∧ Below W.heap.size W w') := fun W => implMoveOk_any m W
  obtain ⟨S, hS0⟩ : ∃ S, S = shwS m := ⟨_, rfl⟩
  have HS0 : Hid (S = shwS m) := hS0
  rw [← hS0] at HSI HSS
  clear hS0
  go_wp2_with fail
  generalize w2.alloc (.cells #[.int .i64 m.fr, .int .i64 m.to', .int .i64 m.sum, .int .i64 m.cou] 28) = W2 at bm bel p0 p1 p2 p3 ⊢
  generalize w2.heap.size = b3 at bm p0 p1 p2 p3 ⊢
  refine (HSI.out _ (HE.out.on bel)).mono ?_
  rintro e w3 ⟨rfl, hb⟩
  replace bm := bm.below hb
  replace bel := bel.trans (hb.mono bel.size)
  clear hb p0 p1 p2 p3 HSI
  go_wp2_with fail
  refine (drawReadMove_any _ bs _ (HRD.out.below bel) HB.out).mono ?_
  rintro e w4 ⟨t, rfl, ht, hb⟩
  replace bm := bm.below hb
  replace bel := bel.trans (hb.mono bel.size)
  clear hb
  obtain ⟨R, o, hR⟩ := rmr_ex t
  have HRT : Hid (RMR t R o) := hR
  have HT : Hid (t.size ≤ 90) := ht
  clear hR ht
  go_wp2_with fail
  refine (implReadMove_any t R o _ (by have := HT.out; omega) HRT.out (HE.out.on bel)).mono ?_
  rintro e w5 ⟨rfl, hb⟩
  replace bm := bm.below hb
  replace bel := bel.trans (hb.mono bel.size)
  clear hb
  have hb := below1 w5 (.cells #[.int .i64 R.fr, .int .i64 R.to', .int .i64 R.sum, .int .i64 R.cou] 28)
  have bx := box4_new w5 28 R
  replace bm := bm.below hb
  replace bel := bel.trans (hb.mono bel.size)
  clear hb
  go_wp2_with fail
  generalize w5.alloc (.cells #[.int .i64 R.fr, .int .i64 R.to', .int .i64 R.sum, .int .i64 R.cou] 28) = W5 at bm bx bel ⊢
  generalize w5.heap.size = b6 at bx ⊢
  refine (specReadMove_any t R o _ (by have := HT.out; omega) HRT.out).mono ?_
  rintro e w6 ⟨rfl, hb⟩
  replace bm := bm.below hb
  replace bx := bx.below hb
  replace bel := bel.trans (hb.mono bel.size)
  clear hb
  have hb := below1 w6 (.cells #[.int .i64 R.fr, .int .i64 R.to', .int .i64 R.sum, .int .i64 R.cou] 28)
  have by' := box4_new w6 28 R
  replace bm := bm.below hb
  replace bx := bx.below hb
  replace bel := bel.trans (hb.mono bel.size)
  clear hb
  have hoo : (o != o) = false := by cases o <;> rfl
  have HSR : Hid (o = true → ∀ W, MEnv W → Calls Tryd.prog 24 #[.agg #[.int .i64 R.fr, .int .i64 R.to', .int .i64 R.sum, .int .i64 R.cou]] W fun e w' => e = .returned (.string t) ∧ Below W.heap.size W w') := fun h W hW => by
    rcases HRT.out with ⟨_, _, h2⟩ | ⟨h1, _⟩
    · have := implShowMove_any R W hW.tab
      rw [h2] at this
      exact this
    · rw [h] at h1; cases h1
  go_upto_region 8 with fail
  generalize w6.alloc (.cells #[.int .i64 R.fr, .int .i64 R.to', .int .i64 R.sum, .int .i64 R.cou] 28) = W6 at bm bx by' bel ⊢
  generalize w6.heap.size = b8 at by' ⊢
  go_cut [61] (fun t61 W => t61 = .bool false ∧ Box4 W b3 28 m ∧ Below w.heap.size w W)
  case first =>
    obtain ⟨x0, x1, x2, x3⟩ := bx.facts
    obtain ⟨y0, y1, y2, y3⟩ := by'.facts
    obtain ⟨p0, p1, p2, p3⟩ := bm.facts
    go_wp2_with fail
    refine (HSS.out _).mono ?_
    rintro e w7 ⟨rfl, hb⟩
    replace bm := bm.below hb
    replace bx := bx.below hb
    replace bel := bel.trans (hb.mono bel.size)
    clear hb p0 p1 p2 p3 x0 x1 x2 x3 y0 y1 y2 y3 by'
    obtain ⟨x0, x1, x2, x3⟩ := bx.facts
    cases o with
    | false =>
      go_wp2
      go_meet
      case rel => exact ⟨rfl, bm, bel⟩
    | true =>
      go_wp2_with fail
      refine (HSR.out trivial _ (HE.out.on bel)).mono ?_
      rintro e w8 ⟨rfl, hb⟩
      replace bm := bm.below hb
      replace bel := bel.trans (hb.mono bel.size)
      clear hb bx x0 x1 x2 x3
      go_wp2
      go_meet
      case rel => exact ⟨rfl, bm, bel⟩
  case rest =>
    clear bm bx by' bel hoo HSR HRT HT
    obtain ⟨rfl, bm, bel⟩ := hcut
    go_upto_if 63 with fail
    go_cut [] (fun W => Box4 W b3 28 m ∧ Below w.heap.size w W)
    case first =>
      by_cases hm : MovP m
      · have hS1 : (!S.toList.isEmpty) = true := by rw [HS0.out, shw_some hm]; rfl
        have HRS : Hid (RMR S m true) := .inl ⟨rfl, hm, HS0.out.symm⟩
        have HSL : Hid (S.size ≤ 87) := by unfold Hid; rw [HS0.out]; exact shwS_size m
        clear hm
        go_wp2_with fail
        rotate_left 1
        · rename_i h9
          rw [hS1] at h9
          exact absurd h9 (by decide)
        refine (implReadMove_any S m true _ (by have := HSL.out; omega) HRS.out (HE.out.on bel)).mono ?_
        rintro e w8 ⟨rfl, hb⟩
        replace bm := bm.below hb
        replace bel := bel.trans (hb.mono bel.size)
        have hb2 := below1 w8 (.cells #[.int .i64 m.fr, .int .i64 m.to', .int .i64 m.sum, .int .i64 m.cou] 28)
        have bn := box4_new w8 28 m
        have hbl := bm.lt
        have bm0 := bm
        replace bm := bm.below hb2
        replace bel := bel.trans (hb2.mono bel.size)
        obtain ⟨x0, x1, x2, x3⟩ := bn.facts
        obtain ⟨p0, p1, p2, p3⟩ := bm.facts
        obtain ⟨r0, r1, r2, r3⟩ := bm0.facts
        clear hb hb2 bn bm0
        go_wp2
        go_meet
        case rel => exact ⟨bm, bel⟩
      · have hS1 : (!S.toList.isEmpty) = false := by rw [HS0.out, shw_empty hm]; rfl
        clear hm
        go_wp2_with fail
        · exfalso
          have h9 : (!S.toList.isEmpty) = true := by assumption
          rw [hS1] at h9
          exact absurd h9 (by decide)
        go_meet
        case rel => exact ⟨bm, bel⟩
    case rest =>
      clear bm bel
      obtain ⟨bm, bel⟩ := hcut
      have HFIN : Hid ((!S.toList.isEmpty) = movOk m) := by
        unfold Hid
        by_cases hm : MovP m
        · rw [HS0.out, shw_some hm, movOk_iff.2 hm]; rfl
        · have h1 : movOk m = false := by
            cases h : movOk m with
            | false => rfl
            | true => exact absurd (movOk_iff.1 h) hm
          rw [HS0.out, shw_empty hm, h1]; rfl
      clear HS0 HSS
      go_wp2_with fail
      refine (drawMovedAll_any _ bs _ (HRD.out.below bel) HB.out).mono ?_
      rintro e w9 ⟨Y, q, c, ss, rfl, ry, hy1, hy2, rl, hl5, hsz, hb⟩
      replace bm := bm.below hb
      replace bel := bel.trans (hb.mono bel.size)
      obtain ⟨yvm, yvc, ymon, ycnt⟩ := Y
      obtain ⟨pa, pc, e1, -, -⟩ := rdI_slice ry.mon
      obtain ⟨qa, qc, e2, -, -⟩ := rdI_slice ry.cnt
      simp only at e1 e2 hy1 hy2
      have HY : Hid (ymon.length + ycnt.length ≤ 1048576) := by unfold Hid; omega
      generalize ymon.length = yml at e1
      generalize ycnt.length = ycl at e2
      subst e1
      subst e2
      clear hb hy1 hy2
      have hb := below1 w9 (.cells #[.slice pa yml pc, .slice qa ycl qc] 26)
      have bY := boxBk_new w9 (.slice pa yml pc) (.slice qa ycl qc)
      replace bm := bm.below hb
      replace ry := ry.below hb
      replace rl := rl.below hb
      replace bel := bel.trans (hb.mono bel.size)
      clear hb
      obtain ⟨c0, c1, -, -⟩ := bY.facts
      go_wp2_with fail
      generalize w9.alloc (.cells #[.slice pa yml pc, .slice qa ycl qc] 26) = W9 at bm ry rl bel bY c0 c1 ⊢
      generalize w9.heap.size = b12 at bY c0 c1 ⊢
      refine (specBankOk_any ⟨.slice pa yml pc, .slice qa ycl qc, ymon, ycnt⟩ _ ry).mono ?_
      simp only
      rintro e w10 ⟨rfl, hb⟩
      replace bm := bm.below hb
      replace ry := ry.below hb
      replace rl := rl.below hb
      replace bY := bY.below hb
      replace bel := bel.trans (hb.mono bel.size)
      clear hb c0 c1
      obtain ⟨p0, p1, p2, p3⟩ := bm.facts
      cases hok : bankOk ymon ycnt with
      | false =>
        clear ry rl bY hok
        go_wp2_with fail
        refine (HMO.out _).mono ?_
        rw [← HFIN.out]
        rintro e w11 ⟨rfl, hb⟩
        replace bel := bel.trans (hb.mono bel.size)
        clear hb p0 p1 p2 p3 bm
        have hfin : ((!S.toList.isEmpty) == (!S.toList.isEmpty)) = true := by simp
        go_wp2
        go_ret
        exact ⟨rfl, bel⟩
      | true =>
        have HOK : Hid (BankP ymon ycnt) := bankOk_iff.1 hok
        obtain ⟨rs, hR⟩ := rmAll_ex ss
        have HRS : Hid (RmAll ss rs) := hR
        have HSZ : Hid (∀ k (h : k < ss.length), ss[k].size ≤ 1048576) := fun k h => by have := hsz _ (List.getElem_mem h); omega
        have HL5 : Hid (ss.length ≤ 5) := hl5
        clear hok hR hsz p0 p1 p2 p3
        obtain ⟨a5, c5, e5, hcap, hcm, -⟩ := id rl
        simp only [Value.slice.injEq, true_and] at e5
        obtain ⟨rfl, rfl⟩ := e5
        unfold maxLen at hcm
        have hln1 : -9223372036854775808 ≤ (ss.length : Int) + 1 := by omega
        have hln2 : (ss.length : Int) + 1 ≤ 9223372036854775807 := by omega
        go_wp2_with fail
        refine (pickM_any _ bs ((ss.length : Int) + 1) _ (HRD.out.below bel) HB.out (by omega) (by have := HL5.out; omega)).mono ?_
        rintro e w11 ⟨hw11, x, rfl, hx0, hx1⟩
        obtain rfl := hw11.symm
        obtain ⟨n, rfl⟩ := Int.eq_ofNat_of_zero_le hx0
        have hn : n ≤ ss.length := by omega
        clear hx0 hx1 hln1 hln2
        obtain ⟨c0, c1, -, -⟩ := bY.facts
        go_wp2_with fail
        refine (implMovedAll_any ⟨.slice pa yml pc, .slice qa ycl qc, ymon, ycnt⟩ _ ss rs _ ry rl HSZ.out (by omega) HRS.out HY.out (HE.out.on bel)).mono ?_
        intro e w12 h12
        obtain ⟨aa, an, ac, ad, am, ae, af, ag, ah, rfl, oA, cA, -, hb⟩ := h12.open
        simp only at oA cA
        have rA := oA.rd
        have kA := cA.rd
        clear h12 oA cA c0 c1
        replace bm := bm.below hb
        replace ry := ry.below hb
        replace rl := rl.below hb
        replace bY := bY.below hb
        replace bel := bel.trans (hb.mono bel.size)
        clear hb
        have hb := below1 w12 (.cells #[.slice aa an ac, .slice ad am ae] 26)
        have bA := boxBk_new w12 (.slice aa an ac) (.slice ad am ae)
        replace bm := bm.below hb
        replace ry := ry.below hb
        replace rl := rl.below hb
        replace bY := bY.below hb
        replace rA := rA.below hb
        replace kA := kA.below hb
        replace bel := bel.trans (hb.mono bel.size)
        clear hb
        have hnc : (n : Int) ≤ (c : Int) := by omega
        have hn0 : (0 : Int) ≤ (n : Int) := by omega
        go_upto_region 19 with fail
        generalize w12.alloc (.cells #[.slice aa an ac, .slice ad am ae] 26) = W12 at bm ry rl bY rA kA bA bel ⊢
        generalize w12.heap.size = b15 at bA ⊢
        have rl1 := rdS_take rl n hn
        have HR1 : Hid (RmAll (ss.take n) (rs.take n)) := rmAll_take HRS.out n
        have HL1 : Hid ((ss.take n).length ≤ 1048576) := by have := HL5.out; unfold Hid; rw [List.length_take]; omega
        have HZ1 : Hid (∀ k (h : k < (ss.take n).length), (ss.take n)[k].size ≤ 1048576) := fun k h => by rw [List.getElem_take]; exact HSZ.out k _
        obtain ⟨uR, huR⟩ : ∃ uR, uR = allR ymon ycnt (rs.take n) := ⟨_, rfl⟩
        refine wp_region_noPanic ?_
        refine wp_region_held_drew (S := fun _ => True) (by kernel_rfl) trivial (fun hS => ?_)
        have bD : Below W12.heap.size W12 W12.drew := (Below.refl _ _).drew
        replace bm := bm.below bD
        replace ry := ry.below bD
        replace rl := rl.below bD
        replace bY := bY.below bD
        replace bA := bA.below bD
        replace rA := rA.below bD
        replace kA := kA.below bD
        replace rl1 := rl1.below bD
        replace bel := bel.trans (bD.mono bel.size)
        clear bD
        refine tkG 1 102 hS ?_
        try simp only [Act.put, List.setIfInBounds_toArray, List.set_cons_zero, List.set_cons_succ]
        refine tkG 2 103 hS ?_
        try simp only [Act.put, List.setIfInBounds_toArray, List.set_cons_zero, List.set_cons_succ]
        refine tkG 3 104 hS ?_
        try simp only [Act.put, List.setIfInBounds_toArray, List.set_cons_zero, List.set_cons_succ]
        generalize W12.drew = VB at bel bm ry rl bY bA rA kA rl1 ⊢
        obtain ⟨V, bV, hVe⟩ : ∃ V, Below VB.heap.size VB V ∧ V = VB := ⟨VB, Below.refl _ _, rfl⟩
        rw [← hVe]
        clear hVe
        refine wpAnyH_ready (rs := [0, 8]) (by kernel_rfl) (by simp) ?_
        refine AllReadyH.cons rfl (fun K hK => ?_) ?_
        obtain ⟨c0, c1, -, -⟩ := (bY.below bV).facts
        go_simp
        clear c0 c1 hS
        refine hK.out _ _ trivial (fun hS => ?_)
        clear hK K
        try simp only [List.setIfInBounds_toArray, List.set_cons_zero]
        clear hS
        refine listed_asK (l' := #[true, true, true, true, false, false, false, false, false, false, false]) (by kernel_rfl) ?_
        revert bV
        revert V
        refine ?ea0
        rotate_left 1
        refine AllReadyH.cons rfl (fun K hK => ?_) AllReadyH.nil
        refine step_bank rfl 17 rfl (by go_simp; (try rfl)) ?_
        have hbx := boxBk_new V (.slice none 0 0) (.slice none 0 0)
        have hob : VB.heap.size ≤ V.heap.size := bV.size
        have bb := below1 V (.cells #[.slice none 0 0, .slice none 0 0] 26)
        replace bV := bV.trans (bb.mono bV.size)
        clear bb hS
        refine hK.out _ _ trivial (fun hS => ?_)
        clear hK K
        try simp only [List.setIfInBounds_toArray, List.set_cons_zero, List.set_cons_succ]
        revert hS
        revert bV
        revert hbx
        revert hob
        generalize V.alloc (.cells #[.slice none 0 0, .slice none 0 0] 26) = V1
        generalize V.heap.size = b17
        intro hob hbx bV hS
        clear hS
        refine listed_asK (l' := #[false, true, true, true, false, false, false, false, true, false, false]) (by kernel_rfl) ?_
        revert hob
        revert hbx
        revert bV
        revert b17
        revert V1
        clear V
        refine ?ea8
        rotate_left 1
        intro V0 bV
        have hS : (fun _ : World => True) V0 := trivial
        refine wpAnyH_ready (rs := [4, 8]) (by kernel_rfl) (by simp) ?_
        refine AllReadyH.cons rfl (fun K hK => ?_) ?_
        go_simp
        refine (implMovedAll_any ⟨.slice pa yml pc, .slice qa ycl qc, ymon, ycnt⟩ _ (ss.take n) (rs.take n) _ (ry.below bV) (rl1.below bV) (HZ1.out) (HL1.out) (HR1.out) (HY.out) (HE.out.on (bel.trans (bV.mono bel.size)))).mono ?_
        intro e V1 h2
        obtain ⟨ua, un, uc, ud, um, ue, uf, ug, uh, rfl, oZ, cZ, -, hb⟩ := h2.open
        rw [← huR] at oZ cZ
        replace bV := bV.trans (hb.mono bV.size)
        replace oZ := OwnBk.mono oZ (Nat.zero_le _)
        replace cZ := OwnI.mono cZ (Nat.zero_le _)
        clear h2 hb hS
        refine hK.out _ _ trivial (fun hS => ?_)
        clear hK K
        try simp only [List.setIfInBounds_toArray, List.set_cons_zero, List.set_cons_succ]
        refine tkG 5 100 hS ?_
        try simp only [Act.put, List.setIfInBounds_toArray, List.set_cons_zero, List.set_cons_succ]
        refine tkG 6 106 hS ?_
        try simp only [Act.put, List.setIfInBounds_toArray, List.set_cons_zero, List.set_cons_succ]
        refine tkG 7 107 hS ?_
        try simp only [Act.put, List.setIfInBounds_toArray, List.set_cons_zero, List.set_cons_succ]
        clear hS
        refine listed_asK (l' := #[true, true, true, true, true, true, true, true, false, false, false]) (by kernel_rfl) ?_
        revert cZ
        revert oZ
        revert bV
        revert uh
        revert ug
        revert uf
        revert ue
        revert um
        revert ud
        revert uc
        revert un
        revert ua
        revert V1
        clear V0
        refine ?ea04
        rotate_left 1
        refine AllReadyH.cons rfl (fun K hK => ?_) AllReadyH.nil
        refine step_bank rfl 17 rfl (by go_simp; (try rfl)) ?_
        have hbx := boxBk_new V0 (.slice none 0 0) (.slice none 0 0)
        have hob : VB.heap.size ≤ V0.heap.size := bV.size
        have bb := below1 V0 (.cells #[.slice none 0 0, .slice none 0 0] 26)
        replace bV := bV.trans (bb.mono bV.size)
        clear bb hS
        refine hK.out _ _ trivial (fun hS => ?_)
        clear hK K
        try simp only [List.setIfInBounds_toArray, List.set_cons_zero, List.set_cons_succ]
        revert hS
        revert bV
        revert hbx
        revert hob
        generalize V0.alloc (.cells #[.slice none 0 0, .slice none 0 0] 26) = V1
        generalize V0.heap.size = b17
        intro hob hbx bV hS
        clear hS
        refine listed_asK (l' := #[true, true, true, true, false, false, false, false, true, false, false]) (by kernel_rfl) ?_
        revert hob
        revert hbx
        revert bV
        revert b17
        revert V1
        clear V0
        refine ?ea08
        rotate_left 1
        intro V0 b17 bV hbx hob
        have hS : (fun _ : World => True) V0 := trivial
        refine wpAnyH_ready (rs := [0]) (by kernel_rfl) (by simp) ?_
        refine AllReadyH.cons rfl (fun K hK => ?_) AllReadyH.nil
        obtain ⟨c0, c1, -, -⟩ := (bY.below bV).facts
        go_simp
        clear c0 c1 hS
        refine hK.out _ _ trivial (fun hS => ?_)
        clear hK K
        try simp only [List.setIfInBounds_toArray, List.set_cons_zero]
        clear hS
        refine listed_asK (l' := #[true, true, true, true, false, false, false, false, true, false, false]) (by kernel_rfl) ?_
        revert hob
        revert hbx
        revert bV
        revert b17
        revert V0
        exact ?ea08
        intro V0 ua un uc ud um ue uf ug uh bV oZ cZ
        have hS : (fun _ : World => True) V0 := trivial
        refine wpAnyH_ready (rs := [8]) (by kernel_rfl) (by simp) ?_
        refine AllReadyH.cons rfl (fun K hK => ?_) AllReadyH.nil
        refine step_bank rfl 17 rfl (by go_simp; (try rfl)) ?_
        have hbx := boxBk_new V0 (.slice none 0 0) (.slice none 0 0)
        have hob : VB.heap.size ≤ V0.heap.size := bV.size
        have bb := below1 V0 (.cells #[.slice none 0 0, .slice none 0 0] 26)
        replace bV := bV.trans (bb.mono bV.size)
        replace oZ := oZ.below bb
        replace cZ := cZ.below bb
        clear bb hS
        refine hK.out _ _ trivial (fun hS => ?_)
        clear hK K
        try simp only [List.setIfInBounds_toArray, List.set_cons_zero, List.set_cons_succ]
        revert hS
        revert bV
        revert hbx
        revert hob
        revert oZ
        revert cZ
        generalize V0.alloc (.cells #[.slice none 0 0, .slice none 0 0] 26) = V1
        generalize V0.heap.size = b17
        intro cZ oZ hob hbx bV hS
        clear hS
        refine listed_asK (l' := #[true, true, true, true, true, true, true, true, true, false, false]) (by kernel_rfl) ?_
        revert hob
        revert hbx
        revert cZ
        revert oZ
        revert bV
        revert b17
        revert uh
        revert ug
        revert uf
        revert ue
        revert um
        revert ud
        revert uc
        revert un
        revert ua
        revert V1
        clear V0
        refine ?ea048
        rotate_left 1
        intro V0 b17 bV hbx hob
        have hS : (fun _ : World => True) V0 := trivial
        refine wpAnyH_ready (rs := [4]) (by kernel_rfl) (by simp) ?_
        refine AllReadyH.cons rfl (fun K hK => ?_) AllReadyH.nil
        go_simp
        refine (implMovedAll_any ⟨.slice pa yml pc, .slice qa ycl qc, ymon, ycnt⟩ _ (ss.take n) (rs.take n) _ (ry.below bV) (rl1.below bV) (HZ1.out) (HL1.out) (HR1.out) (HY.out) (HE.out.on (bel.trans (bV.mono bel.size)))).mono ?_
        intro e V1 h2
        obtain ⟨ua, un, uc, ud, um, ue, uf, ug, uh, rfl, oZ, cZ, -, hb⟩ := h2.open
        rw [← huR] at oZ cZ
        replace bV := bV.trans (hb.mono bV.size)
        replace hbx := hbx.below hb
        replace oZ := OwnBk.mono oZ (Nat.zero_le _)
        replace cZ := OwnI.mono cZ (Nat.zero_le _)
        clear h2 hb hS
        refine hK.out _ _ trivial (fun hS => ?_)
        clear hK K
        try simp only [List.setIfInBounds_toArray, List.set_cons_zero, List.set_cons_succ]
        refine tkG 5 100 hS ?_
        try simp only [Act.put, List.setIfInBounds_toArray, List.set_cons_zero, List.set_cons_succ]
        refine tkG 6 106 hS ?_
        try simp only [Act.put, List.setIfInBounds_toArray, List.set_cons_zero, List.set_cons_succ]
        refine tkG 7 107 hS ?_
        try simp only [Act.put, List.setIfInBounds_toArray, List.set_cons_zero, List.set_cons_succ]
        clear hS
        refine listed_asK (l' := #[true, true, true, true, true, true, true, true, true, false, false]) (by kernel_rfl) ?_
        revert hob
        revert hbx
        revert cZ
        revert oZ
        revert bV
        revert b17
        revert uh
        revert ug
        revert uf
        revert ue
        revert um
        revert ud
        revert uc
        revert un
        revert ua
        revert V1
        clear V0
        exact ?ea048
        intro V0 ua un uc ud um ue uf ug uh b17 bV oZ cZ hbx hob
        have hS : (fun _ : World => True) V0 := trivial
        refine wpAnyH_ready (rs := [9]) (by kernel_rfl) (by simp) ?_
        refine AllReadyH.cons rfl (fun K hK => ?_) AllReadyH.nil
        obtain ⟨c0, c1, c2, c3⟩ := hbx.facts
        go_simp
        have hto : Touch [b17] V0 ((V0.setCell ⟨b17, 0, none⟩ (.slice ua un uc)).setCell ⟨b17, 1, none⟩ (.slice ud um ue)) := (Touch.set (by simp)).trans (Touch.set (by simp))
        replace oZ := oZ.touch hto (fun k hk e => by rw [List.mem_singleton.1 e] at hk; exact hbx.out oZ hk)
        replace cZ : OwnI _ 0 (.slice uf ug uh) uR.cod := hto.row cZ (fun k hk e => boxBk_row hbx cZ (by decide) k hk (List.mem_singleton.1 e).symm)
        replace bV := (bV.setCell (p := ⟨b17, 0, none⟩) hob (.slice ua un uc)).setCell (p := ⟨b17, 1, none⟩) hob (.slice ud um ue)
        replace hbx := (hbx.set0 (u := .slice ua un uc)).set1 (u := .slice ud um ue)
        clear c0 c1 c2 c3 hS hto
        refine hK.out _ _ trivial (fun hS => ?_)
        clear hK K
        try simp only [List.setIfInBounds_toArray, List.set_cons_zero, List.set_cons_succ]
        revert hS
        revert bV
        revert hbx
        revert oZ
        revert cZ
        generalize (V0.setCell ⟨b17, 0, none⟩ (.slice ua un uc)).setCell ⟨b17, 1, none⟩ (.slice ud um ue) = V1
        intro cZ oZ hbx bV hS
        refine tkG 10 18 hS ?_
        try simp only [Act.put, List.setIfInBounds_toArray, List.set_cons_zero, List.set_cons_succ]
        clear hS
        refine listed_asK (l' := #[true, true, true, true, true, true, true, true, true, true, true]) (by kernel_rfl) ?_
        revert hob
        revert hbx
        revert cZ
        revert oZ
        revert bV
        revert b17
        revert uh
        revert ug
        revert uf
        revert ue
        revert um
        revert ud
        revert uc
        revert un
        revert ua
        revert V1
        clear V0
        refine ?ea0489
        rotate_left 1
        intro V0 ua un uc ud um ue uf ug uh b17 bV oZ cZ hbx hob
        have hS : (fun _ : World => True) V0 := trivial
        refine wpAnyH_done (by kernel_rfl) ?_ _
        refine NoPanic.normal ?_
        clear hS hob
        replace bm := bm.below bV
        replace ry := ry.below bV
        replace rl := rl.below bV
        replace bY := bY.below bV
        replace bA := bA.below bV
        replace rA := rA.below bV
        replace kA := kA.below bV
        replace rl1 := rl1.below bV
        replace bel := bel.trans (bV.mono bel.size)
        have bu := hbx
        have ru := oZ.rd
        have ku := cZ.rd
        clear bV hbx oZ cZ
        have hn1 : (n : Int) ≤ (ss.length : Int) := by omega
        have rl2 := rdS_drop rl n hn
        have HR2 : Hid (RmAll (ss.drop n) (rs.drop n)) := rmAll_drop HRS.out n
        have HL2 : Hid ((ss.drop n).length ≤ 1048576) := by have := HL5.out; unfold Hid; rw [List.length_drop]; omega
        have HZ2 : Hid (∀ k (h : k < (ss.drop n).length), (ss.drop n)[k].size ≤ 1048576) := fun k h => by rw [List.getElem_drop]; exact HSZ.out _ _
        have HUB : Hid (BankP uR.mon uR.cnt) := by unfold Hid; rw [huR]; exact (allR_ok HOK.out HR1.out).1
        have HU : Hid (uR.mon.length + uR.cnt.length ≤ 1048576) := by unfold Hid; rw [HUB.out.1.1, HUB.out.2.1.1]; omega
        obtain ⟨xR, hxR⟩ : ∃ xR, xR = allR uR.mon uR.cnt (rs.drop n) := ⟨_, rfl⟩
        have HPT : Hid (allR ymon ycnt rs = ⟨xR.mon, xR.cnt, uR.cod ++ xR.cod⟩) := by
          have h := allR_parts (r2 := rs.drop n) HOK.out HR1.out
          rw [List.take_append_drop, ← huR, ← hxR] at h
          exact h
        rw [HPT.out] at rA kA
        simp only at rA kA
        have HLU : Hid (uR.cod.length + xR.cod.length ≤ 20) := by
          have h1 := allRL_len ymon ycnt (rs.take n)
          have h2 := allRL_len uR.mon uR.cnt (rs.drop n)
          rw [← huR, List.length_take] at h1
          rw [← hxR, List.length_drop] at h2
          have h3 := HRS.out.1
          have h4 := HL5.out
          unfold Hid
          omega
        go_upto_region 20 with fail
        refine wp_region_noPanic ?_
        refine wp_region_held_drew (S := fun _ => True) (by kernel_rfl) trivial (fun hS => ?_)
        have bD : Below V0.heap.size V0 V0.drew := (Below.refl _ _).drew
        replace bm := bm.below bD
        replace ry := ry.below bD
        replace rl := rl.below bD
        replace bY := bY.below bD
        replace bA := bA.below bD
        replace rA := rA.below bD
        replace kA := kA.below bD
        replace bu := bu.below bD
        replace ru := ru.below bD
        replace ku := ku.below bD
        replace rl2 := rl2.below bD
        replace bel := bel.trans (bD.mono bel.size)
        clear bD
        refine tkG 1 110 hS ?_
        try simp only [Act.put, List.setIfInBounds_toArray, List.set_cons_zero, List.set_cons_succ]
        refine tkG 2 111 hS ?_
        try simp only [Act.put, List.setIfInBounds_toArray, List.set_cons_zero, List.set_cons_succ]
        refine tkG 3 112 hS ?_
        try simp only [Act.put, List.setIfInBounds_toArray, List.set_cons_zero, List.set_cons_succ]
        generalize (if c = n then some (⟨q, 0, none⟩ : Addr) else some ⟨q, n, none⟩) = q2 at rl2 ⊢
        generalize V0.drew = VC at bel bm ry rl bY bA rA kA bu ru ku rl2 ⊢
        obtain ⟨V, bV, hVe⟩ : ∃ V, Below VC.heap.size VC V ∧ V = VC := ⟨VC, Below.refl _ _, rfl⟩
        rw [← hVe]
        clear hVe
        refine wpAnyH_ready (rs := [0, 8]) (by kernel_rfl) (by simp) ?_
        refine AllReadyH.cons rfl (fun K hK => ?_) ?_
        obtain ⟨c0, c1, -, -⟩ := (bu.below bV).facts
        go_simp
        clear c0 c1 hS
        refine hK.out _ _ trivial (fun hS => ?_)
        clear hK K
        try simp only [List.setIfInBounds_toArray, List.set_cons_zero]
        clear hS
        refine listed_asK (l' := #[true, true, true, true, false, false, false, false, false, false, false]) (by kernel_rfl) ?_
        revert bV
        revert V
        refine ?eb0
        rotate_left 1
        refine AllReadyH.cons rfl (fun K hK => ?_) AllReadyH.nil
        refine step_bank rfl 19 rfl (by go_simp; (try rfl)) ?_
        have hbx := boxBk_new V (.slice none 0 0) (.slice none 0 0)
        have hob : VC.heap.size ≤ V.heap.size := bV.size
        have bb := below1 V (.cells #[.slice none 0 0, .slice none 0 0] 26)
        replace bV := bV.trans (bb.mono bV.size)
        clear bb hS
        refine hK.out _ _ trivial (fun hS => ?_)
        clear hK K
        try simp only [List.setIfInBounds_toArray, List.set_cons_zero, List.set_cons_succ]
        revert hS
        revert bV
        revert hbx
        revert hob
        generalize V.alloc (.cells #[.slice none 0 0, .slice none 0 0] 26) = V1
        generalize V.heap.size = b19
        intro hob hbx bV hS
        clear hS
        refine listed_asK (l' := #[false, true, true, true, false, false, false, false, true, false, false]) (by kernel_rfl) ?_
        revert hob
        revert hbx
        revert bV
        revert b19
        revert V1
        clear V
        refine ?eb8
        rotate_left 1
        intro V0 bV
        have hS : (fun _ : World => True) V0 := trivial
        refine wpAnyH_ready (rs := [4, 8]) (by kernel_rfl) (by simp) ?_
        refine AllReadyH.cons rfl (fun K hK => ?_) ?_
        go_simp
        refine (implMovedAll_any ⟨.slice ua un uc, .slice ud um ue, uR.mon, uR.cnt⟩ _ (ss.drop n) (rs.drop n) _ (ru.below bV) (rl2.below bV) (HZ2.out) (HL2.out) (HR2.out) (HU.out) (HE.out.on (bel.trans (bV.mono bel.size)))).mono ?_
        intro e V1 h2
        obtain ⟨xa, xn, xc, xd, xm, xe, xf, xg, xh, rfl, oZ, cZ, -, hb⟩ := h2.open
        rw [← hxR] at oZ cZ
        replace bV := bV.trans (hb.mono bV.size)
        replace oZ := OwnBk.mono oZ (Nat.zero_le _)
        replace cZ := OwnI.mono cZ (Nat.zero_le _)
        clear h2 hb hS
        refine hK.out _ _ trivial (fun hS => ?_)
        clear hK K
        try simp only [List.setIfInBounds_toArray, List.set_cons_zero, List.set_cons_succ]
        refine tkG 5 108 hS ?_
        try simp only [Act.put, List.setIfInBounds_toArray, List.set_cons_zero, List.set_cons_succ]
        refine tkG 6 114 hS ?_
        try simp only [Act.put, List.setIfInBounds_toArray, List.set_cons_zero, List.set_cons_succ]
        refine tkG 7 115 hS ?_
        try simp only [Act.put, List.setIfInBounds_toArray, List.set_cons_zero, List.set_cons_succ]
        clear hS
        refine listed_asK (l' := #[true, true, true, true, true, true, true, true, false, false, false]) (by kernel_rfl) ?_
        revert cZ
        revert oZ
        revert bV
        revert xh
        revert xg
        revert xf
        revert xe
        revert xm
        revert xd
        revert xc
        revert xn
        revert xa
        revert V1
        clear V0
        refine ?eb04
        rotate_left 1
        refine AllReadyH.cons rfl (fun K hK => ?_) AllReadyH.nil
        refine step_bank rfl 19 rfl (by go_simp; (try rfl)) ?_
        have hbx := boxBk_new V0 (.slice none 0 0) (.slice none 0 0)
        have hob : VC.heap.size ≤ V0.heap.size := bV.size
        have bb := below1 V0 (.cells #[.slice none 0 0, .slice none 0 0] 26)
        replace bV := bV.trans (bb.mono bV.size)
        clear bb hS
        refine hK.out _ _ trivial (fun hS => ?_)
        clear hK K
        try simp only [List.setIfInBounds_toArray, List.set_cons_zero, List.set_cons_succ]
        revert hS
        revert bV
        revert hbx
        revert hob
        generalize V0.alloc (.cells #[.slice none 0 0, .slice none 0 0] 26) = V1
        generalize V0.heap.size = b19
        intro hob hbx bV hS
        clear hS
        refine listed_asK (l' := #[true, true, true, true, false, false, false, false, true, false, false]) (by kernel_rfl) ?_
        revert hob
        revert hbx
        revert bV
        revert b19
        revert V1
        clear V0
        refine ?eb08
        rotate_left 1
        intro V0 b19 bV hbx hob
        have hS : (fun _ : World => True) V0 := trivial
        refine wpAnyH_ready (rs := [0]) (by kernel_rfl) (by simp) ?_
        refine AllReadyH.cons rfl (fun K hK => ?_) AllReadyH.nil
        obtain ⟨c0, c1, -, -⟩ := (bu.below bV).facts
        go_simp
        clear c0 c1 hS
        refine hK.out _ _ trivial (fun hS => ?_)
        clear hK K
        try simp only [List.setIfInBounds_toArray, List.set_cons_zero]
        clear hS
        refine listed_asK (l' := #[true, true, true, true, false, false, false, false, true, false, false]) (by kernel_rfl) ?_
        revert hob
        revert hbx
        revert bV
        revert b19
        revert V0
        exact ?eb08
        intro V0 xa xn xc xd xm xe xf xg xh bV oZ cZ
        have hS : (fun _ : World => True) V0 := trivial
        refine wpAnyH_ready (rs := [8]) (by kernel_rfl) (by simp) ?_
        refine AllReadyH.cons rfl (fun K hK => ?_) AllReadyH.nil
        refine step_bank rfl 19 rfl (by go_simp; (try rfl)) ?_
        have hbx := boxBk_new V0 (.slice none 0 0) (.slice none 0 0)
        have hob : VC.heap.size ≤ V0.heap.size := bV.size
        have bb := below1 V0 (.cells #[.slice none 0 0, .slice none 0 0] 26)
        replace bV := bV.trans (bb.mono bV.size)
        replace oZ := oZ.below bb
        replace cZ := cZ.below bb
        clear bb hS
        refine hK.out _ _ trivial (fun hS => ?_)
        clear hK K
        try simp only [List.setIfInBounds_toArray, List.set_cons_zero, List.set_cons_succ]
        revert hS
        revert bV
        revert hbx
        revert hob
        revert oZ
        revert cZ
        generalize V0.alloc (.cells #[.slice none 0 0, .slice none 0 0] 26) = V1
        generalize V0.heap.size = b19
        intro cZ oZ hob hbx bV hS
        clear hS
        refine listed_asK (l' := #[true, true, true, true, true, true, true, true, true, false, false]) (by kernel_rfl) ?_
        revert hob
        revert hbx
        revert cZ
        revert oZ
        revert bV
        revert b19
        revert xh
        revert xg
        revert xf
        revert xe
        revert xm
        revert xd
        revert xc
        revert xn
        revert xa
        revert V1
        clear V0
        refine ?eb048
        rotate_left 1
        intro V0 b19 bV hbx hob
        have hS : (fun _ : World => True) V0 := trivial
        refine wpAnyH_ready (rs := [4]) (by kernel_rfl) (by simp) ?_
        refine AllReadyH.cons rfl (fun K hK => ?_) AllReadyH.nil
        go_simp
        refine (implMovedAll_any ⟨.slice ua un uc, .slice ud um ue, uR.mon, uR.cnt⟩ _ (ss.drop n) (rs.drop n) _ (ru.below bV) (rl2.below bV) (HZ2.out) (HL2.out) (HR2.out) (HU.out) (HE.out.on (bel.trans (bV.mono bel.size)))).mono ?_
        intro e V1 h2
        obtain ⟨xa, xn, xc, xd, xm, xe, xf, xg, xh, rfl, oZ, cZ, -, hb⟩ := h2.open
        rw [← hxR] at oZ cZ
        replace bV := bV.trans (hb.mono bV.size)
        replace hbx := hbx.below hb
        replace oZ := OwnBk.mono oZ (Nat.zero_le _)
        replace cZ := OwnI.mono cZ (Nat.zero_le _)
        clear h2 hb hS
        refine hK.out _ _ trivial (fun hS => ?_)
        clear hK K
        try simp only [List.setIfInBounds_toArray, List.set_cons_zero, List.set_cons_succ]
        refine tkG 5 108 hS ?_
        try simp only [Act.put, List.setIfInBounds_toArray, List.set_cons_zero, List.set_cons_succ]
        refine tkG 6 114 hS ?_
        try simp only [Act.put, List.setIfInBounds_toArray, List.set_cons_zero, List.set_cons_succ]
        refine tkG 7 115 hS ?_
        try simp only [Act.put, List.setIfInBounds_toArray, List.set_cons_zero, List.set_cons_succ]
        clear hS
        refine listed_asK (l' := #[true, true, true, true, true, true, true, true, true, false, false]) (by kernel_rfl) ?_
        revert hob
        revert hbx
        revert cZ
        revert oZ
        revert bV
        revert b19
        revert xh
        revert xg
        revert xf
        revert xe
        revert xm
        revert xd
        revert xc
        revert xn
        revert xa
        revert V1
        clear V0
        exact ?eb048
        intro V0 xa xn xc xd xm xe xf xg xh b19 bV oZ cZ hbx hob
        have hS : (fun _ : World => True) V0 := trivial
        refine wpAnyH_ready (rs := [9]) (by kernel_rfl) (by simp) ?_
        refine AllReadyH.cons rfl (fun K hK => ?_) AllReadyH.nil
        obtain ⟨c0, c1, c2, c3⟩ := hbx.facts
        go_simp
        have hto : Touch [b19] V0 ((V0.setCell ⟨b19, 0, none⟩ (.slice xa xn xc)).setCell ⟨b19, 1, none⟩ (.slice xd xm xe)) := (Touch.set (by simp)).trans (Touch.set (by simp))
        replace oZ := oZ.touch hto (fun k hk e => by rw [List.mem_singleton.1 e] at hk; exact hbx.out oZ hk)
        replace cZ : OwnI _ 0 (.slice xf xg xh) xR.cod := hto.row cZ (fun k hk e => boxBk_row hbx cZ (by decide) k hk (List.mem_singleton.1 e).symm)
        replace bV := (bV.setCell (p := ⟨b19, 0, none⟩) hob (.slice xa xn xc)).setCell (p := ⟨b19, 1, none⟩) hob (.slice xd xm xe)
        replace hbx := (hbx.set0 (u := .slice xa xn xc)).set1 (u := .slice xd xm xe)
        clear c0 c1 c2 c3 hS hto
        refine hK.out _ _ trivial (fun hS => ?_)
        clear hK K
        try simp only [List.setIfInBounds_toArray, List.set_cons_zero, List.set_cons_succ]
        revert hS
        revert bV
        revert hbx
        revert oZ
        revert cZ
        generalize (V0.setCell ⟨b19, 0, none⟩ (.slice xa xn xc)).setCell ⟨b19, 1, none⟩ (.slice xd xm xe) = V1
        intro cZ oZ hbx bV hS
        refine tkG 10 20 hS ?_
        try simp only [Act.put, List.setIfInBounds_toArray, List.set_cons_zero, List.set_cons_succ]
        clear hS
        refine listed_asK (l' := #[true, true, true, true, true, true, true, true, true, true, true]) (by kernel_rfl) ?_
        revert hob
        revert hbx
        revert cZ
        revert oZ
        revert bV
        revert b19
        revert xh
        revert xg
        revert xf
        revert xe
        revert xm
        revert xd
        revert xc
        revert xn
        revert xa
        revert V1
        clear V0
        refine ?eb0489
        rotate_left 1
        intro V0 xa xn xc xd xm xe xf xg xh b19 bV oZ cZ hbx hob
        have hS : (fun _ : World => True) V0 := trivial
        refine wpAnyH_done (by kernel_rfl) ?_ _
        refine NoPanic.normal ?_
        clear hS hob
        replace bm := bm.below bV
        replace ry := ry.below bV
        replace rl := rl.below bV
        replace bY := bY.below bV
        replace bA := bA.below bV
        replace rA := rA.below bV
        replace kA := kA.below bV
        replace bu := bu.below bV
        replace ru := ru.below bV
        replace ku := ku.below bV
        replace rl2 := rl2.below bV
        replace bel := bel.trans (bV.mono bel.size)
        have bx := hbx
        have rx := oZ.rd
        have kx := cZ.rd
        clear bV hbx oZ cZ
        clear huR hxR
        obtain ⟨c0, c1, -, -⟩ := bx.facts
        obtain ⟨d0, d1, -, -⟩ := bA.facts
        go_wp2_with fail
        refine (likeBank_same ⟨.slice xa xn xc, .slice xd xm xe, xR.mon, xR.cnt⟩ ⟨.slice aa an ac, .slice ad am ae, xR.mon, xR.cnt⟩ _ rx rA rfl rfl).mono ?_
        rintro e w20 ⟨rfl, hb⟩
        replace bm := bm.below hb
        replace ku := ku.below hb
        replace kx := kx.below hb
        replace kA := kA.below hb
        replace bel := bel.trans (hb.mono bel.size)
        clear hb c0 c1 d0 d1 rx rA bx bA bY ry rl rl2 bu ru
        have hb := below1 w20 (.cells #[] 2)
        have o0 := ownI_none w20
        have ku0 := ku.below hb
        go_wp2_with (at_builtin; (refine wpList_append_intsW (by kernel_rfl) _ _ rfl w20.heap.size _ _ [] uR.cod rfl rfl o0 ku0 (by have := HLU.out; simp; omega) (by simp) ?_))
        intro v1 w21 o1 hg1
        have b21 : Below w20.heap.size w20 w21 := hb.grown hg1 hb.size (fun k hk => (World.ownsRow.lt o0 k hk).1)
        have kx1 := kx.below b21
        replace o1 : OwnI w21 w20.heap.size v1 uR.cod := o1
        clear hb o0 ku0 hg1
        obtain ⟨fa, fc, e1⟩ := ownSl o1
        generalize hfl : uR.cod.length = fl at e1
        subst e1
        clear hfl
        go_wp2_with (at_builtin; (refine wpList_append_intsW (by kernel_rfl) _ _ rfl w20.heap.size _ _ uR.cod xR.cod rfl rfl o1 kx1 (by have := HLU.out; simp; omega) b21.size ?_))
        intro v2 w22 o2 hg2
        have b22 : Below w20.heap.size w20 w22 := b21.grown hg2 b21.size (fun k hk => (World.ownsRow.lt o1 k hk).1)
        clear o1 kx1 hg2 b21
        obtain ⟨ga, gc, e2⟩ := ownSl o2
        generalize hgl : (uR.cod ++ xR.cod).length = gl at e2
        subst e2
        clear hgl
        go_wp2_with fail
        refine (likeI_same _ _ (uR.cod ++ xR.cod) _ o2.rd (kA.below b22)).mono ?_
        rintro e w23 ⟨rfl, hb⟩
        have b23 := b22.trans (hb.mono b22.size)
        replace bm := bm.below b23
        replace bel := bel.trans (b23.mono bel.size)
        clear hb b22 b23 o2 ku kx kA
        obtain ⟨p0, p1, p2, p3⟩ := bm.facts
        go_wp2_with fail
        refine (HMO.out _).mono ?_
        rw [← HFIN.out]
        rintro e w24 ⟨rfl, hb⟩
        replace bel := bel.trans (hb.mono bel.size)
        clear hb p0 p1 p2 p3 bm
        have hfin : ((!S.toList.isEmpty) == (!S.toList.isEmpty)) = true := by simp
        go_wp2
        go_ret
        exact ⟨rfl, bel⟩
end Go.Proofs.YtmgapmhjkamigaaDoor
