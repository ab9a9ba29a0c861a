/- The walk of FnProved: each place holds with what it has, and with another value just where two unlike pairs with one number are found. -/
-- UNF Gen
import Derived.Test.YtmfopbkhlekhkaaDoorLefDr2
import Derived.Test.YtmfopbkhlekhkaaDoorLefChg
import Derived.Test.YtmfopbkhlekhkaaDoorTriHld2
import Derived.Test.YtmfopbkhlekhkaaDoorTriWay2
import Derived.Test.YtmfopbkhlekhkaaDoorTriPrt3
namespace Go.Proofs.YtmfopbkhlekhkaaDoor
open Go.RowKit
/-- Where the walk stands: rows of Leafs, rows of numbers, all of which can be read. -/
structure LP (w W : World) (ll : List (Value × List Lef)) (il : List (Value × List Int)) : Prop where
  bel : Below w.heap.size w W
  rl : ∀ i ∈ ll, RdL W i.1 i.2
  ri : ∀ i ∈ il, RdI W i.1 i.2
theorem LP.below {w W W' : World} {ll : List (Value × List Lef)} {il : List (Value × List Int)} (h : LP w W ll il) (hb : Below W.heap.size W W') : LP w W' ll il :=
  ⟨h.bel.trans (hb.mono h.bel.size), fun i hi => (h.rl i hi).below hb, fun i hi => (h.ri i hi).below hb⟩
theorem LP.putL {w W : World} {ll : List (Value × List Lef)} {il : List (Value × List Int)} (h : LP w W ll il) {v : Value} {es : List Lef} (hr : RdL W v es) : LP w W ((v, es) :: ll) il :=
  ⟨h.bel, fun i hi => by rcases List.mem_cons.1 hi with rfl | hi; exact hr; exact h.rl i hi, h.ri⟩
theorem LP.putI {w W : World} {ll : List (Value × List Lef)} {il : List (Value × List Int)} (h : LP w W ll il) {v : Value} {ns : List Int} (hr : RdI W v ns) : LP w W ll ((v, ns) :: il) :=
  ⟨h.bel, h.rl, fun i hi => by rcases List.mem_cons.1 hi with rfl | hi; exact hr; exact h.ri i hi⟩
theorem fnd_four {A : Nat} {v : Int} {ws : List Int} {o : Int} {us : List Int} : ∀ k, fndL A v ws o us k = [] ∨ (fndL A v ws o us k).length = 4
  | 0 => by unfold fndL; split; exact .inr rfl; exact .inl rfl
  | k + 1 => by
    unfold fndL
    split
    · split
      · exact .inr rfl
      · exact .inl rfl
    · exact fnd_four k
theorem ptd_len4 {p v : Int} {ws : List Int} {o : Int} {us : List Int} (h : ptdB p v ws o us = true) : (ptdR p v ws o us).length = 4 := by
  unfold ptdR
  rw [if_pos h]
  unfold ptdB at h
  simp only [Bool.and_eq_true, decide_eq_true_eq] at h
  rcases fnd_four (A := p.toNat) (v := v) (ws := ws) (o := o) (us := us) 8 with e | e
  · exact absurd e (fndL_some _ _ _ _ _ _ h.2)
  · exact e
set_option maxHeartbeats 16000000 in
set_option maxRecDepth 100000 in
theorem lawProved12 (v : Value) (bs : List UInt8) (w : World) (hr : Rd w v bs) (ht : Tab w) :
    Calls Tryd.prog 3 #[v] w fun e w' => e = .returned (.bool true) ∧ Below w.heap.size w w' := by
  by_cases hbig : 4096 < (bs.length : Int)
  · have hd : decide (4096 < (bs.length : Int)) = true := decide_eq_true hbig
    have HB : Hid (Calls Tryd.prog 7 #[v] w fun e w' => e = .returned (.bool true) ∧ w' = w) := by rw [← hd]; exact bigL_any v bs w hr
    clear hd hbig
    go_enter Tryd.func3, Tryd.ntmps3
    go_wp2_with fail
    refine HB.out.mono ?_
    rintro e w1 ⟨rfl, hw⟩
    subst hw
    go_wp2
    go_ret
    exact ⟨rfl, Below.refl _ _⟩
  have hd : decide (4096 < (bs.length : Int)) = false := decide_eq_false hbig
  have HB : Hid (Calls Tryd.prog 7 #[v] w fun e w' => e = .returned (.bool false) ∧ w' = w) := by rw [← hd]; exact bigL_any v bs w hr
  clear hd
  go_enter Tryd.func3, Tryd.ntmps3
  go_wp2_with fail
  refine HB.out.mono ?_
  rintro e w1 ⟨rfl, hw⟩
  obtain rfl : w = w1 := hw.symm
  clear hw HB
  have Q : LP w w [] [] := ⟨Below.refl _ _, (fun i hi => by cases hi), (fun i hi => by cases hi)⟩
  go_wp2_with fail
  refine (drawSet_any _ bs _ hr (by omega)).mono ?_
  rintro e W1 ⟨l, ls, a1, a2, rfl, hrl, -, -, -, hb⟩
  replace Q := Q.below hb
  replace Q := Q.putL hrl
  clear hb hrl
  obtain ⟨ss, hss⟩ : ∃ ss, ss = setR ls a1 a2 := ⟨_, rfl⟩
  have HSI : Hid (∀ W, RdL W l ls → Calls Tryd.prog 9 #[l, .int .i64 a1, .int .i64 a2] W fun e w' => ∃ u, e = .returned u ∧ OwnL w' W.heap.size u ss ∧ Below W.heap.size W w') := fun W h => by rw [hss]; exact implSet_any l ls a1 a2 W h
  have HSS : Hid (∀ W, RdL W l ls → Calls Tryd.prog 15 #[l, .int .i64 a1, .int .i64 a2] W fun e w' => ∃ u, e = .returned u ∧ OwnL w' W.heap.size u ss ∧ Below W.heap.size W w') := fun W h => by rw [hss]; exact specSet_any l ls a1 a2 W h
  clear hss
  go_wp2_with fail
  refine (HSI.out _ (Q.rl (l, ls) (by simp))).mono ?_
  rintro e W1 ⟨s, rfl, hs, hb⟩
  replace Q := Q.below hb
  replace Q := Q.putL hs.rd
  clear hb hs
  go_wp2_with fail
  refine (drawHolds_any _ bs _ (hr.below Q.bel) (by omega)).mono ?_
  rintro e W1 ⟨h1, h2, h3, wv, ws, rfl, hrw, hi, hb⟩
  replace Q := Q.below hb
  replace Q := Q.putI hrw
  clear hb hrw
  obtain ⟨hh, hhh⟩ : ∃ b, b = hldR h1 h2 h3 ws := ⟨_, rfl⟩
  have HHI : Hid (∀ W, RdI W wv ws → Tab W → Calls Tryd.prog 11 #[.int .i64 h1, .int .i64 h2, .int .i64 h3, wv] W fun e w' => e = .returned (.bool hh) ∧ Below W.heap.size W w') := fun W h t => by rw [hhh]; exact implHolds_any h1 h2 h3 wv ws W h hi t
  have HHS : Hid (∀ W, RdI W wv ws → Calls Tryd.prog 16 #[.int .i64 h1, .int .i64 h2, .int .i64 h3, wv] W fun e w' => e = .returned (.bool hh) ∧ Below W.heap.size W w') := fun W h => by rw [hhh]; exact specHolds_any h1 h2 h3 wv ws W h hi
  have hhn : (hh != hh) = false := by simp
  clear hhh hi
  go_wp2_with fail
  refine (HHI.out _ (Q.ri (wv, ws) (by simp)) (ht.on Q.bel)).mono ?_
  rintro e W1 ⟨rfl, hb⟩
  replace Q := Q.below hb
  clear hb
  go_wp2_with fail
  refine (drawPeak_any _ bs _ (hr.below Q.bel) (by omega)).mono ?_
  rintro e W1 ⟨m, ms, rfl, hrm, hml, hb⟩
  replace Q := Q.below hb
  replace Q := Q.putL hrm
  clear hb hrm
  go_wp2_with fail
  refine (drawWay_any _ bs _ (hr.below Q.bel) (by omega)).mono ?_
  rintro e W1 ⟨x, xs, y, rfl, hrx, hb⟩
  replace Q := Q.below hb
  replace Q := Q.putL hrx
  clear hb hrx
  go_wp2_with fail
  refine (HSS.out _ (Q.rl (l, ls) (by simp))).mono ?_
  rintro e W1 ⟨s2, rfl, hs, hb⟩
  replace Q := Q.below hb
  replace Q := Q.putL hs.rd
  clear hb hs
  go_wp2_with fail
  refine (likeLZ s s2 ss _ (Q.rl (s, ss) (by simp)) (Q.rl (s2, ss) (by simp))).mono ?_
  rintro e W1 ⟨rfl, hb⟩
  replace Q := Q.below hb
  clear hb
  go_wp2_with fail
  refine (HHS.out _ (Q.ri (wv, ws) (by simp))).mono ?_
  rintro e W1 ⟨rfl, hb⟩
  replace Q := Q.below hb
  clear hb
  obtain ⟨pk, hpk⟩ : ∃ z : Int, z = if lefOk ms = true then peakL ms else -1 := ⟨_, rfl⟩
  have HPI : Hid (∀ W, RdL W m ms → Tab W → Calls Tryd.prog 17 #[m] W fun e w' => e = .returned (.int .i64 pk) ∧ Below W.heap.size W w') := fun W h t => by rw [hpk]; exact implPeak_any m ms W h t
  have HPS : Hid (∀ W, RdL W m ms → Calls Tryd.prog 18 #[m] W fun e w' => e = .returned (.int .i64 pk) ∧ Below W.heap.size W w') := fun W h => by rw [hpk]; exact specPeak_any m ms W h
  have hpn : (pk != pk) = false := by simp
  have HPK : Hid (pk = if lefOk ms = true then peakL ms else -1) := hpk
  clear hpk
  go_wp2_with fail
  refine (HPI.out _ (Q.rl (m, ms) (by simp)) (ht.on Q.bel)).mono ?_
  rintro e W1 ⟨rfl, hb⟩
  replace Q := Q.below hb
  clear hb
  go_wp2_with fail
  refine (HPS.out _ (Q.rl (m, ms) (by simp))).mono ?_
  rintro e W1 ⟨rfl, hb⟩
  replace Q := Q.below hb
  clear hb
  go_wp2_with fail
  refine (implWay_any x xs y _ (Q.rl (x, xs) (by simp)) (ht.on Q.bel)).mono ?_
  rintro e W1 ⟨wa, rfl, hwa, hb⟩
  replace Q := Q.below hb
  replace Q := Q.putI hwa.rd
  clear hb hwa
  go_wp2_with fail
  refine (specWay_any x xs y _ (Q.rl (x, xs) (by simp))).mono ?_
  rintro e W1 ⟨wb, rfl, hwb, hb⟩
  replace Q := Q.below hb
  replace Q := Q.putI hwb.rd
  clear hb hwb
  go_wp2_with fail
  refine (likeIZ wa wb (wayR xs y) _ (Q.ri (wa, wayR xs y) (by simp)) (Q.ri (wb, wayR xs y) (by simp))).mono ?_
  rintro e W1 ⟨rfl, hb⟩
  replace Q := Q.below hb
  clear hb
  obtain ⟨ok, hok⟩ : ∃ b, b = lefOk ms := ⟨_, rfl⟩
  have HKI : Hid (∀ W, RdL W m ms → Calls Tryd.prog 22 #[m] W fun e w' => e = .returned (.bool ok) ∧ Below W.heap.size W w') := fun W h => by rw [hok]; exact implLeavesOk_any m ms W h
  have HKS : Hid (∀ W, RdL W m ms → Calls Tryd.prog 23 #[m] W fun e w' => e = .returned (.bool ok) ∧ Below W.heap.size W w') := fun W h => by rw [hok]; exact (specLeavesOk_any m ms W h).mono fun e w' ⟨a, b⟩ => ⟨a, b.below⟩
  have hon : (ok != ok) = false := by simp
  have HOK : Hid (ok = lefOk ms) := hok
  clear hok
  go_wp2_with fail
  refine (HKI.out _ (Q.rl (m, ms) (by simp))).mono ?_
  rintro e W1 ⟨rfl, hb⟩
  replace Q := Q.below hb
  clear hb
  go_wp2_with fail
  refine (HKS.out _ (Q.rl (m, ms) (by simp))).mono ?_
  rintro e W1 ⟨rfl, hb⟩
  replace Q := Q.below hb
  clear hb
  go_wp2_with fail
  refine (HKS.out _ (Q.rl (m, ms) (by simp))).mono ?_
  rintro e W1 ⟨rfl, hb⟩
  replace Q := Q.below hb
  clear hb hhn hpn hon HSI HSS HHI HHS HKI HKS HPS
  have R := Q.rl (m, ms) (by simp)
  have bw := Q.bel
  clear Q
  simp only at R
  cases ok with
  | false =>
    have hp1 : pk = -1 := by rw [HPK.out, ← HOK.out]; rfl
    subst hp1
    go_wp2_with fail
    refine (HPI.out _ R (ht.on bw)).mono ?_
    rintro e W1 ⟨rfl, hb⟩
    have bel := bw.trans (hb.mono bw.size)
    clear hb bw R
    go_wp2
    go_ret
    exact ⟨rfl, bel⟩
  | true =>
    have HLO : Hid (LefOk ms) := lefOk_iff.1 HOK.out.symm
    have HPM : Hid (pk = peakL ms) := by unfold Hid; rw [HPK.out, ← HOK.out]; rfl
    clear HPK HOK
    go_wp2_with fail
    refine (pickL1_any _ bs 10 _ (hr.below bw) (by omega) (by omega) (by omega)).mono ?_
    rintro e W1 ⟨hw, p, rfl, hp0, hp1⟩
    subst hw
    obtain ⟨ma, mc, hmv, hmc, hmm⟩ := rdL_slice R
    unfold maxLen at hmm
    obtain ⟨mn, hmn⟩ : ∃ n, n = ms.length := ⟨_, rfl⟩
    have HMN : Hid (ms.length = mn) := hmn.symm
    rw [← hmn] at hmv hmc hml
    subst hmv
    clear hmn
    have HR : Hid (RdL _ _ ms) := R
    go_wp2
    go_loopw [16, 17] (fun hv iv wr => ∃ (h : Int) (i : Nat), hv = .int .i64 h ∧ iv = .int .i64 (i : Int) ∧ i ≤ mn ∧ Hid (h = valL (ms.take i) p) ∧ RdL wr (.slice ma mn mc) ms ∧ Below w.heap.size w wr) (fun _ iv _ => mn - (intOf iv).toNat)
    case atStart => exact ⟨-1, 0, rfl, rfl, Nat.zero_le _, rfl, R, bw⟩
    case round =>
      clear R bw HR
      obtain ⟨h, i, rfl, rfl, hil, HH, R, bw⟩ := hrel
      by_cases hlt : i < mn
      · obtain ⟨c1, c2, rfl, hc⟩ := R.at HMN.out.symm i (by have := HMN.out; omega)
        have hst : valL (ms.take (i + 1)) p = if (nthL ms i).pl = p then (nthL ms i).va else valL (ms.take i) p := valL_step HLO.out (by have := HMN.out; omega) p
        rw [← HH.out] at hst
        obtain ⟨x, hx⟩ : ∃ x, x = nthL ms i := ⟨_, rfl⟩
        rw [← hx] at hc hst
        have HST : Hid (valL (ms.take (i + 1)) p = if x.pl = p then x.va else h) := hst
        obtain ⟨d0, d1⟩ := hc
        have hili : (i : Int) < (mn : Int) := by omega
        have hic : i < mc := by omega
        have hiw : IntKind.i64.wrap ((i : Int) + 1) = (i : Int) + 1 := by rw [IntKind.wrap_i64]; omega
        clear hx hst
        by_cases hxp : x.pl = p
        · have hxb : (x.pl == p) = true := beq_iff_eq.2 hxp
          have R1 : Hid (x.va = valL (ms.take (i + 1)) p) := by unfold Hid; rw [HST.out, if_pos hxp]
          clear HST
          go_wp2
          go_roundw
          case rel => exact ⟨x.va, i + 1, rfl, by go_num, by omega, R1, R, bw⟩
          case measure => simp [intOf]; omega
        · have hxb : (x.pl == p) = false := beq_false_of_ne hxp
          have R1 : Hid (h = valL (ms.take (i + 1)) p) := by unfold Hid; rw [HST.out, if_neg hxp]
          clear HST
          go_wp2
          go_roundw
          case rel => exact ⟨h, i + 1, rfl, by go_num, by omega, R1, R, bw⟩
          case measure => simp [intOf]; omega
      · have hie : i = mn := by omega
        subst hie
        have HHV : Hid (h = valL ms p) := by
          have e := HH.out
          rw [List.take_of_length_le (by have := HMN.out; omega)] at e
          exact e
        have HHR : Hid (h = -1 ∨ (0 ≤ h ∧ h ≤ 1000000000)) := by unfold Hid; rw [HHV.out]; exact val_range HLO.out p
        clear HH hlt hil
        have hpr : 0 ≤ p ∧ p ≤ 255 := by omega
        have hwl : (wayR ms p).length = 8 := by unfold wayR; rw [if_pos ⟨lefOk_iff.2 HLO.out, hpr⟩, wayL_len]
        have HHD : Hid (hldR pk p h (wayR ms p) = true) := by
          rw [HPM.out]
          refine hold_yes hpr HHR.out HHV.out.symm hwl (fun i hi => ?_)
          unfold wayR
          rw [if_pos ⟨lefOk_iff.2 HLO.out, hpr⟩, way_get _ _ hi]
        have HI : Hid (∀ j, I64 ((wayR ms p).getD j 0)) := fun j => getD_i64 (wayR_i64 ms p) j
        go_wp2_with fail
        refine (implWay_any _ ms p _ R (ht.on bw)).mono ?_
        rintro e W1 ⟨wy, rfl, hwy, hb⟩
        have b1 := bw.trans (hb.mono bw.size)
        have R1 := R.below hb
        clear hb bw R
        obtain ⟨ws, hws⟩ : ∃ ws, ws = wayR ms p := ⟨_, rfl⟩
        rw [← hws] at hwy hwl HHD HI
        clear hws
        go_wp2_with fail
        refine (HPI.out _ R1 (ht.on b1)).mono ?_
        rintro e W2 ⟨rfl, hb⟩
        have b2 := b1.trans (hb.mono b1.size)
        have R2 := R1.below hb
        have hw2 := OwnI.below hwy hb
        clear hb b1 R1 hwy
        have HH1 : Hid (∀ W, RdI W wy ws → Tab W → Calls Tryd.prog 11 #[.int .i64 pk, .int .i64 p, .int .i64 h, wy] W fun e w' => e = .returned (.bool true) ∧ Below W.heap.size W w') := fun W hh t => by rw [← HHD.out]; exact implHolds_any pk p h wy ws W hh HI.out t
        go_wp2_with fail
        refine (HH1.out _ hw2.rd (ht.on b2)).mono ?_
        rintro e W3 ⟨rfl, hb⟩
        have b3 := b2.trans (hb.mono b2.size)
        have R3 := R2.below hb
        have hw3 := OwnI.below hw2 hb
        clear hb b2 R2 hw2 HH1
        go_wp2_with fail
        refine (pickL2_any _ bs 1000 _ (hr.below b3) (by omega) (by omega) (by omega)).mono ?_
        rintro e W4 ⟨hw, z, rfl, hz0, hz1⟩
        subst hw
        obtain ⟨o, ho⟩ : ∃ o, o = z - 1 := ⟨_, rfl⟩
        have hzo : z - 1 = o := ho.symm
        have hwo : IntKind.i64.wrap o = o := by rw [IntKind.wrap_i64]; omega
        have hor : o = -1 ∨ (0 ≤ o ∧ o ≤ 1000000000) := by omega
        have HOR : Hid (o = -1 ∨ (0 ≤ o ∧ o ≤ 1000000000)) := hor
        clear ho hor
        by_cases hoh : o = h
        · have hob : (o == h) = true := beq_iff_eq.2 hoh
          have bel := b3
          clear hoh b3 R3 hw3
          go_wp2
          go_ret
          exact ⟨rfl, bel⟩
        · have hob : (o == h) = false := beq_false_of_ne hoh
          obtain ⟨hd2, hhd2⟩ : ∃ b, b = hldR pk p o ws := ⟨_, rfl⟩
          have HH2 : Hid (∀ W, RdI W wy ws → Tab W → Calls Tryd.prog 11 #[.int .i64 pk, .int .i64 p, .int .i64 o, wy] W fun e w' => e = .returned (.bool hd2) ∧ Below W.heap.size W w') := fun W hh t => by rw [hhd2]; exact implHolds_any pk p o wy ws W hh HI.out t
          have HPB : Hid (hd2 = true → ptdB p h ws o ws = true) := fun e => by
            have e1 := HHD.out
            rw [hhd2] at e
            unfold hldR at e e1
            simp only [Bool.and_eq_true, decide_eq_true_eq] at e e1
            unfold ptdB
            rw [e.1, e1.1, decide_eq_true (show h ≠ o from fun x => hoh x.symm), decide_eq_true (e1.2.trans e.2.symm)]
            rfl
          clear hhd2 hoh
          go_wp2_with fail
          refine (HPI.out _ R3 (ht.on b3)).mono ?_
          rintro e W5 ⟨rfl, hb⟩
          have b5 := b3.trans (hb.mono b3.size)
          have hw5 := OwnI.below hw3 hb
          clear hb b3 R3 hw3
          go_wp2_with fail
          refine (HH2.out _ hw5.rd (ht.on b5)).mono ?_
          rintro e W6 ⟨rfl, hb⟩
          have b6 := b5.trans (hb.mono b5.size)
          have hw6 := OwnI.below hw5 hb
          clear hb b5 hw5 HH2
          cases hd2 with
          | false =>
            have bel := b6
            clear b6 hw6
            go_wp2
            go_ret
            exact ⟨rfl, bel⟩
          | true =>
            have hpb := HPB.out rfl
            have hl4 := ptd_len4 hpb
            have HPT : Hid (∀ W, RdI W wy ws → Tab W → Calls Tryd.prog 25 #[.int .i64 p, .int .i64 h, wy, .int .i64 o, wy] W fun e w' => ∃ u, e = .returned (.tuple #[u, .bool true]) ∧ OwnI w' W.heap.size u (ptdR p h ws o ws) ∧ Below W.heap.size W w') := fun W hh t => by
              have e := implParted_any p h o wy wy ws ws W hh hh HI.out HI.out t
              unfold PtdPost at e
              rw [hpb] at e
              exact e
            generalize ptdR p h ws o ws = ys at HPT hl4
            clear HPB hpb
            go_wp2_with fail
            refine (HPT.out _ hw6.rd (ht.on b6)).mono ?_
            rintro e W7 ⟨u, rfl, hu, hb⟩
            have bel := b6.trans (hb.mono b6.size)
            obtain ⟨fa, fc, hfv, -⟩ := hu.rd
            rw [hl4] at hfv
            subst hfv
            clear hu hb b6 hw6
            go_wp2
            go_ret
            exact ⟨rfl, bel⟩
end Go.Proofs.YtmfopbkhlekhkaaDoor
