/- The walk of FnChanged: what is set is there and nothing else is another, and a value that is taken out again leaves the number as it was. -/
-- UNF Gen
import Derived.Test.YtmfopbkhlekhkaaDoorLefLk2
import Derived.Test.YtmfopbkhlekhkaaDoorLefChg
import Derived.Test.YtmfopbkhlekhkaaDoorTriHld2
import Derived.Test.YtmfopbkhlekhkaaDoorTriWay2
namespace Go.Proofs.YtmfopbkhlekhkaaDoor
open Go.RowKit
/-- Where the walk stands: rows of Leafs, rows of numbers, all of which can be read. -/
structure LQ (w W : World) (ll : List (Value × List Lef)) (il : List (Value × List Int)) : Prop where
  bel : Below w.heap.size w W
  rl : ∀ i ∈ ll, RdL W i.1 i.2
  ri : ∀ i ∈ il, RdI W i.1 i.2
theorem LQ.below {w W W' : World} {ll : List (Value × List Lef)} {il : List (Value × List Int)} (h : LQ w W ll il) (hb : Below W.heap.size W W') : LQ w W' ll il :=
  ⟨h.bel.trans (hb.mono h.bel.size), fun i hi => (h.rl i hi).below hb, fun i hi => (h.ri i hi).below hb⟩
theorem LQ.putL {w W : World} {ll : List (Value × List Lef)} {il : List (Value × List Int)} (h : LQ w W ll il) {v : Value} {es : List Lef} (hr : RdL W v es) : LQ w W ((v, es) :: ll) il :=
  ⟨h.bel, fun i hi => by rcases List.mem_cons.1 hi with rfl | hi; exact hr; exact h.rl i hi, h.ri⟩
theorem LQ.putI {w W : World} {ll : List (Value × List Lef)} {il : List (Value × List Int)} (h : LQ w W ll il) {v : Value} {ns : List Int} (hr : RdI W v ns) : LQ w W ll ((v, ns) :: il) :=
  ⟨h.bel, h.rl, fun i hi => by rcases List.mem_cons.1 hi with rfl | hi; exact hr; exact h.ri i hi⟩
theorem rdL_len {w : World} {a : Option Addr} {n c : Nat} {es : List Lef} (h : RdL w (.slice a n c) es) : es.length = n ∧ n ≤ c ∧ c ≤ maxLen := by
  obtain ⟨a', c', e, h1, h2, -⟩ := h
  simp only [Value.slice.injEq] at e
  obtain ⟨rfl, rfl, rfl⟩ := e
  exact ⟨rfl, h1, h2⟩
set_option maxHeartbeats 16000000 in
set_option maxRecDepth 100000 in
theorem lawChanged12 (v : Value) (bs : List UInt8) (w : World) (hr : Rd w v bs) (ht : Tab w) :
    Calls Tryd.prog 5 #[v] w fun e w' => e = .returned (.bool true) ∧ Below w.heap.size w w' := by
  by_cases hbig : 4096 < (bs.length : Int)
  · have hd : decide (4096 < (bs.length : Int)) = true := decide_eq_true hbig
    have HB : Hid (Calls Tryd.prog 7 #[v] w fun e w' => e = .returned (.bool true) ∧ w' = w) := by rw [← hd]; exact bigL_any v bs w hr
    clear hd hbig
    go_enter Tryd.func5, Tryd.ntmps5
    go_wp2_with fail
    refine HB.out.mono ?_
    rintro e w1 ⟨rfl, hw⟩
    subst hw
    go_wp2
    go_ret
    exact ⟨rfl, Below.refl _ _⟩
  have hd : decide (4096 < (bs.length : Int)) = false := decide_eq_false hbig
  have HB : Hid (Calls Tryd.prog 7 #[v] w fun e w' => e = .returned (.bool false) ∧ w' = w) := by rw [← hd]; exact bigL_any v bs w hr
  clear hd
  go_enter Tryd.func5, Tryd.ntmps5
  go_wp2_with fail
  refine HB.out.mono ?_
  rintro e w1 ⟨rfl, hw⟩
  obtain rfl : w = w1 := hw.symm
  clear hw
  go_wp2_with fail
  refine (drawSet_any _ bs _ hr (by omega)).mono ?_
  rintro e w1 ⟨l, ls, p, q, rfl, hrl, hll, hp, hq, b1⟩
  have Q : LQ w w1 [(l, ls)] [] := ⟨b1, (fun i hi => by obtain rfl := List.mem_singleton.1 hi; exact hrl), (fun i hi => by cases hi)⟩
  obtain ⟨ss, hss⟩ : ∃ ss, ss = setR ls p q := ⟨_, rfl⟩
  have HSS : Hid (ss = setR ls p q) := hss
  have HSI : Hid (∀ W, RdL W l ls → Calls Tryd.prog 9 #[l, .int .i64 p, .int .i64 q] W fun e w' => ∃ u, e = .returned u ∧ OwnL w' W.heap.size u ss ∧ Below W.heap.size W w') := fun W h => by rw [hss]; exact implSet_any l ls p q W h
  have hsl : ss.length ≤ 257 := by rw [hss]; exact setR_len _ _ _
  clear hrl b1 hr HB hbig hss
  go_wp2_with fail
  refine (HSI.out _ (Q.rl (l, ls) (by simp))).mono ?_
  rintro e W1 ⟨s, rfl, hs, hb⟩
  replace Q := (Q.below hb).putL hs.rd
  clear hb hs HSI
  obtain ⟨la, lc, hlv, hlc, hlm⟩ : ∃ a c, l = .slice a ls.length c ∧ ls.length ≤ c ∧ c ≤ maxLen := rdL_slice (Q.rl (l, ls) (by simp))
  obtain ⟨sa, sc, hsv, hsc, hsm⟩ : ∃ a c, s = .slice a ss.length c ∧ ss.length ≤ c ∧ c ≤ maxLen := rdL_slice (Q.rl (s, ss) (by simp))
  unfold maxLen at hlm hsm
  obtain ⟨ln, hln⟩ : ∃ n, n = ls.length := ⟨_, rfl⟩
  obtain ⟨sn, hsn⟩ : ∃ n, n = ss.length := ⟨_, rfl⟩
  have HLN : Hid (ls.length = ln) := hln.symm
  have HSN : Hid (ss.length = sn) := hsn.symm
  rw [← hln] at hlv hlc hll
  rw [← hsn] at hsv hsc hsl
  subst hlv
  subst hsv
  clear hln hsn
  have HOK : Hid (∀ W, RdL W (.slice la ln lc) ls → Calls Tryd.prog 23 #[.slice la ln lc] W fun e w' => e = .returned (.bool (lefOk ls)) ∧ Below W.heap.size W w') := fun W h => (specLeavesOk_any _ ls W h).mono fun e w' ⟨a, b⟩ => ⟨a, b.below⟩
  obtain ⟨lk, hlk⟩ : ∃ b, b = lefOk ls := ⟨_, rfl⟩
  rw [← hlk] at HOK
  by_cases hset : setOk ls p q = true
  · obtain ⟨hlo, hpr, hqr⟩ := setOk_iff.1 hset
    have hlt : lk = true := hlk.trans (lefOk_iff.2 hlo)
    subst hlt
    obtain ⟨hback, hput⟩ := set_back hset
    have hsp : ss = putLf ls p q := HSS.out.trans hput
    rw [← HSS.out] at hback
    have HSO : Hid (lefOk ss = true) := by unfold Hid; rw [hsp]; exact lefOk_iff.2 (putC_ok hset)
    have HMEM : Hid (∀ x ∈ ss, x.pl = p → x.va = q) := fun x hx => by rw [hsp] at hx; exact mem_put hset hx
    have HVAL : Hid (∀ j, valL ss j = if j = p then q else valL ls j) := fun j => by rw [hsp]; exact val_put hset j
    have HBK : Hid (setR ss p (valL ls p) = ls) := hback
    have HLO : Hid (LefOk ls) := hlo
    have HWAY : Hid (wayR ss p = wayR ls p) := by
      unfold Hid wayR
      rw [if_pos ⟨HSO.out, hpr⟩, if_pos ⟨lefOk_iff.2 hlo, hpr⟩]
      refine way_same (fun j hj => ?_)
      rw [HVAL.out, if_neg (by omega)]
    have HPK : Hid (hldR (peakL ss) p q (wayR ls p) = true) := by
      refine hold_yes hpr hqr ?_ ?_ ?_
      · rw [HVAL.out, if_pos rfl]
      · unfold wayR; rw [if_pos ⟨lefOk_iff.2 hlo, hpr⟩, wayL_len]
      · intro i hi
        rw [← HWAY.out]
        unfold wayR
        rw [if_pos ⟨HSO.out, hpr⟩, way_get _ _ hi]
    have HI64 : Hid (∀ j, I64 ((wayR ls p).getD j 0)) := fun j => getD_i64 (wayR_i64 ls p) j
    have n1 : ¬ p < 0 := by omega
    have n2 : ¬ 255 < p := by omega
    have n3 : ¬ q < -1 := by omega
    have n4 : ¬ 1000000000 < q := by omega
    clear hset hlo hback hput hsp hlk hp hq HSS
    go_wp2_with fail
    refine (HOK.out _ (Q.rl (.slice la ln lc, ls) (by simp))).mono ?_
    rintro e W2 ⟨rfl, hb⟩
    replace Q := Q.below hb
    clear hb HOK
    go_wp2
    go_loopw [7, 8] (fun hv iv wr => ∃ (h : Int) (i : Nat), hv = .int .i64 h ∧ iv = .int .i64 (i : Int) ∧ i ≤ ln ∧ Hid (h = valL (ls.take i) p) ∧ LQ w wr [(.slice sa sn sc, ss), (.slice la ln lc, ls)] []) (fun _ iv _ => ln - (intOf iv).toNat)
    case atStart => exact ⟨-1, 0, rfl, rfl, Nat.zero_le _, rfl, Q⟩
    case round =>
      clear Q
      obtain ⟨h, i, rfl, rfl, hil, HH, Q⟩ := hrel
      by_cases hlt : i < ln
      · obtain ⟨c1, c2, rfl, hc⟩ := (Q.rl (.slice la ln lc, ls) (by simp)).at HLN.out.symm i (by show i < ls.length; have := HLN.out; omega)
        have hst : valL (ls.take (i + 1)) p = if (nthL ls i).pl = p then (nthL ls i).va else valL (ls.take i) p := valL_step HLO.out (by have := HLN.out; omega) p
        rw [← HH.out] at hst
        simp only at hc
        obtain ⟨x, hx⟩ : ∃ x, x = nthL ls i := ⟨_, rfl⟩
        rw [← hx] at hc hst
        have HST : Hid (valL (ls.take (i + 1)) p = if x.pl = p then x.va else h) := hst
        obtain ⟨d0, d1⟩ := hc
        have hili : (i : Int) < (ln : Int) := by omega
        have hic : i < lc := by omega
        have hiw : IntKind.i64.wrap ((i : Int) + 1) = (i : Int) + 1 := by rw [IntKind.wrap_i64]; omega
        clear hx hst
        by_cases hxp : x.pl = p
        · have hxb : (x.pl == p) = true := beq_iff_eq.2 hxp
          have R : Hid (x.va = valL (ls.take (i + 1)) p) := by unfold Hid; rw [HST.out, if_pos hxp]
          clear HST
          go_wp2
          go_roundw
          case rel => exact ⟨x.va, i + 1, rfl, by go_num, by omega, R, Q⟩
          case measure => simp [intOf]; omega
        · have hxb : (x.pl == p) = false := beq_false_of_ne hxp
          have R : Hid (h = valL (ls.take (i + 1)) p) := by unfold Hid; rw [HST.out, if_neg hxp]
          clear HST
          go_wp2
          go_roundw
          case rel => exact ⟨h, i + 1, rfl, by go_num, by omega, R, Q⟩
          case measure => simp [intOf]; omega
      · have hie : i = ln := by omega
        subst hie
        have HHV : Hid (h = valL ls p) := by
          have e := HH.out
          rw [List.take_of_length_le (by have := HLN.out; omega)] at e
          exact e
        clear HH hlt hil
        go_wp2
        go_loopw [9] (fun iv w2 => ∃ k : Nat, iv = .int .i64 (k : Int) ∧ k ≤ sn ∧ LQ w w2 [(.slice sa sn sc, ss), (.slice la i lc, ls)] []) (fun iv _ => sn - (intOf iv).toNat)
        case atStart => exact ⟨0, rfl, Nat.zero_le _, Q⟩
        case round =>
          clear Q
          obtain ⟨k, rfl, hks, Q⟩ := hrel
          by_cases hlt : k < sn
          · obtain ⟨c1, c2, rfl, hc⟩ := (Q.rl (.slice sa sn sc, ss) (by simp)).at HSN.out.symm k (by show k < ss.length; have := HSN.out; omega)
            have hm := HMEM.out (nthL ss k) (nthL_in (by have := HSN.out; omega))
            simp only at hc
            obtain ⟨x, hx⟩ : ∃ x, x = nthL ss k := ⟨_, rfl⟩
            rw [← hx] at hc hm
            obtain ⟨d0, d1⟩ := hc
            have HM : Hid (x.pl = p → x.va = q) := hm
            have hili : (k : Int) < (sn : Int) := by omega
            have hic : k < sc := by omega
            have hiw : IntKind.i64.wrap ((k : Int) + 1) = (k : Int) + 1 := by rw [IntKind.wrap_i64]; omega
            clear hx hm
            by_cases hxp : x.pl = p
            · have hxb : (x.pl == p) = true := beq_iff_eq.2 hxp
              have hxq : (x.va != q) = false := by rw [bne_eq_false_iff_eq]; exact HM.out hxp
              clear HM
              go_wp2
              go_roundw
              case rel => exact ⟨k + 1, by go_num, by omega, Q⟩
              case measure => simp [intOf]; omega
            · have hxb : (x.pl == p) = false := beq_false_of_ne hxp
              clear HM
              go_wp2
              go_roundw
              case rel => exact ⟨k + 1, by go_num, by omega, Q⟩
              case measure => simp [intOf]; omega
          · have hse : k = sn := by omega
            subst hse
            clear hlt hks
            have HSB : Hid (∀ W, RdL W (.slice sa k sc) ss → Calls Tryd.prog 9 #[.slice sa k sc, .int .i64 p, .int .i64 h] W fun e w' => ∃ u, e = .returned u ∧ OwnL w' W.heap.size u ls ∧ Below W.heap.size W w') := fun W hh => by
              have e := implSet_any (.slice sa k sc) ss p h W hh
              unfold SetPost at e
              rw [HHV.out, HBK.out] at e
              rw [HHV.out]
              exact e
            have HLK : Hid (∀ W, RdL W (.slice sa k sc) ss → Calls Tryd.prog 22 #[.slice sa k sc] W fun e w' => e = .returned (.bool true) ∧ Below W.heap.size W w') := fun W hh => by rw [← HSO.out]; exact implLeavesOk_any _ ss W hh
            obtain ⟨pk, hpk⟩ : ∃ z : Int, z = if lefOk ls = true then peakL ls else -1 := ⟨_, rfl⟩
            have HP1 : Hid (∀ u W, RdL W u ls → Tab W → Calls Tryd.prog 17 #[u] W fun e w' => e = .returned (.int .i64 pk) ∧ Below W.heap.size W w') := fun u W hh t => by rw [hpk]; exact implPeak_any u ls W hh t
            have HP2 : Hid (∀ W, RdL W (.slice sa k sc) ss → Tab W → Calls Tryd.prog 17 #[.slice sa k sc] W fun e w' => e = .returned (.int .i64 (peakL ss)) ∧ Below W.heap.size W w') := fun W hh t => by
              have e := implPeak_any (.slice sa k sc) ss W hh t
              rw [if_pos HSO.out] at e
              exact e
            have HW1 : Hid (∀ W, RdL W (.slice sa k sc) ss → Tab W → Calls Tryd.prog 20 #[.slice sa k sc, .int .i64 p] W fun e w' => ∃ u, e = .returned u ∧ OwnI w' W.heap.size u (wayR ls p) ∧ Below W.heap.size W w') := fun W hh t => by rw [← HWAY.out]; exact implWay_any _ ss p W hh t
            have HW2 : Hid (∀ W, RdL W (.slice la i lc) ls → Tab W → Calls Tryd.prog 20 #[.slice la i lc, .int .i64 p] W fun e w' => ∃ u, e = .returned u ∧ OwnI w' W.heap.size u (wayR ls p) ∧ Below W.heap.size W w') := fun W hh t => implWay_any _ ls p W hh t
            obtain ⟨ps, hps⟩ : ∃ z, z = peakL ss := ⟨_, rfl⟩
            rw [← hps] at HP2 HPK
            have HHD : Hid (∀ u W, RdI W u (wayR ls p) → Tab W → Calls Tryd.prog 11 #[.int .i64 ps, .int .i64 p, .int .i64 q, u] W fun e w' => e = .returned (.bool true) ∧ Below W.heap.size W w') := fun u W hh t => by rw [← HPK.out]; exact implHolds_any ps p q u _ W hh HI64.out t
            generalize wayR ls p = ws at HW1 HW2 HHD
            have hpp : (pk == pk) = true := by simp
            clear hpk hps
            go_wp2_with fail
            refine (HSB.out _ (Q.rl (.slice sa k sc, ss) (by simp))).mono ?_
            rintro e W1 ⟨bk, rfl, hbk, hb⟩
            replace Q := Q.below hb
            replace Q := Q.putL hbk.rd
            clear hb hbk
            go_wp2_with fail
            refine (HLK.out _ (Q.rl (.slice sa k sc, ss) (by simp))).mono ?_
            rintro e W1 ⟨rfl, hb⟩
            replace Q := Q.below hb
            clear hb
            go_wp2_with fail
            refine (likeLZ bk (.slice la i lc) ls _ (Q.rl (bk, ls) (by simp)) (Q.rl (.slice la i lc, ls) (by simp))).mono ?_
            rintro e W1 ⟨rfl, hb⟩
            replace Q := Q.below hb
            clear hb
            go_wp2_with fail
            refine (HP1.out bk _ (Q.rl (bk, ls) (by simp)) (ht.on Q.bel)).mono ?_
            rintro e W1 ⟨rfl, hb⟩
            replace Q := Q.below hb
            clear hb
            go_wp2_with fail
            refine (HP1.out (.slice la i lc) _ (Q.rl (.slice la i lc, ls) (by simp)) (ht.on Q.bel)).mono ?_
            rintro e W1 ⟨rfl, hb⟩
            replace Q := Q.below hb
            clear hb
            go_wp2_with fail
            refine (HW1.out _ (Q.rl (.slice sa k sc, ss) (by simp)) (ht.on Q.bel)).mono ?_
            rintro e W1 ⟨wa, rfl, hwa, hb⟩
            replace Q := Q.below hb
            replace Q := Q.putI hwa.rd
            clear hb hwa
            go_wp2_with fail
            refine (HW2.out _ (Q.rl (.slice la i lc, ls) (by simp)) (ht.on Q.bel)).mono ?_
            rintro e W1 ⟨wb, rfl, hwb, hb⟩
            replace Q := Q.below hb
            replace Q := Q.putI hwb.rd
            clear hb hwb
            go_wp2_with fail
            refine (likeIZ wa wb ws _ (Q.ri (wa, ws) (by simp)) (Q.ri (wb, ws) (by simp))).mono ?_
            rintro e W1 ⟨rfl, hb⟩
            replace Q := Q.below hb
            clear hb
            go_wp2_with fail
            refine (HP2.out _ (Q.rl (.slice sa k sc, ss) (by simp)) (ht.on Q.bel)).mono ?_
            rintro e W1 ⟨rfl, hb⟩
            replace Q := Q.below hb
            clear hb
            go_wp2_with fail
            refine (HW2.out _ (Q.rl (.slice la i lc, ls) (by simp)) (ht.on Q.bel)).mono ?_
            rintro e W1 ⟨wc, rfl, hwc, hb⟩
            replace Q := Q.below hb
            replace Q := Q.putI hwc.rd
            clear hb hwc
            go_wp2_with fail
            refine (HHD.out wc _ (Q.ri (wc, ws) (by simp)) (ht.on Q.bel)).mono ?_
            rintro e W1 ⟨rfl, hb⟩
            replace Q := Q.below hb
            clear hb
            have bel := Q.bel
            clear Q
            go_wp2
            go_ret
            exact ⟨rfl, bel⟩
  · have hs0 : ss = [] := by rw [HSS.out]; unfold setR; rw [if_neg hset]
    have hn0 : sn = 0 := by rw [← HSN.out, hs0]; rfl
    subst hn0
    have hno : lk = false ∨ p < 0 ∨ 255 < p ∨ q < -1 ∨ 1000000000 < q := by
      by_cases h1 : lk = false
      · exact .inl h1
      · have h2 : lefOk ls = true := by rw [← hlk]; simpa using h1
        have h3 : ¬ ((0 ≤ p ∧ p ≤ 255) ∧ (q = -1 ∨ (0 ≤ q ∧ q ≤ 1000000000))) := fun h => hset (setOk_iff.2 ⟨lefOk_iff.1 h2, h.1, h.2⟩)
        omega
    clear hset hlk hs0 HSS
    go_wp2_with fail
    refine (HOK.out _ (Q.rl (.slice la ln lc, ls) (by simp))).mono ?_
    rintro e W2 ⟨rfl, hb⟩
    replace Q := Q.below hb
    have bel := Q.bel
    clear hb HOK Q
    cases lk with
    | false =>
      go_wp2
      go_ret
      exact ⟨rfl, bel⟩
    | true =>
      by_cases n1 : p < 0
      · go_wp2
        go_ret
        exact ⟨rfl, bel⟩
      · by_cases n2 : 255 < p
        · go_wp2
          go_ret
          exact ⟨rfl, bel⟩
        · by_cases n3 : q < -1
          · go_wp2
            go_ret
            exact ⟨rfl, bel⟩
          · have n4 : 1000000000 < q := by
              rcases hno with h | h
              · cases h
              · omega
            go_wp2
            go_ret
            exact ⟨rfl, bel⟩
end Go.Proofs.YtmfopbkhlekhkaaDoor
