/- The contracts of the search for a place among Leafs, and of the piece of them between two places. -/
-- UNF Gen
import Derived.Test.YtmfopbkhlekhkaaDoorLefMath
namespace Go.Proofs.YtmfopbkhlekhkaaDoor
open Go.RowKit
def cmpL (a b : Int) : Int := if a < b then -1 else if b < a then 1 else 0
theorem cmpL_lt (a b : Int) : (decide (cmpL a b < 0)) = decide (a < b) := by unfold cmpL; rw [Bool.eq_iff_iff]; split <;> (try split) <;> simp <;> omega
theorem cmpL_eq (a b : Int) : (cmpL a b == 0) = decide (a = b) := by unfold cmpL; rw [Bool.eq_iff_iff]; split <;> (try split) <;> simp <;> omega
theorem isNaNL_any (s : Int) (w : World) : Calls Tryd.prog 79 #[.int .i64 s] w fun e w' => e = .returned (.bool false) ∧ w' = w := by
  go_enter Tryd.func79, Tryd.ntmps79
  go_wp2
  go_ret
  exact ⟨by simp, rfl⟩
set_option maxHeartbeats 400000 in
theorem cmpIntL_any (a b : Int) (w : World) : Calls Tryd.prog 66 #[.int .i64 a, .int .i64 b] w fun e w' => e = .returned (.int .i64 (cmpL a b)) ∧ w' = w := by
  go_enter Tryd.func66, Tryd.ntmps66
  go_wp2_with (go_at_call 79; refine (isNaNL_any _ _).mono ?_; rintro e w' ⟨rfl, rfl⟩)
  all_goals go_ret
  all_goals exact ⟨ret_intE (by unfold cmpL; first | rw [if_pos ‹_›] | (rw [if_neg (by omega)]; first | rw [if_pos ‹_›] | rw [if_neg (by omega)])), rfl⟩
set_option maxHeartbeats 400000 in
set_option maxRecDepth 100000 in
theorem order_any (x : Lef) (p : Int) (w : World) : Calls Tryd.prog 65 #[.agg #[.int .i64 x.pl, .int .i64 x.va], .int .i64 p] w fun e w' => e = .returned (.int .i64 (cmpL x.pl p)) ∧ Below w.heap.size w w' := by
  go_enter Tryd.func65, Tryd.ntmps65
  go_wp2_with (go_at_call 66; refine (cmpIntL_any _ _ _).mono ?_; rintro e w' ⟨rfl, rfl⟩)
  go_ret
  exact ⟨rfl, below1 _ _⟩
set_option maxHeartbeats 4000000 in
set_option maxRecDepth 100000 in
theorem searchL_any (v : Value) (es : List Lef) (p : Int) (w : World) (hr : RdL w v es) (hok : LefOk es) :
    Calls Tryd.prog 64 #[v, .int .i64 p, .func (.func 65) #[] #[]] w fun e w' =>
      e = .returned (.tuple #[.int .i64 (atL es p : Nat), .bool (hasL es p)]) ∧ Below w.heap.size w w' := by
  obtain ⟨a, cap, hv, hl, hm, _⟩ := id hr
  unfold maxLen at hm
  subst hv
  have hlen := lef_len hok
  have HK : Hid (LefOk es) := hok
  clear hok
  go_enter Tryd.func64, Tryd.ntmps64
  go_wp2
  go_loopw [9, 10] (fun s9 s10 wr => ∃ lo hi : Nat, s9 = .int .i64 lo ∧ s10 = .int .i64 hi ∧ lo ≤ hi ∧ hi ≤ es.length ∧ Hid (lo ≤ atL es p ∧ atL es p ≤ hi) ∧ Below w.heap.size w wr) (fun s9 s10 _ => (intOf s10).toNat - (intOf s9).toNat)
  case atStart => exact ⟨0, es.length, rfl, rfl, Nat.zero_le _, Nat.le_refl _, ⟨Nat.zero_le _, atL_le es p⟩, Below.refl _ _⟩
  case round =>
    obtain ⟨lo, hi, rfl, rfl, hlh, hin, HA, hb⟩ := hrel
    by_cases hlt : lo < hi
    · obtain ⟨m, hm2⟩ : ∃ m, m = (lo + hi) / 2 := ⟨_, rfl⟩
      have hml : m < es.length := by omega
      have HM : Hid (m = (lo + hi) / 2) := hm2
      obtain ⟨b, off, rfl, hc⟩ := (hr.below hb).at rfl m hml
      obtain ⟨y, hy⟩ : ∃ y, y = nthL es m := ⟨_, rfl⟩
      rw [← hy] at hc
      have HY : Hid (y = nthL es m) := hy
      clear hy
      obtain ⟨c0, c1⟩ := hc
      have hmid : ((lo : Int) + (hi : Int)) / 2 = (m : Int) := by omega
      by_cases hah : y.pl < p
      · have hor : decide (cmpL y.pl p < 0) = true := by rw [cmpL_lt]; exact decide_eq_true hah
        have hor2 : cmpL y.pl p < 0 := of_decide_eq_true hor
        have HA2 : Hid (m + 1 ≤ atL es p ∧ atL es p ≤ hi) := by
          refine ⟨?_, HA.out.2⟩
          rcases Nat.lt_or_ge m (atL es p) with h | h
          · exact h
          · have := atL_hi HK.out p h hml
            rw [← HY.out] at this; omega
        clear hm2
        go_wp2_with fail
        refine (order_any y p _).mono ?_
        rintro e w' ⟨rfl, hb'⟩
        have bz := hb.trans (hb'.mono hb.size)
        go_wp2
        go_roundw
        case rel => exact ⟨m + 1, hi, by go_num, rfl, by have := HM.out; omega, hin, HA2, bz⟩
        case measure => have := HM.out; simp [intOf]; omega
      · have hor : decide (cmpL y.pl p < 0) = false := by rw [cmpL_lt]; exact decide_eq_false hah
        have hor2 : ¬ cmpL y.pl p < 0 := of_decide_eq_false hor
        have HA2 : Hid (lo ≤ atL es p ∧ atL es p ≤ m) := by
          refine ⟨HA.out.1, ?_⟩
          rcases Nat.lt_or_ge m (atL es p) with h | h
          · have := atL_lo es p h
            rw [← HY.out] at this; omega
          · exact h
        clear hm2
        go_wp2_with fail
        refine (order_any y p _).mono ?_
        rintro e w' ⟨rfl, hb'⟩
        have bz := hb.trans (hb'.mono hb.size)
        go_wp2
        go_roundw
        case rel => exact ⟨lo, m, rfl, rfl, by have := HM.out; omega, by omega, HA2, bz⟩
        case measure => have := HM.out; simp [intOf]; omega
    · obtain rfl : hi = lo := by omega
      have HP : Hid (atL es p = hi) := by have := HA.out; unfold Hid; omega
      by_cases hpn : hi < es.length
      · obtain ⟨b, off, rfl, hc⟩ := (hr.below hb).at rfl hi hpn
        obtain ⟨y, hy⟩ : ∃ y, y = nthL es hi := ⟨_, rfl⟩
        rw [← hy] at hc
        have HR : Hid (hasL es p = (cmpL y.pl p == 0)) := by
          unfold Hid hasL
          rw [HP.out, decide_eq_true hpn, Bool.true_and, cmpL_eq, hy]
        obtain ⟨c0, c1⟩ := hc
        have hkl : decide (hi < es.length) = true := by simpa using hpn
        clear hy
        go_wp2_with fail
        refine (order_any y p _).mono ?_
        rintro e w' ⟨rfl, hb'⟩
        have bz := hb.trans (hb'.mono hb.size)
        go_wp2
        go_ret2
        exact ⟨by rw [HP.out, HR.out]; rfl, bz⟩
      · have HR : Hid (hasL es p = false) := by
          unfold Hid hasL
          rw [HP.out, decide_eq_false hpn]; rfl
        have hkl : decide (hi < es.length) = false := by simpa using hpn
        go_wp2
        go_ret2
        exact ⟨by rw [HP.out, HR.out]; rfl, hb⟩
set_option maxHeartbeats 1000000 in
set_option maxRecDepth 100000 in
theorem leafPlace_any (v : Value) (es : List Lef) (p : Int) (w : World) (hr : RdL w v es) (hok : LefOk es) :
    Calls Tryd.prog 40 #[v, .int .i64 p] w fun e w' => e = .returned (.tuple #[.int .i64 (atL es p : Nat), .bool (hasL es p)]) ∧ Below w.heap.size w w' := by
  go_enter Tryd.func40, Tryd.ntmps40
  go_wp2_with fail
  refine (searchL_any v es p _ hr hok).mono ?_
  rintro e w1 ⟨rfl, hb1⟩
  go_wp2
  go_ret2
  exact ⟨rfl, hb1⟩
end Go.Proofs.YtmfopbkhlekhkaaDoor
