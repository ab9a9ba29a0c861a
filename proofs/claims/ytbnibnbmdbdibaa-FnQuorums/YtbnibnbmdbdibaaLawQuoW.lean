/- The walk of the law of quorums. -/
-- UNF Gen
import Derived.Test.YtbnibnbmdbdibaaQuoDrw
namespace Go.Proofs.Ytbnibnbmdbdibaa
open Go.RowKit
/-- The walk behind the drawn number, for each number of servers: n servers, quorum q, f of them may lie, all sets. -/
theorem bitSum (a b j : Nat) : a / 2 ^ j % 2 + b / 2 ^ j % 2 ≤ 1 + (a &&& b) / 2 ^ j % 2 := by
  have h := Nat.testBit_and a b j
  simp only [Nat.testBit_eq_decide_div_mod_eq] at h
  have ha := Nat.mod_lt (a / 2 ^ j) (show 0 < 2 by omega)
  have hb := Nat.mod_lt (b / 2 ^ j) (show 0 < 2 by omega)
  have hc := Nat.mod_lt ((a &&& b) / 2 ^ j) (show 0 < 2 by omega)
  by_cases h1 : a / 2 ^ j % 2 = 1
  · by_cases h2 : b / 2 ^ j % 2 = 1
    · simp only [h1, h2, decide_true, Bool.and_self, decide_eq_true_eq] at h
      omega
    · omega
  · omega
theorem andQ (a b : Nat) (ha : a < 4611686018427387904) (hb : b < 4611686018427387904) : bits .and .i64 (a : Int) (b : Int) = ((a &&& b : Nat) : Int) := by
  have e : bits .and .i64 (a : Int) (b : Int) = IntKind.i64.wrap ((BitVec.ofInt 64 (a : Int) &&& BitVec.ofInt 64 (b : Int)).toNat : Int) := rfl
  have h3 : a &&& b ≤ b := Nat.and_le_right
  rw [e, BitVec.ofInt_natCast, BitVec.ofInt_natCast, BitVec.toNat_and, BitVec.toNat_ofNat, BitVec.toNat_ofNat, Nat.mod_eq_of_lt (by omega), Nat.mod_eq_of_lt (by omega), IntKind.wrap_i64]
  omega
theorem modQ (k j : Nat) : ∃ _ : k / 2 ^ j % 2 < 2, ((k : Int) / 2 ^ j).tmod 2 = ((k / 2 ^ j % 2 : Nat) : Int) := by
  refine ⟨Nat.mod_lt _ (by omega), ?_⟩
  have e : (k : Int) / 2 ^ j = ((k / 2 ^ j : Nat) : Int) := by simp
  rw [e]
  rw [Int.tmod_eq_emod_of_nonneg (Int.natCast_nonneg _)]
  generalize k / 2 ^ j = q
  omega
theorem numQ {a b : Nat} (h : a + b < 4611686018427387904) : Value.int .i64 (wrap64 ((a : Int) + (b : Int))) = .int .i64 ((a + b : Nat) : Int) := by
  have e : wrap64 ((a : Int) + (b : Int)) = ((a + b : Nat) : Int) := by
    unfold wrap64
    omega
  rw [e]
set_option maxHeartbeats 4000000 in
set_option maxRecDepth 100000 in
theorem lawQuorums15 (v : Value) (bs : List UInt8) (w : World) (hr : Rd w v bs) :
    Calls Try.prog 3 #[v] w fun e w' => e = .returned (.bool true) ∧ Below w.heap.size w w' := by
  by_cases hbig : 4096 < bs.length
  · have hb2 : decide (4096 < (bs.length : Int)) = true := by simp; omega
    go_enter Try.func3, Try.ntmps3
    go_wp2_with fail
    refine (bigQ_any v bs w hr).mono ?_
    rw [hb2]
    rintro e wb ⟨rfl, hwb⟩
    obtain rfl := hwb.symm
    go_wp2
    go_ret
    exact ⟨rfl, Below.refl _ _⟩
  have hb2 : decide (4096 < (bs.length : Int)) = false := by simp; omega
  have HI : Hid (∀ q n, quoR n = q → ∀ W, Calls Try.prog 7 #[.int .i64 n] W fun e w' => e = .returned (.int .i64 q) ∧ w' = W) := fun q n h W => implQuorumZ_any q n h W
  have HS : Hid (∀ q n, quoR n = q → ∀ W, Calls Try.prog 8 #[.int .i64 n] W fun e w' => e = .returned (.int .i64 q) ∧ w' = W) := fun q n h W => specQuorumZ_any q n h W
  have HR : Hid (Rd w v bs) := hr
  have HB : Hid (bs.length ≤ 4096) := by unfold Hid; omega
  go_enter Try.func3, Try.ntmps3
  go_wp2_with fail
  refine (bigQ_any v bs w hr).mono ?_
  rw [hb2]
  rintro e wb ⟨rfl, hwb⟩
  obtain rfl := hwb.symm
  clear hb2 hbig hr
  go_wp2_with fail
  refine (drawQuorum_any v bs _ HR.out HB.out).mono ?_
  rintro e w1 ⟨n, rfl, hn, b1⟩
  by_cases h1 : n = 1 ∨ n = 4 ∨ n = 7
  · obtain ⟨sv, c, hv⟩ := HR.out.shape
    subst hv
    rcases h1 with rfl | rfl | rfl
    · go_wp2_with fail
      refine (HI.out 1 1 rfl _).mono ?_
      rintro e w2 ⟨rfl, rfl⟩
      go_wp2_with fail
      refine (HS.out 1 1 rfl _).mono ?_
      rintro e w2 ⟨rfl, rfl⟩
      clear HI HS hn
      go_wp2
      go_loop [7] (fun aa => ∃ k : Nat, k ≤ 2 ∧ aa = .int .i64 k) (fun aa => 2 - (intOf aa).toNat)
      case atStart => exact ⟨0, by omega, rfl⟩
      case round =>
        obtain ⟨k, hk, rfl⟩ := hrel
        by_cases hlt : k < 2
        · go_wp2_with fail
          refine (pickQ_any _ bs k 2 _ (HR.out.below b1) HB.out (by omega) (by omega) (by omega)).mono ?_
          rintro e w3 ⟨hw3, m, rfl, hm⟩
          obtain rfl := hw3.symm
          go_wp2
          go_loop [9, 10, 11, 12] (fun xx yy oo jj => ∃ (j x y o : Nat), j ≤ 1 ∧ jj = .int .i64 j ∧ xx = .int .i64 x ∧ yy = .int .i64 y ∧ oo = .int .i64 o ∧ x + y ≤ j + o ∧ x ≤ j ∧ y ≤ j ∧ o ≤ j) (fun _ _ _ jj => 1 - (intOf jj).toNat)
          case atStart => exact ⟨0, 0, 0, 0, by omega, rfl, rfl, rfl, rfl, by omega, by omega, by omega, by omega⟩
          case round =>
            obtain ⟨j, x, y, o, hj, rfl, rfl, rfl, rfl, hs, hx, hy, ho⟩ := hrel
            by_cases hjl : j < 1
            · have HB2 := bitSum k m j
              have eA := andQ k m (by omega) (by omega)
              go_wp2
              go_round
              case rel =>
                obtain ⟨r0, e0⟩ := modQ k j
                obtain ⟨r1, e1⟩ := modQ m j
                obtain ⟨r2, e2⟩ := modQ (k &&& m) j
                rw [e0, e1, e2]
                exact ⟨j + 1, x + k / 2 ^ j % 2, y + m / 2 ^ j % 2, o + (k &&& m) / 2 ^ j % 2, by omega, by go_num, numQ (by omega), numQ (by omega), numQ (by omega), by omega, by omega, by omega, by omega⟩
              case measure => simp [intOf]; omega
            · have hje : j = 1 := by omega
              subst hje
              by_cases c1 : (1 : Int) ≤ (x : Int)
              · by_cases c2 : (1 : Int) ≤ (y : Int)
                · have c3 : ¬ ((o : Int) ≤ 0) := by omega
                  go_wp2
                  go_round
                  case rel => exact ⟨k + 1, by omega, by go_num⟩
                  case measure => simp [intOf]; omega
                · go_wp2
                  go_round
                  case rel => exact ⟨k + 1, by omega, by go_num⟩
                  case measure => simp [intOf]; omega
              · go_wp2
                go_round
                case rel => exact ⟨k + 1, by omega, by go_num⟩
                case measure => simp [intOf]; omega
        · go_wp2
          go_ret
          exact ⟨rfl, b1⟩
    · go_wp2_with fail
      refine (HI.out 3 4 rfl _).mono ?_
      rintro e w2 ⟨rfl, rfl⟩
      go_wp2_with fail
      refine (HS.out 3 4 rfl _).mono ?_
      rintro e w2 ⟨rfl, rfl⟩
      clear HI HS hn
      go_wp2
      go_loop [7] (fun aa => ∃ k : Nat, k ≤ 16 ∧ aa = .int .i64 k) (fun aa => 16 - (intOf aa).toNat)
      case atStart => exact ⟨0, by omega, rfl⟩
      case round =>
        obtain ⟨k, hk, rfl⟩ := hrel
        by_cases hlt : k < 16
        · go_wp2_with fail
          refine (pickQ_any _ bs k 16 _ (HR.out.below b1) HB.out (by omega) (by omega) (by omega)).mono ?_
          rintro e w3 ⟨hw3, m, rfl, hm⟩
          obtain rfl := hw3.symm
          go_wp2
          go_loop [9, 10, 11, 12] (fun xx yy oo jj => ∃ (j x y o : Nat), j ≤ 4 ∧ jj = .int .i64 j ∧ xx = .int .i64 x ∧ yy = .int .i64 y ∧ oo = .int .i64 o ∧ x + y ≤ j + o ∧ x ≤ j ∧ y ≤ j ∧ o ≤ j) (fun _ _ _ jj => 4 - (intOf jj).toNat)
          case atStart => exact ⟨0, 0, 0, 0, by omega, rfl, rfl, rfl, rfl, by omega, by omega, by omega, by omega⟩
          case round =>
            obtain ⟨j, x, y, o, hj, rfl, rfl, rfl, rfl, hs, hx, hy, ho⟩ := hrel
            by_cases hjl : j < 4
            · have HB2 := bitSum k m j
              have eA := andQ k m (by omega) (by omega)
              go_wp2
              go_round
              case rel =>
                obtain ⟨r0, e0⟩ := modQ k j
                obtain ⟨r1, e1⟩ := modQ m j
                obtain ⟨r2, e2⟩ := modQ (k &&& m) j
                rw [e0, e1, e2]
                exact ⟨j + 1, x + k / 2 ^ j % 2, y + m / 2 ^ j % 2, o + (k &&& m) / 2 ^ j % 2, by omega, by go_num, numQ (by omega), numQ (by omega), numQ (by omega), by omega, by omega, by omega, by omega⟩
              case measure => simp [intOf]; omega
            · have hje : j = 4 := by omega
              subst hje
              by_cases c1 : (3 : Int) ≤ (x : Int)
              · by_cases c2 : (3 : Int) ≤ (y : Int)
                · have c3 : ¬ ((o : Int) ≤ 1) := by omega
                  go_wp2
                  go_round
                  case rel => exact ⟨k + 1, by omega, by go_num⟩
                  case measure => simp [intOf]; omega
                · go_wp2
                  go_round
                  case rel => exact ⟨k + 1, by omega, by go_num⟩
                  case measure => simp [intOf]; omega
              · go_wp2
                go_round
                case rel => exact ⟨k + 1, by omega, by go_num⟩
                case measure => simp [intOf]; omega
        · go_wp2
          go_ret
          exact ⟨rfl, b1⟩
    · go_wp2_with fail
      refine (HI.out 5 7 rfl _).mono ?_
      rintro e w2 ⟨rfl, rfl⟩
      go_wp2_with fail
      refine (HS.out 5 7 rfl _).mono ?_
      rintro e w2 ⟨rfl, rfl⟩
      clear HI HS hn
      go_wp2
      go_loop [7] (fun aa => ∃ k : Nat, k ≤ 128 ∧ aa = .int .i64 k) (fun aa => 128 - (intOf aa).toNat)
      case atStart => exact ⟨0, by omega, rfl⟩
      case round =>
        obtain ⟨k, hk, rfl⟩ := hrel
        by_cases hlt : k < 128
        · go_wp2_with fail
          refine (pickQ_any _ bs k 128 _ (HR.out.below b1) HB.out (by omega) (by omega) (by omega)).mono ?_
          rintro e w3 ⟨hw3, m, rfl, hm⟩
          obtain rfl := hw3.symm
          go_wp2
          go_loop [9, 10, 11, 12] (fun xx yy oo jj => ∃ (j x y o : Nat), j ≤ 7 ∧ jj = .int .i64 j ∧ xx = .int .i64 x ∧ yy = .int .i64 y ∧ oo = .int .i64 o ∧ x + y ≤ j + o ∧ x ≤ j ∧ y ≤ j ∧ o ≤ j) (fun _ _ _ jj => 7 - (intOf jj).toNat)
          case atStart => exact ⟨0, 0, 0, 0, by omega, rfl, rfl, rfl, rfl, by omega, by omega, by omega, by omega⟩
          case round =>
            obtain ⟨j, x, y, o, hj, rfl, rfl, rfl, rfl, hs, hx, hy, ho⟩ := hrel
            by_cases hjl : j < 7
            · have HB2 := bitSum k m j
              have eA := andQ k m (by omega) (by omega)
              go_wp2
              go_round
              case rel =>
                obtain ⟨r0, e0⟩ := modQ k j
                obtain ⟨r1, e1⟩ := modQ m j
                obtain ⟨r2, e2⟩ := modQ (k &&& m) j
                rw [e0, e1, e2]
                exact ⟨j + 1, x + k / 2 ^ j % 2, y + m / 2 ^ j % 2, o + (k &&& m) / 2 ^ j % 2, by omega, by go_num, numQ (by omega), numQ (by omega), numQ (by omega), by omega, by omega, by omega, by omega⟩
              case measure => simp [intOf]; omega
            · have hje : j = 7 := by omega
              subst hje
              by_cases c1 : (5 : Int) ≤ (x : Int)
              · by_cases c2 : (5 : Int) ≤ (y : Int)
                · have c3 : ¬ ((o : Int) ≤ 2) := by omega
                  go_wp2
                  go_round
                  case rel => exact ⟨k + 1, by omega, by go_num⟩
                  case measure => simp [intOf]; omega
                · go_wp2
                  go_round
                  case rel => exact ⟨k + 1, by omega, by go_num⟩
                  case measure => simp [intOf]; omega
              · go_wp2
                go_round
                case rel => exact ⟨k + 1, by omega, by go_num⟩
                case measure => simp [intOf]; omega
        · go_wp2
          go_ret
          exact ⟨rfl, b1⟩
  · have hq : quoR n = -1 := by unfold quoR; rw [if_neg (by omega), if_neg (by omega), if_neg (by omega)]
    have n1 : (n != 1) = true := by simp; omega
    have n4 : (n != 4) = true := by simp; omega
    have n7 : (n != 7) = true := by simp; omega
    clear h1
    go_wp2_with fail
    refine (HI.out _ _ hq _).mono ?_
    rintro e w2 ⟨rfl, rfl⟩
    go_wp2_with fail
    refine (HS.out _ _ hq _).mono ?_
    rintro e w2 ⟨rfl, rfl⟩
    go_wp2
    go_ret
    exact ⟨rfl, b1⟩
end Go.Proofs.Ytbnibnbmdbdibaa
