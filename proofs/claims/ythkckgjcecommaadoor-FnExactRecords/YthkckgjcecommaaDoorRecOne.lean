/- The contracts of both Records of one text, of isDigit and of strings.Clone. -/
import Derived.Test.YthkckgjcecommaaDoorRecMath
namespace Go.Proofs.YthkckgjcecommaaDoor
open Go.RowKit
theorem itoa_any (n : Int) (w : World) (h0 : -9223372036854775808 ≤ n) (h1 : n ≤ 9223372036854775807) (ht : Tab w) :
    Calls Tryd.prog 14 #[.int .i64 n] w fun e w' => e = .returned (.string (itoaS n)) ∧ Below w.heap.size w w' := by
  refine (Tryd.strconv_Itoa n h0 h1 w ht).mono ?_
  rintro e w' ⟨rfl, k, os, rfl⟩
  exact ⟨rfl, Lib.below_grow _ w (Nat.le_refl _) k os⟩
set_option maxHeartbeats 400000 in
theorem clone_any (s : ByteArray) (w : World) (hs : s.size ≤ 281474976710656) :
    Calls Tryd.prog 27 #[.string s] w fun e w' => e = .returned (.string s) ∧ Below w.heap.size w w' := by
  go_enter Tryd.func27, Tryd.ntmps27
  go_wp2_with fail
  refine (Tryd.stringslite_Clone s _ hs).mono ?_
  rintro e w1 ⟨rfl, b1⟩
  go_wp2
  go_ret
  exact ⟨rfl, b1⟩
set_option maxHeartbeats 400000 in
theorem isDigit_any (b : UInt8) (w : World) :
    Calls Tryd.prog 26 #[.int .u8 (b.toNat : Int)] w fun e w' => e = .returned (.bool (decide (48 ≤ b.toNat) && decide (b.toNat ≤ 57))) ∧ w' = w := by
  by_cases h1 : 48 ≤ b.toNat
  · have c1 : (48 : Int) ≤ (b.toNat : Int) := by omega
    by_cases h2 : b.toNat ≤ 57
    · have c2 : (b.toNat : Int) ≤ 57 := by omega
      go_enter Tryd.func26, Tryd.ntmps26
      go_wp2
      go_ret
      exact ⟨by simp [h1, h2], rfl⟩
    · have c2 : ¬ (b.toNat : Int) ≤ 57 := by omega
      go_enter Tryd.func26, Tryd.ntmps26
      go_wp2
      go_ret
      exact ⟨rfl, rfl⟩
  · have c1 : ¬ (48 : Int) ≤ (b.toNat : Int) := by omega
    go_enter Tryd.func26, Tryd.ntmps26
    go_wp2
    go_ret
    exact ⟨rfl, rfl⟩
theorem recS_in {t : ByteArray} (h : t.size ≤ 3000) : recS t = recT t := by unfold recS; rw [if_pos h]
theorem recS_out {t : ByteArray} (h : 3000 < t.size) : recS t = ⟨#[]⟩ := by unfold recS; rw [if_neg (by omega)]
set_option maxHeartbeats 1000000 in
set_option maxRecDepth 100000 in
theorem specRecord_any (t : ByteArray) (w : World) (ht : t.size ≤ 1099511627776) :
    Calls Tryd.prog 5 #[.string t] w fun e w' => e = .returned (.string (recS t)) ∧ Below w.heap.size w w' := by
  by_cases h : 3000 < t.size
  · rw [recS_out h]
    go_enter Tryd.func5, Tryd.ntmps5
    go_wp2
    go_ret
    exact ⟨rfl, Below.refl _ _⟩
  · rw [recS_in (by omega)]
    have HT : Hid (recT t = itoaS (t.size : Int) ++ blankB ++ itoaS (dig 1 t.data.toList : Int) ++ lfB ++ t ++ lfB) := rfl
    have HD : Hid (dig 1 t.data.toList < 2147483647) := dig_lt' 1 _ (by decide)
    have hsa := itoaS_size (t.size : Int) (by omega) (by omega)
    go_enter Tryd.func5, Tryd.ntmps5
    go_wp2_with fail
    refine (l2Int_any (t.size : Int) _ (by omega) (by omega)).mono ?_
    rintro e w1 ⟨rfl, b1⟩
    go_wp2_with fail
    refine (specDigest_any t _ ht).mono ?_
    obtain ⟨D, hD⟩ : ∃ D, D = dig 1 t.data.toList := ⟨_, rfl⟩
    rw [← hD]
    have HE : Hid (D = dig 1 t.data.toList) := hD
    have hlt : D < 2147483647 := by rw [hD]; exact HD.out
    clear hD
    rintro e w2 ⟨rfl, hw2⟩
    obtain rfl := hw2.symm
    go_wp2_with fail
    refine (l2Int_any (D : Int) _ (by omega) (by omega)).mono ?_
    rintro e w3 ⟨rfl, b3⟩
    have hsb := itoaS_size (D : Int) (by omega) (by omega)
    have bb := b1.trans (b3.mono b1.size)
    clear b1 b3
    go_wp2
    go_ret
    exact ⟨by rw [HT.out, HE.out]; rfl, bb⟩
set_option maxHeartbeats 1000000 in
set_option maxRecDepth 100000 in
theorem implRecord_any (t : ByteArray) (w : World) (ht : t.size ≤ 1099511627776) (hT : Tab w) :
    Calls Tryd.prog 6 #[.string t] w fun e w' => e = .returned (.string (recS t)) ∧ Below w.heap.size w w' := by
  by_cases h : 3000 < t.size
  · rw [recS_out h]
    clear hT
    go_enter Tryd.func6, Tryd.ntmps6
    go_wp2
    go_ret
    exact ⟨rfl, Below.refl _ _⟩
  · rw [recS_in (by omega)]
    have HT : Hid (recT t = itoaS (t.size : Int) ++ blankB ++ itoaS (dig 1 t.data.toList : Int) ++ lfB ++ t ++ lfB) := rfl
    have HD : Hid (dig 1 t.data.toList < 2147483647) := dig_lt' 1 _ (by decide)
    have hsa := itoaS_size (t.size : Int) (by omega) (by omega)
    go_enter Tryd.func6, Tryd.ntmps6
    go_wp2_with fail
    refine (itoa_any (t.size : Int) _ (by omega) (by omega) hT).mono ?_
    rintro e w1 ⟨rfl, b1⟩
    have hT1 := hT.on b1
    go_wp2_with fail
    refine (implDigest_any t _ ht).mono ?_
    obtain ⟨D, hD⟩ : ∃ D, D = dig 1 t.data.toList := ⟨_, rfl⟩
    rw [← hD]
    have HE : Hid (D = dig 1 t.data.toList) := hD
    have hlt : D < 2147483647 := by rw [hD]; exact HD.out
    clear hD
    rintro e w2 ⟨rfl, b2⟩
    have hT2 := hT1.on b2
    go_wp2_with fail
    refine (fmt_any (D : Int) _ (by omega) (by omega) hT2).mono ?_
    rintro e w3 ⟨rfl, b3⟩
    have hsb := itoaS_size (D : Int) (by omega) (by omega)
    have b12 := b1.trans (b2.mono b1.size)
    have bb := b12.trans (b3.mono b12.size)
    clear b1 b2 b3 b12 hT hT1 hT2
    go_wp2
    go_ret
    exact ⟨by rw [HT.out, HE.out]; rfl, bb⟩
set_option maxHeartbeats 1000000 in
set_option maxRecDepth 100000 in
theorem number_zero (w : World) :
    Calls Tryd.prog 24 #[.string ⟨#[48]⟩] w fun e w' => e = .returned (.tuple #[.int .i64 0, .bool true]) ∧ w' = w := by
  obtain ⟨s, hs⟩ : ∃ s : ByteArray, s = ⟨#[48]⟩ := ⟨_, rfl⟩
  have hz : s.size = 1 := by rw [hs]; rfl
  have h0 : ∀ h : 0 < s.size, s[0].toNat = 48 := by subst hs; intro _; rfl
  rw [← hs]
  clear hs
  have hp : 0 < s.size := by omega
  have hc := h0 hp
  have hne := toList_ne hp
  have hq : ((s[0].toNat : Int) == 45) = false := by simp only [beq_eq_false_iff_ne]; omega
  have hz2 : ((s[0].toNat : Int) == 48) = true := by simp only [beq_iff_eq]; omega
  have c1 : ¬ ((s.size : Int) - 0 < 1) := by omega
  have c2 : ¬ (10 < (s.size : Int) - 0) := by omega
  have c3 : ¬ (1 < (s.size : Int)) := by omega
  have HC : Hid (s[0].toNat = 48) := hc
  have HZ : Hid (s.size = 1) := hz
  clear h0 hc hz
  go_enter Tryd.func24, Tryd.ntmps24
  go_wp2
  clear c1 c2 hq
  go_loop [6, 7] (fun nn kk => ∃ k : Nat, k ≤ s.size ∧ kk = .int .i64 k ∧ nn = .int .i64 0) (fun _ kk => s.size - (intOf kk).toNat)
  case atStart => exact ⟨0, Nat.zero_le _, rfl, rfl⟩
  case round =>
    obtain ⟨k, hk2, rfl, rfl⟩ := hrel
    by_cases hlt : k < s.size
    · have hk0 : k = 0 := by have := HZ.out; omega
      subst hk0
      have d1 : ¬ (s[0].toNat : Int) < 48 := by have := HC.out; omega
      have d2 : ¬ 57 < (s[0].toNat : Int) := by have := HC.out; omega
      have d3 : (s[0].toNat : Int) - 48 = 0 := by have := HC.out; omega
      go_wp2
      go_round
      case rel => exact ⟨0 + 1, by omega, by go_num, by go_num⟩
      case measure => simp [intOf]; omega
    · go_wp2
      go_ret2
      exact ⟨rfl, rfl⟩
end Go.Proofs.YthkckgjcecommaaDoor
