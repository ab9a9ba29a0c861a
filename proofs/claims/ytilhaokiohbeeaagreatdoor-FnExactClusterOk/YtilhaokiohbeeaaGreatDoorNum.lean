/- The contracts of the two Numbers: each returns a slice of its own that holds the number's bytes, and nothing that was there before has turned. -/
import Derived.Test.YtilhaokiohbeeaaGreatDoorG00
namespace Go.Proofs.YtilhaokiohbeeaaGreatDoor
open Go.RowKit

set_option maxHeartbeats 400000 in
set_option maxRecDepth 100000 in
theorem l1Number_any (n : Int) (w : World) (h0 : 0 ≤ n) (h1 : n ≤ 9223372036854775807) :
    Calls Tryz.prog 206 #[.int .i64 n] w fun e w' => ∃ v, e = .returned v ∧ Own w' w.heap.size v (enc n.toNat) ∧ Below w.heap.size w w' := by
  obtain ⟨i0, hi, hz0, hz1, hz2⟩ := info_parts Tryz.info5
  obtain ⟨n0, rfl⟩ := Int.eq_ofNat_of_zero_le h0
  rw [Int.toNat_natCast]
  have hL := enc_len9 n0 (by omega)
  go_enter Tryz.func206, Tryz.ntmps206
  go_wp2
  go_loopw [0, 3] (fun n v wr => ∃ (m : Nat) (ys : List UInt8), n = .int .i64 m ∧ m ≤ 9223372036854775807 ∧ Hid (ys ++ enc m = enc n0) ∧ Own wr w.heap.size v ys ∧ Below w.heap.size w wr) (fun n _ _ => (intOf n).toNat)
  case atStart => exact ⟨n0, [], rfl, by omega, rfl, World.ownsRow_lit w #[] 0 (Nat.le_refl _) (Nat.zero_le _) rfl, (Below.refl _ _).alloc (Nat.le_refl _) _⟩
  case round =>
    obtain ⟨m, ys, rfl, hm, he, hown, hb⟩ := hrel
    have hy : ys.length ≤ 9 := by have := congrArg List.length he.out; rw [List.length_append] at this; omega
    have hs := hb.size
    by_cases hlt : 128 ≤ m
    · go_wp2_with (at_builtin; (refine wpList_append_own _ rfl _ _ 22 rfl w.heap.size 5 i0 (.int .u8 0) 1 1 Tryz.underlying22 hi hz0 hz1 hz2 rfl (by decide) _ _ _ rfl (World.ownsRow.alloc hown _) ⟨wr.heap.size, 0, none⟩ 1 1 [.int .u8 ((m : Int) % 128 + 128)] rfl rfl ?c1 ?c2 ?c3 ?c4 ?c5 ?_))
      case c1 => exact one_new _ _ _
      case c2 => intro u hu; simp at hu; subst hu; rfl
      case c3 => unfold maxLen; omega
      case c4 => omega
      case c5 => simp; omega
      · intro v' w1 hown' hgrow _
        have R1 := own_push (UInt8.ofNat (m % 128 + 128)) (toNat_high m).symm hown'
        have R2 := push_below hown hb hs hgrow
        have R3 : Hid ((ys ++ [UInt8.ofNat (m % 128 + 128)]) ++ enc (m / 128) = enc n0) := by
          show _ = _
          rw [← he.out, enc_big m hlt]; simp
        clear hown' hgrow hown hb he
        go_wp2
        go_roundw
        case rel => exact ⟨m / 128, _, by go_num, by omega, R3, R1, R2⟩
        case measure => simp [intOf]; omega
    · go_wp2_with (at_builtin; (refine wpList_append_own _ rfl _ _ 22 rfl w.heap.size 5 i0 (.int .u8 0) 1 1 Tryz.underlying22 hi hz0 hz1 hz2 rfl (by decide) _ _ _ rfl (World.ownsRow.alloc hown _) ⟨wr.heap.size, 0, none⟩ 1 1 [.int .u8 (m : Int)] rfl rfl ?d1 ?d2 ?d3 ?d4 ?d5 ?_))
      case d1 => exact one_new _ _ _
      case d2 => intro u hu; simp at hu; subst hu; rfl
      case d3 => unfold maxLen; omega
      case d4 => omega
      case d5 => simp; omega
      · intro v' w1 hown' hgrow _
        have R1 := own_push (UInt8.ofNat m) (toNat_low m (by omega)).symm hown'
        have R2 := push_below hown hb hs hgrow
        have R3 : Hid (ys ++ [UInt8.ofNat m] = enc n0) := by
          show _ = _
          rw [← he.out, enc_small m (by omega)]
        clear hown' hgrow hown hb he
        go_wp2
        go_ret
        rw [R3.out] at R1
        exact ⟨_, rfl, R1, R2⟩
set_option maxHeartbeats 400000 in
set_option maxRecDepth 100000 in
theorem implNumber_in (n : Int) (w : World) (h0 : 0 ≤ n) (h1 : n ≤ 1099511627776) :
    Calls Tryz.prog 241 #[.int .i64 n] w fun e w' => ∃ v, e = .returned v ∧ Own w' w.heap.size v (enc n.toNat) ∧ Below w.heap.size w w' := by
  obtain ⟨i0, hi, hz0, hz1, hz2⟩ := info_parts Tryz.info5
  obtain ⟨n0, rfl⟩ := Int.eq_ofNat_of_zero_le h0
  rw [Int.toNat_natCast]
  have hL := enc_len9 n0 (by omega)
  go_enter Tryz.func241, Tryz.ntmps241
  go_wp2
  go_loopw [0, 3] (fun n v wr => ∃ (m : Nat) (ys : List UInt8), n = .int .i64 m ∧ m ≤ 1099511627776 ∧ Hid (ys ++ enc m = enc n0) ∧ Own wr w.heap.size v ys ∧ Below w.heap.size w wr) (fun n _ _ => (intOf n).toNat)
  case atStart => exact ⟨n0, [], rfl, by omega, rfl, World.ownsRow_lit w #[] 0 (Nat.le_refl _) (Nat.zero_le _) rfl, (Below.refl _ _).alloc (Nat.le_refl _) _⟩
  case round =>
    obtain ⟨m, ys, rfl, hm, he, hown, hb⟩ := hrel
    have hy : ys.length ≤ 9 := by have := congrArg List.length he.out; rw [List.length_append] at this; omega
    have hs := hb.size
    by_cases hlt : 128 ≤ m
    · go_wp2_with (at_builtin; (refine wpList_append_own _ rfl _ _ 22 rfl w.heap.size 5 i0 (.int .u8 0) 1 1 Tryz.underlying22 hi hz0 hz1 hz2 rfl (by decide) _ _ _ rfl (World.ownsRow.alloc hown _) ⟨wr.heap.size, 0, none⟩ 1 1 [.int .u8 ((m : Int) % 128 + 128)] rfl rfl ?c1 ?c2 ?c3 ?c4 ?c5 ?_))
      case c1 => exact one_new _ _ _
      case c2 => intro u hu; simp at hu; subst hu; rfl
      case c3 => unfold maxLen; omega
      case c4 => omega
      case c5 => simp; omega
      · intro v' w1 hown' hgrow _
        have R1 := own_push (UInt8.ofNat (m % 128 + 128)) (toNat_high m).symm hown'
        have R2 := push_below hown hb hs hgrow
        have R3 : Hid ((ys ++ [UInt8.ofNat (m % 128 + 128)]) ++ enc (m / 128) = enc n0) := by
          show _ = _
          rw [← he.out, enc_big m hlt]; simp
        clear hown' hgrow hown hb he
        go_wp2
        go_roundw
        case rel => exact ⟨m / 128, _, by go_num, by omega, R3, R1, R2⟩
        case measure => simp [intOf]; omega
    · go_wp2_with (at_builtin; (refine wpList_append_own _ rfl _ _ 22 rfl w.heap.size 5 i0 (.int .u8 0) 1 1 Tryz.underlying22 hi hz0 hz1 hz2 rfl (by decide) _ _ _ rfl (World.ownsRow.alloc hown _) ⟨wr.heap.size, 0, none⟩ 1 1 [.int .u8 (m : Int)] rfl rfl ?d1 ?d2 ?d3 ?d4 ?d5 ?_))
      case d1 => exact one_new _ _ _
      case d2 => intro u hu; simp at hu; subst hu; rfl
      case d3 => unfold maxLen; omega
      case d4 => omega
      case d5 => simp; omega
      · intro v' w1 hown' hgrow _
        have R1 := own_push (UInt8.ofNat m) (toNat_low m (by omega)).symm hown'
        have R2 := push_below hown hb hs hgrow
        have R3 : Hid (ys ++ [UInt8.ofNat m] = enc n0) := by
          show _ = _
          rw [← he.out, enc_small m (by omega)]
        clear hown' hgrow hown hb he
        go_wp2
        go_ret
        rw [R3.out] at R1
        exact ⟨_, rfl, R1, R2⟩

theorem num_out (n : Int) (h : n < 0 ∨ 1099511627776 < n) : num n = [] := by unfold num; rw [if_neg (by omega)]
theorem num_in (n : Int) (h0 : 0 ≤ n) (h1 : n ≤ 1099511627776) : num n = enc n.toNat := by unfold num; rw [if_pos ⟨h0, h1⟩]
set_option maxHeartbeats 400000 in
set_option maxRecDepth 100000 in
theorem implNumber_out (n : Int) (w : World) (h : n < 0 ∨ 1099511627776 < n) :
    Calls Tryz.prog 241 #[.int .i64 n] w fun e w' => ∃ v, e = .returned v ∧ Own w' w.heap.size v [] ∧ Below w.heap.size w w' := by
  rcases h with h | h
  · go_enter Tryz.func241, Tryz.ntmps241
    go_wp2
    go_ret
    exact ⟨_, rfl, own_none w, (Below.refl _ _).alloc (Nat.le_refl _) _⟩
  · have h' : ¬ n < 0 := by omega
    go_enter Tryz.func241, Tryz.ntmps241
    go_wp2
    go_ret
    exact ⟨_, rfl, own_none w, (Below.refl _ _).alloc (Nat.le_refl _) _⟩
theorem implNumber_any (n : Int) (w : World) :
    Calls Tryz.prog 241 #[.int .i64 n] w fun e w' => ∃ v, e = .returned v ∧ Own w' w.heap.size v (num n) ∧ Below w.heap.size w w' := by
  by_cases h : 0 ≤ n ∧ n ≤ 1099511627776
  · rw [num_in n h.1 h.2]; exact implNumber_in n w h.1 h.2
  · rw [num_out n (by omega)]; exact implNumber_out n w (by omega)
set_option maxHeartbeats 400000 in
set_option maxRecDepth 100000 in
theorem l1In_num (x lo hi : Int) (w : World) :
    Calls Tryz.prog 74 #[.int .i64 x, .int .i64 lo, .int .i64 hi] w fun e w' => e = .returned (.bool (decide (lo ≤ x) && decide (x ≤ hi))) ∧ w' = w := by
  by_cases h : lo ≤ x
  · by_cases h2 : x ≤ hi
    · go_enter Tryz.func74, Tryz.ntmps74
      go_wp2
      go_ret
      exact ⟨by simp [h, h2], rfl⟩
    · have e2 : decide (x ≤ hi) = false := by simpa using h2
      go_enter Tryz.func74, Tryz.ntmps74
      go_wp2
      go_ret
      exact ⟨rfl, rfl⟩
  · have e1 : decide (lo ≤ x) = false := by simpa using h
    have h3 : x < lo := by omega
    clear h
    go_enter Tryz.func74, Tryz.ntmps74
    go_wp2
    go_ret
    exact ⟨by rw [e1]; rfl, rfl⟩
end Go.Proofs.YtilhaokiohbeeaaGreatDoor
