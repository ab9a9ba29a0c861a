/- The decimal digits of a number: the contract of the model's writer. -/
import Derived.Test.YtilhaokiohbeeabGreatDoorAid
import Derived.Lib.ItoaNum
import Derived.Lib.ItoaLen
import Derived.Lib.AppendIntMem
namespace Go.Proofs.YtilhaokiohbeeabGreatDoor
open Go.RowKit
/-- A number in decimal digits, as a text. -/
def itoaS (n : Int) : ByteArray := ⟨(Lib.itoa n).toArray⟩
/-- The digits that are still to be written, of u: none of 0. -/
def left (u : Nat) : List UInt8 := if u = 0 then [] else Lib.decDigits u
theorem dec_left (u : Nat) : Lib.decDigits u = left (u / 10) ++ [UInt8.ofNat (48 + u % 10)] := by
  unfold left
  by_cases h : u < 10
  · rw [if_pos (by omega), Lib.decDigits, dif_pos h, Nat.mod_eq_of_lt h]; rfl
  · rw [if_neg (by omega), Lib.decDigits, dif_neg h]
def sizeV : Value → Nat
  | .string s => s.size
  | _ => 0
theorem left_step (u : Nat) (h : 0 < u) : left u = left (u / 10) ++ [UInt8.ofNat (48 + u % 10)] := by
  rw [← dec_left, left, if_neg (by omega)]
theorem dec_len (n : Nat) (h : n ≤ 9223372036854775808) : (Lib.decDigits n).length ≤ 21 := by
  by_cases h0 : n = 0
  · subst h0; rw [Lib.decDigits_length, Lib.nDigits_small (by omega)]; omega
  · have := Lib.itoa_length_le (-(n : Int)) (by omega) (by omega)
    rw [Lib.itoa_neg n (by omega), List.length_cons] at this
    omega
/-- What is still to be written, where ys is written. -/
def todo (u : Nat) (ys : List UInt8) : List UInt8 := if ys = [] then Lib.decDigits u else left u ++ ys
theorem todo_step (u : Nat) (ys : List UInt8) (h : ys = [] ∨ 0 < u) : todo u ys = left (u / 10) ++ (UInt8.ofNat (48 + u % 10) :: ys) := by
  unfold todo
  by_cases hy : ys = []
  · rw [if_pos hy, dec_left, hy]
  · rw [if_neg hy, left_step u (by rcases h with h | h; exact absurd h hy; exact h), List.append_assoc]; rfl
theorem todo_len (u : Nat) (ys : List UInt8) : ys.length ≤ (todo u ys).length := by
  unfold todo
  by_cases hy : ys = []
  · rw [if_pos hy, hy]; simp
  · rw [if_neg hy, List.length_append]; omega
set_option maxHeartbeats 400000 in
set_option maxRecDepth 100000 in
theorem l2Int_pos (n : Nat) (w : World) (h1 : n ≤ 9223372036854775807) :
    Calls Tryz.prog 201 #[.int .i64 n] w fun e w' => e = .returned (.string ⟨(Lib.decDigits n).toArray⟩) ∧ Below w.heap.size w w' := by
  have hL := dec_len n (by omega)
  generalize hR : Lib.decDigits n = R at hL
  have HR : Hid (Lib.decDigits n = R) := hR
  clear hR
  go_enter Tryz.func201, Tryz.ntmps201
  go_wp2
  go_loopw [0, 3, 5] (fun nn v _ wr => ∃ (u : Nat) (ys : List UInt8), nn = .int .i64 u ∧ u ≤ 9223372036854775807 ∧ v = .string ⟨ys.toArray⟩ ∧ Hid (todo u ys = R) ∧ Below w.heap.size w wr) (fun nn v _ _ => 2 * (intOf nn).toNat + (1 - sizeV v))
  case atStart => exact ⟨n, [], rfl, h1, rfl, HR.out, Below.refl _ _⟩
  case round =>
    obtain ⟨u, ys, rfl, hu, rfl, he, hb⟩ := hrel
    have hs := hb.size
    have hyl := todo_len u ys
    rw [he.out] at hyl
    have hcv := conv_one wr (UInt8.ofNat (48 + u % 10)) (48 + (u : Int) % 10) (dig_toNat u)
    by_cases hgo : ys = [] ∨ 0 < u
    · have hstep := todo_step u ys hgo
      generalize hd : UInt8.ofNat (48 + u % 10) = d at hcv hstep
      have hadd : ∀ w', (Op.stringOp .add ⟨#[d]⟩ ⟨ys.toArray⟩).run Tryz.prog w' = .ok (.string ⟨(d :: ys).toArray⟩) w' := fun w' => run_string_add_lists w' [d] ys (by simp) (by omega)
      have HE : Hid (todo (u / 10) (d :: ys) = R) := by
        show _ = _
        rw [← he.out, hstep]
        unfold todo
        rw [if_neg (by simp)]
      have R2 : Below w.heap.size w (wr.alloc (.cells #[.int .u8 (48 + (u : Int) % 10)] 5)) := hb.alloc hs _
      clear hd he hb hstep HR hL hyl
      by_cases hy : ys = []
      · subst hy
        go_wp2
        go_roundw
        case rel => exact ⟨u / 10, [d], by go_num, by omega, rfl, HE, R2⟩
        case measure => simp [intOf, sizeV, ByteArray.size]; omega
      · have hie : ys.isEmpty = false := by simpa using hy
        have hu0 : ((u : Int) != 0) = true := by simp; rcases hgo with h | h; exact absurd h hy; omega
        have hu1 : 0 < u := by rcases hgo with h | h; exact absurd h hy; exact h
        clear hgo
        go_wp2
        go_roundw
        case rel => exact ⟨u / 10, d :: ys, by go_num, by omega, by simp, HE, R2⟩
        case measure => simp [intOf, sizeV, ByteArray.size]; omega
    · have hy : ys ≠ [] := fun h => hgo (.inl h)
      have hu1 : u = 0 := by omega
      subst hu1
      have hie : ys.isEmpty = false := by simpa using hy
      have hu0 : (((0 : Nat) : Int) != 0) = false := by simp
      have HE : Hid (ys = R) := by
        show _ = _
        rw [← he.out]
        unfold todo left
        rw [if_neg hy]; simp
      clear he hgo hcv
      go_wp2
      go_ret
      exact ⟨by rw [HE.out]; rfl, hb⟩
set_option maxHeartbeats 400000 in
set_option maxRecDepth 100000 in
theorem l2Int_neg (n : Nat) (w : World) (h0 : 0 < n) (h1 : n ≤ 9223372036854775808) :
    Calls Tryz.prog 201 #[.int .i64 (-(n : Int))] w fun e w' => e = .returned (.string ⟨(45 :: Lib.decDigits n).toArray⟩) ∧ Below w.heap.size w w' := by
  have hL := dec_len n (by omega)
  generalize hR : Lib.decDigits n = R at hL
  have HR : Hid (Lib.decDigits n = R) := hR
  clear hR
  go_enter Tryz.func201, Tryz.ntmps201
  go_wp2
  go_loopw [0, 3, 5] (fun nn v _ wr => ∃ (u : Nat) (ys : List UInt8), nn = .int .i64 (-(u : Int)) ∧ u ≤ 9223372036854775808 ∧ v = .string ⟨ys.toArray⟩ ∧ Hid (todo u ys = R) ∧ Below w.heap.size w wr) (fun nn v _ _ => 2 * (intOf nn).natAbs + (1 - sizeV v))
  case atStart => exact ⟨n, [], rfl, h1, rfl, HR.out, Below.refl _ _⟩
  case round =>
    obtain ⟨u, ys, rfl, hu, rfl, he, hb⟩ := hrel
    have hs := hb.size
    have hyl := todo_len u ys
    rw [he.out] at hyl
    obtain ⟨x, hx, hxz⟩ : ∃ x : Int, ((UInt8.ofNat (48 + u % 10)).toNat : Int) = x ∧ x = (if 0 < (u : Int) % 10 then 48 + (u : Int) % 10 else 48 + -((u : Int) % 10)) := by
      refine ⟨_, rfl, ?_⟩
      rw [dig_toNat]
      split <;> omega
    have hcv := conv_one wr (UInt8.ofNat (48 + u % 10)) x hx
    by_cases hgo : ys = [] ∨ 0 < u
    · have hstep := todo_step u ys hgo
      generalize hd : UInt8.ofNat (48 + u % 10) = d at hcv hstep
      have hadd : ∀ w', (Op.stringOp .add ⟨#[d]⟩ ⟨ys.toArray⟩).run Tryz.prog w' = .ok (.string ⟨(d :: ys).toArray⟩) w' := fun w' => run_string_add_lists w' [d] ys (by simp) (by omega)
      have HE : Hid (todo (u / 10) (d :: ys) = R) := by
        show _ = _
        rw [← he.out, hstep]
        unfold todo
        rw [if_neg (by simp)]
      have R2 : Below w.heap.size w (wr.alloc (.cells #[.int .u8 x] 5)) := hb.alloc hs _
      clear hd he hb hstep HR hL hyl hx
      by_cases hz : 0 < (u : Int) % 10
      · rw [if_pos hz] at hxz
        subst hxz
        by_cases hy : ys = []
        · subst hy
          go_wp2
          go_roundw
          case rel => exact ⟨u / 10, [d], by go_num, by omega, rfl, HE, R2⟩
          case measure => simp [intOf, sizeV, ByteArray.size]; omega
        · have hie : ys.isEmpty = false := by simpa using hy
          have hu0 : ((-(u : Int)) != 0) = true := by simp; rcases hgo with h | h; exact absurd h hy; omega
          have hu1 : 0 < u := by rcases hgo with h | h; exact absurd h hy; exact h
          clear hgo
          go_wp2
          go_roundw
          case rel => exact ⟨u / 10, d :: ys, by go_num, by omega, by simp, HE, R2⟩
          case measure => simp [intOf, sizeV, ByteArray.size]; omega
      · rw [if_neg hz] at hxz
        subst hxz
        by_cases hy : ys = []
        · subst hy
          go_wp2
          go_roundw
          case rel => exact ⟨u / 10, [d], by go_num, by omega, rfl, HE, R2⟩
          case measure => simp [intOf, sizeV, ByteArray.size]; omega
        · have hie : ys.isEmpty = false := by simpa using hy
          have hu0 : ((-(u : Int)) != 0) = true := by simp; rcases hgo with h | h; exact absurd h hy; omega
          have hu1 : 0 < u := by rcases hgo with h | h; exact absurd h hy; exact h
          clear hgo
          go_wp2
          go_roundw
          case rel => exact ⟨u / 10, d :: ys, by go_num, by omega, by simp, HE, R2⟩
          case measure => simp [intOf, sizeV, ByteArray.size]; omega
    · have hy : ys ≠ [] := fun h => hgo (.inl h)
      have hu1 : u = 0 := by omega
      subst hu1
      have hie : ys.isEmpty = false := by simpa using hy
      have hu0 : ((-((0 : Nat) : Int)) != 0) = false := by simp
      have hadd : ∀ w', (Op.stringOp .add ⟨#[45]⟩ ⟨ys.toArray⟩).run Tryz.prog w' = .ok (.string ⟨((45 : UInt8) :: ys).toArray⟩) w' := fun w' => run_string_add_lists w' [45] ys (by simp) (by omega)
      have HE : Hid (ys = R) := by
        show _ = _
        rw [← he.out]
        unfold todo left
        rw [if_neg hy]; simp
      clear he hgo hcv hx hxz
      go_wp2
      go_ret
      exact ⟨by rw [HE.out]; rfl, hb⟩
theorem l2Int_any (n : Int) (w : World) (h0 : -9223372036854775808 ≤ n) (h1 : n ≤ 9223372036854775807) :
    Calls Tryz.prog 201 #[.int .i64 n] w fun e w' => e = .returned (.string (itoaS n)) ∧ Below w.heap.size w w' := by
  by_cases hn : n < 0
  · obtain ⟨u, rfl⟩ : ∃ u : Nat, n = -(u : Int) := ⟨n.natAbs, by omega⟩
    refine (l2Int_neg u w (by omega) (by omega)).mono ?_
    rintro e w' ⟨rfl, hb⟩
    exact ⟨by unfold itoaS; rw [Lib.itoa_neg u (by omega)], hb⟩
  · obtain ⟨u, rfl⟩ := Int.eq_ofNat_of_zero_le (show 0 ≤ n by omega)
    refine (l2Int_pos u w (by omega)).mono ?_
    rintro e w' ⟨rfl, hb⟩
    exact ⟨by unfold itoaS; rw [Lib.itoa_nonneg], hb⟩
end Go.Proofs.YtilhaokiohbeeabGreatDoor
