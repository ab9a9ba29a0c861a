/- The decimal digits of a number: the contract of the model's writer. -/
import Derived.Test.YtckkiamaldfoiaaDoorAid
import Derived.Lib.ItoaNum
import Derived.Lib.ItoaLen
import Derived.Lib.AppendIntMem
namespace Go.Proofs.YtckkiamaldfoiaaDoor
open Go.RowKit
/-- A number in decimal digits, as a text. -/
def itoaS (n : Int) : ByteArray := ⟨(Lib.itoa n).toArray⟩
/-- The digits that are still to be written, of u: none of 0. -/
def left (u : Nat) : List UInt8 := if u = 0 then [] else Lib.decDigits u
theorem dec_left (u : Nat) : Lib.decDigits u = left (u / 10) ++ [UInt8.ofNat (48 + u % 10)] := by
  unfold left
  by_cases h : u < 10
  · rw [if_pos (by omega), Lib.decDigits, dif_pos h, Nat.mod_eq_of_lt h]; rfl
  · rw [if_neg (by omega), Lib.decDigits, dif_neg h]
def sizeV : Value → Nat
  | .string s => s.size
  | _ => 0
theorem left_step (u : Nat) (h : 0 < u) : left u = left (u / 10) ++ [UInt8.ofNat (48 + u % 10)] := by
  rw [← dec_left, left, if_neg (by omega)]
theorem dec_len (n : Nat) (h : n ≤ 9223372036854775808) : (Lib.decDigits n).length ≤ 21 := by
  by_cases h0 : n = 0
  · subst h0; rw [Lib.decDigits_length, Lib.nDigits_small (by omega)]; omega
  · have := Lib.itoa_length_le (-(n : Int)) (by omega) (by omega)
    rw [Lib.itoa_neg n (by omega), List.length_cons] at this
    omega
/-- What is still to be written, where ys is written. -/
def todo (u : Nat) (ys : List UInt8) : List UInt8 := if ys = [] then Lib.decDigits u else left u ++ ys
theorem todo_step (u : Nat) (ys : List UInt8) (h : ys = [] ∨ 0 < u) : todo u ys = left (u / 10) ++ (UInt8.ofNat (48 + u % 10) :: ys) := by
  unfold todo
  by_cases hy : ys = []
  · rw [if_pos hy, dec_left, hy]
  · rw [if_neg hy, left_step u (by rcases h with h | h; exact absurd h hy; exact h), List.append_assoc]; rfl
theorem todo_len (u : Nat) (ys : List UInt8) : ys.length ≤ (todo u ys).length := by
  unfold todo
  by_cases hy : ys = []
  · rw [if_pos hy, hy]; simp
  · rw [if_neg hy, List.length_append]; omega
end Go.Proofs.YtckkiamaldfoiaaDoor
