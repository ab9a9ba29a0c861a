/- The digest of some bytes, and the contract of the model's Digest. The contracts of the two Clashes: are the texts unlike, and have they one digest? The decimal digits of a number: the contracts of the model's writer and of the library's (at base 10). The contracts of the two Pairs, Tags and Signeds. -/
import Derived.Test.YtpidmmfjmbinkaaGreatDoorG01
import Derived.Lib.ConvBytes
import Derived.BigQuiet
import Derived.Deep.RegionWith
import Derived.Test.YtpidmmfjmbinkaaGreatDoorShelf
import Derived.Lib.ItoaNum
import Derived.Lib.ItoaLen
import Derived.Lib.AppendIntMem
namespace Go.Proofs.YtpidmmfjmbinkaaGreatDoor
open Go.RowKit
/-- One byte more. -/
def stepD (h : Nat) (b : UInt8) : Nat := (h * 1000003 + b.toNat + 1) % 2147483647
/-- Some bytes more. -/
def dig (h : Nat) (bs : List UInt8) : Nat := bs.foldl stepD h
theorem stepD_lt (h : Nat) (b : UInt8) : stepD h b < 2147483647 := Nat.mod_lt _ (by omega)
theorem dig_lt (bs : List UInt8) : ∀ h, h < 2147483647 → dig h bs < 2147483647 := by
  induction bs with
  | nil => intro h hh; exact hh
  | cons b bs ih => intro h _; exact ih _ (stepD_lt h b)
theorem dig_append (h : Nat) (a b : List UInt8) : dig h (a ++ b) = dig (dig h a) b := List.foldl_append
theorem dig_at (h k : Nat) (bs : List UInt8) (hk : k < bs.length) : dig h (bs.drop k) = dig (stepD h bs[k]) (bs.drop (k + 1)) := by
  rw [List.drop_eq_getElem_cons hk]; rfl
theorem dig_end (h k : Nat) (bs : List UInt8) (hk : bs.length ≤ k) : dig h (bs.drop k) = h := by
  rw [List.drop_eq_nil_of_le hk]; rfl
theorem ret_int {k : IntKind} {a b : Int} (h : a = b) : Ending.returned (.int k a) = .returned (.int k b) := by rw [h]
theorem wrap_in (n : Int) (h : -9223372036854775808 ≤ n ∧ n ≤ 9223372036854775807) : wrap64 n = n := by unfold wrap64; omega
/-- The round's number, as the walk spells it. -/
theorem round_num (m : Nat) (b : UInt8) (hm : m < 2147483647) : (wrap64 (wrap64 ((m : Int) * 1000003 + wrap64 (b.toNat : Int)) + 1)).tmod 2147483647 = (stepD m b : Int) := by
  have hb := UInt8.toNat_lt b
  rw [wrap_in (b.toNat : Int) (by omega), wrap_in ((m : Int) * 1000003 + (b.toNat : Int)) (by omega), wrap_in _ (by omega), Int.tmod_eq_emod_of_nonneg (by omega)]
  unfold stepD
  omega

set_option maxHeartbeats 400000 in
set_option maxRecDepth 100000 in
theorem specDigest_any (s : ByteArray) (w : World) (hs : s.size ≤ 1099511627776) :
    Calls Tryz.prog 45 #[.string s] w fun e w' => e = .returned (.int .i64 (dig 1 s.data.toList : Int)) ∧ w' = w := by
  have hsz := size_length s
  obtain ⟨R, hR⟩ : ∃ R, R = dig 1 s.data.toList := ⟨_, rfl⟩
  rw [← hR]
  go_enter Tryz.func45, Tryz.ntmps45
  go_wp2
  go_loop [3, 4] (fun h i => ∃ k m : Nat, k ≤ s.size ∧ i = .int .i64 k ∧ h = .int .i64 m ∧ m < 2147483647 ∧ Hid (R = dig m (s.data.toList.drop k))) (fun _ i => s.size - (intOf i).toNat)
  case atStart => exact ⟨0, 1, by omega, rfl, rfl, by omega, hR⟩
  case round =>
    obtain ⟨k, m, hk, rfl, rfl, hm, HR⟩ := hrel
    clear hR
    by_cases hlt : k < s.size
    · go_wp2
      go_round
      case rel =>
        have hb : s[k] = s.data.toList[k]'(by omega) := rfl
        refine ⟨k + 1, stepD m s[k], by omega, by go_num, by rw [round_num _ _ hm], stepD_lt _ _, ?_⟩
        show R = _
        rw [HR.out, dig_at _ _ _ (by omega), hb]
      case measure => simp [intOf]; omega
    · go_wp2
      go_ret
      exact ⟨ret_int (by rw [HR.out, dig_end _ _ _ (by omega)]), rfl⟩
set_option maxHeartbeats 400000 in
set_option maxRecDepth 100000 in
theorem withByte_any (m : Nat) (b : UInt8) (w : World) (hm : m < 2147483647) :
    Calls Tryz.prog 81 #[.int .i64 m, .int .u8 (b.toNat : Int)] w fun e w' => e = .returned (.int .i64 (stepD m b : Int)) ∧ w' = w := by
  have hr := round_num m b hm
  go_enter Tryz.func81, Tryz.ntmps81
  go_wp2
  go_ret
  exact ⟨rfl, rfl⟩
set_option maxHeartbeats 400000 in
set_option maxRecDepth 100000 in
theorem withEachByte_any (m : Nat) (v : Value) (bs : List UInt8) (w : World) (hm : m < 2147483647) (hr : Rd w v bs) :
    Calls Tryz.prog 80 #[.int .i64 m, .func (.func 81) #[] #[], v] w fun e w' => e = .returned (.int .i64 (dig m bs : Int)) ∧ w' = w := by
  obtain ⟨a, cap, rfl, hl, hc, hA⟩ := hr
  unfold maxLen at hc
  obtain ⟨R, hR⟩ : ∃ R, R = dig m bs := ⟨_, rfl⟩
  rw [← hR]
  go_enter Tryz.func80, Tryz.ntmps80
  go_wp2
  go_loop [0, 8, 11] (fun h _ i => ∃ k m' : Nat, k ≤ bs.length ∧ i = .int .i64 k ∧ h = .int .i64 m' ∧ m' < 2147483647 ∧ Hid (R = dig m' (bs.drop k))) (fun _ _ i => bs.length - (intOf i).toNat)
  case atStart => exact ⟨0, m, by omega, rfl, rfl, hm, hR⟩
  case round =>
    obtain ⟨k, m', hk, rfl, rfl, hm', HR⟩ := hrel
    clear hR
    by_cases hlt : k < bs.length
    · obtain ⟨b0, off, ha, hcell⟩ : ∃ b0 off, a = some ⟨b0, off, none⟩ ∧ w.cell? ⟨b0, off + k, none⟩ = some (.int .u8 (bs[k].toNat : Int)) := by
        rcases hA with h | ⟨b, off, ha, hc⟩
        · subst h; simp at hlt
        · exact ⟨b, off, ha, hc k hlt⟩
      rw [ha]
      clear hA ha
      go_wp2_with fail
      refine (withByte_any m' bs[k] _ hm').mono ?_
      rintro e w1 ⟨rfl, rfl⟩
      have hlt2 := stepD_lt m' bs[k]
      have HN : Hid (R = dig (stepD m' bs[k]) (bs.drop (k + 1))) := by
        show R = _
        rw [HR.out, dig_at _ _ _ hlt]
      go_wp2
      go_round
      case rel => exact ⟨k + 1, stepD m' bs[k], by omega, by go_num, rfl, hlt2, HN⟩
      case measure => simp [intOf]; omega
    · go_wp2
      go_ret
      exact ⟨ret_int (by rw [HR.out, dig_end _ _ _ (by omega)]), rfl⟩
set_option maxHeartbeats 400000 in
set_option maxRecDepth 100000 in
theorem withText_any (m : Nat) (s : ByteArray) (w : World) (hm : m < 2147483647) (hs : s.size ≤ 1099511627776) :
    Calls Tryz.prog 62 #[.int .i64 m, .string s] w fun e w' => e = .returned (.int .i64 (dig m s.data.toList : Int)) ∧ Below w.heap.size w w' := by
  have hcv := conv_bytes w s
  have hrd := bytes_rd w s (by unfold maxLen; omega)
  have hbl := bytes_below w s
  generalize Lib.bytesWorld w 5 s = W at hcv hrd hbl
  generalize grownCap w s.size 0 5 = c0 at hcv hrd
  go_enter Tryz.func62, Tryz.ntmps62
  go_wp2_with fail
  refine (withEachByte_any m _ _ _ hm hrd).mono ?_
  rintro e w1 ⟨rfl, rfl⟩
  go_wp2
  go_ret
  exact ⟨rfl, hbl⟩
set_option maxHeartbeats 400000 in
set_option maxRecDepth 100000 in
theorem implDigest_any (s : ByteArray) (w : World) (hs : s.size ≤ 1099511627776) :
    Calls Tryz.prog 33 #[.string s] w fun e w' => e = .returned (.int .i64 (dig 1 s.data.toList : Int)) ∧ Below w.heap.size w w' := by
  go_enter Tryz.func33, Tryz.ntmps33
  go_wp2_with fail
  refine (withText_any 1 s _ (by omega) hs).mono ?_
  rintro e w1 ⟨rfl, hb⟩
  go_wp2
  go_ret
  exact ⟨rfl, hb⟩
end Go.Proofs.YtpidmmfjmbinkaaGreatDoor
namespace Go.Proofs.YtpidmmfjmbinkaaGreatDoor
open Go.RowKit
/-- Do the two texts clash? -/
def clash (a b : ByteArray) : Bool := decide (¬ a.toList = b.toList ∧ dig 1 a.data.toList = dig 1 b.data.toList)
theorem clash_alike {a b : ByteArray} (h : a.toList = b.toList) : clash a b = false := by unfold clash; simp [h]
theorem clash_other {a b : ByteArray} (h : ¬ a.toList = b.toList) : clash a b = decide (dig 1 a.data.toList = dig 1 b.data.toList) := by unfold clash; simp [h]
theorem beq_dig (x y : Nat) : ((x : Int) == (y : Int)) = decide (x = y) := by
  by_cases h : x = y
  · subst h; simp
  · simp only [h, decide_false, beq_eq_false_iff_ne]; omega
theorem both_dig {a b : ByteArray} (h : ¬ a.toList = b.toList) (x y : Nat) : (!a.toList == b.toList && (x : Int) == (y : Int)) = decide (x = y) := by
  rw [beq_dig]; simp [h]
theorem ret_bool {a b : Bool} (h : a = b) : Ending.returned (.bool a) = .returned (.bool b) := by rw [h]
end Go.Proofs.YtpidmmfjmbinkaaGreatDoor
namespace Go.Proofs.YtpidmmfjmbinkaaGreatDoor
open Go.RowKit
/-- The table of the library's that holds the powers of ten. -/
abbrev Tab (w : World) : Prop := Lib.TabIs Tryz.prog w "internal/strconv.uint64pow10" .u64 Lib.pow10Tab
theorem Tab.on {w w' : World} (h : Tab w) (hb : Below w.heap.size w w') : Tab w' := Lib.tabBelow_of_tabIs h w' hb
/-- A number in decimal digits, as a text. -/
def itoaS (n : Int) : ByteArray := ⟨(Lib.itoa n).toArray⟩
theorem fmt_any (n : Int) (w : World) (h0 : -9223372036854775808 ≤ n) (h1 : n ≤ 9223372036854775807) (ht : Tab w) :
    Calls Tryz.prog 32 #[.int .i64 n, .int .i64 10] w fun e w' => e = .returned (.string (itoaS n)) ∧ Below w.heap.size w w' := by
  refine (Tryz.strconv_FormatInt_10 n h0 h1 w ht).mono ?_
  rintro e w' ⟨rfl, k, os, rfl⟩
  exact ⟨rfl, Lib.below_grow _ w (Nat.le_refl _) k os⟩
theorem fmt_small (i : Nat) (w : World) (hi : i < 100) :
    Calls Tryz.prog 32 #[.int .i64 i, .int .i64 10] w fun e w' => e = .returned (.string (itoaS i)) ∧ w' = w := by
  refine (Tryz.strconv_FormatInt_10_small i hi w).mono ?_
  rintro e w' ⟨rfl, rfl⟩
  exact ⟨by unfold itoaS Lib.itoa; rw [if_neg (by omega), Int.toNat_natCast], rfl⟩
/-- The digits that are still to be written, of u: none of 0. -/
def left (u : Nat) : List UInt8 := if u = 0 then [] else Lib.decDigits u
theorem dec_left (u : Nat) : Lib.decDigits u = left (u / 10) ++ [UInt8.ofNat (48 + u % 10)] := by
  unfold left
  by_cases h : u < 10
  · rw [if_pos (by omega), Lib.decDigits, dif_pos h, Nat.mod_eq_of_lt h]; rfl
  · rw [if_neg (by omega), Lib.decDigits, dif_neg h]
def sizeV : Value → Nat
  | .string s => s.size
  | _ => 0
theorem left_step (u : Nat) (h : 0 < u) : left u = left (u / 10) ++ [UInt8.ofNat (48 + u % 10)] := by
  rw [← dec_left, left, if_neg (by omega)]
theorem dec_len (n : Nat) (h : n ≤ 9223372036854775808) : (Lib.decDigits n).length ≤ 21 := by
  by_cases h0 : n = 0
  · subst h0; rw [Lib.decDigits_length, Lib.nDigits_small (by omega)]; omega
  · have := Lib.itoa_length_le (-(n : Int)) (by omega) (by omega)
    rw [Lib.itoa_neg n (by omega), List.length_cons] at this
    omega
/-- What is still to be written, where ys is written. -/
def todo (u : Nat) (ys : List UInt8) : List UInt8 := if ys = [] then Lib.decDigits u else left u ++ ys
theorem todo_step (u : Nat) (ys : List UInt8) (h : ys = [] ∨ 0 < u) : todo u ys = left (u / 10) ++ (UInt8.ofNat (48 + u % 10) :: ys) := by
  unfold todo
  by_cases hy : ys = []
  · rw [if_pos hy, dec_left, hy]
  · rw [if_neg hy, left_step u (by rcases h with h | h; exact absurd h hy; exact h), List.append_assoc]; rfl
theorem todo_len (u : Nat) (ys : List UInt8) : ys.length ≤ (todo u ys).length := by
  unfold todo
  by_cases hy : ys = []
  · rw [if_pos hy, hy]; simp
  · rw [if_neg hy, List.length_append]; omega
set_option maxHeartbeats 400000 in
set_option maxRecDepth 100000 in
theorem l2Int_pos (n : Nat) (w : World) (h1 : n ≤ 9223372036854775807) :
    Calls Tryz.prog 44 #[.int .i64 n] w fun e w' => e = .returned (.string ⟨(Lib.decDigits n).toArray⟩) ∧ Below w.heap.size w w' := by
  have hL := dec_len n (by omega)
  generalize hR : Lib.decDigits n = R at hL
  have HR : Hid (Lib.decDigits n = R) := hR
  clear hR
  go_enter Tryz.func44, Tryz.ntmps44
  go_wp2
  go_loopw [0, 3, 5] (fun nn v _ wr => ∃ (u : Nat) (ys : List UInt8), nn = .int .i64 u ∧ u ≤ 9223372036854775807 ∧ v = .string ⟨ys.toArray⟩ ∧ Hid (todo u ys = R) ∧ Below w.heap.size w wr) (fun nn v _ _ => 2 * (intOf nn).toNat + (1 - sizeV v))
  case atStart => exact ⟨n, [], rfl, h1, rfl, HR.out, Below.refl _ _⟩
  case round =>
    obtain ⟨u, ys, rfl, hu, rfl, he, hb⟩ := hrel
    have hs := hb.size
    have hyl := todo_len u ys
    rw [he.out] at hyl
    have hcv := conv_one wr (UInt8.ofNat (48 + u % 10)) (48 + (u : Int) % 10) (dig_toNat u)
    by_cases hgo : ys = [] ∨ 0 < u
    · have hstep := todo_step u ys hgo
      generalize hd : UInt8.ofNat (48 + u % 10) = d at hcv hstep
      have hadd : ∀ w', (Op.stringOp .add ⟨#[d]⟩ ⟨ys.toArray⟩).run Tryz.prog w' = .ok (.string ⟨(d :: ys).toArray⟩) w' := fun w' => run_string_add_lists w' [d] ys (by simp) (by omega)
      have HE : Hid (todo (u / 10) (d :: ys) = R) := by
        show _ = _
        rw [← he.out, hstep]
        unfold todo
        rw [if_neg (by simp)]
      have R2 : Below w.heap.size w (wr.alloc (.cells #[.int .u8 (48 + (u : Int) % 10)] 5)) := hb.alloc hs _
      clear hd he hb hstep HR hL hyl
      by_cases hy : ys = []
      · subst hy
        go_wp2
        go_roundw
        case rel => exact ⟨u / 10, [d], by go_num, by omega, rfl, HE, R2⟩
        case measure => simp [intOf, sizeV, ByteArray.size]; omega
      · have hie : ys.isEmpty = false := by simpa using hy
        have hu0 : ((u : Int) != 0) = true := by simp; rcases hgo with h | h; exact absurd h hy; omega
        have hu1 : 0 < u := by rcases hgo with h | h; exact absurd h hy; exact h
        clear hgo
        go_wp2
        go_roundw
        case rel => exact ⟨u / 10, d :: ys, by go_num, by omega, by simp, HE, R2⟩
        case measure => simp [intOf, sizeV, ByteArray.size]; omega
    · have hy : ys ≠ [] := fun h => hgo (.inl h)
      have hu1 : u = 0 := by omega
      subst hu1
      have hie : ys.isEmpty = false := by simpa using hy
      have hu0 : (((0 : Nat) : Int) != 0) = false := by simp
      have HE : Hid (ys = R) := by
        show _ = _
        rw [← he.out]
        unfold todo left
        rw [if_neg hy]; simp
      clear he hgo hcv
      go_wp2
      go_ret
      exact ⟨by rw [HE.out]; rfl, hb⟩
set_option maxHeartbeats 400000 in
set_option maxRecDepth 100000 in
theorem l2Int_neg (n : Nat) (w : World) (h0 : 0 < n) (h1 : n ≤ 9223372036854775808) :
    Calls Tryz.prog 44 #[.int .i64 (-(n : Int))] w fun e w' => e = .returned (.string ⟨(45 :: Lib.decDigits n).toArray⟩) ∧ Below w.heap.size w w' := by
  have hL := dec_len n (by omega)
  generalize hR : Lib.decDigits n = R at hL
  have HR : Hid (Lib.decDigits n = R) := hR
  clear hR
  go_enter Tryz.func44, Tryz.ntmps44
  go_wp2
  go_loopw [0, 3, 5] (fun nn v _ wr => ∃ (u : Nat) (ys : List UInt8), nn = .int .i64 (-(u : Int)) ∧ u ≤ 9223372036854775808 ∧ v = .string ⟨ys.toArray⟩ ∧ Hid (todo u ys = R) ∧ Below w.heap.size w wr) (fun nn v _ _ => 2 * (intOf nn).natAbs + (1 - sizeV v))
  case atStart => exact ⟨n, [], rfl, h1, rfl, HR.out, Below.refl _ _⟩
  case round =>
    obtain ⟨u, ys, rfl, hu, rfl, he, hb⟩ := hrel
    have hs := hb.size
    have hyl := todo_len u ys
    rw [he.out] at hyl
    obtain ⟨x, hx, hxz⟩ : ∃ x : Int, ((UInt8.ofNat (48 + u % 10)).toNat : Int) = x ∧ x = (if 0 < (u : Int) % 10 then 48 + (u : Int) % 10 else 48 + -((u : Int) % 10)) := by
      refine ⟨_, rfl, ?_⟩
      rw [dig_toNat]
      split <;> omega
    have hcv := conv_one wr (UInt8.ofNat (48 + u % 10)) x hx
    by_cases hgo : ys = [] ∨ 0 < u
    · have hstep := todo_step u ys hgo
      generalize hd : UInt8.ofNat (48 + u % 10) = d at hcv hstep
      have hadd : ∀ w', (Op.stringOp .add ⟨#[d]⟩ ⟨ys.toArray⟩).run Tryz.prog w' = .ok (.string ⟨(d :: ys).toArray⟩) w' := fun w' => run_string_add_lists w' [d] ys (by simp) (by omega)
      have HE : Hid (todo (u / 10) (d :: ys) = R) := by
        show _ = _
        rw [← he.out, hstep]
        unfold todo
        rw [if_neg (by simp)]
      have R2 : Below w.heap.size w (wr.alloc (.cells #[.int .u8 x] 5)) := hb.alloc hs _
      clear hd he hb hstep HR hL hyl hx
      by_cases hz : 0 < (u : Int) % 10
      · rw [if_pos hz] at hxz
        subst hxz
        by_cases hy : ys = []
        · subst hy
          go_wp2
          go_roundw
          case rel => exact ⟨u / 10, [d], by go_num, by omega, rfl, HE, R2⟩
          case measure => simp [intOf, sizeV, ByteArray.size]; omega
        · have hie : ys.isEmpty = false := by simpa using hy
          have hu0 : ((-(u : Int)) != 0) = true := by simp; rcases hgo with h | h; exact absurd h hy; omega
          have hu1 : 0 < u := by rcases hgo with h | h; exact absurd h hy; exact h
          clear hgo
          go_wp2
          go_roundw
          case rel => exact ⟨u / 10, d :: ys, by go_num, by omega, by simp, HE, R2⟩
          case measure => simp [intOf, sizeV, ByteArray.size]; omega
      · rw [if_neg hz] at hxz
        subst hxz
        by_cases hy : ys = []
        · subst hy
          go_wp2
          go_roundw
          case rel => exact ⟨u / 10, [d], by go_num, by omega, rfl, HE, R2⟩
          case measure => simp [intOf, sizeV, ByteArray.size]; omega
        · have hie : ys.isEmpty = false := by simpa using hy
          have hu0 : ((-(u : Int)) != 0) = true := by simp; rcases hgo with h | h; exact absurd h hy; omega
          have hu1 : 0 < u := by rcases hgo with h | h; exact absurd h hy; exact h
          clear hgo
          go_wp2
          go_roundw
          case rel => exact ⟨u / 10, d :: ys, by go_num, by omega, by simp, HE, R2⟩
          case measure => simp [intOf, sizeV, ByteArray.size]; omega
    · have hy : ys ≠ [] := fun h => hgo (.inl h)
      have hu1 : u = 0 := by omega
      subst hu1
      have hie : ys.isEmpty = false := by simpa using hy
      have hu0 : ((-((0 : Nat) : Int)) != 0) = false := by simp
      have hadd : ∀ w', (Op.stringOp .add ⟨#[45]⟩ ⟨ys.toArray⟩).run Tryz.prog w' = .ok (.string ⟨((45 : UInt8) :: ys).toArray⟩) w' := fun w' => run_string_add_lists w' [45] ys (by simp) (by omega)
      have HE : Hid (ys = R) := by
        show _ = _
        rw [← he.out]
        unfold todo left
        rw [if_neg hy]; simp
      clear he hgo hcv hx hxz
      go_wp2
      go_ret
      exact ⟨by rw [HE.out]; rfl, hb⟩
theorem l2Int_any (n : Int) (w : World) (h0 : -9223372036854775808 ≤ n) (h1 : n ≤ 9223372036854775807) :
    Calls Tryz.prog 44 #[.int .i64 n] w fun e w' => e = .returned (.string (itoaS n)) ∧ Below w.heap.size w w' := by
  by_cases hn : n < 0
  · obtain ⟨u, rfl⟩ : ∃ u : Nat, n = -(u : Int) := ⟨n.natAbs, by omega⟩
    refine (l2Int_neg u w (by omega) (by omega)).mono ?_
    rintro e w' ⟨rfl, hb⟩
    exact ⟨by unfold itoaS; rw [Lib.itoa_neg u (by omega)], hb⟩
  · obtain ⟨u, rfl⟩ := Int.eq_ofNat_of_zero_le (show 0 ≤ n by omega)
    refine (l2Int_pos u w (by omega)).mono ?_
    rintro e w' ⟨rfl, hb⟩
    exact ⟨by unfold itoaS; rw [Lib.itoa_nonneg], hb⟩
end Go.Proofs.YtpidmmfjmbinkaaGreatDoor
namespace Go.Proofs.YtpidmmfjmbinkaaGreatDoor
open Go.RowKit
theorem itoaS_size (n : Int) (h0 : -9223372036854775808 ≤ n) (h1 : n ≤ 9223372036854775807) : (itoaS n).size ≤ 21 := by
  have := Lib.itoa_length_le n h0 h1
  show (Lib.itoa n).toArray.size ≤ 21
  simpa using this
theorem dig_lt' (h : Nat) (bs : List UInt8) (hh : h < 2147483647) : dig h bs < 2147483647 := dig_lt bs h hh
/-- The digest of a pair of numbers. -/
def pairD (a b : Int) : Nat := dig (dig (dig 1 (itoaS a).data.toList) [44]) (itoaS b).data.toList
theorem app_toList (a b : ByteArray) : (a ++ b).data.toList = a.data.toList ++ b.data.toList := by simp [ByteArray.data_append]
theorem app_size (a b : ByteArray) : (a ++ b).size = a.size + b.size := ByteArray.size_append
/-- The digest of some texts, one behind the other. -/
def digAll (h : Nat) (ss : List ByteArray) : Nat := ss.foldl (fun d s => dig d s.data.toList) h
theorem digAll_at (h k : Nat) (ss : List ByteArray) (hk : k < ss.length) : digAll h (ss.drop k) = digAll (dig h ss[k].data.toList) (ss.drop (k + 1)) := by
  rw [List.drop_eq_getElem_cons hk]; rfl
theorem digAll_end (h k : Nat) (ss : List ByteArray) (hk : ss.length ≤ k) : digAll h (ss.drop k) = h := by
  rw [List.drop_eq_nil_of_le hk]; rfl
end Go.Proofs.YtpidmmfjmbinkaaGreatDoor
