/- The digest of some bytes, and the contract of the model's Digest. -/
import Derived.Test.YtckidhcknibceaaDoorAid
import Derived.Lib.ConvBytes
namespace Go.Proofs.YtckidhcknibceaaDoor
open Go.RowKit
/-- One byte more. -/
def stepD (h : Nat) (b : UInt8) : Nat := (h * 1000003 + b.toNat + 1) % 2147483647
/-- Some bytes more. -/
def dig (h : Nat) (bs : List UInt8) : Nat := bs.foldl stepD h
theorem stepD_lt (h : Nat) (b : UInt8) : stepD h b < 2147483647 := Nat.mod_lt _ (by omega)
theorem dig_lt (bs : List UInt8) : ∀ h, h < 2147483647 → dig h bs < 2147483647 := by
  induction bs with
  | nil => intro h hh; exact hh
  | cons b bs ih => intro h _; exact ih _ (stepD_lt h b)
theorem dig_append (h : Nat) (a b : List UInt8) : dig h (a ++ b) = dig (dig h a) b := List.foldl_append
theorem dig_at (h k : Nat) (bs : List UInt8) (hk : k < bs.length) : dig h (bs.drop k) = dig (stepD h bs[k]) (bs.drop (k + 1)) := by
  rw [List.drop_eq_getElem_cons hk]; rfl
theorem dig_end (h k : Nat) (bs : List UInt8) (hk : bs.length ≤ k) : dig h (bs.drop k) = h := by
  rw [List.drop_eq_nil_of_le hk]; rfl
theorem ret_int {k : IntKind} {a b : Int} (h : a = b) : Ending.returned (.int k a) = .returned (.int k b) := by rw [h]
theorem wrap_in (n : Int) (h : -9223372036854775808 ≤ n ∧ n ≤ 9223372036854775807) : wrap64 n = n := by unfold wrap64; omega
/-- The round's number, as the walk spells it. -/
theorem round_num (m : Nat) (b : UInt8) (hm : m < 2147483647) : (wrap64 (wrap64 ((m : Int) * 1000003 + wrap64 (b.toNat : Int)) + 1)).tmod 2147483647 = (stepD m b : Int) := by
  have hb := UInt8.toNat_lt b
  rw [wrap_in (b.toNat : Int) (by omega), wrap_in ((m : Int) * 1000003 + (b.toNat : Int)) (by omega), wrap_in _ (by omega), Int.tmod_eq_emod_of_nonneg (by omega)]
  unfold stepD
  omega

set_option maxHeartbeats 400000 in
set_option maxRecDepth 100000 in
theorem specDigest_any (s : ByteArray) (w : World) (hs : s.size ≤ 1099511627776) :
    Calls Tryd.prog 101 #[.string s] w fun e w' => e = .returned (.int .i64 (dig 1 s.data.toList : Int)) ∧ w' = w := by
  have hsz := size_length s
  obtain ⟨R, hR⟩ : ∃ R, R = dig 1 s.data.toList := ⟨_, rfl⟩
  rw [← hR]
  go_enter Tryd.func101, Tryd.ntmps101
  go_wp2
  go_loop [3, 4] (fun h i => ∃ k m : Nat, k ≤ s.size ∧ i = .int .i64 k ∧ h = .int .i64 m ∧ m < 2147483647 ∧ Hid (R = dig m (s.data.toList.drop k))) (fun _ i => s.size - (intOf i).toNat)
  case atStart => exact ⟨0, 1, by omega, rfl, rfl, by omega, hR⟩
  case round =>
    obtain ⟨k, m, hk, rfl, rfl, hm, HR⟩ := hrel
    clear hR
    by_cases hlt : k < s.size
    · go_wp2
      go_round
      case rel =>
        have hb : s[k] = s.data.toList[k]'(by omega) := rfl
        refine ⟨k + 1, stepD m s[k], by omega, by go_num, by rw [round_num _ _ hm], stepD_lt _ _, ?_⟩
        show R = _
        rw [HR.out, dig_at _ _ _ (by omega), hb]
      case measure => simp [intOf]; omega
    · go_wp2
      go_ret
      exact ⟨ret_int (by rw [HR.out, dig_end _ _ _ (by omega)]), rfl⟩
set_option maxHeartbeats 400000 in
set_option maxRecDepth 100000 in
theorem withByte_any (m : Nat) (b : UInt8) (w : World) (hm : m < 2147483647) :
    Calls Tryd.prog 107 #[.int .i64 m, .int .u8 (b.toNat : Int)] w fun e w' => e = .returned (.int .i64 (stepD m b : Int)) ∧ w' = w := by
  have hr := round_num m b hm
  go_enter Tryd.func107, Tryd.ntmps107
  go_wp2
  go_ret
  exact ⟨rfl, rfl⟩
set_option maxHeartbeats 400000 in
set_option maxRecDepth 100000 in
theorem withEachByte_any (m : Nat) (v : Value) (bs : List UInt8) (w : World) (hm : m < 2147483647) (hr : Rd w v bs) :
    Calls Tryd.prog 106 #[.int .i64 m, .func (.func 107) #[] #[], v] w fun e w' => e = .returned (.int .i64 (dig m bs : Int)) ∧ w' = w := by
  obtain ⟨a, cap, rfl, hl, hc, hA⟩ := hr
  unfold maxLen at hc
  obtain ⟨R, hR⟩ : ∃ R, R = dig m bs := ⟨_, rfl⟩
  rw [← hR]
  go_enter Tryd.func106, Tryd.ntmps106
  go_wp2
  go_loop [0, 8, 11] (fun h _ i => ∃ k m' : Nat, k ≤ bs.length ∧ i = .int .i64 k ∧ h = .int .i64 m' ∧ m' < 2147483647 ∧ Hid (R = dig m' (bs.drop k))) (fun _ _ i => bs.length - (intOf i).toNat)
  case atStart => exact ⟨0, m, by omega, rfl, rfl, hm, hR⟩
  case round =>
    obtain ⟨k, m', hk, rfl, rfl, hm', HR⟩ := hrel
    clear hR
    by_cases hlt : k < bs.length
    · obtain ⟨b0, off, ha, hcell⟩ : ∃ b0 off, a = some ⟨b0, off, none⟩ ∧ w.cell? ⟨b0, off + k, none⟩ = some (.int .u8 (bs[k].toNat : Int)) := by
        rcases hA with h | ⟨b, off, ha, hc⟩
        · subst h; simp at hlt
        · exact ⟨b, off, ha, hc k hlt⟩
      rw [ha]
      clear hA ha
      go_wp2_with fail
      refine (withByte_any m' bs[k] _ hm').mono ?_
      rintro e w1 ⟨rfl, rfl⟩
      have hlt2 := stepD_lt m' bs[k]
      have HN : Hid (R = dig (stepD m' bs[k]) (bs.drop (k + 1))) := by
        show R = _
        rw [HR.out, dig_at _ _ _ hlt]
      go_wp2
      go_round
      case rel => exact ⟨k + 1, stepD m' bs[k], by omega, by go_num, rfl, hlt2, HN⟩
      case measure => simp [intOf]; omega
    · go_wp2
      go_ret
      exact ⟨ret_int (by rw [HR.out, dig_end _ _ _ (by omega)]), rfl⟩
set_option maxHeartbeats 400000 in
set_option maxRecDepth 100000 in
theorem withText_any (m : Nat) (s : ByteArray) (w : World) (hm : m < 2147483647) (hs : s.size ≤ 1099511627776) :
    Calls Tryd.prog 87 #[.int .i64 m, .string s] w fun e w' => e = .returned (.int .i64 (dig m s.data.toList : Int)) ∧ Below w.heap.size w w' := by
  have hcv := conv_bytes w s
  have hrd := bytes_rd w s (by unfold maxLen; omega)
  have hbl := bytes_below w s
  generalize Lib.bytesWorld w 5 s = W at hcv hrd hbl
  generalize grownCap w s.size 0 5 = c0 at hcv hrd
  go_enter Tryd.func87, Tryd.ntmps87
  go_wp2_with fail
  refine (withEachByte_any m _ _ _ hm hrd).mono ?_
  rintro e w1 ⟨rfl, rfl⟩
  go_wp2
  go_ret
  exact ⟨rfl, hbl⟩
set_option maxHeartbeats 400000 in
set_option maxRecDepth 100000 in
theorem implDigest_any (s : ByteArray) (w : World) (hs : s.size ≤ 1099511627776) :
    Calls Tryd.prog 73 #[.string s] w fun e w' => e = .returned (.int .i64 (dig 1 s.data.toList : Int)) ∧ Below w.heap.size w w' := by
  go_enter Tryd.func73, Tryd.ntmps73
  go_wp2_with fail
  refine (withText_any 1 s _ (by omega) hs).mono ?_
  rintro e w1 ⟨rfl, hb⟩
  go_wp2
  go_ret
  exact ⟨rfl, hb⟩
end Go.Proofs.YtckidhcknibceaaDoor
