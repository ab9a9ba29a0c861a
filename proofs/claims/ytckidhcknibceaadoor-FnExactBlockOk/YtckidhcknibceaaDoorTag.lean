/- The contracts of the two Pairs, Tags and Signeds. -/
import Derived.Test.YtckidhcknibceaaDoorClash
import Derived.Test.YtckidhcknibceaaDoorFmt
import Derived.Test.YtckidhcknibceaaDoorStrBase
namespace Go.Proofs.YtckidhcknibceaaDoor
open Go.RowKit
theorem itoaS_size (n : Int) (h0 : -9223372036854775808 ≤ n) (h1 : n ≤ 9223372036854775807) : (itoaS n).size ≤ 21 := by
  have := Lib.itoa_length_le n h0 h1
  show (Lib.itoa n).toArray.size ≤ 21
  simpa using this
theorem dig_lt' (h : Nat) (bs : List UInt8) (hh : h < 2147483647) : dig h bs < 2147483647 := dig_lt bs h hh
/-- The digest of a pair of numbers. -/
def pairD (a b : Int) : Nat := dig (dig (dig 1 (itoaS a).data.toList) [44]) (itoaS b).data.toList
theorem app_toList (a b : ByteArray) : (a ++ b).data.toList = a.data.toList ++ b.data.toList := by simp [ByteArray.data_append]
theorem app_size (a b : ByteArray) : (a ++ b).size = a.size + b.size := ByteArray.size_append
/-- The digest of some texts, one behind the other. -/
def digAll (h : Nat) (ss : List ByteArray) : Nat := ss.foldl (fun d s => dig d s.data.toList) h
theorem digAll_at (h k : Nat) (ss : List ByteArray) (hk : k < ss.length) : digAll h (ss.drop k) = digAll (dig h ss[k].data.toList) (ss.drop (k + 1)) := by
  rw [List.drop_eq_getElem_cons hk]; rfl
theorem digAll_end (h k : Nat) (ss : List ByteArray) (hk : ss.length ≤ k) : digAll h (ss.drop k) = h := by
  rw [List.drop_eq_nil_of_le hk]; rfl
set_option maxHeartbeats 400000 in
set_option maxRecDepth 100000 in
theorem withEachText_any (m : Nat) (v : Value) (ss : List ByteArray) (w : World) (hm : m < 2147483647) (hr : RdS w v ss) (hs : ∀ s ∈ ss, s.size ≤ 1099511627776) :
    Calls Tryd.prog 86 #[.int .i64 m, .func (.func 87) #[] #[], v] w fun e w' => e = .returned (.int .i64 (digAll m ss : Int)) ∧ Below w.heap.size w w' := by
  have HS : Hid (∀ s ∈ ss, s.size ≤ 1099511627776) := hs
  have HRd : Hid (RdS w v ss) := hr
  obtain ⟨a, cap, rfl, hl, hc, hA⟩ := hr
  unfold maxLen at hc
  clear hA hs
  obtain ⟨R, hR⟩ : ∃ R, R = digAll m ss := ⟨_, rfl⟩
  rw [← hR]
  go_enter Tryd.func86, Tryd.ntmps86
  go_wp2
  go_loopw [0, 8, 11] (fun h _ i wr => ∃ k m' : Nat, k ≤ ss.length ∧ i = .int .i64 k ∧ h = .int .i64 m' ∧ m' < 2147483647 ∧ Hid (R = digAll m' (ss.drop k)) ∧ Below w.heap.size w wr) (fun _ _ i _ => ss.length - (intOf i).toNat)
  case atStart => exact ⟨0, m, by omega, rfl, rfl, hm, hR, Below.refl _ _⟩
  case round =>
    obtain ⟨k, m', hk, rfl, rfl, hm', HR, hb⟩ := hrel
    clear hR
    by_cases hlt : k < ss.length
    · obtain ⟨b0, off, ha, hcell⟩ : ∃ b0 off, a = some ⟨b0, off, none⟩ ∧ wr.cell? ⟨b0, off + k, none⟩ = some (.string ss[k]) := by
        obtain ⟨a', cap', hv, _, _, hA⟩ := HRd.out.below hb
        cases hv
        rcases hA with h | ⟨b, off, ha, hc⟩
        · subst h; simp at hlt
        · exact ⟨b, off, ha, hc k hlt⟩
      have hsz := HS.out ss[k] (List.getElem_mem hlt)
      have hlt2 := dig_lt' m' ss[k].data.toList hm'
      have HN : Hid (R = digAll (dig m' ss[k].data.toList) (ss.drop (k + 1))) := by
        show R = _
        rw [HR.out, digAll_at _ _ _ hlt]
      rw [ha]
      clear ha HR
      go_wp2_with fail
      refine (withText_any m' ss[k] _ hm' hsz).mono ?_
      rintro e w1 ⟨rfl, hb1⟩
      have hb2 := hb.trans (hb1.mono hb.size)
      clear hb hb1 hcell
      go_wp2
      go_roundw
      case rel => exact ⟨k + 1, _, by omega, by go_num, rfl, hlt2, HN, hb2⟩
      case measure => simp [intOf]; omega
    · go_wp2
      go_ret
      exact ⟨ret_int (by rw [HR.out, digAll_end _ _ _ (by omega)]), hb⟩
end Go.Proofs.YtckidhcknibceaaDoor
