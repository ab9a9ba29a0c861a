/- The contracts of the two Commons: how many bytes two texts begin with alike. -/
import Derived.Test.YthaobdknpgnapaaPackMath
import Derived.BigQuiet
namespace Go.Proofs.Ythaobdknpgnapaa
open Go.RowKit
theorem drew2 (w : World) (n q : Nat) : (w.drewN n).drewN q = w.drewN (n + q) := by simp
theorem byte_same {a b : UInt8} (h : a = b) : ((a.toNat : Int) == (b.toNat : Int)) = true := by subst h; simp
theorem byte_other {a b : UInt8} (h : a ≠ b) : ((a.toNat : Int) == (b.toNat : Int)) = false := by
  simp only [beq_eq_false_iff_ne, ne_eq]
  intro e
  exact h (UInt8.toNat_inj.1 (by omega))
theorem byte_sameN {a b : UInt8} (h : a = b) : ((a.toNat : Int) != (b.toNat : Int)) = false := by subst h; simp
theorem byte_otherN {a b : UInt8} (h : a ≠ b) : ((a.toNat : Int) != (b.toNat : Int)) = true := by
  simp only [bne_iff_ne, ne_eq]
  intro e
  exact h (UInt8.toNat_inj.1 (by omega))
theorem com_end {a b : ByteArray} {c k : Nat} (h : c = k + comB (a.data.toList.drop k) (b.data.toList.drop k)) (hk : a.size ≤ k ∨ b.size ≤ k) : c = k := by
  rw [comB_end (by rw [size_length, size_length]; exact hk)] at h; exact h
theorem com_ne {a b : ByteArray} {c k : Nat} (h : c = k + comB (a.data.toList.drop k) (b.data.toList.drop k)) (h1 : k < a.size) (h2 : k < b.size) (hn : a[k] ≠ b[k]) : c = k := by
  rw [comB_ne (by rw [size_length]; exact h1) (by rw [size_length]; exact h2) hn] at h; exact h
theorem com_eq {a b : ByteArray} {c k : Nat} (h : c = k + comB (a.data.toList.drop k) (b.data.toList.drop k)) (h1 : k < a.size) (h2 : k < b.size) (hn : a[k] = b[k]) : c = (k + 1) + comB (a.data.toList.drop (k + 1)) (b.data.toList.drop (k + 1)) := by
  rw [comB_eq (by rw [size_length]; exact h1) (by rw [size_length]; exact h2) hn] at h; omega
set_option maxHeartbeats 1000000 in
set_option maxRecDepth 100000 in
theorem specCommon_any (a b : ByteArray) (w : World) (ha : a.size ≤ 4503599627370496) (_ : b.size ≤ 4503599627370496) :
    Calls Try.prog 105 #[.string a, .string b] w fun e w' => e = .returned (.int .i64 (com a b : Int)) ∧ ∃ n, w' = w.drewN n := by
  obtain ⟨c, hc⟩ : ∃ c, c = com a b := ⟨_, rfl⟩
  rw [← hc]
  have HC : Hid (c = comB a.data.toList b.data.toList) := hc
  clear hc
  go_enter Try.func105, Try.ntmps105
  go_wp2
  go_loopw [5] (fun i wr => ∃ k : Nat, k ≤ a.size ∧ k ≤ b.size ∧ i = .int .i64 k ∧ Hid (c = k + comB (a.data.toList.drop k) (b.data.toList.drop k)) ∧ ∃ n, wr = w.drewN n) (fun i _ => a.size - (intOf i).toNat)
  case atStart => exact ⟨0, Nat.zero_le _, Nat.zero_le _, rfl, by unfold Hid; rw [HC.out]; simp, 0, rfl⟩
  case round =>
    obtain ⟨k, hka, hkb, rfl, HK, n, rfl⟩ := hrel
    clear HC
    by_cases h1 : k < a.size
    · have d1 : decide ((k : Int) < (a.size : Int)) = true := by simp; omega
      by_cases h2 : k < b.size
      · have d2 : decide ((k : Int) < (b.size : Int)) = true := by simp; omega
        by_cases h3 : a[k] = b[k]
        · have d3 := byte_same h3
          have HN : Hid (c = (k + 1) + comB (a.data.toList.drop (k + 1)) (b.data.toList.drop (k + 1))) := com_eq HK.out h1 h2 h3
          clear h3 HK
          go_wp2
          go_quiet (fail)
          go_wp2
          go_roundw
          case rel => exact ⟨k + 1, by omega, by omega, by go_num, HN, n + _, rfl⟩
          case measure => simp [intOf]; omega
        · have d3 := byte_other h3
          have HN : Hid (c = k) := com_ne HK.out h1 h2 h3
          clear h3 HK
          go_wp2
          go_quiet (fail)
          go_wp2
          go_ret
          exact ⟨by have h := HN.out; subst h; rfl, n + _, drew2 _ _ _⟩
      · have d2 : decide ((k : Int) < (b.size : Int)) = false := by simp; omega
        have HN : Hid (c = k) := com_end HK.out (.inr (by omega))
        clear HK
        go_wp2
        go_quiet (fail)
        go_wp2
        go_ret
        exact ⟨by have h := HN.out; subst h; rfl, n + _, drew2 _ _ _⟩
    · have d1 : decide ((k : Int) < (a.size : Int)) = false := by simp; omega
      have HN : Hid (c = k) := com_end HK.out (.inl (by omega))
      clear HK
      go_wp2
      go_quiet (fail)
      go_wp2
      go_ret
      exact ⟨by have h := HN.out; subst h; rfl, n + _, drew2 _ _ _⟩
set_option maxHeartbeats 1000000 in
set_option maxRecDepth 100000 in
theorem implCommon_any (a b : ByteArray) (w : World) (ha : a.size ≤ 4503599627370496) (hb : b.size ≤ 4503599627370496) :
    Calls Try.prog 114 #[.string a, .string b] w fun e w' => e = .returned (.int .i64 (com a b : Int)) ∧ ∃ n, w' = w.drewN n := by
  obtain ⟨c, hc⟩ : ∃ c, c = com a b := ⟨_, rfl⟩
  rw [← hc]
  have HC : Hid (c = comB a.data.toList b.data.toList) := hc
  clear hc
  go_enter Try.func114, Try.ntmps114
  go_wp2
  all_goals
    go_loopw [13] (fun i wr => ∃ k : Nat, k ≤ a.size ∧ k ≤ b.size ∧ i = .int .i64 k ∧ Hid (c = k + comB (a.data.toList.drop k) (b.data.toList.drop k)) ∧ ∃ n, wr = w.drewN n) (fun i _ => a.size - (intOf i).toNat)
    case atStart => exact ⟨0, Nat.zero_le _, Nat.zero_le _, rfl, by unfold Hid; rw [HC.out]; simp, 0, rfl⟩
    case round =>
      obtain ⟨k, hka, hkb, rfl, HK, n, rfl⟩ := hrel
      clear HC
      by_cases h1 : k < a.size
      · by_cases h2 : k < b.size
        · by_cases h3 : a[k] = b[k]
          · have d3 := byte_sameN h3
            have HN : Hid (c = (k + 1) + comB (a.data.toList.drop (k + 1)) (b.data.toList.drop (k + 1))) := com_eq HK.out h1 h2 h3
            clear h3 HK
            go_wp2
            go_quiet (fail)
            go_wp2
            go_roundw
            case rel => exact ⟨k + 1, by omega, by omega, by go_num, HN, n + _, rfl⟩
            case measure => simp [intOf]; omega
          · have d3 := byte_otherN h3
            have HN : Hid (c = k) := com_ne HK.out h1 h2 h3
            clear h3 HK
            go_wp2
            go_quiet (fail)
            go_wp2
            go_ret
            exact ⟨by have h := HN.out; subst h; rfl, n + _, drew2 _ _ _⟩
        · first
            | (exfalso; omega)
            | (have HN : Hid (c = k) := com_end HK.out (.inr (by omega))
               have hke : k = b.size := by omega
               subst hke
               clear HK
               go_wp2
               go_ret
               exact ⟨by have h := HN.out; subst h; rfl, n, rfl⟩)
      · first
          | (exfalso; omega)
          | (have HN : Hid (c = k) := com_end HK.out (.inl (by omega))
             have hke : k = a.size := by omega
             subst hke
             clear HK
             go_wp2
             go_ret
             exact ⟨by have h := HN.out; subst h; rfl, n, rfl⟩)
end Go.Proofs.Ythaobdknpgnapaa
