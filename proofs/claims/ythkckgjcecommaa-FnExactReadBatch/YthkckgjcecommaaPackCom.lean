/- The contracts of the two Commons: how many bytes two texts begin with alike. -/
import Derived.Test.YthkckgjcecommaaPackMath
import Derived.BigQuiet
namespace Go.Proofs.Ythkckgjcecommaa
open Go.RowKit
theorem drew2 (w : World) (n q : Nat) : (w.drewN n).drewN q = w.drewN (n + q) := by simp
theorem byte_same {a b : UInt8} (h : a = b) : ((a.toNat : Int) == (b.toNat : Int)) = true := by subst h; simp
theorem byte_other {a b : UInt8} (h : a ≠ b) : ((a.toNat : Int) == (b.toNat : Int)) = false := by
  simp only [beq_eq_false_iff_ne, ne_eq]
  intro e
  exact h (UInt8.toNat_inj.1 (by omega))
theorem byte_sameN {a b : UInt8} (h : a = b) : ((a.toNat : Int) != (b.toNat : Int)) = false := by subst h; simp
theorem byte_otherN {a b : UInt8} (h : a ≠ b) : ((a.toNat : Int) != (b.toNat : Int)) = true := by
  simp only [bne_iff_ne, ne_eq]
  intro e
  exact h (UInt8.toNat_inj.1 (by omega))
theorem com_end {a b : ByteArray} {c k : Nat} (h : c = k + comB (a.data.toList.drop k) (b.data.toList.drop k)) (hk : a.size ≤ k ∨ b.size ≤ k) : c = k := by
  rw [comB_end (by rw [size_length, size_length]; exact hk)] at h; exact h
theorem com_ne {a b : ByteArray} {c k : Nat} (h : c = k + comB (a.data.toList.drop k) (b.data.toList.drop k)) (h1 : k < a.size) (h2 : k < b.size) (hn : a[k] ≠ b[k]) : c = k := by
  rw [comB_ne (by rw [size_length]; exact h1) (by rw [size_length]; exact h2) hn] at h; exact h
theorem com_eq {a b : ByteArray} {c k : Nat} (h : c = k + comB (a.data.toList.drop k) (b.data.toList.drop k)) (h1 : k < a.size) (h2 : k < b.size) (hn : a[k] = b[k]) : c = (k + 1) + comB (a.data.toList.drop (k + 1)) (b.data.toList.drop (k + 1)) := by
  rw [comB_eq (by rw [size_length]; exact h1) (by rw [size_length]; exact h2) hn] at h; omega
end Go.Proofs.Ythkckgjcecommaa
