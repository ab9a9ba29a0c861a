/- What a slot is, and the contracts of both Slots. -/
import Derived.Test.YthchhkiijehjbaaGreatDoorTag
namespace Go.Proofs.YthchhkiijehjbaaGreatDoor
open Go.RowKit
abbrev blankB : ByteArray := ⟨#[32]⟩
/-- The text that Slot writes. -/
def slotT (g : Int) (t : ByteArray) : ByteArray := itoaS g ++ blankB ++ itoaS (dig 1 t.data.toList : Int) ++ blankB ++ t
def slotOk (g : Int) (t : ByteArray) : Bool := decide (1 ≤ g) && decide (g ≤ 1000000) && decide (t.size ≤ 300)
def slotS (g : Int) (t : ByteArray) : ByteArray := if slotOk g t then slotT g t else ⟨#[]⟩
theorem slotOk_iff {g : Int} {t : ByteArray} : slotOk g t = true ↔ 1 ≤ g ∧ g ≤ 1000000 ∧ t.size ≤ 300 := by
  unfold slotOk
  simp only [Bool.and_eq_true, decide_eq_true_eq, and_assoc]
theorem slotS_yes {g : Int} {t : ByteArray} (h : 1 ≤ g ∧ g ≤ 1000000 ∧ t.size ≤ 300) : slotS g t = slotT g t := by unfold slotS; rw [if_pos (slotOk_iff.2 h)]
theorem slotS_no {g : Int} {t : ByteArray} (h : ¬ (1 ≤ g ∧ g ≤ 1000000 ∧ t.size ≤ 300)) : slotS g t = ⟨#[]⟩ := by unfold slotS; rw [if_neg (fun e => h (slotOk_iff.1 e))]
set_option maxHeartbeats 400000 in
theorem inS_any (x lo hi : Int) (w : World) : Calls Tryz.prog 46 #[.int .i64 x, .int .i64 lo, .int .i64 hi] w fun e w' => e = .returned (.bool (decide (lo ≤ x) && decide (x ≤ hi))) ∧ w' = w := by
  go_enter Tryz.func46, Tryz.ntmps46
  by_cases h : lo ≤ x
  · have h1 : decide (lo ≤ x) = true := by simp [h]
    go_wp2
    go_ret
    exact ⟨by rw [h1]; rfl, rfl⟩
  · have h1 : decide (lo ≤ x) = false := by simp [h]
    go_wp2
    go_ret
    exact ⟨rfl, rfl⟩
set_option maxHeartbeats 1000000 in
set_option maxRecDepth 100000 in
theorem specSlot_any (g : Int) (t : ByteArray) (w : World) (ht : t.size ≤ 1099511627776) :
    Calls Tryz.prog 47 #[.int .i64 g, .string t] w fun e w' => e = .returned (.string (slotS g t)) ∧ Below w.heap.size w w' := by
  by_cases h : 1 ≤ g ∧ g ≤ 1000000 ∧ t.size ≤ 300
  · obtain ⟨h0, h1, h2⟩ := h
    rw [slotS_yes ⟨h0, h1, h2⟩]
    have HT : Hid (slotT g t = itoaS g ++ blankB ++ itoaS (dig 1 t.data.toList : Int) ++ blankB ++ t) := rfl
    have HD : Hid (dig 1 t.data.toList < 2147483647) := dig_lt' 1 _ (by decide)
    have hsa := itoaS_size g (by omega) (by omega)
    have hin : (decide (1 ≤ g) && decide (g ≤ 1000000)) = true := by simp; omega
    go_enter Tryz.func47, Tryz.ntmps47
    go_wp2_with fail
    refine (inS_any g 1 1000000 _).mono ?_
    rw [hin]
    rintro e w0 ⟨rfl, hw0⟩
    obtain rfl := hw0.symm
    go_wp2_with fail
    refine (l2Int_any g _ (by omega) (by omega)).mono ?_
    rintro e w1 ⟨rfl, b1⟩
    go_wp2_with fail
    refine (specDigest_any t _ ht).mono ?_
    obtain ⟨D, hD⟩ : ∃ D, D = dig 1 t.data.toList := ⟨_, rfl⟩
    rw [← hD]
    have HE : Hid (D = dig 1 t.data.toList) := hD
    have hlt : D < 2147483647 := by rw [hD]; exact HD.out
    clear hD
    rintro e w2 ⟨rfl, hw2⟩
    obtain rfl := hw2.symm
    go_wp2_with fail
    refine (l2Int_any (D : Int) _ (by omega) (by omega)).mono ?_
    rintro e w3 ⟨rfl, b3⟩
    have hsb := itoaS_size (D : Int) (by omega) (by omega)
    have bb := b1.trans (b3.mono b1.size)
    clear b1 b3
    go_wp2
    go_ret
    exact ⟨by rw [HT.out, HE.out]; rfl, bb⟩
  · rw [slotS_no h]
    by_cases hin : 1 ≤ g ∧ g ≤ 1000000
    · have h1 : (decide (1 ≤ g) && decide (g ≤ 1000000)) = true := by simp; omega
      have h2 : 300 < t.size := by omega
      go_enter Tryz.func47, Tryz.ntmps47
      go_wp2_with fail
      refine (inS_any g 1 1000000 _).mono ?_
      rw [h1]
      rintro e w0 ⟨rfl, hw0⟩
      obtain rfl := hw0.symm
      go_wp2
      go_ret
      exact ⟨rfl, Below.refl _ _⟩
    · have h1 : (decide (1 ≤ g) && decide (g ≤ 1000000)) = false := by simp; omega
      go_enter Tryz.func47, Tryz.ntmps47
      go_wp2_with fail
      refine (inS_any g 1 1000000 _).mono ?_
      rw [h1]
      rintro e w0 ⟨rfl, hw0⟩
      obtain rfl := hw0.symm
      go_wp2
      go_ret
      exact ⟨rfl, Below.refl _ _⟩
set_option maxHeartbeats 1000000 in
set_option maxRecDepth 100000 in
theorem implSlot_any (g : Int) (t : ByteArray) (w : World) (ht : t.size ≤ 1099511627776) (hT : Tab w) :
    Calls Tryz.prog 49 #[.int .i64 g, .string t] w fun e w' => e = .returned (.string (slotS g t)) ∧ Below w.heap.size w w' := by
  by_cases h : 1 ≤ g ∧ g ≤ 1000000 ∧ t.size ≤ 300
  · obtain ⟨h0, h1, h2⟩ := h
    rw [slotS_yes ⟨h0, h1, h2⟩]
    have HT : Hid (slotT g t = itoaS g ++ blankB ++ itoaS (dig 1 t.data.toList : Int) ++ blankB ++ t) := rfl
    have HD : Hid (dig 1 t.data.toList < 2147483647) := dig_lt' 1 _ (by decide)
    have hsa := itoaS_size g (by omega) (by omega)
    have k0 : ¬ g < 1 := by omega
    have k1 : ¬ 1000000 < g := by omega
    go_enter Tryz.func49, Tryz.ntmps49
    go_wp2_with fail
    refine (fmt_any g _ (by omega) (by omega) hT).mono ?_
    rintro e w1 ⟨rfl, b1⟩
    have hT1 := hT.on b1
    go_wp2_with fail
    refine (implDigest_any t _ ht).mono ?_
    obtain ⟨D, hD⟩ : ∃ D, D = dig 1 t.data.toList := ⟨_, rfl⟩
    rw [← hD]
    have HE : Hid (D = dig 1 t.data.toList) := hD
    have hlt : D < 2147483647 := by rw [hD]; exact HD.out
    clear hD
    rintro e w2 ⟨rfl, b2⟩
    have hT2 := hT1.on b2
    go_wp2_with fail
    refine (fmt_any (D : Int) _ (by omega) (by omega) hT2).mono ?_
    rintro e w3 ⟨rfl, b3⟩
    have hsb := itoaS_size (D : Int) (by omega) (by omega)
    have b12 := b1.trans (b2.mono b1.size)
    have bb := b12.trans (b3.mono b12.size)
    clear b1 b2 b3 b12 hT hT1 hT2
    go_wp2
    go_ret
    exact ⟨by rw [HT.out, HE.out]; rfl, bb⟩
  · rw [slotS_no h]
    clear hT
    by_cases h0 : g < 1
    · go_enter Tryz.func49, Tryz.ntmps49
      go_wp2
      go_ret
      exact ⟨rfl, Below.refl _ _⟩
    · by_cases h1 : 1000000 < g
      · go_enter Tryz.func49, Tryz.ntmps49
        go_wp2
        go_ret
        exact ⟨rfl, Below.refl _ _⟩
      · have h2 : 300 < t.size := by omega
        go_enter Tryz.func49, Tryz.ntmps49
        go_wp2
        go_ret
        exact ⟨rfl, Below.refl _ _⟩
end Go.Proofs.YthchhkiijehjbaaGreatDoor
