/- The contract of strings.Cut at one blank. -/
import Derived.Test.YthchhkiijehjbaaGreatDoorSltMath
import Derived.BigQuiet
namespace Go.Proofs.YthchhkiijehjbaaGreatDoor
open Go.RowKit
/-- What is cut at the first blank. -/
def CutP (s : ByteArray) (e : Ending) : Prop := ∃ (a r : ByteArray) (b : Bool), e = .returned (.tuple #[.string a, .string r, .bool b]) ∧ a.size ≤ s.size ∧ r.size ≤ s.size ∧ ∀ x y : List UInt8, s.data.toList = x ++ 32 :: y → 32 ∉ x → a = ⟨x.toArray⟩ ∧ r = ⟨y.toArray⟩
theorem cut_hit {s : ByteArray} {i : Nat} (h : Lib.indexByte s.data.toList 32 = (i : Int)) (x y : List UInt8) (e : s.data.toList = x ++ 32 :: y) (hx : 32 ∉ x) : s.extract 0 i = ⟨x.toArray⟩ ∧ s.extract (i + 1) s.size = ⟨y.toArray⟩ := by
  have hi : i = x.length := by
    rw [e, indexByte_app x y hx] at h
    omega
  subst hi
  rw [Lib.extract_eq, Lib.extract_eq, e]
  have hs : s.size = x.length + 1 + y.length := by rw [← size_length, e]; simp; omega
  refine ⟨?_, ?_⟩
  · congr 2; simp
  · congr 2
    rw [hs]
    have : List.drop (x.length + 1) (x ++ 32 :: y) = y := by rw [← List.drop_drop]; simp
    rw [this, List.take_of_length_le (by omega)]
set_option maxHeartbeats 2000000 in
set_option maxRecDepth 100000 in
theorem cutLite_any (s : ByteArray) (w : World) (hs : s.size ≤ 1099511627776) :
    Calls Tryz.prog 81 #[.string s, .string ⟨#[32]⟩] w fun e w' => CutP s e ∧ ∃ n, w' = w.drewN n := by
  by_cases hix : Lib.indexByte s.data.toList 32 = -1
  · have HF : Hid (CutP s (.returned (.tuple #[.string s, .string ⟨#[]⟩, .bool false]))) := by
      refine ⟨s, ⟨#[]⟩, false, rfl, Nat.le_refl _, Nat.zero_le _, fun x y e hx => ?_⟩
      rw [e, indexByte_app x y hx] at hix
      omega
    go_enter Tryz.func81, Tryz.ntmps81
    go_wp2_with fail
    refine (Tryz.stringslite_Index_one s 32 _).mono ?_
    rw [hix]
    rintro e w1 ⟨rfl, hw⟩
    obtain rfl := hw.symm
    clear hix
    go_wp2
    go_ret3
    exact ⟨HF.out, 0, rfl⟩
  · have hge := Lib.indexByte_ge s.data.toList 32
    obtain ⟨i, hi⟩ : ∃ i : Nat, Lib.indexByte s.data.toList 32 = (i : Int) := ⟨(Lib.indexByte s.data.toList 32).toNat, by omega⟩
    have hlt : i < s.size := by
      have := (Lib.indexByte_some hi).1
      rw [← size_length]
      exact (List.getElem?_eq_some_iff.1 this).1
    have HF : Hid (CutP s (.returned (.tuple #[.string (s.extract 0 i), .string (s.extract (i + 1) s.size), .bool true]))) := by
      refine ⟨_, _, true, rfl, ?_, ?_, fun x y e hx => cut_hit hi x y e hx⟩
      · rw [ByteArray.size_extract]; omega
      · rw [ByteArray.size_extract]; omega
    clear hix hge
    have c1 : (0 : Int) ≤ ↑i := by omega
    have c2 : (↑i : Int) ≤ ↑s.size := by omega
    have c3 : (0 : Int) ≤ ↑i + 1 := by omega
    have c4 : (↑i + 1 : Int) ≤ ↑s.size := by omega
    go_enter Tryz.func81, Tryz.ntmps81
    go_wp2_with fail
    refine (Tryz.stringslite_Index_one s 32 _).mono ?_
    rw [hi]
    rintro e w1 ⟨rfl, hw⟩
    obtain rfl := hw.symm
    clear hi
    go_wp2
    go_quiet (fail)
    go_wp2
    go_ret3
    exact ⟨HF.out, _, rfl⟩
set_option maxHeartbeats 2000000 in
set_option maxRecDepth 100000 in
theorem cut_any (s : ByteArray) (w : World) (hs : s.size ≤ 1099511627776) :
    Calls Tryz.prog 72 #[.string s, .string ⟨#[32]⟩] w fun e w' => CutP s e ∧ ∃ n, w' = w.drewN n := by
  go_enter Tryz.func72, Tryz.ntmps72
  go_wp2_with fail
  refine (cutLite_any s _ hs).mono ?_
  rintro e w1 ⟨⟨a, r, b, rfl, h1, h2, h3⟩, n, rfl⟩
  have HF : Hid (CutP s (.returned (.tuple #[.string a, .string r, .bool b]))) := ⟨a, r, b, rfl, h1, h2, h3⟩
  clear h1 h2 h3
  go_wp2
  go_ret3
  exact ⟨HF.out, n, rfl⟩
end Go.Proofs.YthchhkiijehjbaaGreatDoor
