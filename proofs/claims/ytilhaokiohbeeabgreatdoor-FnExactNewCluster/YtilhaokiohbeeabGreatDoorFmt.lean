/- The decimal digits of a number: the contract of the library's writer (at base 10). -/
import Derived.Test.YtilhaokiohbeeabGreatDoorFmtL
import Derived.Test.YtilhaokiohbeeabGreatDoorShelf
namespace Go.Proofs.YtilhaokiohbeeabGreatDoor
open Go.RowKit
/-- The table of the library's that holds the powers of ten. -/
abbrev Tab (w : World) : Prop := Lib.TabIs Tryz.prog w "internal/strconv.uint64pow10" .u64 Lib.pow10Tab
theorem Tab.on {w w' : World} (h : Tab w) (hb : Below w.heap.size w w') : Tab w' := Lib.tabBelow_of_tabIs h w' hb
theorem fmt_any (n : Int) (w : World) (h0 : -9223372036854775808 ≤ n) (h1 : n ≤ 9223372036854775807) (ht : Tab w) :
    Calls Tryz.prog 215 #[.int .i64 n, .int .i64 10] w fun e w' => e = .returned (.string (itoaS n)) ∧ Below w.heap.size w w' := by
  refine (Tryz.strconv_FormatInt_10 n h0 h1 w ht).mono ?_
  rintro e w' ⟨rfl, k, os, rfl⟩
  exact ⟨rfl, Lib.below_grow _ w (Nat.le_refl _) k os⟩
theorem fmt_small (i : Nat) (w : World) (hi : i < 100) :
    Calls Tryz.prog 215 #[.int .i64 i, .int .i64 10] w fun e w' => e = .returned (.string (itoaS i)) ∧ w' = w := by
  refine (Tryz.strconv_FormatInt_10_small i hi w).mono ?_
  rintro e w' ⟨rfl, rfl⟩
  exact ⟨by unfold itoaS Lib.itoa; rw [if_neg (by omega), Int.toNat_natCast], rfl⟩
end Go.Proofs.YtilhaokiohbeeabGreatDoor
