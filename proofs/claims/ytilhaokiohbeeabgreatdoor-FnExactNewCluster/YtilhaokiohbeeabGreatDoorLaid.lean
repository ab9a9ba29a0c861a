/- What the row's list of tables gives the walks: the library's powers of ten. -/
import Derived.Test.YtilhaokiohbeeabGreatDoorRows
import Derived.Test.YtilhaokiohbeeabGreatDoorFmt
import Derived.Stop.LaidErr
import Derived.LaidMore
namespace Go.Proofs.YtilhaokiohbeeabGreatDoor
open Go.RowKit
theorem gPow : Tryz.prog.globalNamed "internal/strconv.uint64pow10" = some 0 := by kernel_rfl
theorem tPow : (Tryz.prog.globals[0]?).map (·.type) = some 268 := by kernel_rfl
theorem dPow : (Rows.laid_internal_strconv_uint64pow10 : DataW Unit) = Lib.tabData .u64 Lib.pow10Tab := by kernel_rfl
/-- The list of the three tables. -/
abbrev laid3 : List (String × DataW Unit) := [("math/bits.deBruijn32tab", Rows.laid_math_bits_deBruijn32tab), ("math/bits.deBruijn64tab", Rows.laid_math_bits_deBruijn64tab), ("internal/strconv.uint64pow10", Rows.laid_internal_strconv_uint64pow10)]
theorem tab_of_laid {W : World} (h : laidMetH Tryz.prog laid3 W) : Tab W := by
  rw [MakeChecks.laidMetH_plain _ _ _ (by kernel_rfl)] at h
  have h2 := h.tail.tail
  rw [dPow] at h2
  exact Lib.tabIs_of_head gPow tPow Tryz.underlying268 Tryz.underlying261 (by kernel_rfl) (by kernel_rfl) h2
end Go.Proofs.YtilhaokiohbeeabGreatDoor
