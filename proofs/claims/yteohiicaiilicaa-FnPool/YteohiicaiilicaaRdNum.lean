/- The contract of the model's ReadNumber over any slice of bytes that can be read. -/
import Derived.Test.YteohiicaiilicaaRdBase
namespace Go.Proofs.Yteohiicaiilicaa
open Go.RowKit
theorem ret2_int {k l : IntKind} {a b c d : Int} (h : a = c) (h2 : b = d) : Ending.returned (.tuple #[.int k a, .int l b]) = .returned (.tuple #[.int k c, .int l d]) := by rw [h, h2]
end Go.Proofs.Yteohiicaiilicaa
