/- The contract of the program's comparison of two entries. -/
import Derived.Test.YthkckgjcecommaaEntOrd
import Derived.Deep.RegionHeld3
namespace Go.Proofs.Ythkckgjcecommaa
open Go.RowKit
end Go.Proofs.Ythkckgjcecommaa
