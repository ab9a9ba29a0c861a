/- The contract of the program's Packed: the bytes of right entries, nothing of others. -/
import Derived.Test.YtbefmbjlogkmbaaGreatPackSpec
import Derived.Test.YtbefmbjlogkmbaaGreatG08
import Derived.Lib.AppendZeros
namespace Go.Proofs.YtbefmbjlogkmbaaGreat
open Go.RowKit
end Go.Proofs.YtbefmbjlogkmbaaGreat
