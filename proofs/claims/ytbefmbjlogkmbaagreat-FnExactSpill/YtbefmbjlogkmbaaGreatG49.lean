/- The contract of the program's Seens. The contracts of the program's endOfKey, withoutGoneEnd, Bottom. The contract of the program's Bottom. -/
import Derived.Test.YtbefmbjlogkmbaaGreatMrgSpec2
import Derived.Test.YtbefmbjlogkmbaaGreatG24
import Derived.WalkMore
import Derived.Deep.LoopGhost
namespace Go.Proofs.YtbefmbjlogkmbaaGreat
set_option maxHeartbeats 16000000
set_option maxRecDepth 100000
open Go.RowKit
open Go.RowKit
open Go.RowKit
end Go.Proofs.YtbefmbjlogkmbaaGreat
