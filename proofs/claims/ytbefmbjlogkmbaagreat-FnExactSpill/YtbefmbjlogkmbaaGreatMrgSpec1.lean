/- The contracts of the model's l6Seens, l6Told, Seens. -/
import Derived.Test.YtbefmbjlogkmbaaGreatG16
import Derived.Test.YtbefmbjlogkmbaaGreatG20
import Derived.Deep.DeepCutAuto
import Derived.Deep.LoopGhost
namespace Go.Proofs.YtbefmbjlogkmbaaGreat
set_option maxHeartbeats 16000000
set_option maxRecDepth 100000
open Go.RowKit
end Go.Proofs.YtbefmbjlogkmbaaGreat
