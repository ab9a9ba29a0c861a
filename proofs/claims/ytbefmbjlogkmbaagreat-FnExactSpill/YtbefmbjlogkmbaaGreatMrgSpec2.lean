/- The contracts of the model's l6Told, Seens, l6Bottom, Bottom. -/
import Derived.Test.YtbefmbjlogkmbaaGreatMrgSpec1
namespace Go.Proofs.YtbefmbjlogkmbaaGreat
set_option maxHeartbeats 16000000
set_option maxRecDepth 100000
open Go.RowKit
end Go.Proofs.YtbefmbjlogkmbaaGreat
