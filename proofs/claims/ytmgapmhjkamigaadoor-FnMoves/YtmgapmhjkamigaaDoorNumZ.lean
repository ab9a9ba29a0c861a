/- The law's marks of numbers, from any number on. -/
import Derived.Test.YtmgapmhjkamigaaDoorNumHelp
namespace Go.Proofs.YtmgapmhjkamigaaDoor
open Go.RowKit
end Go.Proofs.YtmgapmhjkamigaaDoor
