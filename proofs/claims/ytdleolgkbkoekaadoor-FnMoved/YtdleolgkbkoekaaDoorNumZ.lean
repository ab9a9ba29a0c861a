/- The law's marks of numbers, from any number on. -/
import Derived.Test.YtdleolgkbkoekaaDoorNumHelp
namespace Go.Proofs.YtdleolgkbkoekaaDoor
open Go.RowKit
end Go.Proofs.YtdleolgkbkoekaaDoor
