/- The contract of the search for a place among entries. -/
import Derived.Test.YtihacdfchmobpaaEntImplOk
import Derived.Deep.LoopGhost
namespace Go.Proofs.Ytihacdfchmobpaa
open Go.RowKit
theorem entAt_boxF (W : World) (x : Ent) (t : TypeId) : EntAt (W.alloc (.cells #[.string x.key, .string x.val, .int .i64 x.seq, .bool x.gone] t)) W.heap.size 0 x := entAt_new W x t
end Go.Proofs.Ytihacdfchmobpaa
