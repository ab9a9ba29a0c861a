/- The contract of the program's Seen. -/
import Derived.Test.YtihacdfchmobpaaEntSpecSeen
import Derived.Test.YtihacdfchmobpaaEntFind
namespace Go.Proofs.Ytihacdfchmobpaa
open Go.RowKit
theorem implOk_yes (v : Value) (es : List Ent) (w : World) (hr : RdE w v es) (hf : ∀ e ∈ es, Fits e) (h : okL es = true) :
    Calls Try.prog 13 #[v] w fun e w' => e = .returned (.bool true) ∧ Below w.heap.size w w' := by
  have := implEntriesOk_any v es w hr hf; rwa [h] at this
theorem implOk_no (v : Value) (es : List Ent) (w : World) (hr : RdE w v es) (hf : ∀ e ∈ es, Fits e) (h : okL es = false) :
    Calls Try.prog 13 #[v] w fun e w' => e = .returned (.bool false) ∧ Below w.heap.size w w' := by
  have := implEntriesOk_any v es w hr hf; rwa [h] at this
end Go.Proofs.Ytihacdfchmobpaa
