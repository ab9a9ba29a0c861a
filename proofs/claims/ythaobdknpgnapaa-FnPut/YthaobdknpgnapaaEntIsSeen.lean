/- The contract of the program's question whether an entry is the newest of its key. -/
import Derived.Test.YthaobdknpgnapaaEntImplOk
namespace Go.Proofs.Ythaobdknpgnapaa
open Go.RowKit
theorem isShown_zero {es : List Ent} {q : Int} {i : Nat} (h : i = 0) (hq : (nth es i).seq ≤ q) : isShown es q i = true := by simp [isShown, h] at *; exact hq
theorem isShown_key {es : List Ent} {q : Int} {i : Nat} (h : kEq (nth es (i - 1)).key (nth es i).key = false) (hq : (nth es i).seq ≤ q) : isShown es q i = true := by simp [isShown, h, hq]
theorem isShown_seq {es : List Ent} {q : Int} {i : Nat} (h0 : i ≠ 0) (h : kEq (nth es (i - 1)).key (nth es i).key = true) (hq : (nth es i).seq ≤ q) : isShown es q i = decide (q < (nth es (i - 1)).seq) := by simp [isShown, h, hq, h0]
end Go.Proofs.Ythaobdknpgnapaa
