/-
  No cell of these rows narrows 'for every input' (looked for: loops, veiled, ifaces, maps, wideKeys, modest, calm, conditions, laid).
  DERIVED. THE GIVEN ROWS OF THIS SEAT. 5 by the template 'for every input the law returns true; each argument reads behind the call as it read before'; 0 by the template 'total and deterministic' (their statements: YtihacdfchmobpaaTotals.lean).
  GIVEN WITH THE SEED: the statements are not yours to turn. If you find one false, say at which input.
  Laid BY PROGRAM, IN A SANDBOX (cutbox-rows.mjs): the forced cells as the released guide's own fill.sh prints them over the translation 014ac75de7058b48… (all of the seat's roots in one cut). By AI agents, Wed Nov 11 2026. No macro, syntax, notation, axiom, sorry.
-/
import Derived.Test.YtihacdfchmobpaaChecked
import GoSem.Claim
import GoSem.ClaimJoined
import GoSem.ClaimMapViews
import Derived.JoinedTies
import Derived.KernelRfl
namespace Go.Proofs.Ytihacdfchmobpaa
/- THE CELL 'sum', in the pinned program and in every row, IS THE sha256 OF THE DUMP (.gsa) THAT YtihacdfchmobpaaProg.lean LOADS. Nothing in Lean hashes anything: it is a label: what it is worth is what the hold of that sum in a sandbox is worth. -/
noncomputable def Try.pinned : Pinned := { name := "ytihacdfchmobpaa", sum := "014ac75de7058b4896c40e77ff70ef05971467afebb77e1c1dac40e689a2c123", checked := Try.checked }
namespace Rows
def none {H : Type} : Left H := { results := [], args := [] }

/-- 'laws.FnMerged': WHATEVER THE INPUT: true; the input reads as it did. -/
def fnMergedSpec : ChangeSpec := { name := "fnMerged", fn := fun _ => fun
  | [d] => { results := [.lit (.bool true)], args := [d] }
  | _ => none }
def fnMergedRow : OpenClaim := { program := "ytihacdfchmobpaa", sum := "014ac75de7058b4896c40e77ff70ef05971467afebb77e1c1dac40e689a2c123", func := "loop.example/g00217/laws.FnMerged", spec := "fnMerged", unfollowed := true, recurses := true, apart := false }
def FnMergedSaid : Prop := fnMergedRow.holds Try.pinned (OpenSpec.ofChange fnMergedSpec)

/-- ITS FALSE NEIGHBOUR: 'it returns false'. Refute it at one input. -/
def fnMergedWrong : ChangeSpec := { name := "fnMerged", fn := fun _ => fun
  | [d] => { results := [.lit (.bool false)], args := [d] }
  | _ => none }
def FnMergedWrongFalsely : Prop := fnMergedRow.holds Try.pinned (OpenSpec.ofChange fnMergedWrong)

/-- 'laws.FnSeens': WHATEVER THE INPUT: true; the input reads as it did. -/
def fnSeensSpec : ChangeSpec := { name := "fnSeens", fn := fun _ => fun
  | [d] => { results := [.lit (.bool true)], args := [d] }
  | _ => none }
def fnSeensRow : OpenClaim := { program := "ytihacdfchmobpaa", sum := "014ac75de7058b4896c40e77ff70ef05971467afebb77e1c1dac40e689a2c123", func := "loop.example/g00217/laws.FnSeens", spec := "fnSeens", apart := false }
def FnSeensSaid : Prop := fnSeensRow.holds Try.pinned (OpenSpec.ofChange fnSeensSpec)

/-- ITS FALSE NEIGHBOUR: 'it returns false'. Refute it at one input. -/
def fnSeensWrong : ChangeSpec := { name := "fnSeens", fn := fun _ => fun
  | [d] => { results := [.lit (.bool false)], args := [d] }
  | _ => none }
def FnSeensWrongFalsely : Prop := fnSeensRow.holds Try.pinned (OpenSpec.ofChange fnSeensWrong)

/-- 'laws.FnExactMerged': WHATEVER THE INPUT: true; the input reads as it did. -/
def fnExactMergedSpec : ChangeSpec := { name := "fnExactMerged", fn := fun _ => fun
  | [d] => { results := [.lit (.bool true)], args := [d] }
  | _ => none }
def fnExactMergedRow : OpenClaim := { program := "ytihacdfchmobpaa", sum := "014ac75de7058b4896c40e77ff70ef05971467afebb77e1c1dac40e689a2c123", func := "loop.example/g00217/laws.FnExactMerged", spec := "fnExactMerged", unfollowed := true, recurses := true, apart := false }
def FnExactMergedSaid : Prop := fnExactMergedRow.holds Try.pinned (OpenSpec.ofChange fnExactMergedSpec)

/-- ITS FALSE NEIGHBOUR: 'it returns false'. Refute it at one input. -/
def fnExactMergedWrong : ChangeSpec := { name := "fnExactMerged", fn := fun _ => fun
  | [d] => { results := [.lit (.bool false)], args := [d] }
  | _ => none }
def FnExactMergedWrongFalsely : Prop := fnExactMergedRow.holds Try.pinned (OpenSpec.ofChange fnExactMergedWrong)

/-- 'laws.FnExactSeens': WHATEVER THE INPUT: true; the input reads as it did. -/
def fnExactSeensSpec : ChangeSpec := { name := "fnExactSeens", fn := fun _ => fun
  | [d1, d2] => { results := [.lit (.bool true)], args := [d1, d2] }
  | _ => none }
def fnExactSeensRow : OpenClaim := { program := "ytihacdfchmobpaa", sum := "014ac75de7058b4896c40e77ff70ef05971467afebb77e1c1dac40e689a2c123", func := "loop.example/g00217/laws.FnExactSeens", spec := "fnExactSeens", apart := false }
def FnExactSeensSaid : Prop := fnExactSeensRow.holds Try.pinned (OpenSpec.ofChange fnExactSeensSpec)

/-- ITS FALSE NEIGHBOUR: 'it returns false'. Refute it at one input. -/
def fnExactSeensWrong : ChangeSpec := { name := "fnExactSeens", fn := fun _ => fun
  | [d1, d2] => { results := [.lit (.bool false)], args := [d1, d2] }
  | _ => none }
def FnExactSeensWrongFalsely : Prop := fnExactSeensRow.holds Try.pinned (OpenSpec.ofChange fnExactSeensWrong)

/-- 'laws.FnExactBottom': WHATEVER THE INPUT: true; the input reads as it did. -/
def fnExactBottomSpec : ChangeSpec := { name := "fnExactBottom", fn := fun _ => fun
  | [d1, d2] => { results := [.lit (.bool true)], args := [d1, d2] }
  | _ => none }
def fnExactBottomRow : OpenClaim := { program := "ytihacdfchmobpaa", sum := "014ac75de7058b4896c40e77ff70ef05971467afebb77e1c1dac40e689a2c123", func := "loop.example/g00217/laws.FnExactBottom", spec := "fnExactBottom", apart := false }
def FnExactBottomSaid : Prop := fnExactBottomRow.holds Try.pinned (OpenSpec.ofChange fnExactBottomSpec)

/-- ITS FALSE NEIGHBOUR: 'it returns false'. Refute it at one input. -/
def fnExactBottomWrong : ChangeSpec := { name := "fnExactBottom", fn := fun _ => fun
  | [d1, d2] => { results := [.lit (.bool false)], args := [d1, d2] }
  | _ => none }
def FnExactBottomWrongFalsely : Prop := fnExactBottomRow.holds Try.pinned (OpenSpec.ofChange fnExactBottomWrong)

/- THE SECOND FORM. 'bulk': how many values and letters a reading holds, each counted each time it is reached (what is shared counts as often as it is met; a slice's spare places count too). A statement '..UptoSaid' is the law's where the arguments, and the package variables that the reading takes, are together of bulk at most 1048576: NARROWER than '..Said'. Prove '..Said' where nothing that the law and all that it calls make is longer than what came in: it says more and counts as full. Else prove '..UptoSaid'. A law counts once. -/
mutual
def uptoBulk {H : Type} : DataW H → Nat
  | .lit (.string bytes) => bytes.length + 1
  | .lit _ => 1
  | .nil => 1
  | .ptr d => uptoBulk d + 1
  | .slice elems spare => uptoBulkAll elems + uptoBulkAll spare + 1
  | .agg parts => uptoBulkAll parts + 1
  | .iface _ d => uptoBulk d + 1
  | .map entries => uptoBulkEntries entries + 1
  | .held _ => 1
def uptoBulkAll {H : Type} : List (DataW H) → Nat
  | [] => 0
  | d :: r => uptoBulk d + uptoBulkAll r
def uptoBulkEntries {H : Type} : List (Lit × DataW H) → Nat
  | [] => 0
  | x :: r => uptoBulkEntry x + uptoBulkEntries r
def uptoBulkEntry {H : Type} : Lit × DataW H → Nat
  | (.string bytes, d) => bytes.length + uptoBulk d + 1
  | (_, d) => uptoBulk d + 1
 end
def uptoSmall : (H : Type) → List (DataW H) → Bool := fun _ ds => decide (uptoBulkAll ds ≤ 1048576)
def OpenSpec.upto (s : _root_.Go.ChangeSpec) : _root_.Go.OpenSpec := { _root_.Go.OpenSpec.ofChange s with cond := some uptoSmall }

/-- 'laws.FnMerged', WHERE WHAT IT READS IS OF BULK AT MOST 1048576: true; the input reads as it did. -/
def fnMergedUptoRow : OpenClaim := { program := "ytihacdfchmobpaa", sum := "014ac75de7058b4896c40e77ff70ef05971467afebb77e1c1dac40e689a2c123", func := "loop.example/g00217/laws.FnMerged", spec := "fnMerged", unfollowed := true, recurses := true, apart := false, narrowed := true }
def FnMergedUptoSaid : Prop := fnMergedUptoRow.holds Try.pinned (OpenSpec.upto fnMergedSpec)

/-- 'laws.FnSeens', WHERE WHAT IT READS IS OF BULK AT MOST 1048576: true; the input reads as it did. -/
def fnSeensUptoRow : OpenClaim := { program := "ytihacdfchmobpaa", sum := "014ac75de7058b4896c40e77ff70ef05971467afebb77e1c1dac40e689a2c123", func := "loop.example/g00217/laws.FnSeens", spec := "fnSeens", apart := false, narrowed := true }
def FnSeensUptoSaid : Prop := fnSeensUptoRow.holds Try.pinned (OpenSpec.upto fnSeensSpec)

/-- 'laws.FnExactMerged', WHERE WHAT IT READS IS OF BULK AT MOST 1048576: true; the input reads as it did. -/
def fnExactMergedUptoRow : OpenClaim := { program := "ytihacdfchmobpaa", sum := "014ac75de7058b4896c40e77ff70ef05971467afebb77e1c1dac40e689a2c123", func := "loop.example/g00217/laws.FnExactMerged", spec := "fnExactMerged", unfollowed := true, recurses := true, apart := false, narrowed := true }
def FnExactMergedUptoSaid : Prop := fnExactMergedUptoRow.holds Try.pinned (OpenSpec.upto fnExactMergedSpec)

/-- 'laws.FnExactSeens', WHERE WHAT IT READS IS OF BULK AT MOST 1048576: true; the input reads as it did. -/
def fnExactSeensUptoRow : OpenClaim := { program := "ytihacdfchmobpaa", sum := "014ac75de7058b4896c40e77ff70ef05971467afebb77e1c1dac40e689a2c123", func := "loop.example/g00217/laws.FnExactSeens", spec := "fnExactSeens", apart := false, narrowed := true }
def FnExactSeensUptoSaid : Prop := fnExactSeensUptoRow.holds Try.pinned (OpenSpec.upto fnExactSeensSpec)

/-- 'laws.FnExactBottom', WHERE WHAT IT READS IS OF BULK AT MOST 1048576: true; the input reads as it did. -/
def fnExactBottomUptoRow : OpenClaim := { program := "ytihacdfchmobpaa", sum := "014ac75de7058b4896c40e77ff70ef05971467afebb77e1c1dac40e689a2c123", func := "loop.example/g00217/laws.FnExactBottom", spec := "fnExactBottom", apart := false, narrowed := true }
def FnExactBottomUptoSaid : Prop := fnExactBottomUptoRow.holds Try.pinned (OpenSpec.upto fnExactBottomSpec)

end Rows
end Go.Proofs.Ytihacdfchmobpaa
