/-
  No cell of these rows narrows 'for every input' (looked for: loops, veiled, ifaces, maps, wideKeys, modest, calm, conditions, laid).
  DERIVED. THE GIVEN ROWS OF THIS SEAT. 3 by the template 'for every input the law returns true; each argument reads behind the call as it read before'; 0 by the template 'total and deterministic' (their statements: YtbefmbjlogkmbaaGreatTotals.lean).
  GIVEN WITH THE SEED: the statements are not yours to turn. If you find one false, say at which input.
  Laid BY PROGRAM, IN A SANDBOX (cutbox-rows.mjs): the forced cells as the released guide's own fill.sh prints them over the translation c3bba2a77128890e… (all of the seat's roots in one cut). By AI agents, Wed Nov 11 2026. No macro, syntax, notation, axiom, sorry.
-/
import Derived.Test.YtbefmbjlogkmbaaGreatChecked
import GoSem.Claim
import GoSem.ClaimJoined
import GoSem.ClaimMapViews
import Derived.JoinedTies
import Derived.KernelRfl
namespace Go.Proofs.YtbefmbjlogkmbaaGreat
/- THE CELL 'sum', in the pinned program and in every row, IS THE sha256 OF THE DUMP (.gsa) THAT YtbefmbjlogkmbaaGreatProg.lean LOADS. Nothing in Lean hashes anything: it is a label: what it is worth is what the hold of that sum in a sandbox is worth. -/
noncomputable def Tryz.pinned : Pinned := { name := "ytbefmbjlogkmbaagreat", sum := "c3bba2a77128890e997895c2b102f49d3bed33bb187b125dbae6dd2ac9a146c7", checked := Tryz.checked }
namespace Rows
def none {H : Type} : Left H := { results := [], args := [] }

/-- 'laws.FnExactWrote': WHATEVER THE INPUT: true; the input reads as it did. -/
def fnExactWroteSpec : ChangeSpec := { name := "fnExactWrote", fn := fun _ => fun
  | [d1, d2] => { results := [.lit (.bool true)], args := [d1, d2] }
  | _ => none }
def fnExactWroteRow : OpenClaim := { program := "ytbefmbjlogkmbaagreat", sum := "c3bba2a77128890e997895c2b102f49d3bed33bb187b125dbae6dd2ac9a146c7", func := "loop.example/g00217/laws.FnExactWrote", spec := "fnExactWrote", unfollowed := true, recurses := true, apart := false }
def FnExactWroteSaid : Prop := fnExactWroteRow.holds Tryz.pinned (OpenSpec.ofChange fnExactWroteSpec)

/-- ITS FALSE NEIGHBOUR: 'it returns false'. Refute it at one input. -/
def fnExactWroteWrong : ChangeSpec := { name := "fnExactWrote", fn := fun _ => fun
  | [d1, d2] => { results := [.lit (.bool false)], args := [d1, d2] }
  | _ => none }
def FnExactWroteWrongFalsely : Prop := fnExactWroteRow.holds Tryz.pinned (OpenSpec.ofChange fnExactWroteWrong)

/-- 'laws.FnExactSpill': WHATEVER THE INPUT: true; the input reads as it did. -/
def fnExactSpillSpec : ChangeSpec := { name := "fnExactSpill", fn := fun _ => fun
  | [d] => { results := [.lit (.bool true)], args := [d] }
  | _ => none }
def fnExactSpillRow : OpenClaim := { program := "ytbefmbjlogkmbaagreat", sum := "c3bba2a77128890e997895c2b102f49d3bed33bb187b125dbae6dd2ac9a146c7", func := "loop.example/g00217/laws.FnExactSpill", spec := "fnExactSpill", inPlace := ["slices.overlaps[loop.example/g00217/impl.Table]"], unfollowed := true, recurses := true, apart := false }
def FnExactSpillSaid : Prop := fnExactSpillRow.holds Tryz.pinned (OpenSpec.ofChange fnExactSpillSpec)

/-- ITS FALSE NEIGHBOUR: 'it returns false'. Refute it at one input. -/
def fnExactSpillWrong : ChangeSpec := { name := "fnExactSpill", fn := fun _ => fun
  | [d] => { results := [.lit (.bool false)], args := [d] }
  | _ => none }
def FnExactSpillWrongFalsely : Prop := fnExactSpillRow.holds Tryz.pinned (OpenSpec.ofChange fnExactSpillWrong)

/-- 'laws.FnExactSink': WHATEVER THE INPUT: true; the input reads as it did. -/
def fnExactSinkSpec : ChangeSpec := { name := "fnExactSink", fn := fun _ => fun
  | [d] => { results := [.lit (.bool true)], args := [d] }
  | _ => none }
def fnExactSinkRow : OpenClaim := { program := "ytbefmbjlogkmbaagreat", sum := "c3bba2a77128890e997895c2b102f49d3bed33bb187b125dbae6dd2ac9a146c7", func := "loop.example/g00217/laws.FnExactSink", spec := "fnExactSink", unfollowed := true, recurses := true, apart := false }
def FnExactSinkSaid : Prop := fnExactSinkRow.holds Tryz.pinned (OpenSpec.ofChange fnExactSinkSpec)

/-- ITS FALSE NEIGHBOUR: 'it returns false'. Refute it at one input. -/
def fnExactSinkWrong : ChangeSpec := { name := "fnExactSink", fn := fun _ => fun
  | [d] => { results := [.lit (.bool false)], args := [d] }
  | _ => none }
def FnExactSinkWrongFalsely : Prop := fnExactSinkRow.holds Tryz.pinned (OpenSpec.ofChange fnExactSinkWrong)

/- THE SECOND FORM. 'bulk': how many values and letters a reading holds, each counted each time it is reached (what is shared counts as often as it is met; a slice's spare places count too). A statement '..UptoSaid' is the law's where the arguments, and the package variables that the reading takes, are together of bulk at most 1048576: NARROWER than '..Said'. Prove '..Said' where nothing that the law and all that it calls make is longer than what came in: it says more and counts as full. Else prove '..UptoSaid'. A law counts once. -/
mutual
def uptoBulk {H : Type} : DataW H → Nat
  | .lit (.string bytes) => bytes.length + 1
  | .lit _ => 1
  | .nil => 1
  | .ptr d => uptoBulk d + 1
  | .slice elems spare => uptoBulkAll elems + uptoBulkAll spare + 1
  | .agg parts => uptoBulkAll parts + 1
  | .iface _ d => uptoBulk d + 1
  | .map entries => uptoBulkEntries entries + 1
  | .held _ => 1
def uptoBulkAll {H : Type} : List (DataW H) → Nat
  | [] => 0
  | d :: r => uptoBulk d + uptoBulkAll r
def uptoBulkEntries {H : Type} : List (Lit × DataW H) → Nat
  | [] => 0
  | x :: r => uptoBulkEntry x + uptoBulkEntries r
def uptoBulkEntry {H : Type} : Lit × DataW H → Nat
  | (.string bytes, d) => bytes.length + uptoBulk d + 1
  | (_, d) => uptoBulk d + 1
 end
def uptoSmall : (H : Type) → List (DataW H) → Bool := fun _ ds => decide (uptoBulkAll ds ≤ 1048576)
def OpenSpec.upto (s : _root_.Go.ChangeSpec) : _root_.Go.OpenSpec := { _root_.Go.OpenSpec.ofChange s with cond := some uptoSmall }

/-- 'laws.FnExactWrote', WHERE WHAT IT READS IS OF BULK AT MOST 1048576: true; the input reads as it did. -/
def fnExactWroteUptoRow : OpenClaim := { program := "ytbefmbjlogkmbaagreat", sum := "c3bba2a77128890e997895c2b102f49d3bed33bb187b125dbae6dd2ac9a146c7", func := "loop.example/g00217/laws.FnExactWrote", spec := "fnExactWrote", unfollowed := true, recurses := true, apart := false, narrowed := true }
def FnExactWroteUptoSaid : Prop := fnExactWroteUptoRow.holds Tryz.pinned (OpenSpec.upto fnExactWroteSpec)

/-- 'laws.FnExactSpill', WHERE WHAT IT READS IS OF BULK AT MOST 1048576: true; the input reads as it did. -/
def fnExactSpillUptoRow : OpenClaim := { program := "ytbefmbjlogkmbaagreat", sum := "c3bba2a77128890e997895c2b102f49d3bed33bb187b125dbae6dd2ac9a146c7", func := "loop.example/g00217/laws.FnExactSpill", spec := "fnExactSpill", inPlace := ["slices.overlaps[loop.example/g00217/impl.Table]"], unfollowed := true, recurses := true, apart := false, narrowed := true }
def FnExactSpillUptoSaid : Prop := fnExactSpillUptoRow.holds Tryz.pinned (OpenSpec.upto fnExactSpillSpec)

/-- 'laws.FnExactSink', WHERE WHAT IT READS IS OF BULK AT MOST 1048576: true; the input reads as it did. -/
def fnExactSinkUptoRow : OpenClaim := { program := "ytbefmbjlogkmbaagreat", sum := "c3bba2a77128890e997895c2b102f49d3bed33bb187b125dbae6dd2ac9a146c7", func := "loop.example/g00217/laws.FnExactSink", spec := "fnExactSink", unfollowed := true, recurses := true, apart := false, narrowed := true }
def FnExactSinkUptoSaid : Prop := fnExactSinkUptoRow.holds Tryz.pinned (OpenSpec.upto fnExactSinkSpec)

end Rows
end Go.Proofs.YtbefmbjlogkmbaaGreat
