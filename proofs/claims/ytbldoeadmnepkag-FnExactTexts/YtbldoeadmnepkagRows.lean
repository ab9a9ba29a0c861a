/-
  No cell of these rows narrows 'for every input' (looked for: loops, veiled, ifaces, maps, wideKeys, modest, calm, conditions, laid).
  DERIVED. THE GIVEN ROWS OF THIS SEAT. 6 by the template 'for every input the law returns true; each argument reads behind the call as it read before'; 0 by the template 'total and deterministic' (their statements: YtbldoeadmnepkagTotals.lean).
  GIVEN WITH THE SEED: the statements are not yours to turn. If you find one false, say at which input.
  Laid BY PROGRAM, IN A SANDBOX (cutbox-rows.mjs): the forced cells as the released guide's own fill.sh prints them over the translation 46fb640cc279cd9f… (all of the seat's roots in one cut). By AI agents, Wed Nov 11 2026. No macro, syntax, notation, axiom, sorry.
-/
import Derived.Test.YtbldoeadmnepkagChecked
import GoSem.Claim
import GoSem.ClaimJoined
import GoSem.ClaimMapViews
import Derived.JoinedTies
import Derived.KernelRfl
namespace Go.Proofs.Ytbldoeadmnepkag
/- THE CELL 'sum', in the pinned program and in every row, IS THE sha256 OF THE DUMP (.gsa) THAT YtbldoeadmnepkagProg.lean LOADS. Nothing in Lean hashes anything: it is a label: what it is worth is what the hold of that sum in a sandbox is worth. -/
noncomputable def Try.pinned : Pinned := { name := "ytbldoeadmnepkag", sum := "46fb640cc279cd9f04a4cf1705557a69597a99f19546e2437882389bb3a2a940", checked := Try.checked }
namespace Rows
def none {H : Type} : Left H := { results := [], args := [] }

/-- 'laws.FnExactNumber': WHATEVER THE INPUT: true; the input reads as it did. -/
def fnExactNumberSpec : ChangeSpec := { name := "fnExactNumber", fn := fun _ => fun
  | [d] => { results := [.lit (.bool true)], args := [d] }
  | _ => none }
def fnExactNumberRow : OpenClaim := { program := "ytbldoeadmnepkag", sum := "46fb640cc279cd9f04a4cf1705557a69597a99f19546e2437882389bb3a2a940", func := "loop.example/g00217/laws.FnExactNumber", spec := "fnExactNumber", apart := false }
def FnExactNumberSaid : Prop := fnExactNumberRow.holds Try.pinned (OpenSpec.ofChange fnExactNumberSpec)

/-- ITS FALSE NEIGHBOUR: 'it returns false'. Refute it at one input. -/
def fnExactNumberWrong : ChangeSpec := { name := "fnExactNumber", fn := fun _ => fun
  | [d] => { results := [.lit (.bool false)], args := [d] }
  | _ => none }
def FnExactNumberWrongFalsely : Prop := fnExactNumberRow.holds Try.pinned (OpenSpec.ofChange fnExactNumberWrong)

/-- 'laws.FnExactReadNumber': WHATEVER THE INPUT: true; the input reads as it did. -/
def fnExactReadNumberSpec : ChangeSpec := { name := "fnExactReadNumber", fn := fun _ => fun
  | [d] => { results := [.lit (.bool true)], args := [d] }
  | _ => none }
def fnExactReadNumberRow : OpenClaim := { program := "ytbldoeadmnepkag", sum := "46fb640cc279cd9f04a4cf1705557a69597a99f19546e2437882389bb3a2a940", func := "loop.example/g00217/laws.FnExactReadNumber", spec := "fnExactReadNumber", unfollowed := true, recurses := true, apart := false }
def FnExactReadNumberSaid : Prop := fnExactReadNumberRow.holds Try.pinned (OpenSpec.ofChange fnExactReadNumberSpec)

/-- ITS FALSE NEIGHBOUR: 'it returns false'. Refute it at one input. -/
def fnExactReadNumberWrong : ChangeSpec := { name := "fnExactReadNumber", fn := fun _ => fun
  | [d] => { results := [.lit (.bool false)], args := [d] }
  | _ => none }
def FnExactReadNumberWrongFalsely : Prop := fnExactReadNumberRow.holds Try.pinned (OpenSpec.ofChange fnExactReadNumberWrong)

/-- 'laws.FnExactText': WHATEVER THE INPUT: true; the input reads as it did. -/
def fnExactTextSpec : ChangeSpec := { name := "fnExactText", fn := fun _ => fun
  | [d] => { results := [.lit (.bool true)], args := [d] }
  | _ => none }
def fnExactTextRow : OpenClaim := { program := "ytbldoeadmnepkag", sum := "46fb640cc279cd9f04a4cf1705557a69597a99f19546e2437882389bb3a2a940", func := "loop.example/g00217/laws.FnExactText", spec := "fnExactText", apart := false }
def FnExactTextSaid : Prop := fnExactTextRow.holds Try.pinned (OpenSpec.ofChange fnExactTextSpec)

/-- ITS FALSE NEIGHBOUR: 'it returns false'. Refute it at one input. -/
def fnExactTextWrong : ChangeSpec := { name := "fnExactText", fn := fun _ => fun
  | [d] => { results := [.lit (.bool false)], args := [d] }
  | _ => none }
def FnExactTextWrongFalsely : Prop := fnExactTextRow.holds Try.pinned (OpenSpec.ofChange fnExactTextWrong)

/-- 'laws.FnExactReadText': WHATEVER THE INPUT: true; the input reads as it did. -/
def fnExactReadTextSpec : ChangeSpec := { name := "fnExactReadText", fn := fun _ => fun
  | [d] => { results := [.lit (.bool true)], args := [d] }
  | _ => none }
def fnExactReadTextRow : OpenClaim := { program := "ytbldoeadmnepkag", sum := "46fb640cc279cd9f04a4cf1705557a69597a99f19546e2437882389bb3a2a940", func := "loop.example/g00217/laws.FnExactReadText", spec := "fnExactReadText", unfollowed := true, recurses := true, apart := false }
def FnExactReadTextSaid : Prop := fnExactReadTextRow.holds Try.pinned (OpenSpec.ofChange fnExactReadTextSpec)

/-- ITS FALSE NEIGHBOUR: 'it returns false'. Refute it at one input. -/
def fnExactReadTextWrong : ChangeSpec := { name := "fnExactReadText", fn := fun _ => fun
  | [d] => { results := [.lit (.bool false)], args := [d] }
  | _ => none }
def FnExactReadTextWrongFalsely : Prop := fnExactReadTextRow.holds Try.pinned (OpenSpec.ofChange fnExactReadTextWrong)

/-- 'laws.FnExactTexts': WHATEVER THE INPUT: true; the input reads as it did. -/
def fnExactTextsSpec : ChangeSpec := { name := "fnExactTexts", fn := fun _ => fun
  | [d] => { results := [.lit (.bool true)], args := [d] }
  | _ => none }
def fnExactTextsRow : OpenClaim := { program := "ytbldoeadmnepkag", sum := "46fb640cc279cd9f04a4cf1705557a69597a99f19546e2437882389bb3a2a940", func := "loop.example/g00217/laws.FnExactTexts", spec := "fnExactTexts", apart := false }
def FnExactTextsSaid : Prop := fnExactTextsRow.holds Try.pinned (OpenSpec.ofChange fnExactTextsSpec)

/-- ITS FALSE NEIGHBOUR: 'it returns false'. Refute it at one input. -/
def fnExactTextsWrong : ChangeSpec := { name := "fnExactTexts", fn := fun _ => fun
  | [d] => { results := [.lit (.bool false)], args := [d] }
  | _ => none }
def FnExactTextsWrongFalsely : Prop := fnExactTextsRow.holds Try.pinned (OpenSpec.ofChange fnExactTextsWrong)

/-- 'laws.FnExactReadTexts': WHATEVER THE INPUT: true; the input reads as it did. -/
def fnExactReadTextsSpec : ChangeSpec := { name := "fnExactReadTexts", fn := fun _ => fun
  | [d] => { results := [.lit (.bool true)], args := [d] }
  | _ => none }
def fnExactReadTextsRow : OpenClaim := { program := "ytbldoeadmnepkag", sum := "46fb640cc279cd9f04a4cf1705557a69597a99f19546e2437882389bb3a2a940", func := "loop.example/g00217/laws.FnExactReadTexts", spec := "fnExactReadTexts", unfollowed := true, recurses := true, apart := false }
def FnExactReadTextsSaid : Prop := fnExactReadTextsRow.holds Try.pinned (OpenSpec.ofChange fnExactReadTextsSpec)

/-- ITS FALSE NEIGHBOUR: 'it returns false'. Refute it at one input. -/
def fnExactReadTextsWrong : ChangeSpec := { name := "fnExactReadTexts", fn := fun _ => fun
  | [d] => { results := [.lit (.bool false)], args := [d] }
  | _ => none }
def FnExactReadTextsWrongFalsely : Prop := fnExactReadTextsRow.holds Try.pinned (OpenSpec.ofChange fnExactReadTextsWrong)

/- THE SECOND FORM. 'bulk': how many values and letters a reading holds, each counted each time it is reached (what is shared counts as often as it is met; a slice's spare places count too). A statement '..UptoSaid' is the law's where the arguments, and the package variables that the reading takes, are together of bulk at most 1048576: NARROWER than '..Said'. Prove '..Said' where nothing that the law and all that it calls make is longer than what came in: it says more and counts as full. Else prove '..UptoSaid'. A law counts once. -/
mutual
def uptoBulk {H : Type} : DataW H → Nat
  | .lit (.string bytes) => bytes.length + 1
  | .lit _ => 1
  | .nil => 1
  | .ptr d => uptoBulk d + 1
  | .slice elems spare => uptoBulkAll elems + uptoBulkAll spare + 1
  | .agg parts => uptoBulkAll parts + 1
  | .iface _ d => uptoBulk d + 1
  | .map entries => uptoBulkEntries entries + 1
  | .held _ => 1
def uptoBulkAll {H : Type} : List (DataW H) → Nat
  | [] => 0
  | d :: r => uptoBulk d + uptoBulkAll r
def uptoBulkEntries {H : Type} : List (Lit × DataW H) → Nat
  | [] => 0
  | x :: r => uptoBulkEntry x + uptoBulkEntries r
def uptoBulkEntry {H : Type} : Lit × DataW H → Nat
  | (.string bytes, d) => bytes.length + uptoBulk d + 1
  | (_, d) => uptoBulk d + 1
 end
def uptoSmall : (H : Type) → List (DataW H) → Bool := fun _ ds => decide (uptoBulkAll ds ≤ 1048576)
def OpenSpec.upto (s : _root_.Go.ChangeSpec) : _root_.Go.OpenSpec := { _root_.Go.OpenSpec.ofChange s with cond := some uptoSmall }

/-- 'laws.FnExactNumber', WHERE WHAT IT READS IS OF BULK AT MOST 1048576: true; the input reads as it did. -/
def fnExactNumberUptoRow : OpenClaim := { program := "ytbldoeadmnepkag", sum := "46fb640cc279cd9f04a4cf1705557a69597a99f19546e2437882389bb3a2a940", func := "loop.example/g00217/laws.FnExactNumber", spec := "fnExactNumber", apart := false, narrowed := true }
def FnExactNumberUptoSaid : Prop := fnExactNumberUptoRow.holds Try.pinned (OpenSpec.upto fnExactNumberSpec)

/-- 'laws.FnExactReadNumber', WHERE WHAT IT READS IS OF BULK AT MOST 1048576: true; the input reads as it did. -/
def fnExactReadNumberUptoRow : OpenClaim := { program := "ytbldoeadmnepkag", sum := "46fb640cc279cd9f04a4cf1705557a69597a99f19546e2437882389bb3a2a940", func := "loop.example/g00217/laws.FnExactReadNumber", spec := "fnExactReadNumber", unfollowed := true, recurses := true, apart := false, narrowed := true }
def FnExactReadNumberUptoSaid : Prop := fnExactReadNumberUptoRow.holds Try.pinned (OpenSpec.upto fnExactReadNumberSpec)

/-- 'laws.FnExactText', WHERE WHAT IT READS IS OF BULK AT MOST 1048576: true; the input reads as it did. -/
def fnExactTextUptoRow : OpenClaim := { program := "ytbldoeadmnepkag", sum := "46fb640cc279cd9f04a4cf1705557a69597a99f19546e2437882389bb3a2a940", func := "loop.example/g00217/laws.FnExactText", spec := "fnExactText", apart := false, narrowed := true }
def FnExactTextUptoSaid : Prop := fnExactTextUptoRow.holds Try.pinned (OpenSpec.upto fnExactTextSpec)

/-- 'laws.FnExactReadText', WHERE WHAT IT READS IS OF BULK AT MOST 1048576: true; the input reads as it did. -/
def fnExactReadTextUptoRow : OpenClaim := { program := "ytbldoeadmnepkag", sum := "46fb640cc279cd9f04a4cf1705557a69597a99f19546e2437882389bb3a2a940", func := "loop.example/g00217/laws.FnExactReadText", spec := "fnExactReadText", unfollowed := true, recurses := true, apart := false, narrowed := true }
def FnExactReadTextUptoSaid : Prop := fnExactReadTextUptoRow.holds Try.pinned (OpenSpec.upto fnExactReadTextSpec)

/-- 'laws.FnExactTexts', WHERE WHAT IT READS IS OF BULK AT MOST 1048576: true; the input reads as it did. -/
def fnExactTextsUptoRow : OpenClaim := { program := "ytbldoeadmnepkag", sum := "46fb640cc279cd9f04a4cf1705557a69597a99f19546e2437882389bb3a2a940", func := "loop.example/g00217/laws.FnExactTexts", spec := "fnExactTexts", apart := false, narrowed := true }
def FnExactTextsUptoSaid : Prop := fnExactTextsUptoRow.holds Try.pinned (OpenSpec.upto fnExactTextsSpec)

/-- 'laws.FnExactReadTexts', WHERE WHAT IT READS IS OF BULK AT MOST 1048576: true; the input reads as it did. -/
def fnExactReadTextsUptoRow : OpenClaim := { program := "ytbldoeadmnepkag", sum := "46fb640cc279cd9f04a4cf1705557a69597a99f19546e2437882389bb3a2a940", func := "loop.example/g00217/laws.FnExactReadTexts", spec := "fnExactReadTexts", unfollowed := true, recurses := true, apart := false, narrowed := true }
def FnExactReadTextsUptoSaid : Prop := fnExactReadTextsUptoRow.holds Try.pinned (OpenSpec.upto fnExactReadTextsSpec)

end Rows
end Go.Proofs.Ytbldoeadmnepkag
