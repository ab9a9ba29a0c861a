/-
  NARROWER THAN 'FOR EVERY INPUT', by the rows' own cells (each row's printed sentence says how): FnExactKeepOk: ifaces, laid · FnExactOpened: ifaces, laid · FnExactStore: ifaces, laid · FnExactForce: ifaces, laid · FnExactFail: ifaces, laid · FnExactTidy: ifaces, laid.
  DERIVED. THE GIVEN ROWS OF THIS SEAT. 6 by the template 'for every input the law returns true; each argument reads behind the call as it read before'; 0 by the template 'total and deterministic' (their statements: YtannfbpohhnnkaaGreatDoorTotals.lean).
  GIVEN WITH THE SEED: the statements are not yours to turn. If you find one false, say at which input.
  Laid BY PROGRAM, IN A SANDBOX (cutbox-rows.mjs): the forced cells as the released guide's own fill.sh prints them over the translation 43a1570f4ca7feeb… (all of the seat's roots in one cut). By AI agents, Wed Nov 11 2026. No macro, syntax, notation, axiom, sorry.
-/
import Derived.Test.YtannfbpohhnnkaaGreatDoorChecked
import GoSem.Claim
import GoSem.ClaimJoined
import GoSem.ClaimMapViews
import Derived.JoinedTies
import Derived.KernelRfl
namespace Go.Proofs.YtannfbpohhnnkaaGreatDoor
/- THE CELL 'sum', in the pinned program and in every row, IS THE sha256 OF THE DUMP (.gsa) THAT YtannfbpohhnnkaaGreatDoorProg.lean LOADS. Nothing in Lean hashes anything: it is a label: what it is worth is what the hold of that sum in a sandbox is worth. -/
noncomputable def Tryz.pinned : Pinned := { name := "ytannfbpohhnnkaagreatdoor", sum := "43a1570f4ca7feeb84a9bcbacfdf185ca8a67cfdc420f3fe02051c1c3e7a2f3e", checked := Tryz.checked }
namespace Rows
def none {H : Type} : Left H := { results := [], args := [] }

/- WHAT THE LISTED PACKAGE-LEVEL VARIABLES READ AS WHEN THE CALL BEGINS. Each datum BY PROGRAM (the guide's laid-datum.mjs) off the statement by which the dump's own 'gosem.cut.vars' lays the variable. In a bare row this is a premise. The card (YtannfbpohhnnkaaGreatDoorCards.lean) ties it to the program's text. -/
def laid_math_bits_deBruijn32tab {H : Type} : DataW H := .agg [.lit (.int .u8 0), .lit (.int .u8 1), .lit (.int .u8 28), .lit (.int .u8 2), .lit (.int .u8 29), .lit (.int .u8 14), .lit (.int .u8 24), .lit (.int .u8 3), .lit (.int .u8 30), .lit (.int .u8 22), .lit (.int .u8 20), .lit (.int .u8 15), .lit (.int .u8 25), .lit (.int .u8 17), .lit (.int .u8 4), .lit (.int .u8 8), .lit (.int .u8 31), .lit (.int .u8 27), .lit (.int .u8 13), .lit (.int .u8 23), .lit (.int .u8 21), .lit (.int .u8 19), .lit (.int .u8 16), .lit (.int .u8 7), .lit (.int .u8 26), .lit (.int .u8 12), .lit (.int .u8 18), .lit (.int .u8 6), .lit (.int .u8 11), .lit (.int .u8 5), .lit (.int .u8 10), .lit (.int .u8 9)]
def laid_math_bits_deBruijn64tab {H : Type} : DataW H := .agg [.lit (.int .u8 0), .lit (.int .u8 1), .lit (.int .u8 56), .lit (.int .u8 2), .lit (.int .u8 57), .lit (.int .u8 49), .lit (.int .u8 28), .lit (.int .u8 3), .lit (.int .u8 61), .lit (.int .u8 58), .lit (.int .u8 42), .lit (.int .u8 50), .lit (.int .u8 38), .lit (.int .u8 29), .lit (.int .u8 17), .lit (.int .u8 4), .lit (.int .u8 62), .lit (.int .u8 47), .lit (.int .u8 59), .lit (.int .u8 36), .lit (.int .u8 45), .lit (.int .u8 43), .lit (.int .u8 51), .lit (.int .u8 22), .lit (.int .u8 53), .lit (.int .u8 39), .lit (.int .u8 33), .lit (.int .u8 30), .lit (.int .u8 24), .lit (.int .u8 18), .lit (.int .u8 12), .lit (.int .u8 5), .lit (.int .u8 63), .lit (.int .u8 55), .lit (.int .u8 48), .lit (.int .u8 27), .lit (.int .u8 60), .lit (.int .u8 41), .lit (.int .u8 37), .lit (.int .u8 16), .lit (.int .u8 46), .lit (.int .u8 35), .lit (.int .u8 44), .lit (.int .u8 21), .lit (.int .u8 52), .lit (.int .u8 32), .lit (.int .u8 23), .lit (.int .u8 11), .lit (.int .u8 54), .lit (.int .u8 26), .lit (.int .u8 40), .lit (.int .u8 15), .lit (.int .u8 34), .lit (.int .u8 20), .lit (.int .u8 31), .lit (.int .u8 10), .lit (.int .u8 25), .lit (.int .u8 14), .lit (.int .u8 19), .lit (.int .u8 9), .lit (.int .u8 13), .lit (.int .u8 8), .lit (.int .u8 7), .lit (.int .u8 6)]
def laid_internal_strconv_uint64pow10 {H : Type} : DataW H := .agg [.lit (.int .u64 1), .lit (.int .u64 10), .lit (.int .u64 100), .lit (.int .u64 1000), .lit (.int .u64 10000), .lit (.int .u64 100000), .lit (.int .u64 1000000), .lit (.int .u64 10000000), .lit (.int .u64 100000000), .lit (.int .u64 1000000000), .lit (.int .u64 10000000000), .lit (.int .u64 100000000000), .lit (.int .u64 1000000000000), .lit (.int .u64 10000000000000), .lit (.int .u64 100000000000000), .lit (.int .u64 1000000000000000), .lit (.int .u64 10000000000000000), .lit (.int .u64 100000000000000000), .lit (.int .u64 1000000000000000000), .lit (.int .u64 10000000000000000000)]
def laid_loop_example_g00217_impl_errNoRoom {H : Type} : DataW H := .iface "*errors.errorString" (.ptr (.agg [.lit (.string [116, 104, 101, 114, 101, 32, 105, 115, 32, 110, 111, 32, 114, 111, 111, 109, 32, 102, 111, 114, 32, 116, 104, 101, 32, 98, 97, 116, 99, 104])]))

/-- 'laws.FnExactKeepOk': WHATEVER THE INPUT: true; the input reads as it did. -/
def fnExactKeepOkSpec : ChangeSpec := { name := "fnExactKeepOk", vars := ["loop.example/g00217/impl.errNoRoom"], fn := fun _ => fun
  | [d, g1] => { results := [.lit (.bool true)], args := [d], vars := [g1] }
  | _ => none }
def fnExactKeepOkRow : OpenClaim := { program := "ytannfbpohhnnkaagreatdoor", sum := "43a1570f4ca7feeb84a9bcbacfdf185ca8a67cfdc420f3fe02051c1c3e7a2f3e", func := "loop.example/g00217/laws.FnExactKeepOk", spec := "fnExactKeepOk", inPlace := ["slices.overlaps[loop.example/g00217/impl.Table]", "internal/abi.NoEscape", "internal/bytealg.MakeNoZero"], unfollowed := true, recurses := true, named := ["internal/strconv.uint64pow10", "math/bits.deBruijn32tab", "math/bits.deBruijn64tab", "loop.example/g00217/impl.errNoRoom"], ifaces := true, apart := false, laid := [("math/bits.deBruijn32tab", laid_math_bits_deBruijn32tab), ("math/bits.deBruijn64tab", laid_math_bits_deBruijn64tab), ("internal/strconv.uint64pow10", laid_internal_strconv_uint64pow10), ("loop.example/g00217/impl.errNoRoom", laid_loop_example_g00217_impl_errNoRoom)] }
def FnExactKeepOkSaid : Prop := fnExactKeepOkRow.holds Tryz.pinned (OpenSpec.ofChange fnExactKeepOkSpec)

/-- ITS FALSE NEIGHBOUR: 'it returns false'. Refute it at one input. -/
def fnExactKeepOkWrong : ChangeSpec := { name := "fnExactKeepOk", vars := ["loop.example/g00217/impl.errNoRoom"], fn := fun _ => fun
  | [d, g1] => { results := [.lit (.bool false)], args := [d], vars := [g1] }
  | _ => none }
def FnExactKeepOkWrongFalsely : Prop := fnExactKeepOkRow.holds Tryz.pinned (OpenSpec.ofChange fnExactKeepOkWrong)

/-- 'laws.FnExactOpened': WHATEVER THE INPUT: true; the input reads as it did. -/
def fnExactOpenedSpec : ChangeSpec := { name := "fnExactOpened", vars := ["loop.example/g00217/impl.errNoRoom"], fn := fun _ => fun
  | [d, g1] => { results := [.lit (.bool true)], args := [d], vars := [g1] }
  | _ => none }
def fnExactOpenedRow : OpenClaim := { program := "ytannfbpohhnnkaagreatdoor", sum := "43a1570f4ca7feeb84a9bcbacfdf185ca8a67cfdc420f3fe02051c1c3e7a2f3e", func := "loop.example/g00217/laws.FnExactOpened", spec := "fnExactOpened", inPlace := ["slices.overlaps[loop.example/g00217/impl.Table]"], unfollowed := true, recurses := true, named := ["internal/strconv.uint64pow10", "math/bits.deBruijn32tab", "math/bits.deBruijn64tab", "loop.example/g00217/impl.errNoRoom"], ifaces := true, apart := false, laid := [("math/bits.deBruijn32tab", laid_math_bits_deBruijn32tab), ("math/bits.deBruijn64tab", laid_math_bits_deBruijn64tab), ("internal/strconv.uint64pow10", laid_internal_strconv_uint64pow10), ("loop.example/g00217/impl.errNoRoom", laid_loop_example_g00217_impl_errNoRoom)] }
def FnExactOpenedSaid : Prop := fnExactOpenedRow.holds Tryz.pinned (OpenSpec.ofChange fnExactOpenedSpec)

/-- ITS FALSE NEIGHBOUR: 'it returns false'. Refute it at one input. -/
def fnExactOpenedWrong : ChangeSpec := { name := "fnExactOpened", vars := ["loop.example/g00217/impl.errNoRoom"], fn := fun _ => fun
  | [d, g1] => { results := [.lit (.bool false)], args := [d], vars := [g1] }
  | _ => none }
def FnExactOpenedWrongFalsely : Prop := fnExactOpenedRow.holds Tryz.pinned (OpenSpec.ofChange fnExactOpenedWrong)

/-- 'laws.FnExactStore': WHATEVER THE INPUT: true; the input reads as it did. -/
def fnExactStoreSpec : ChangeSpec := { name := "fnExactStore", vars := ["loop.example/g00217/impl.errNoRoom"], fn := fun _ => fun
  | [d1, d2, g1] => { results := [.lit (.bool true)], args := [d1, d2], vars := [g1] }
  | _ => none }
def fnExactStoreRow : OpenClaim := { program := "ytannfbpohhnnkaagreatdoor", sum := "43a1570f4ca7feeb84a9bcbacfdf185ca8a67cfdc420f3fe02051c1c3e7a2f3e", func := "loop.example/g00217/laws.FnExactStore", spec := "fnExactStore", inPlace := ["slices.overlaps[loop.example/g00217/impl.Table]", "internal/abi.NoEscape", "internal/bytealg.MakeNoZero"], unfollowed := true, recurses := true, named := ["internal/strconv.uint64pow10", "math/bits.deBruijn32tab", "math/bits.deBruijn64tab", "loop.example/g00217/impl.errNoRoom"], ifaces := true, apart := false, laid := [("math/bits.deBruijn32tab", laid_math_bits_deBruijn32tab), ("math/bits.deBruijn64tab", laid_math_bits_deBruijn64tab), ("internal/strconv.uint64pow10", laid_internal_strconv_uint64pow10), ("loop.example/g00217/impl.errNoRoom", laid_loop_example_g00217_impl_errNoRoom)] }
def FnExactStoreSaid : Prop := fnExactStoreRow.holds Tryz.pinned (OpenSpec.ofChange fnExactStoreSpec)

/-- ITS FALSE NEIGHBOUR: 'it returns false'. Refute it at one input. -/
def fnExactStoreWrong : ChangeSpec := { name := "fnExactStore", vars := ["loop.example/g00217/impl.errNoRoom"], fn := fun _ => fun
  | [d1, d2, g1] => { results := [.lit (.bool false)], args := [d1, d2], vars := [g1] }
  | _ => none }
def FnExactStoreWrongFalsely : Prop := fnExactStoreRow.holds Tryz.pinned (OpenSpec.ofChange fnExactStoreWrong)

/-- 'laws.FnExactForce': WHATEVER THE INPUT: true; the input reads as it did. -/
def fnExactForceSpec : ChangeSpec := { name := "fnExactForce", vars := ["loop.example/g00217/impl.errNoRoom"], fn := fun _ => fun
  | [d, g1] => { results := [.lit (.bool true)], args := [d], vars := [g1] }
  | _ => none }
def fnExactForceRow : OpenClaim := { program := "ytannfbpohhnnkaagreatdoor", sum := "43a1570f4ca7feeb84a9bcbacfdf185ca8a67cfdc420f3fe02051c1c3e7a2f3e", func := "loop.example/g00217/laws.FnExactForce", spec := "fnExactForce", inPlace := ["slices.overlaps[loop.example/g00217/impl.Table]", "internal/abi.NoEscape", "internal/bytealg.MakeNoZero"], unfollowed := true, recurses := true, named := ["internal/strconv.uint64pow10", "math/bits.deBruijn32tab", "math/bits.deBruijn64tab", "loop.example/g00217/impl.errNoRoom"], ifaces := true, apart := false, laid := [("math/bits.deBruijn32tab", laid_math_bits_deBruijn32tab), ("math/bits.deBruijn64tab", laid_math_bits_deBruijn64tab), ("internal/strconv.uint64pow10", laid_internal_strconv_uint64pow10), ("loop.example/g00217/impl.errNoRoom", laid_loop_example_g00217_impl_errNoRoom)] }
def FnExactForceSaid : Prop := fnExactForceRow.holds Tryz.pinned (OpenSpec.ofChange fnExactForceSpec)

/-- ITS FALSE NEIGHBOUR: 'it returns false'. Refute it at one input. -/
def fnExactForceWrong : ChangeSpec := { name := "fnExactForce", vars := ["loop.example/g00217/impl.errNoRoom"], fn := fun _ => fun
  | [d, g1] => { results := [.lit (.bool false)], args := [d], vars := [g1] }
  | _ => none }
def FnExactForceWrongFalsely : Prop := fnExactForceRow.holds Tryz.pinned (OpenSpec.ofChange fnExactForceWrong)

/-- 'laws.FnExactFail': WHATEVER THE INPUT: true; the input reads as it did. -/
def fnExactFailSpec : ChangeSpec := { name := "fnExactFail", vars := ["loop.example/g00217/impl.errNoRoom"], fn := fun _ => fun
  | [d1, d2, g1] => { results := [.lit (.bool true)], args := [d1, d2], vars := [g1] }
  | _ => none }
def fnExactFailRow : OpenClaim := { program := "ytannfbpohhnnkaagreatdoor", sum := "43a1570f4ca7feeb84a9bcbacfdf185ca8a67cfdc420f3fe02051c1c3e7a2f3e", func := "loop.example/g00217/laws.FnExactFail", spec := "fnExactFail", inPlace := ["slices.overlaps[loop.example/g00217/impl.Table]", "internal/abi.NoEscape", "internal/bytealg.MakeNoZero"], unfollowed := true, recurses := true, named := ["internal/strconv.uint64pow10", "math/bits.deBruijn32tab", "math/bits.deBruijn64tab", "loop.example/g00217/impl.errNoRoom"], ifaces := true, apart := false, laid := [("math/bits.deBruijn32tab", laid_math_bits_deBruijn32tab), ("math/bits.deBruijn64tab", laid_math_bits_deBruijn64tab), ("internal/strconv.uint64pow10", laid_internal_strconv_uint64pow10), ("loop.example/g00217/impl.errNoRoom", laid_loop_example_g00217_impl_errNoRoom)] }
def FnExactFailSaid : Prop := fnExactFailRow.holds Tryz.pinned (OpenSpec.ofChange fnExactFailSpec)

/-- ITS FALSE NEIGHBOUR: 'it returns false'. Refute it at one input. -/
def fnExactFailWrong : ChangeSpec := { name := "fnExactFail", vars := ["loop.example/g00217/impl.errNoRoom"], fn := fun _ => fun
  | [d1, d2, g1] => { results := [.lit (.bool false)], args := [d1, d2], vars := [g1] }
  | _ => none }
def FnExactFailWrongFalsely : Prop := fnExactFailRow.holds Tryz.pinned (OpenSpec.ofChange fnExactFailWrong)

/-- 'laws.FnExactTidy': WHATEVER THE INPUT: true; the input reads as it did. -/
def fnExactTidySpec : ChangeSpec := { name := "fnExactTidy", vars := ["loop.example/g00217/impl.errNoRoom"], fn := fun _ => fun
  | [d, g1] => { results := [.lit (.bool true)], args := [d], vars := [g1] }
  | _ => none }
def fnExactTidyRow : OpenClaim := { program := "ytannfbpohhnnkaagreatdoor", sum := "43a1570f4ca7feeb84a9bcbacfdf185ca8a67cfdc420f3fe02051c1c3e7a2f3e", func := "loop.example/g00217/laws.FnExactTidy", spec := "fnExactTidy", inPlace := ["slices.overlaps[loop.example/g00217/impl.Table]", "internal/abi.NoEscape", "internal/bytealg.MakeNoZero"], unfollowed := true, recurses := true, named := ["internal/strconv.uint64pow10", "math/bits.deBruijn32tab", "math/bits.deBruijn64tab", "loop.example/g00217/impl.errNoRoom"], ifaces := true, apart := false, laid := [("math/bits.deBruijn32tab", laid_math_bits_deBruijn32tab), ("math/bits.deBruijn64tab", laid_math_bits_deBruijn64tab), ("internal/strconv.uint64pow10", laid_internal_strconv_uint64pow10), ("loop.example/g00217/impl.errNoRoom", laid_loop_example_g00217_impl_errNoRoom)] }
def FnExactTidySaid : Prop := fnExactTidyRow.holds Tryz.pinned (OpenSpec.ofChange fnExactTidySpec)

/-- ITS FALSE NEIGHBOUR: 'it returns false'. Refute it at one input. -/
def fnExactTidyWrong : ChangeSpec := { name := "fnExactTidy", vars := ["loop.example/g00217/impl.errNoRoom"], fn := fun _ => fun
  | [d, g1] => { results := [.lit (.bool false)], args := [d], vars := [g1] }
  | _ => none }
def FnExactTidyWrongFalsely : Prop := fnExactTidyRow.holds Tryz.pinned (OpenSpec.ofChange fnExactTidyWrong)

/- THE SECOND FORM. 'bulk': how many values and letters a reading holds, each counted each time it is reached (what is shared counts as often as it is met; a slice's spare places count too). A statement '..UptoSaid' is the law's where the arguments, and the package variables that the reading takes, are together of bulk at most 1048576: NARROWER than '..Said'. Prove '..Said' where nothing that the law and all that it calls make is longer than what came in: it says more and counts as full. Else prove '..UptoSaid'. A law counts once. -/
mutual
def uptoBulk {H : Type} : DataW H → Nat
  | .lit (.string bytes) => bytes.length + 1
  | .lit _ => 1
  | .nil => 1
  | .ptr d => uptoBulk d + 1
  | .slice elems spare => uptoBulkAll elems + uptoBulkAll spare + 1
  | .agg parts => uptoBulkAll parts + 1
  | .iface _ d => uptoBulk d + 1
  | .map entries => uptoBulkEntries entries + 1
  | .held _ => 1
def uptoBulkAll {H : Type} : List (DataW H) → Nat
  | [] => 0
  | d :: r => uptoBulk d + uptoBulkAll r
def uptoBulkEntries {H : Type} : List (Lit × DataW H) → Nat
  | [] => 0
  | x :: r => uptoBulkEntry x + uptoBulkEntries r
def uptoBulkEntry {H : Type} : Lit × DataW H → Nat
  | (.string bytes, d) => bytes.length + uptoBulk d + 1
  | (_, d) => uptoBulk d + 1
 end
def uptoSmall : (H : Type) → List (DataW H) → Bool := fun _ ds => decide (uptoBulkAll ds ≤ 1048576)
def OpenSpec.upto (s : _root_.Go.ChangeSpec) : _root_.Go.OpenSpec := { _root_.Go.OpenSpec.ofChange s with cond := some uptoSmall }

/-- 'laws.FnExactKeepOk', WHERE WHAT IT READS IS OF BULK AT MOST 1048576: true; the input reads as it did. -/
def fnExactKeepOkUptoRow : OpenClaim := { program := "ytannfbpohhnnkaagreatdoor", sum := "43a1570f4ca7feeb84a9bcbacfdf185ca8a67cfdc420f3fe02051c1c3e7a2f3e", func := "loop.example/g00217/laws.FnExactKeepOk", spec := "fnExactKeepOk", inPlace := ["slices.overlaps[loop.example/g00217/impl.Table]", "internal/abi.NoEscape", "internal/bytealg.MakeNoZero"], unfollowed := true, recurses := true, named := ["internal/strconv.uint64pow10", "math/bits.deBruijn32tab", "math/bits.deBruijn64tab", "loop.example/g00217/impl.errNoRoom"], ifaces := true, apart := false, laid := [("math/bits.deBruijn32tab", laid_math_bits_deBruijn32tab), ("math/bits.deBruijn64tab", laid_math_bits_deBruijn64tab), ("internal/strconv.uint64pow10", laid_internal_strconv_uint64pow10), ("loop.example/g00217/impl.errNoRoom", laid_loop_example_g00217_impl_errNoRoom)], narrowed := true }
def FnExactKeepOkUptoSaid : Prop := fnExactKeepOkUptoRow.holds Tryz.pinned (OpenSpec.upto fnExactKeepOkSpec)

/-- 'laws.FnExactOpened', WHERE WHAT IT READS IS OF BULK AT MOST 1048576: true; the input reads as it did. -/
def fnExactOpenedUptoRow : OpenClaim := { program := "ytannfbpohhnnkaagreatdoor", sum := "43a1570f4ca7feeb84a9bcbacfdf185ca8a67cfdc420f3fe02051c1c3e7a2f3e", func := "loop.example/g00217/laws.FnExactOpened", spec := "fnExactOpened", inPlace := ["slices.overlaps[loop.example/g00217/impl.Table]"], unfollowed := true, recurses := true, named := ["internal/strconv.uint64pow10", "math/bits.deBruijn32tab", "math/bits.deBruijn64tab", "loop.example/g00217/impl.errNoRoom"], ifaces := true, apart := false, laid := [("math/bits.deBruijn32tab", laid_math_bits_deBruijn32tab), ("math/bits.deBruijn64tab", laid_math_bits_deBruijn64tab), ("internal/strconv.uint64pow10", laid_internal_strconv_uint64pow10), ("loop.example/g00217/impl.errNoRoom", laid_loop_example_g00217_impl_errNoRoom)], narrowed := true }
def FnExactOpenedUptoSaid : Prop := fnExactOpenedUptoRow.holds Tryz.pinned (OpenSpec.upto fnExactOpenedSpec)

/-- 'laws.FnExactStore', WHERE WHAT IT READS IS OF BULK AT MOST 1048576: true; the input reads as it did. -/
def fnExactStoreUptoRow : OpenClaim := { program := "ytannfbpohhnnkaagreatdoor", sum := "43a1570f4ca7feeb84a9bcbacfdf185ca8a67cfdc420f3fe02051c1c3e7a2f3e", func := "loop.example/g00217/laws.FnExactStore", spec := "fnExactStore", inPlace := ["slices.overlaps[loop.example/g00217/impl.Table]", "internal/abi.NoEscape", "internal/bytealg.MakeNoZero"], unfollowed := true, recurses := true, named := ["internal/strconv.uint64pow10", "math/bits.deBruijn32tab", "math/bits.deBruijn64tab", "loop.example/g00217/impl.errNoRoom"], ifaces := true, apart := false, laid := [("math/bits.deBruijn32tab", laid_math_bits_deBruijn32tab), ("math/bits.deBruijn64tab", laid_math_bits_deBruijn64tab), ("internal/strconv.uint64pow10", laid_internal_strconv_uint64pow10), ("loop.example/g00217/impl.errNoRoom", laid_loop_example_g00217_impl_errNoRoom)], narrowed := true }
def FnExactStoreUptoSaid : Prop := fnExactStoreUptoRow.holds Tryz.pinned (OpenSpec.upto fnExactStoreSpec)

/-- 'laws.FnExactForce', WHERE WHAT IT READS IS OF BULK AT MOST 1048576: true; the input reads as it did. -/
def fnExactForceUptoRow : OpenClaim := { program := "ytannfbpohhnnkaagreatdoor", sum := "43a1570f4ca7feeb84a9bcbacfdf185ca8a67cfdc420f3fe02051c1c3e7a2f3e", func := "loop.example/g00217/laws.FnExactForce", spec := "fnExactForce", inPlace := ["slices.overlaps[loop.example/g00217/impl.Table]", "internal/abi.NoEscape", "internal/bytealg.MakeNoZero"], unfollowed := true, recurses := true, named := ["internal/strconv.uint64pow10", "math/bits.deBruijn32tab", "math/bits.deBruijn64tab", "loop.example/g00217/impl.errNoRoom"], ifaces := true, apart := false, laid := [("math/bits.deBruijn32tab", laid_math_bits_deBruijn32tab), ("math/bits.deBruijn64tab", laid_math_bits_deBruijn64tab), ("internal/strconv.uint64pow10", laid_internal_strconv_uint64pow10), ("loop.example/g00217/impl.errNoRoom", laid_loop_example_g00217_impl_errNoRoom)], narrowed := true }
def FnExactForceUptoSaid : Prop := fnExactForceUptoRow.holds Tryz.pinned (OpenSpec.upto fnExactForceSpec)

/-- 'laws.FnExactFail', WHERE WHAT IT READS IS OF BULK AT MOST 1048576: true; the input reads as it did. -/
def fnExactFailUptoRow : OpenClaim := { program := "ytannfbpohhnnkaagreatdoor", sum := "43a1570f4ca7feeb84a9bcbacfdf185ca8a67cfdc420f3fe02051c1c3e7a2f3e", func := "loop.example/g00217/laws.FnExactFail", spec := "fnExactFail", inPlace := ["slices.overlaps[loop.example/g00217/impl.Table]", "internal/abi.NoEscape", "internal/bytealg.MakeNoZero"], unfollowed := true, recurses := true, named := ["internal/strconv.uint64pow10", "math/bits.deBruijn32tab", "math/bits.deBruijn64tab", "loop.example/g00217/impl.errNoRoom"], ifaces := true, apart := false, laid := [("math/bits.deBruijn32tab", laid_math_bits_deBruijn32tab), ("math/bits.deBruijn64tab", laid_math_bits_deBruijn64tab), ("internal/strconv.uint64pow10", laid_internal_strconv_uint64pow10), ("loop.example/g00217/impl.errNoRoom", laid_loop_example_g00217_impl_errNoRoom)], narrowed := true }
def FnExactFailUptoSaid : Prop := fnExactFailUptoRow.holds Tryz.pinned (OpenSpec.upto fnExactFailSpec)

/-- 'laws.FnExactTidy', WHERE WHAT IT READS IS OF BULK AT MOST 1048576: true; the input reads as it did. -/
def fnExactTidyUptoRow : OpenClaim := { program := "ytannfbpohhnnkaagreatdoor", sum := "43a1570f4ca7feeb84a9bcbacfdf185ca8a67cfdc420f3fe02051c1c3e7a2f3e", func := "loop.example/g00217/laws.FnExactTidy", spec := "fnExactTidy", inPlace := ["slices.overlaps[loop.example/g00217/impl.Table]", "internal/abi.NoEscape", "internal/bytealg.MakeNoZero"], unfollowed := true, recurses := true, named := ["internal/strconv.uint64pow10", "math/bits.deBruijn32tab", "math/bits.deBruijn64tab", "loop.example/g00217/impl.errNoRoom"], ifaces := true, apart := false, laid := [("math/bits.deBruijn32tab", laid_math_bits_deBruijn32tab), ("math/bits.deBruijn64tab", laid_math_bits_deBruijn64tab), ("internal/strconv.uint64pow10", laid_internal_strconv_uint64pow10), ("loop.example/g00217/impl.errNoRoom", laid_loop_example_g00217_impl_errNoRoom)], narrowed := true }
def FnExactTidyUptoSaid : Prop := fnExactTidyUptoRow.holds Tryz.pinned (OpenSpec.upto fnExactTidySpec)

end Rows
end Go.Proofs.YtannfbpohhnnkaaGreatDoor
