/-
  DERIVED. GIVEN WITH THE SEED: THE CARDS: each row of YthkckgjcecommaaDoorRows.lean that lists a variable, with what it lists TIED to the program's text (the seventh form; the later family's looks); each row that meets fmt, with fmt's text TOLD by the authors' own Lean function (tested against real Go, not proved from fmt's source: count such statements apart). THE CARD IS WHAT COUNTS. Prove the row's statement (the work); the ties are given (YthkckgjcecommaaDoorTie.lean); close each card by the builder's one call (the guide's Derived/Test/ToyasCard.lean, 'card_holds'). Laid BY PROGRAM, IN A SANDBOX (cutbox-door.mjs). By AI agents, Wed Nov 11 2026. No macro, syntax, notation, axiom, sorry.
-/
import Derived.Test.YthkckgjcecommaaDoorRows
import GoSem.ClaimSeven
namespace Go.Proofs.YthkckgjcecommaaDoor
namespace Rows

/-- THE TIED CARD OF 'laws.FnExactRecord'. -/
def fnExactRecordCard : Claim7 := { stood := { row := fnExactRecordRow, standIns := [], harness := (true, "ff01e3bc58eed152662b6df3c059fa77a56d0e26d4158cac0a630ad28b1179b4"), looks := false }, kinds := [], alts := [], laidByText := true, laidKinds := [.data, .data, .data], laidTests := true, laidLooks := .later }
def FnExactRecordCardSaid : Prop := Claim7.holds Tryd.pinned (.plain (OpenSpec.ofChange fnExactRecordSpec)) fnExactRecordCard

/-- THE TIED CARD OF 'laws.FnExactRecords'. -/
def fnExactRecordsCard : Claim7 := { stood := { row := fnExactRecordsRow, standIns := [], harness := (true, "ff01e3bc58eed152662b6df3c059fa77a56d0e26d4158cac0a630ad28b1179b4"), looks := false }, kinds := [], alts := [], laidByText := true, laidKinds := [.data, .data, .data], laidTests := true, laidLooks := .later }
def FnExactRecordsCardSaid : Prop := Claim7.holds Tryd.pinned (.plain (OpenSpec.ofChange fnExactRecordsSpec)) fnExactRecordsCard

/-- THE SECOND FORM's CARD OF 'laws.FnExactRecord'. -/
def fnExactRecordUptoCard : Claim7 := { stood := { row := fnExactRecordUptoRow, standIns := [], harness := (true, "ff01e3bc58eed152662b6df3c059fa77a56d0e26d4158cac0a630ad28b1179b4"), looks := false }, kinds := [], alts := [], laidByText := true, laidKinds := [.data, .data, .data], laidTests := true, laidLooks := .later }
def FnExactRecordUptoCardSaid : Prop := Claim7.holds Tryd.pinned (.plain (OpenSpec.upto fnExactRecordSpec)) fnExactRecordUptoCard

/-- THE SECOND FORM's CARD OF 'laws.FnExactRecords'. -/
def fnExactRecordsUptoCard : Claim7 := { stood := { row := fnExactRecordsUptoRow, standIns := [], harness := (true, "ff01e3bc58eed152662b6df3c059fa77a56d0e26d4158cac0a630ad28b1179b4"), looks := false }, kinds := [], alts := [], laidByText := true, laidKinds := [.data, .data, .data], laidTests := true, laidLooks := .later }
def FnExactRecordsUptoCardSaid : Prop := Claim7.holds Tryd.pinned (.plain (OpenSpec.upto fnExactRecordsSpec)) fnExactRecordsUptoCard
end Rows
end Go.Proofs.YthkckgjcecommaaDoor
