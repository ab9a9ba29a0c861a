/-
  DERIVED. GIVEN WITH THE SEED: THE CARDS: each row of YthchhkiijehjbaaDoorRows.lean that lists a variable, with what it lists TIED to the program's text (the seventh form; the later family's looks); each row that meets fmt, with fmt's text TOLD by the authors' own Lean function (tested against real Go, not proved from fmt's source: count such statements apart). THE CARD IS WHAT COUNTS. Prove the row's statement (the work); the ties are given (YthchhkiijehjbaaDoorTie.lean); close each card by the builder's one call (the guide's Derived/Test/ToyasCard.lean, 'card_holds'). Laid BY PROGRAM, IN A SANDBOX (cutbox-door.mjs). By AI agents, Wed Nov 11 2026. No macro, syntax, notation, axiom, sorry.
-/
import Derived.Test.YthchhkiijehjbaaDoorRows
import GoSem.ClaimSeven
namespace Go.Proofs.YthchhkiijehjbaaDoor
namespace Rows

/-- THE TIED CARD OF 'laws.FnExactSlot'. -/
def fnExactSlotCard : Claim7 := { stood := { row := fnExactSlotRow, standIns := [], harness := (true, "19ea0d5c38dd34b3a86bf7e478ab35b02fc07acf56cb49a9121d55453934fd48"), looks := true }, kinds := [], alts := [], laidByText := true, laidKinds := [.data, .data, .data], laidTests := true, laidLooks := .later }
def FnExactSlotCardSaid : Prop := Claim7.holds Tryd.pinned (.plain (OpenSpec.ofChange fnExactSlotSpec)) fnExactSlotCard

/-- THE TIED CARD OF 'laws.FnExactReadSlot'. -/
def fnExactReadSlotCard : Claim7 := { stood := { row := fnExactReadSlotRow, standIns := [], harness := (true, "19ea0d5c38dd34b3a86bf7e478ab35b02fc07acf56cb49a9121d55453934fd48"), looks := true }, kinds := [], alts := [], laidByText := true, laidKinds := [.data, .data, .data, .sentinel, .sentinel, .sentinel], laidTests := true, laidLooks := .later }
def FnExactReadSlotCardSaid : Prop := Claim7.holds Tryd.pinned (.plain (OpenSpec.ofChange fnExactReadSlotSpec)) fnExactReadSlotCard

/-- THE SECOND FORM's CARD OF 'laws.FnExactSlot'. -/
def fnExactSlotUptoCard : Claim7 := { stood := { row := fnExactSlotUptoRow, standIns := [], harness := (true, "19ea0d5c38dd34b3a86bf7e478ab35b02fc07acf56cb49a9121d55453934fd48"), looks := true }, kinds := [], alts := [], laidByText := true, laidKinds := [.data, .data, .data], laidTests := true, laidLooks := .later }
def FnExactSlotUptoCardSaid : Prop := Claim7.holds Tryd.pinned (.plain (OpenSpec.upto fnExactSlotSpec)) fnExactSlotUptoCard

/-- THE SECOND FORM's CARD OF 'laws.FnExactReadSlot'. -/
def fnExactReadSlotUptoCard : Claim7 := { stood := { row := fnExactReadSlotUptoRow, standIns := [], harness := (true, "19ea0d5c38dd34b3a86bf7e478ab35b02fc07acf56cb49a9121d55453934fd48"), looks := true }, kinds := [], alts := [], laidByText := true, laidKinds := [.data, .data, .data, .sentinel, .sentinel, .sentinel], laidTests := true, laidLooks := .later }
def FnExactReadSlotUptoCardSaid : Prop := Claim7.holds Tryd.pinned (.plain (OpenSpec.upto fnExactReadSlotSpec)) fnExactReadSlotUptoCard
end Rows
end Go.Proofs.YthchhkiijehjbaaDoor
