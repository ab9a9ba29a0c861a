/-
  DERIVED. GIVEN WITH THE SEED: THE CARDS: each row of YthchhkiijehjbaaGreatDoorRows.lean that lists a variable, with what it lists TIED to the program's text (the seventh form; the later family's looks); each row that meets fmt, with fmt's text TOLD by the authors' own Lean function (tested against real Go, not proved from fmt's source: count such statements apart). THE CARD IS WHAT COUNTS. Prove the row's statement (the work); the ties are given (YthchhkiijehjbaaGreatDoorTie.lean); close each card by the builder's one call (the guide's Derived/Test/ToyasCard.lean, 'card_holds'). Laid BY PROGRAM, IN A SANDBOX (cutbox-door.mjs). By AI agents, Wed Nov 11 2026. No macro, syntax, notation, axiom, sorry.
-/
import Derived.Test.YthchhkiijehjbaaGreatDoorRows
import GoSem.ClaimSeven
namespace Go.Proofs.YthchhkiijehjbaaGreatDoor
namespace Rows

/-- THE TIED CARD OF 'laws.FnExactRoot'. -/
def fnExactRootCard : Claim7 := { stood := { row := fnExactRootRow, standIns := [], harness := (true, "71dfe60d6e3e63506fb28189eb1a5218d3cd0b02d391fe2843b3f6de4e667e85"), looks := true }, kinds := [], alts := [], laidByText := true, laidKinds := [.data, .data, .data, .sentinel, .sentinel, .sentinel, .sentinel], laidTests := true, laidLooks := .later }
def FnExactRootCardSaid : Prop := Claim7.holds Tryz.pinned (.plain (OpenSpec.ofChange fnExactRootSpec)) fnExactRootCard

/-- THE TIED CARD OF 'laws.FnExactSwitch'. -/
def fnExactSwitchCard : Claim7 := { stood := { row := fnExactSwitchRow, standIns := [], harness := (true, "71dfe60d6e3e63506fb28189eb1a5218d3cd0b02d391fe2843b3f6de4e667e85"), looks := true }, kinds := [], alts := [], laidByText := true, laidKinds := [.data, .data, .data, .handle, .sentinel, .sentinel, .sentinel, .sentinel], laidTests := true, laidLooks := .later }
def FnExactSwitchCardSaid : Prop := Claim7.holds Tryz.pinned (.plain (OpenSpec.ofChange fnExactSwitchSpec)) fnExactSwitchCard

/-- THE TIED CARD OF 'laws.FnExactHalfway'. -/
def fnExactHalfwayCard : Claim7 := { stood := { row := fnExactHalfwayRow, standIns := [], harness := (true, "71dfe60d6e3e63506fb28189eb1a5218d3cd0b02d391fe2843b3f6de4e667e85"), looks := true }, kinds := [], alts := [], laidByText := true, laidKinds := [.data, .data, .data, .handle, .sentinel, .sentinel, .sentinel, .sentinel], laidTests := true, laidLooks := .later }
def FnExactHalfwayCardSaid : Prop := Claim7.holds Tryz.pinned (.plain (OpenSpec.ofChange fnExactHalfwaySpec)) fnExactHalfwayCard

/-- THE SECOND FORM's CARD OF 'laws.FnExactRoot'. -/
def fnExactRootUptoCard : Claim7 := { stood := { row := fnExactRootUptoRow, standIns := [], harness := (true, "71dfe60d6e3e63506fb28189eb1a5218d3cd0b02d391fe2843b3f6de4e667e85"), looks := true }, kinds := [], alts := [], laidByText := true, laidKinds := [.data, .data, .data, .sentinel, .sentinel, .sentinel, .sentinel], laidTests := true, laidLooks := .later }
def FnExactRootUptoCardSaid : Prop := Claim7.holds Tryz.pinned (.plain (OpenSpec.upto fnExactRootSpec)) fnExactRootUptoCard

/-- THE SECOND FORM's CARD OF 'laws.FnExactSwitch'. -/
def fnExactSwitchUptoCard : Claim7 := { stood := { row := fnExactSwitchUptoRow, standIns := [], harness := (true, "71dfe60d6e3e63506fb28189eb1a5218d3cd0b02d391fe2843b3f6de4e667e85"), looks := true }, kinds := [], alts := [], laidByText := true, laidKinds := [.data, .data, .data, .handle, .sentinel, .sentinel, .sentinel, .sentinel], laidTests := true, laidLooks := .later }
def FnExactSwitchUptoCardSaid : Prop := Claim7.holds Tryz.pinned (.plain (OpenSpec.upto fnExactSwitchSpec)) fnExactSwitchUptoCard

/-- THE SECOND FORM's CARD OF 'laws.FnExactHalfway'. -/
def fnExactHalfwayUptoCard : Claim7 := { stood := { row := fnExactHalfwayUptoRow, standIns := [], harness := (true, "71dfe60d6e3e63506fb28189eb1a5218d3cd0b02d391fe2843b3f6de4e667e85"), looks := true }, kinds := [], alts := [], laidByText := true, laidKinds := [.data, .data, .data, .handle, .sentinel, .sentinel, .sentinel, .sentinel], laidTests := true, laidLooks := .later }
def FnExactHalfwayUptoCardSaid : Prop := Claim7.holds Tryz.pinned (.plain (OpenSpec.upto fnExactHalfwaySpec)) fnExactHalfwayUptoCard
end Rows
end Go.Proofs.YthchhkiijehjbaaGreatDoor
