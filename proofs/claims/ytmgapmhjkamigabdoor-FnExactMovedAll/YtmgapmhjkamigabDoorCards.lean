/-
  DERIVED. GIVEN WITH THE SEED: THE CARDS: each row of YtmgapmhjkamigabDoorRows.lean that lists a variable, with what it lists TIED to the program's text (the seventh form; the later family's looks); each row that meets fmt, with fmt's text TOLD by the authors' own Lean function (tested against real Go, not proved from fmt's source: count such statements apart). THE CARD IS WHAT COUNTS. Prove the row's statement (the work); the ties are given (YtmgapmhjkamigabDoorTie.lean); close each card by the builder's one call (the guide's Derived/Test/ToyasCard.lean, 'card_holds'). Laid BY PROGRAM, IN A SANDBOX (cutbox-door.mjs). By AI agents, Wed Nov 11 2026. No macro, syntax, notation, axiom, sorry.
-/
import Derived.Test.YtmgapmhjkamigabDoorRows
import GoSem.ClaimSeven
namespace Go.Proofs.YtmgapmhjkamigabDoor
namespace Rows

/-- THE TIED CARD OF 'laws.FnExactReadMove'. -/
def fnExactReadMoveCard : Claim7 := { stood := { row := fnExactReadMoveRow, standIns := [], harness := (true, "e1c66ac48f4c119584d35c4c7427ebbca4a88529c02cdaec49c40a78407b2278"), looks := true }, kinds := [], alts := [], laidByText := true, laidKinds := [.data, .data, .data, .data, .sentinel, .sentinel, .pinned], laidTests := true, laidLooks := .later }
def FnExactReadMoveCardSaid : Prop := Claim7.holds Tryd.pinned (.plain (OpenSpec.ofChange fnExactReadMoveSpec)) fnExactReadMoveCard

/-- THE TIED CARD OF 'laws.FnExactMovedAll'. -/
def fnExactMovedAllCard : Claim7 := { stood := { row := fnExactMovedAllRow, standIns := [], harness := (true, "e1c66ac48f4c119584d35c4c7427ebbca4a88529c02cdaec49c40a78407b2278"), looks := true }, kinds := [], alts := [], laidByText := true, laidKinds := [.data, .data, .data, .data, .sentinel, .sentinel, .pinned], laidTests := true, laidLooks := .later }
def FnExactMovedAllCardSaid : Prop := Claim7.holds Tryd.pinned (.plain (OpenSpec.ofChange fnExactMovedAllSpec)) fnExactMovedAllCard

/-- THE SECOND FORM's CARD OF 'laws.FnExactReadMove'. -/
def fnExactReadMoveUptoCard : Claim7 := { stood := { row := fnExactReadMoveUptoRow, standIns := [], harness := (true, "e1c66ac48f4c119584d35c4c7427ebbca4a88529c02cdaec49c40a78407b2278"), looks := true }, kinds := [], alts := [], laidByText := true, laidKinds := [.data, .data, .data, .data, .sentinel, .sentinel, .pinned], laidTests := true, laidLooks := .later }
def FnExactReadMoveUptoCardSaid : Prop := Claim7.holds Tryd.pinned (.plain (OpenSpec.upto fnExactReadMoveSpec)) fnExactReadMoveUptoCard

/-- THE SECOND FORM's CARD OF 'laws.FnExactMovedAll'. -/
def fnExactMovedAllUptoCard : Claim7 := { stood := { row := fnExactMovedAllUptoRow, standIns := [], harness := (true, "e1c66ac48f4c119584d35c4c7427ebbca4a88529c02cdaec49c40a78407b2278"), looks := true }, kinds := [], alts := [], laidByText := true, laidKinds := [.data, .data, .data, .data, .sentinel, .sentinel, .pinned], laidTests := true, laidLooks := .later }
def FnExactMovedAllUptoCardSaid : Prop := Claim7.holds Tryd.pinned (.plain (OpenSpec.upto fnExactMovedAllSpec)) fnExactMovedAllUptoCard
end Rows
end Go.Proofs.YtmgapmhjkamigabDoor
