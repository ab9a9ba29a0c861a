/-
  DERIVED. GIVEN WITH THE SEED: THE CARDS: each row of YthmeikbfichkaabDoorRows.lean that lists a variable, with what it lists TIED to the program's text (the seventh form; the later family's looks); each row that meets fmt, with fmt's text TOLD by the authors' own Lean function (tested against real Go, not proved from fmt's source: count such statements apart). THE CARD IS WHAT COUNTS. Prove the row's statement (the work); the ties are given (YthmeikbfichkaabDoorTie.lean); close each card by the builder's one call (the guide's Derived/Test/ToyasCard.lean, 'card_holds'). Laid BY PROGRAM, IN A SANDBOX (cutbox-door.mjs). By AI agents, Wed Nov 11 2026. No macro, syntax, notation, axiom, sorry.
-/
import Derived.Test.YthmeikbfichkaabDoorRows
import GoSem.ClaimSeven
namespace Go.Proofs.YthmeikbfichkaabDoor
namespace Rows

/-- THE TIED CARD OF 'laws.FnExactWay'. -/
def fnExactWayCard : Claim7 := { stood := { row := fnExactWayRow, standIns := [], harness := (true, "5bdfe187c28b2251d19d9ce1dd8d43f2114dc5e8ca0a4be3321391f14cb268d2"), looks := false }, kinds := [], alts := [], laidByText := true, laidKinds := [.data, .data, .data], laidTests := true, laidLooks := .later }
def FnExactWayCardSaid : Prop := Claim7.holds Tryd.pinned (.plain (OpenSpec.ofChange fnExactWaySpec)) fnExactWayCard

/-- THE TIED CARD OF 'laws.FnExactHolds'. -/
def fnExactHoldsCard : Claim7 := { stood := { row := fnExactHoldsRow, standIns := [], harness := (true, "5bdfe187c28b2251d19d9ce1dd8d43f2114dc5e8ca0a4be3321391f14cb268d2"), looks := false }, kinds := [], alts := [], laidByText := true, laidKinds := [.data, .data, .data], laidTests := true, laidLooks := .later }
def FnExactHoldsCardSaid : Prop := Claim7.holds Tryd.pinned (.plain (OpenSpec.ofChange fnExactHoldsSpec)) fnExactHoldsCard

/-- THE TIED CARD OF 'laws.FnExactParted'. -/
def fnExactPartedCard : Claim7 := { stood := { row := fnExactPartedRow, standIns := [], harness := (true, "5bdfe187c28b2251d19d9ce1dd8d43f2114dc5e8ca0a4be3321391f14cb268d2"), looks := false }, kinds := [], alts := [], laidByText := true, laidKinds := [.data, .data, .data], laidTests := true, laidLooks := .later }
def FnExactPartedCardSaid : Prop := Claim7.holds Tryd.pinned (.plain (OpenSpec.ofChange fnExactPartedSpec)) fnExactPartedCard

/-- THE SECOND FORM's CARD OF 'laws.FnExactWay'. -/
def fnExactWayUptoCard : Claim7 := { stood := { row := fnExactWayUptoRow, standIns := [], harness := (true, "5bdfe187c28b2251d19d9ce1dd8d43f2114dc5e8ca0a4be3321391f14cb268d2"), looks := false }, kinds := [], alts := [], laidByText := true, laidKinds := [.data, .data, .data], laidTests := true, laidLooks := .later }
def FnExactWayUptoCardSaid : Prop := Claim7.holds Tryd.pinned (.plain (OpenSpec.upto fnExactWaySpec)) fnExactWayUptoCard

/-- THE SECOND FORM's CARD OF 'laws.FnExactHolds'. -/
def fnExactHoldsUptoCard : Claim7 := { stood := { row := fnExactHoldsUptoRow, standIns := [], harness := (true, "5bdfe187c28b2251d19d9ce1dd8d43f2114dc5e8ca0a4be3321391f14cb268d2"), looks := false }, kinds := [], alts := [], laidByText := true, laidKinds := [.data, .data, .data], laidTests := true, laidLooks := .later }
def FnExactHoldsUptoCardSaid : Prop := Claim7.holds Tryd.pinned (.plain (OpenSpec.upto fnExactHoldsSpec)) fnExactHoldsUptoCard

/-- THE SECOND FORM's CARD OF 'laws.FnExactParted'. -/
def fnExactPartedUptoCard : Claim7 := { stood := { row := fnExactPartedUptoRow, standIns := [], harness := (true, "5bdfe187c28b2251d19d9ce1dd8d43f2114dc5e8ca0a4be3321391f14cb268d2"), looks := false }, kinds := [], alts := [], laidByText := true, laidKinds := [.data, .data, .data], laidTests := true, laidLooks := .later }
def FnExactPartedUptoCardSaid : Prop := Claim7.holds Tryd.pinned (.plain (OpenSpec.upto fnExactPartedSpec)) fnExactPartedUptoCard
end Rows
end Go.Proofs.YthmeikbfichkaabDoor
