/-
  DERIVED. GIVEN WITH THE SEED: THE CARDS: each row of YtckkiamaldfoiaaDoorRows.lean that lists a variable, with what it lists TIED to the program's text (the seventh form; the later family's looks); each row that meets fmt, with fmt's text TOLD by the authors' own Lean function (tested against real Go, not proved from fmt's source: count such statements apart). THE CARD IS WHAT COUNTS. Prove the row's statement (the work); the ties are given (YtckkiamaldfoiaaDoorTie.lean); close each card by the builder's one call (the guide's Derived/Test/ToyasCard.lean, 'card_holds'). Laid BY PROGRAM, IN A SANDBOX (cutbox-door.mjs). By AI agents, Wed Nov 11 2026. No macro, syntax, notation, axiom, sorry.
-/
import Derived.Test.YtckkiamaldfoiaaDoorRows
import GoSem.ClaimSeven
namespace Go.Proofs.YtckkiamaldfoiaaDoor
namespace Rows

/-- THE TIED CARD OF 'laws.FnExactNewReplica'. -/
def fnExactNewReplicaCard : Claim7 := { stood := { row := fnExactNewReplicaRow, standIns := [], harness := (true, "d93ed184ea3489178c974db2d56282730d8a32f51e0f9a24faf0735eff1d3d31"), looks := false }, kinds := [], alts := [], laidByText := true, laidKinds := [.data, .data, .data], laidTests := true, laidLooks := .later }
def FnExactNewReplicaCardSaid : Prop := Claim7.holds Tryd.pinned (.plain (OpenSpec.ofChange fnExactNewReplicaSpec)) fnExactNewReplicaCard

/-- THE SECOND FORM's CARD OF 'laws.FnExactNewReplica'. -/
def fnExactNewReplicaUptoCard : Claim7 := { stood := { row := fnExactNewReplicaUptoRow, standIns := [], harness := (true, "d93ed184ea3489178c974db2d56282730d8a32f51e0f9a24faf0735eff1d3d31"), looks := false }, kinds := [], alts := [], laidByText := true, laidKinds := [.data, .data, .data], laidTests := true, laidLooks := .later }
def FnExactNewReplicaUptoCardSaid : Prop := Claim7.holds Tryd.pinned (.plain (OpenSpec.upto fnExactNewReplicaSpec)) fnExactNewReplicaUptoCard
end Rows
end Go.Proofs.YtckkiamaldfoiaaDoor
