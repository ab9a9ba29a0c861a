/-
  DERIVED. GIVEN WITH THE SEED: THE CARDS: each row of YtilhaokiohbeeaaGreatDoorRows.lean that lists a variable, with what it lists TIED to the program's text (the seventh form; the later family's looks); each row that meets fmt, with fmt's text TOLD by the authors' own Lean function (tested against real Go, not proved from fmt's source: count such statements apart). THE CARD IS WHAT COUNTS. Prove the row's statement (the work); the ties are given (YtilhaokiohbeeaaGreatDoorTie.lean); close each card by the builder's one call (the guide's Derived/Test/ToyasCard.lean, 'card_holds'). Laid BY PROGRAM, IN A SANDBOX (cutbox-door.mjs). By AI agents, Wed Nov 11 2026. No macro, syntax, notation, axiom, sorry.
-/
import Derived.Test.YtilhaokiohbeeaaGreatDoorRows
import GoSem.ClaimSeven
namespace Go.Proofs.YtilhaokiohbeeaaGreatDoor
namespace Rows

/-- THE TIED CARD OF 'laws.FnHeard'. -/
def fnHeardCard : Claim7 := { stood := { row := fnHeardRow, standIns := [], harness := (true, "53d1c7349850ca8b81eccbeb7518e3f7f14446ee6571e4a099b03344410f5adc"), looks := true }, kinds := [], alts := [], laidByText := true, laidKinds := [.data, .data, .data], laidTests := true, laidLooks := .later }
def FnHeardCardSaid : Prop := Claim7.holds Tryz.pinned (.plain (OpenSpec.ofChange fnHeardSpec)) fnHeardCard

/-- THE TIED CARD OF 'laws.FnProposed'. -/
def fnProposedCard : Claim7 := { stood := { row := fnProposedRow, standIns := [], harness := (true, "53d1c7349850ca8b81eccbeb7518e3f7f14446ee6571e4a099b03344410f5adc"), looks := true }, kinds := [], alts := [], laidByText := true, laidKinds := [.data, .data, .data], laidTests := true, laidLooks := .later }
def FnProposedCardSaid : Prop := Claim7.holds Tryz.pinned (.plain (OpenSpec.ofChange fnProposedSpec)) fnProposedCard

/-- THE TIED CARD OF 'laws.FnActed'. -/
def fnActedCard : Claim7 := { stood := { row := fnActedRow, standIns := [], harness := (true, "53d1c7349850ca8b81eccbeb7518e3f7f14446ee6571e4a099b03344410f5adc"), looks := true }, kinds := [], alts := [], laidByText := true, laidKinds := [.data, .data, .data], laidTests := true, laidLooks := .later }
def FnActedCardSaid : Prop := Claim7.holds Tryz.pinned (.plain (OpenSpec.ofChange fnActedSpec)) fnActedCard

/-- THE TIED CARD OF 'laws.FnExactHear'. -/
def fnExactHearCard : Claim7 := { stood := { row := fnExactHearRow, standIns := [], harness := (true, "53d1c7349850ca8b81eccbeb7518e3f7f14446ee6571e4a099b03344410f5adc"), looks := true }, kinds := [], alts := [], laidByText := true, laidKinds := [.data, .data, .data], laidTests := true, laidLooks := .later }
def FnExactHearCardSaid : Prop := Claim7.holds Tryz.pinned (.plain (OpenSpec.ofChange fnExactHearSpec)) fnExactHearCard

/-- THE TIED CARD OF 'laws.FnExactRestart'. -/
def fnExactRestartCard : Claim7 := { stood := { row := fnExactRestartRow, standIns := [], harness := (true, "53d1c7349850ca8b81eccbeb7518e3f7f14446ee6571e4a099b03344410f5adc"), looks := true }, kinds := [], alts := [], laidByText := true, laidKinds := [.data, .data, .data], laidTests := true, laidLooks := .later }
def FnExactRestartCardSaid : Prop := Claim7.holds Tryz.pinned (.plain (OpenSpec.ofChange fnExactRestartSpec)) fnExactRestartCard

/-- THE TIED CARD OF 'laws.FnExactClusterOk'. -/
def fnExactClusterOkCard : Claim7 := { stood := { row := fnExactClusterOkRow, standIns := [], harness := (true, "53d1c7349850ca8b81eccbeb7518e3f7f14446ee6571e4a099b03344410f5adc"), looks := true }, kinds := [], alts := [], laidByText := true, laidKinds := [.data, .data, .data], laidTests := true, laidLooks := .later }
def FnExactClusterOkCardSaid : Prop := Claim7.holds Tryz.pinned (.plain (OpenSpec.ofChange fnExactClusterOkSpec)) fnExactClusterOkCard

/-- THE SECOND FORM's CARD OF 'laws.FnHeard'. -/
def fnHeardUptoCard : Claim7 := { stood := { row := fnHeardUptoRow, standIns := [], harness := (true, "53d1c7349850ca8b81eccbeb7518e3f7f14446ee6571e4a099b03344410f5adc"), looks := true }, kinds := [], alts := [], laidByText := true, laidKinds := [.data, .data, .data], laidTests := true, laidLooks := .later }
def FnHeardUptoCardSaid : Prop := Claim7.holds Tryz.pinned (.plain (OpenSpec.upto fnHeardSpec)) fnHeardUptoCard

/-- THE SECOND FORM's CARD OF 'laws.FnProposed'. -/
def fnProposedUptoCard : Claim7 := { stood := { row := fnProposedUptoRow, standIns := [], harness := (true, "53d1c7349850ca8b81eccbeb7518e3f7f14446ee6571e4a099b03344410f5adc"), looks := true }, kinds := [], alts := [], laidByText := true, laidKinds := [.data, .data, .data], laidTests := true, laidLooks := .later }
def FnProposedUptoCardSaid : Prop := Claim7.holds Tryz.pinned (.plain (OpenSpec.upto fnProposedSpec)) fnProposedUptoCard

/-- THE SECOND FORM's CARD OF 'laws.FnActed'. -/
def fnActedUptoCard : Claim7 := { stood := { row := fnActedUptoRow, standIns := [], harness := (true, "53d1c7349850ca8b81eccbeb7518e3f7f14446ee6571e4a099b03344410f5adc"), looks := true }, kinds := [], alts := [], laidByText := true, laidKinds := [.data, .data, .data], laidTests := true, laidLooks := .later }
def FnActedUptoCardSaid : Prop := Claim7.holds Tryz.pinned (.plain (OpenSpec.upto fnActedSpec)) fnActedUptoCard

/-- THE SECOND FORM's CARD OF 'laws.FnExactHear'. -/
def fnExactHearUptoCard : Claim7 := { stood := { row := fnExactHearUptoRow, standIns := [], harness := (true, "53d1c7349850ca8b81eccbeb7518e3f7f14446ee6571e4a099b03344410f5adc"), looks := true }, kinds := [], alts := [], laidByText := true, laidKinds := [.data, .data, .data], laidTests := true, laidLooks := .later }
def FnExactHearUptoCardSaid : Prop := Claim7.holds Tryz.pinned (.plain (OpenSpec.upto fnExactHearSpec)) fnExactHearUptoCard

/-- THE SECOND FORM's CARD OF 'laws.FnExactRestart'. -/
def fnExactRestartUptoCard : Claim7 := { stood := { row := fnExactRestartUptoRow, standIns := [], harness := (true, "53d1c7349850ca8b81eccbeb7518e3f7f14446ee6571e4a099b03344410f5adc"), looks := true }, kinds := [], alts := [], laidByText := true, laidKinds := [.data, .data, .data], laidTests := true, laidLooks := .later }
def FnExactRestartUptoCardSaid : Prop := Claim7.holds Tryz.pinned (.plain (OpenSpec.upto fnExactRestartSpec)) fnExactRestartUptoCard

/-- THE SECOND FORM's CARD OF 'laws.FnExactClusterOk'. -/
def fnExactClusterOkUptoCard : Claim7 := { stood := { row := fnExactClusterOkUptoRow, standIns := [], harness := (true, "53d1c7349850ca8b81eccbeb7518e3f7f14446ee6571e4a099b03344410f5adc"), looks := true }, kinds := [], alts := [], laidByText := true, laidKinds := [.data, .data, .data], laidTests := true, laidLooks := .later }
def FnExactClusterOkUptoCardSaid : Prop := Claim7.holds Tryz.pinned (.plain (OpenSpec.upto fnExactClusterOkSpec)) fnExactClusterOkUptoCard
end Rows
end Go.Proofs.YtilhaokiohbeeaaGreatDoor
