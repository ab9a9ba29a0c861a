/-
  DERIVED. GIVEN WITH THE SEED: THE CARDS: each row of YtannfbpohhnnkaaGreatDoorRows.lean that lists a variable, with what it lists TIED to the program's text (the seventh form; the later family's looks); each row that meets fmt, with fmt's text TOLD by the authors' own Lean function (tested against real Go, not proved from fmt's source: count such statements apart). THE CARD IS WHAT COUNTS. Prove the row's statement (the work); the ties are given (YtannfbpohhnnkaaGreatDoorTie.lean); close each card by the builder's one call (the guide's Derived/Test/ToyasCard.lean, 'card_holds'). Laid BY PROGRAM, IN A SANDBOX (cutbox-door.mjs). By AI agents, Wed Nov 11 2026. No macro, syntax, notation, axiom, sorry.
-/
import Derived.Test.YtannfbpohhnnkaaGreatDoorRows
import GoSem.ClaimSeven
namespace Go.Proofs.YtannfbpohhnnkaaGreatDoor
namespace Rows

/-- THE TIED CARD OF 'laws.FnExactKeepOk'. -/
def fnExactKeepOkCard : Claim7 := { stood := { row := fnExactKeepOkRow, standIns := [], harness := (true, "034179fa5e495e7d6535896f21bf71b5ac000a71486d6c9538c5d1e3b692b0c7"), looks := true }, kinds := [], alts := [], laidByText := true, laidKinds := [.data, .data, .data, .sentinel], laidTests := true, laidLooks := .later }
def FnExactKeepOkCardSaid : Prop := Claim7.holds Tryz.pinned (.plain (OpenSpec.ofChange fnExactKeepOkSpec)) fnExactKeepOkCard

/-- THE TIED CARD OF 'laws.FnExactOpened'. -/
def fnExactOpenedCard : Claim7 := { stood := { row := fnExactOpenedRow, standIns := [], harness := (true, "034179fa5e495e7d6535896f21bf71b5ac000a71486d6c9538c5d1e3b692b0c7"), looks := true }, kinds := [], alts := [], laidByText := true, laidKinds := [.data, .data, .data, .sentinel], laidTests := true, laidLooks := .later }
def FnExactOpenedCardSaid : Prop := Claim7.holds Tryz.pinned (.plain (OpenSpec.ofChange fnExactOpenedSpec)) fnExactOpenedCard

/-- THE TIED CARD OF 'laws.FnExactStore'. -/
def fnExactStoreCard : Claim7 := { stood := { row := fnExactStoreRow, standIns := [], harness := (true, "034179fa5e495e7d6535896f21bf71b5ac000a71486d6c9538c5d1e3b692b0c7"), looks := true }, kinds := [], alts := [], laidByText := true, laidKinds := [.data, .data, .data, .sentinel], laidTests := true, laidLooks := .later }
def FnExactStoreCardSaid : Prop := Claim7.holds Tryz.pinned (.plain (OpenSpec.ofChange fnExactStoreSpec)) fnExactStoreCard

/-- THE TIED CARD OF 'laws.FnExactForce'. -/
def fnExactForceCard : Claim7 := { stood := { row := fnExactForceRow, standIns := [], harness := (true, "034179fa5e495e7d6535896f21bf71b5ac000a71486d6c9538c5d1e3b692b0c7"), looks := true }, kinds := [], alts := [], laidByText := true, laidKinds := [.data, .data, .data, .sentinel], laidTests := true, laidLooks := .later }
def FnExactForceCardSaid : Prop := Claim7.holds Tryz.pinned (.plain (OpenSpec.ofChange fnExactForceSpec)) fnExactForceCard

/-- THE TIED CARD OF 'laws.FnExactFail'. -/
def fnExactFailCard : Claim7 := { stood := { row := fnExactFailRow, standIns := [], harness := (true, "034179fa5e495e7d6535896f21bf71b5ac000a71486d6c9538c5d1e3b692b0c7"), looks := true }, kinds := [], alts := [], laidByText := true, laidKinds := [.data, .data, .data, .sentinel], laidTests := true, laidLooks := .later }
def FnExactFailCardSaid : Prop := Claim7.holds Tryz.pinned (.plain (OpenSpec.ofChange fnExactFailSpec)) fnExactFailCard

/-- THE TIED CARD OF 'laws.FnExactTidy'. -/
def fnExactTidyCard : Claim7 := { stood := { row := fnExactTidyRow, standIns := [], harness := (true, "034179fa5e495e7d6535896f21bf71b5ac000a71486d6c9538c5d1e3b692b0c7"), looks := true }, kinds := [], alts := [], laidByText := true, laidKinds := [.data, .data, .data, .sentinel], laidTests := true, laidLooks := .later }
def FnExactTidyCardSaid : Prop := Claim7.holds Tryz.pinned (.plain (OpenSpec.ofChange fnExactTidySpec)) fnExactTidyCard

/-- THE SECOND FORM's CARD OF 'laws.FnExactKeepOk'. -/
def fnExactKeepOkUptoCard : Claim7 := { stood := { row := fnExactKeepOkUptoRow, standIns := [], harness := (true, "034179fa5e495e7d6535896f21bf71b5ac000a71486d6c9538c5d1e3b692b0c7"), looks := true }, kinds := [], alts := [], laidByText := true, laidKinds := [.data, .data, .data, .sentinel], laidTests := true, laidLooks := .later }
def FnExactKeepOkUptoCardSaid : Prop := Claim7.holds Tryz.pinned (.plain (OpenSpec.upto fnExactKeepOkSpec)) fnExactKeepOkUptoCard

/-- THE SECOND FORM's CARD OF 'laws.FnExactOpened'. -/
def fnExactOpenedUptoCard : Claim7 := { stood := { row := fnExactOpenedUptoRow, standIns := [], harness := (true, "034179fa5e495e7d6535896f21bf71b5ac000a71486d6c9538c5d1e3b692b0c7"), looks := true }, kinds := [], alts := [], laidByText := true, laidKinds := [.data, .data, .data, .sentinel], laidTests := true, laidLooks := .later }
def FnExactOpenedUptoCardSaid : Prop := Claim7.holds Tryz.pinned (.plain (OpenSpec.upto fnExactOpenedSpec)) fnExactOpenedUptoCard

/-- THE SECOND FORM's CARD OF 'laws.FnExactStore'. -/
def fnExactStoreUptoCard : Claim7 := { stood := { row := fnExactStoreUptoRow, standIns := [], harness := (true, "034179fa5e495e7d6535896f21bf71b5ac000a71486d6c9538c5d1e3b692b0c7"), looks := true }, kinds := [], alts := [], laidByText := true, laidKinds := [.data, .data, .data, .sentinel], laidTests := true, laidLooks := .later }
def FnExactStoreUptoCardSaid : Prop := Claim7.holds Tryz.pinned (.plain (OpenSpec.upto fnExactStoreSpec)) fnExactStoreUptoCard

/-- THE SECOND FORM's CARD OF 'laws.FnExactForce'. -/
def fnExactForceUptoCard : Claim7 := { stood := { row := fnExactForceUptoRow, standIns := [], harness := (true, "034179fa5e495e7d6535896f21bf71b5ac000a71486d6c9538c5d1e3b692b0c7"), looks := true }, kinds := [], alts := [], laidByText := true, laidKinds := [.data, .data, .data, .sentinel], laidTests := true, laidLooks := .later }
def FnExactForceUptoCardSaid : Prop := Claim7.holds Tryz.pinned (.plain (OpenSpec.upto fnExactForceSpec)) fnExactForceUptoCard

/-- THE SECOND FORM's CARD OF 'laws.FnExactFail'. -/
def fnExactFailUptoCard : Claim7 := { stood := { row := fnExactFailUptoRow, standIns := [], harness := (true, "034179fa5e495e7d6535896f21bf71b5ac000a71486d6c9538c5d1e3b692b0c7"), looks := true }, kinds := [], alts := [], laidByText := true, laidKinds := [.data, .data, .data, .sentinel], laidTests := true, laidLooks := .later }
def FnExactFailUptoCardSaid : Prop := Claim7.holds Tryz.pinned (.plain (OpenSpec.upto fnExactFailSpec)) fnExactFailUptoCard

/-- THE SECOND FORM's CARD OF 'laws.FnExactTidy'. -/
def fnExactTidyUptoCard : Claim7 := { stood := { row := fnExactTidyUptoRow, standIns := [], harness := (true, "034179fa5e495e7d6535896f21bf71b5ac000a71486d6c9538c5d1e3b692b0c7"), looks := true }, kinds := [], alts := [], laidByText := true, laidKinds := [.data, .data, .data, .sentinel], laidTests := true, laidLooks := .later }
def FnExactTidyUptoCardSaid : Prop := Claim7.holds Tryz.pinned (.plain (OpenSpec.upto fnExactTidySpec)) fnExactTidyUptoCard
end Rows
end Go.Proofs.YtannfbpohhnnkaaGreatDoor
