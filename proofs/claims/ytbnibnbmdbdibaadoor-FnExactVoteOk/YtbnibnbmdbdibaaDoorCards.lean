/-
  DERIVED. GIVEN WITH THE SEED: THE CARDS: each row of YtbnibnbmdbdibaaDoorRows.lean that lists a variable, with what it lists TIED to the program's text (the seventh form; the later family's looks); each row that meets fmt, with fmt's text TOLD by the authors' own Lean function (tested against real Go, not proved from fmt's source: count such statements apart). THE CARD IS WHAT COUNTS. Prove the row's statement (the work); the ties are given (YtbnibnbmdbdibaaDoorTie.lean); close each card by the builder's one call (the guide's Derived/Test/ToyasCard.lean, 'card_holds'). Laid BY PROGRAM, IN A SANDBOX (cutbox-door.mjs). By AI agents, Wed Nov 11 2026. No macro, syntax, notation, axiom, sorry.
-/
import Derived.Test.YtbnibnbmdbdibaaDoorRows
import GoSem.ClaimSeven
namespace Go.Proofs.YtbnibnbmdbdibaaDoor
namespace Rows

/-- THE TIED CARD OF 'laws.FnProofs'. -/
def fnProofsCard : Claim7 := { stood := { row := fnProofsRow, standIns := [], harness := (true, "8c041a2c34614546af51fed925a2558a39a51c04e839b2c7d3419391db9d2525"), looks := false }, kinds := [], alts := [], laidByText := true, laidKinds := [.data, .data, .data], laidTests := true, laidLooks := .later }
def FnProofsCardSaid : Prop := Claim7.holds Tryd.pinned (.plain (OpenSpec.ofChange fnProofsSpec)) fnProofsCard

/-- THE TIED CARD OF 'laws.FnBlocks'. -/
def fnBlocksCard : Claim7 := { stood := { row := fnBlocksRow, standIns := [], harness := (true, "8c041a2c34614546af51fed925a2558a39a51c04e839b2c7d3419391db9d2525"), looks := false }, kinds := [], alts := [], laidByText := true, laidKinds := [.data, .data, .data], laidTests := true, laidLooks := .later }
def FnBlocksCardSaid : Prop := Claim7.holds Tryd.pinned (.plain (OpenSpec.ofChange fnBlocksSpec)) fnBlocksCard

/-- THE TIED CARD OF 'laws.FnExactVoted'. -/
def fnExactVotedCard : Claim7 := { stood := { row := fnExactVotedRow, standIns := [], harness := (true, "8c041a2c34614546af51fed925a2558a39a51c04e839b2c7d3419391db9d2525"), looks := false }, kinds := [], alts := [], laidByText := true, laidKinds := [.data, .data, .data], laidTests := true, laidLooks := .later }
def FnExactVotedCardSaid : Prop := Claim7.holds Tryd.pinned (.plain (OpenSpec.ofChange fnExactVotedSpec)) fnExactVotedCard

/-- THE TIED CARD OF 'laws.FnExactVoteOk'. -/
def fnExactVoteOkCard : Claim7 := { stood := { row := fnExactVoteOkRow, standIns := [], harness := (true, "8c041a2c34614546af51fed925a2558a39a51c04e839b2c7d3419391db9d2525"), looks := false }, kinds := [], alts := [], laidByText := true, laidKinds := [.data, .data, .data], laidTests := true, laidLooks := .later }
def FnExactVoteOkCardSaid : Prop := Claim7.holds Tryd.pinned (.plain (OpenSpec.ofChange fnExactVoteOkSpec)) fnExactVoteOkCard

/-- THE SECOND FORM's CARD OF 'laws.FnProofs'. -/
def fnProofsUptoCard : Claim7 := { stood := { row := fnProofsUptoRow, standIns := [], harness := (true, "8c041a2c34614546af51fed925a2558a39a51c04e839b2c7d3419391db9d2525"), looks := false }, kinds := [], alts := [], laidByText := true, laidKinds := [.data, .data, .data], laidTests := true, laidLooks := .later }
def FnProofsUptoCardSaid : Prop := Claim7.holds Tryd.pinned (.plain (OpenSpec.upto fnProofsSpec)) fnProofsUptoCard

/-- THE SECOND FORM's CARD OF 'laws.FnBlocks'. -/
def fnBlocksUptoCard : Claim7 := { stood := { row := fnBlocksUptoRow, standIns := [], harness := (true, "8c041a2c34614546af51fed925a2558a39a51c04e839b2c7d3419391db9d2525"), looks := false }, kinds := [], alts := [], laidByText := true, laidKinds := [.data, .data, .data], laidTests := true, laidLooks := .later }
def FnBlocksUptoCardSaid : Prop := Claim7.holds Tryd.pinned (.plain (OpenSpec.upto fnBlocksSpec)) fnBlocksUptoCard

/-- THE SECOND FORM's CARD OF 'laws.FnExactVoted'. -/
def fnExactVotedUptoCard : Claim7 := { stood := { row := fnExactVotedUptoRow, standIns := [], harness := (true, "8c041a2c34614546af51fed925a2558a39a51c04e839b2c7d3419391db9d2525"), looks := false }, kinds := [], alts := [], laidByText := true, laidKinds := [.data, .data, .data], laidTests := true, laidLooks := .later }
def FnExactVotedUptoCardSaid : Prop := Claim7.holds Tryd.pinned (.plain (OpenSpec.upto fnExactVotedSpec)) fnExactVotedUptoCard

/-- THE SECOND FORM's CARD OF 'laws.FnExactVoteOk'. -/
def fnExactVoteOkUptoCard : Claim7 := { stood := { row := fnExactVoteOkUptoRow, standIns := [], harness := (true, "8c041a2c34614546af51fed925a2558a39a51c04e839b2c7d3419391db9d2525"), looks := false }, kinds := [], alts := [], laidByText := true, laidKinds := [.data, .data, .data], laidTests := true, laidLooks := .later }
def FnExactVoteOkUptoCardSaid : Prop := Claim7.holds Tryd.pinned (.plain (OpenSpec.upto fnExactVoteOkSpec)) fnExactVoteOkUptoCard
end Rows
end Go.Proofs.YtbnibnbmdbdibaaDoor
