/-
  DERIVED. GIVEN WITH THE SEED: THE CARDS: each row of YtbfdcbjjhkaphaaDoorRows.lean that lists a variable, with what it lists TIED to the program's text (the seventh form; the later family's looks); each row that meets fmt, with fmt's text TOLD by the authors' own Lean function (tested against real Go, not proved from fmt's source: count such statements apart). THE CARD IS WHAT COUNTS. Prove the row's statement (the work); the ties are given (YtbfdcbjjhkaphaaDoorTie.lean); close each card by the builder's one call (the guide's Derived/Test/ToyasCard.lean, 'card_holds'). Laid BY PROGRAM, IN A SANDBOX (cutbox-door.mjs). By AI agents, Wed Nov 11 2026. No macro, syntax, notation, axiom, sorry.
-/
import Derived.Test.YtbfdcbjjhkaphaaDoorRows
import GoSem.ClaimSeven
namespace Go.Proofs.YtbfdcbjjhkaphaaDoor
namespace Rows

/-- THE TIED CARD OF 'laws.FnDigests'. -/
def fnDigestsCard : Claim7 := { stood := { row := fnDigestsRow, standIns := [], harness := (true, "7bec62c4fe47c68926e4bf6dc37950a8dc3c7218b2d59886dc699b0d89ad762a"), looks := false }, kinds := [], alts := [], laidByText := true, laidKinds := [.data, .data, .data], laidTests := true, laidLooks := .later }
def FnDigestsCardSaid : Prop := Claim7.holds Tryd.pinned (.plain (OpenSpec.ofChange fnDigestsSpec)) fnDigestsCard

/-- THE TIED CARD OF 'laws.FnExactPair'. -/
def fnExactPairCard : Claim7 := { stood := { row := fnExactPairRow, standIns := [], harness := (true, "7bec62c4fe47c68926e4bf6dc37950a8dc3c7218b2d59886dc699b0d89ad762a"), looks := false }, kinds := [], alts := [], laidByText := true, laidKinds := [.data, .data, .data], laidTests := true, laidLooks := .later }
def FnExactPairCardSaid : Prop := Claim7.holds Tryd.pinned (.plain (OpenSpec.ofChange fnExactPairSpec)) fnExactPairCard

/-- THE TIED CARD OF 'laws.FnExactTag'. -/
def fnExactTagCard : Claim7 := { stood := { row := fnExactTagRow, standIns := [], harness := (true, "7bec62c4fe47c68926e4bf6dc37950a8dc3c7218b2d59886dc699b0d89ad762a"), looks := false }, kinds := [], alts := [], laidByText := true, laidKinds := [.data, .data, .data], laidTests := true, laidLooks := .later }
def FnExactTagCardSaid : Prop := Claim7.holds Tryd.pinned (.plain (OpenSpec.ofChange fnExactTagSpec)) fnExactTagCard

/-- THE TIED CARD OF 'laws.FnExactSigned'. -/
def fnExactSignedCard : Claim7 := { stood := { row := fnExactSignedRow, standIns := [], harness := (true, "7bec62c4fe47c68926e4bf6dc37950a8dc3c7218b2d59886dc699b0d89ad762a"), looks := false }, kinds := [], alts := [], laidByText := true, laidKinds := [.data, .data, .data], laidTests := true, laidLooks := .later }
def FnExactSignedCardSaid : Prop := Claim7.holds Tryd.pinned (.plain (OpenSpec.ofChange fnExactSignedSpec)) fnExactSignedCard

/-- THE SECOND FORM's CARD OF 'laws.FnDigests'. -/
def fnDigestsUptoCard : Claim7 := { stood := { row := fnDigestsUptoRow, standIns := [], harness := (true, "7bec62c4fe47c68926e4bf6dc37950a8dc3c7218b2d59886dc699b0d89ad762a"), looks := false }, kinds := [], alts := [], laidByText := true, laidKinds := [.data, .data, .data], laidTests := true, laidLooks := .later }
def FnDigestsUptoCardSaid : Prop := Claim7.holds Tryd.pinned (.plain (OpenSpec.upto fnDigestsSpec)) fnDigestsUptoCard

/-- THE SECOND FORM's CARD OF 'laws.FnExactPair'. -/
def fnExactPairUptoCard : Claim7 := { stood := { row := fnExactPairUptoRow, standIns := [], harness := (true, "7bec62c4fe47c68926e4bf6dc37950a8dc3c7218b2d59886dc699b0d89ad762a"), looks := false }, kinds := [], alts := [], laidByText := true, laidKinds := [.data, .data, .data], laidTests := true, laidLooks := .later }
def FnExactPairUptoCardSaid : Prop := Claim7.holds Tryd.pinned (.plain (OpenSpec.upto fnExactPairSpec)) fnExactPairUptoCard

/-- THE SECOND FORM's CARD OF 'laws.FnExactTag'. -/
def fnExactTagUptoCard : Claim7 := { stood := { row := fnExactTagUptoRow, standIns := [], harness := (true, "7bec62c4fe47c68926e4bf6dc37950a8dc3c7218b2d59886dc699b0d89ad762a"), looks := false }, kinds := [], alts := [], laidByText := true, laidKinds := [.data, .data, .data], laidTests := true, laidLooks := .later }
def FnExactTagUptoCardSaid : Prop := Claim7.holds Tryd.pinned (.plain (OpenSpec.upto fnExactTagSpec)) fnExactTagUptoCard

/-- THE SECOND FORM's CARD OF 'laws.FnExactSigned'. -/
def fnExactSignedUptoCard : Claim7 := { stood := { row := fnExactSignedUptoRow, standIns := [], harness := (true, "7bec62c4fe47c68926e4bf6dc37950a8dc3c7218b2d59886dc699b0d89ad762a"), looks := false }, kinds := [], alts := [], laidByText := true, laidKinds := [.data, .data, .data], laidTests := true, laidLooks := .later }
def FnExactSignedUptoCardSaid : Prop := Claim7.holds Tryd.pinned (.plain (OpenSpec.upto fnExactSignedSpec)) fnExactSignedUptoCard
end Rows
end Go.Proofs.YtbfdcbjjhkaphaaDoor
