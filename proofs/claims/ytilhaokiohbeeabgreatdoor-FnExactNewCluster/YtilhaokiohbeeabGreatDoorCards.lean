/-
  DERIVED. GIVEN WITH THE SEED: THE CARDS: each row of YtilhaokiohbeeabGreatDoorRows.lean that lists a variable, with what it lists TIED to the program's text (the seventh form; the later family's looks); each row that meets fmt, with fmt's text TOLD by the authors' own Lean function (tested against real Go, not proved from fmt's source: count such statements apart). THE CARD IS WHAT COUNTS. Prove the row's statement (the work); the ties are given (YtilhaokiohbeeabGreatDoorTie.lean); close each card by the builder's one call (the guide's Derived/Test/ToyasCard.lean, 'card_holds'). Laid BY PROGRAM, IN A SANDBOX (cutbox-door.mjs). By AI agents, Wed Nov 11 2026. No macro, syntax, notation, axiom, sorry.
-/
import Derived.Test.YtilhaokiohbeeabGreatDoorRows
import GoSem.ClaimSeven
namespace Go.Proofs.YtilhaokiohbeeabGreatDoor
namespace Rows

/-- THE TIED CARD OF 'laws.FnExactNewCluster'. -/
def fnExactNewClusterCard : Claim7 := { stood := { row := fnExactNewClusterRow, standIns := [], harness := (true, "13ee7a3ce1f80fdda582c132a17731baeac7fcd8684005e63532ed5efe5e0288"), looks := true }, kinds := [], alts := [], laidByText := true, laidKinds := [.data, .data, .data], laidTests := true, laidLooks := .later }
def FnExactNewClusterCardSaid : Prop := Claim7.holds Tryz.pinned (.plain (OpenSpec.ofChange fnExactNewClusterSpec)) fnExactNewClusterCard

/-- THE TIED CARD OF 'laws.FnExactAct'. -/
def fnExactActCard : Claim7 := { stood := { row := fnExactActRow, standIns := [], harness := (true, "13ee7a3ce1f80fdda582c132a17731baeac7fcd8684005e63532ed5efe5e0288"), looks := true }, kinds := [], alts := [], laidByText := true, laidKinds := [.data, .data, .data], laidTests := true, laidLooks := .later }
def FnExactActCardSaid : Prop := Claim7.holds Tryz.pinned (.plain (OpenSpec.ofChange fnExactActSpec)) fnExactActCard

/-- THE TIED CARD OF 'laws.FnExactPlay'. -/
def fnExactPlayCard : Claim7 := { stood := { row := fnExactPlayRow, standIns := [], harness := (true, "13ee7a3ce1f80fdda582c132a17731baeac7fcd8684005e63532ed5efe5e0288"), looks := true }, kinds := [], alts := [], laidByText := true, laidKinds := [.data, .data, .data], laidTests := true, laidLooks := .later }
def FnExactPlayCardSaid : Prop := Claim7.holds Tryz.pinned (.plain (OpenSpec.ofChange fnExactPlaySpec)) fnExactPlayCard

/-- THE TIED CARD OF 'laws.FnExactCalm'. -/
def fnExactCalmCard : Claim7 := { stood := { row := fnExactCalmRow, standIns := [], harness := (true, "13ee7a3ce1f80fdda582c132a17731baeac7fcd8684005e63532ed5efe5e0288"), looks := true }, kinds := [], alts := [], laidByText := true, laidKinds := [.data, .data, .data], laidTests := true, laidLooks := .later }
def FnExactCalmCardSaid : Prop := Claim7.holds Tryz.pinned (.plain (OpenSpec.ofChange fnExactCalmSpec)) fnExactCalmCard

/-- THE SECOND FORM's CARD OF 'laws.FnExactNewCluster'. -/
def fnExactNewClusterUptoCard : Claim7 := { stood := { row := fnExactNewClusterUptoRow, standIns := [], harness := (true, "13ee7a3ce1f80fdda582c132a17731baeac7fcd8684005e63532ed5efe5e0288"), looks := true }, kinds := [], alts := [], laidByText := true, laidKinds := [.data, .data, .data], laidTests := true, laidLooks := .later }
def FnExactNewClusterUptoCardSaid : Prop := Claim7.holds Tryz.pinned (.plain (OpenSpec.upto fnExactNewClusterSpec)) fnExactNewClusterUptoCard

/-- THE SECOND FORM's CARD OF 'laws.FnExactAct'. -/
def fnExactActUptoCard : Claim7 := { stood := { row := fnExactActUptoRow, standIns := [], harness := (true, "13ee7a3ce1f80fdda582c132a17731baeac7fcd8684005e63532ed5efe5e0288"), looks := true }, kinds := [], alts := [], laidByText := true, laidKinds := [.data, .data, .data], laidTests := true, laidLooks := .later }
def FnExactActUptoCardSaid : Prop := Claim7.holds Tryz.pinned (.plain (OpenSpec.upto fnExactActSpec)) fnExactActUptoCard

/-- THE SECOND FORM's CARD OF 'laws.FnExactPlay'. -/
def fnExactPlayUptoCard : Claim7 := { stood := { row := fnExactPlayUptoRow, standIns := [], harness := (true, "13ee7a3ce1f80fdda582c132a17731baeac7fcd8684005e63532ed5efe5e0288"), looks := true }, kinds := [], alts := [], laidByText := true, laidKinds := [.data, .data, .data], laidTests := true, laidLooks := .later }
def FnExactPlayUptoCardSaid : Prop := Claim7.holds Tryz.pinned (.plain (OpenSpec.upto fnExactPlaySpec)) fnExactPlayUptoCard

/-- THE SECOND FORM's CARD OF 'laws.FnExactCalm'. -/
def fnExactCalmUptoCard : Claim7 := { stood := { row := fnExactCalmUptoRow, standIns := [], harness := (true, "13ee7a3ce1f80fdda582c132a17731baeac7fcd8684005e63532ed5efe5e0288"), looks := true }, kinds := [], alts := [], laidByText := true, laidKinds := [.data, .data, .data], laidTests := true, laidLooks := .later }
def FnExactCalmUptoCardSaid : Prop := Claim7.holds Tryz.pinned (.plain (OpenSpec.upto fnExactCalmSpec)) fnExactCalmUptoCard
end Rows
end Go.Proofs.YtilhaokiohbeeabGreatDoor
