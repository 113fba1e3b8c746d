/-
  DERIVED. GIVEN WITH THE SEED: THE CARDS: each row of YtkjogcnoaipniaaGreatDoorRows.lean that lists a variable, with what it lists TIED to the program's text (the seventh form; the later family's looks); each row that meets fmt, with fmt's text TOLD by the authors' own Lean function (tested against real Go, not proved from fmt's source: count such statements apart). THE CARD IS WHAT COUNTS. Prove the row's statement (the work); the ties are given (YtkjogcnoaipniaaGreatDoorTie.lean); close each card by the builder's one call (the guide's Derived/Test/ToyasCard.lean, 'card_holds'). Laid BY PROGRAM, IN A SANDBOX (cutbox-door.mjs). By AI agents, Wed Nov 11 2026. No macro, syntax, notation, axiom, sorry.
-/
import Derived.Test.YtkjogcnoaipniaaGreatDoorRows
import GoSem.ClaimSeven
namespace Go.Proofs.YtkjogcnoaipniaaGreatDoor
namespace Rows

/-- THE TIED CARD OF 'phalanxlaw12.PortalBetween'. -/
def portalBetweenCard : Claim7 := { stood := { row := portalBetweenRow, standIns := [], harness := (true, "2946ba4470d3698087aeb66afdded55a1c5a15e4cd775f3ab25585ffc5a3094c"), looks := false }, kinds := [], alts := [], laidByText := true, laidKinds := [.data, .data], laidTests := true, laidLooks := .later }
def PortalBetweenCardSaid : Prop := Claim7.holds Tryz.pinned (.plain (OpenSpec.ofChange portalBetweenSpec)) portalBetweenCard

/-- THE TIED CARD OF 'phalanxlaw12.PortalAll'. -/
def portalAllCard : Claim7 := { stood := { row := portalAllRow, standIns := [], harness := (true, "2946ba4470d3698087aeb66afdded55a1c5a15e4cd775f3ab25585ffc5a3094c"), looks := false }, kinds := [], alts := [], laidByText := true, laidKinds := [.data, .data], laidTests := true, laidLooks := .later }
def PortalAllCardSaid : Prop := Claim7.holds Tryz.pinned (.plain (OpenSpec.ofChange portalAllSpec)) portalAllCard

/-- THE TIED CARD OF 'phalanxlaw12.PortalCrosses'. -/
def portalCrossesCard : Claim7 := { stood := { row := portalCrossesRow, standIns := [], harness := (true, "2946ba4470d3698087aeb66afdded55a1c5a15e4cd775f3ab25585ffc5a3094c"), looks := false }, kinds := [], alts := [], laidByText := true, laidKinds := [.data, .data], laidTests := true, laidLooks := .later }
def PortalCrossesCardSaid : Prop := Claim7.holds Tryz.pinned (.plain (OpenSpec.ofChange portalCrossesSpec)) portalCrossesCard

/-- THE SECOND FORM's CARD OF 'phalanxlaw12.PortalBetween'. -/
def portalBetweenUptoCard : Claim7 := { stood := { row := portalBetweenUptoRow, standIns := [], harness := (true, "2946ba4470d3698087aeb66afdded55a1c5a15e4cd775f3ab25585ffc5a3094c"), looks := false }, kinds := [], alts := [], laidByText := true, laidKinds := [.data, .data], laidTests := true, laidLooks := .later }
def PortalBetweenUptoCardSaid : Prop := Claim7.holds Tryz.pinned (.plain (OpenSpec.upto portalBetweenSpec)) portalBetweenUptoCard

/-- THE SECOND FORM's CARD OF 'phalanxlaw12.PortalAll'. -/
def portalAllUptoCard : Claim7 := { stood := { row := portalAllUptoRow, standIns := [], harness := (true, "2946ba4470d3698087aeb66afdded55a1c5a15e4cd775f3ab25585ffc5a3094c"), looks := false }, kinds := [], alts := [], laidByText := true, laidKinds := [.data, .data], laidTests := true, laidLooks := .later }
def PortalAllUptoCardSaid : Prop := Claim7.holds Tryz.pinned (.plain (OpenSpec.upto portalAllSpec)) portalAllUptoCard

/-- THE SECOND FORM's CARD OF 'phalanxlaw12.PortalCrosses'. -/
def portalCrossesUptoCard : Claim7 := { stood := { row := portalCrossesUptoRow, standIns := [], harness := (true, "2946ba4470d3698087aeb66afdded55a1c5a15e4cd775f3ab25585ffc5a3094c"), looks := false }, kinds := [], alts := [], laidByText := true, laidKinds := [.data, .data], laidTests := true, laidLooks := .later }
def PortalCrossesUptoCardSaid : Prop := Claim7.holds Tryz.pinned (.plain (OpenSpec.upto portalCrossesSpec)) portalCrossesUptoCard
end Rows
end Go.Proofs.YtkjogcnoaipniaaGreatDoor
