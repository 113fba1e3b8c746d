/-
  DERIVED. GIVEN WITH THE SEED: THE CARDS: each row of YtoheibfijpdmfaaGreatDoorRows.lean that lists a variable, with what it lists TIED to the program's text (the seventh form; the later family's looks); each row that meets fmt, with fmt's text TOLD by the authors' own Lean function (tested against real Go, not proved from fmt's source: count such statements apart). THE CARD IS WHAT COUNTS. Prove the row's statement (the work); the ties are given (YtoheibfijpdmfaaGreatDoorTie.lean); close each card by the builder's one call (the guide's Derived/Test/ToyasCard.lean, 'card_holds'). Laid BY PROGRAM, IN A SANDBOX (cutbox-door.mjs). By AI agents, Wed Nov 11 2026. No macro, syntax, notation, axiom, sorry.
-/
import Derived.Test.YtoheibfijpdmfaaGreatDoorRows
import GoSem.ClaimSeven
namespace Go.Proofs.YtoheibfijpdmfaaGreatDoor
namespace Rows

/-- THE TIED CARD OF 'phalanxlaw08.PartsUpdates'. -/
def partsUpdatesCard : Claim7 := { stood := { row := partsUpdatesRow, standIns := [], harness := (true, "051c97903017b135eac818d593eac2115d8b53280c0fb55f67786297247bceb9"), looks := false }, kinds := [], alts := [], laidByText := true, laidKinds := [.data, .data], laidTests := true, laidLooks := .later }
def PartsUpdatesCardSaid : Prop := Claim7.holds Tryz.pinned (.plain (OpenSpec.ofChange partsUpdatesSpec)) partsUpdatesCard

/-- THE SECOND FORM's CARD OF 'phalanxlaw08.PartsUpdates'. -/
def partsUpdatesUptoCard : Claim7 := { stood := { row := partsUpdatesUptoRow, standIns := [], harness := (true, "051c97903017b135eac818d593eac2115d8b53280c0fb55f67786297247bceb9"), looks := false }, kinds := [], alts := [], laidByText := true, laidKinds := [.data, .data], laidTests := true, laidLooks := .later }
def PartsUpdatesUptoCardSaid : Prop := Claim7.holds Tryz.pinned (.plain (OpenSpec.upto partsUpdatesSpec)) partsUpdatesUptoCard
end Rows
end Go.Proofs.YtoheibfijpdmfaaGreatDoor
