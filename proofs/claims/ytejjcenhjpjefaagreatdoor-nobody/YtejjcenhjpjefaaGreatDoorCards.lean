/-
  DERIVED. GIVEN WITH THE SEED: THE CARDS: each row of YtejjcenhjpjefaaGreatDoorRows.lean that lists a variable, with what it lists TIED to the program's text (the seventh form; the later family's looks); each row that meets fmt, with fmt's text TOLD by the authors' own Lean function (tested against real Go, not proved from fmt's source: count such statements apart). THE CARD IS WHAT COUNTS. Prove the row's statement (the work); the ties are given (YtejjcenhjpjefaaGreatDoorTie.lean); close each card by the builder's one call (the guide's Derived/Test/ToyasCard.lean, 'card_holds'). Laid BY PROGRAM, IN A SANDBOX (cutbox-door.mjs). By AI agents, Wed Nov 11 2026. No macro, syntax, notation, axiom, sorry.
-/
import Derived.Test.YtejjcenhjpjefaaGreatDoorRows
import GoSem.ClaimSeven
namespace Go.Proofs.YtejjcenhjpjefaaGreatDoor
namespace Rows

/-- THE TIED CARD OF 'phalanxlaw14.HierNobody'. -/
def hierNobodyCard : Claim7 := { stood := { row := hierNobodyRow, standIns := [], harness := (true, "a4bbb370ce8a344a87c5a7e8a60c02b923edf26ef3baaa225117f3dc91136615"), looks := false }, kinds := [], alts := [], laidByText := true, laidKinds := [.data, .data], laidTests := true, laidLooks := .later }
def HierNobodyCardSaid : Prop := Claim7.holds Tryz.pinned (.plain (OpenSpec.ofChange hierNobodySpec)) hierNobodyCard

/-- THE SECOND FORM's CARD OF 'phalanxlaw14.HierNobody'. -/
def hierNobodyUptoCard : Claim7 := { stood := { row := hierNobodyUptoRow, standIns := [], harness := (true, "a4bbb370ce8a344a87c5a7e8a60c02b923edf26ef3baaa225117f3dc91136615"), looks := false }, kinds := [], alts := [], laidByText := true, laidKinds := [.data, .data], laidTests := true, laidLooks := .later }
def HierNobodyUptoCardSaid : Prop := Claim7.holds Tryz.pinned (.plain (OpenSpec.upto hierNobodySpec)) hierNobodyUptoCard
end Rows
end Go.Proofs.YtejjcenhjpjefaaGreatDoor
