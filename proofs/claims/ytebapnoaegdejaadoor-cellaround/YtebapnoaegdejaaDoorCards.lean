/-
  DERIVED. GIVEN WITH THE SEED: THE CARDS: each row of YtebapnoaegdejaaDoorRows.lean that lists a variable, with what it lists TIED to the program's text (the seventh form; the later family's looks); each row that meets fmt, with fmt's text TOLD by the authors' own Lean function (tested against real Go, not proved from fmt's source: count such statements apart). THE CARD IS WHAT COUNTS. Prove the row's statement (the work); the ties are given (YtebapnoaegdejaaDoorTie.lean); close each card by the builder's one call (the guide's Derived/Test/ToyasCard.lean, 'card_holds'). Laid BY PROGRAM, IN A SANDBOX (cutbox-door.mjs). By AI agents, Wed Nov 11 2026. No macro, syntax, notation, axiom, sorry.
-/
import Derived.Test.YtebapnoaegdejaaDoorRows
import GoSem.ClaimSeven
namespace Go.Proofs.YtebapnoaegdejaaDoor
namespace Rows

/-- THE TIED CARD OF 'phalanxlaw03.CellSteps'. -/
def cellStepsCard : Claim7 := { stood := { row := cellStepsRow, standIns := [], harness := (true, "7699a6b808cdda9b6cd157bcd660fcbf0363628ea3a9abbb3233b5fcf734ebb1"), looks := false }, kinds := [], alts := [], laidByText := true, laidKinds := [.data], laidTests := true, laidLooks := .later }
def CellStepsCardSaid : Prop := Claim7.holds Tryd.pinned (.plain (OpenSpec.ofChange cellStepsSpec)) cellStepsCard

/-- THE TIED CARD OF 'phalanxlaw03.CellAround'. -/
def cellAroundCard : Claim7 := { stood := { row := cellAroundRow, standIns := [], harness := (true, "7699a6b808cdda9b6cd157bcd660fcbf0363628ea3a9abbb3233b5fcf734ebb1"), looks := false }, kinds := [], alts := [], laidByText := true, laidKinds := [.data], laidTests := true, laidLooks := .later }
def CellAroundCardSaid : Prop := Claim7.holds Tryd.pinned (.plain (OpenSpec.ofChange cellAroundSpec)) cellAroundCard

/-- THE TIED CARD OF 'phalanxlaw03.CellApart'. -/
def cellApartCard : Claim7 := { stood := { row := cellApartRow, standIns := [], harness := (true, "7699a6b808cdda9b6cd157bcd660fcbf0363628ea3a9abbb3233b5fcf734ebb1"), looks := false }, kinds := [], alts := [], laidByText := true, laidKinds := [.data], laidTests := true, laidLooks := .later }
def CellApartCardSaid : Prop := Claim7.holds Tryd.pinned (.plain (OpenSpec.ofChange cellApartSpec)) cellApartCard

/-- THE TIED CARD OF 'phalanxlaw03.CellRects'. -/
def cellRectsCard : Claim7 := { stood := { row := cellRectsRow, standIns := [], harness := (true, "7699a6b808cdda9b6cd157bcd660fcbf0363628ea3a9abbb3233b5fcf734ebb1"), looks := false }, kinds := [], alts := [], laidByText := true, laidKinds := [.data], laidTests := true, laidLooks := .later }
def CellRectsCardSaid : Prop := Claim7.holds Tryd.pinned (.plain (OpenSpec.ofChange cellRectsSpec)) cellRectsCard

/-- THE TIED CARD OF 'phalanxlaw03.CellGoes'. -/
def cellGoesCard : Claim7 := { stood := { row := cellGoesRow, standIns := [], harness := (true, "7699a6b808cdda9b6cd157bcd660fcbf0363628ea3a9abbb3233b5fcf734ebb1"), looks := false }, kinds := [], alts := [], laidByText := true, laidKinds := [.data], laidTests := true, laidLooks := .later }
def CellGoesCardSaid : Prop := Claim7.holds Tryd.pinned (.plain (OpenSpec.ofChange cellGoesSpec)) cellGoesCard

/-- THE TIED CARD OF 'phalanxlaw03.CellBack'. -/
def cellBackCard : Claim7 := { stood := { row := cellBackRow, standIns := [], harness := (true, "7699a6b808cdda9b6cd157bcd660fcbf0363628ea3a9abbb3233b5fcf734ebb1"), looks := false }, kinds := [], alts := [], laidByText := true, laidKinds := [.data], laidTests := true, laidLooks := .later }
def CellBackCardSaid : Prop := Claim7.holds Tryd.pinned (.plain (OpenSpec.ofChange cellBackSpec)) cellBackCard

/-- THE SECOND FORM's CARD OF 'phalanxlaw03.CellSteps'. -/
def cellStepsUptoCard : Claim7 := { stood := { row := cellStepsUptoRow, standIns := [], harness := (true, "7699a6b808cdda9b6cd157bcd660fcbf0363628ea3a9abbb3233b5fcf734ebb1"), looks := false }, kinds := [], alts := [], laidByText := true, laidKinds := [.data], laidTests := true, laidLooks := .later }
def CellStepsUptoCardSaid : Prop := Claim7.holds Tryd.pinned (.plain (OpenSpec.upto cellStepsSpec)) cellStepsUptoCard

/-- THE SECOND FORM's CARD OF 'phalanxlaw03.CellAround'. -/
def cellAroundUptoCard : Claim7 := { stood := { row := cellAroundUptoRow, standIns := [], harness := (true, "7699a6b808cdda9b6cd157bcd660fcbf0363628ea3a9abbb3233b5fcf734ebb1"), looks := false }, kinds := [], alts := [], laidByText := true, laidKinds := [.data], laidTests := true, laidLooks := .later }
def CellAroundUptoCardSaid : Prop := Claim7.holds Tryd.pinned (.plain (OpenSpec.upto cellAroundSpec)) cellAroundUptoCard

/-- THE SECOND FORM's CARD OF 'phalanxlaw03.CellApart'. -/
def cellApartUptoCard : Claim7 := { stood := { row := cellApartUptoRow, standIns := [], harness := (true, "7699a6b808cdda9b6cd157bcd660fcbf0363628ea3a9abbb3233b5fcf734ebb1"), looks := false }, kinds := [], alts := [], laidByText := true, laidKinds := [.data], laidTests := true, laidLooks := .later }
def CellApartUptoCardSaid : Prop := Claim7.holds Tryd.pinned (.plain (OpenSpec.upto cellApartSpec)) cellApartUptoCard

/-- THE SECOND FORM's CARD OF 'phalanxlaw03.CellRects'. -/
def cellRectsUptoCard : Claim7 := { stood := { row := cellRectsUptoRow, standIns := [], harness := (true, "7699a6b808cdda9b6cd157bcd660fcbf0363628ea3a9abbb3233b5fcf734ebb1"), looks := false }, kinds := [], alts := [], laidByText := true, laidKinds := [.data], laidTests := true, laidLooks := .later }
def CellRectsUptoCardSaid : Prop := Claim7.holds Tryd.pinned (.plain (OpenSpec.upto cellRectsSpec)) cellRectsUptoCard

/-- THE SECOND FORM's CARD OF 'phalanxlaw03.CellGoes'. -/
def cellGoesUptoCard : Claim7 := { stood := { row := cellGoesUptoRow, standIns := [], harness := (true, "7699a6b808cdda9b6cd157bcd660fcbf0363628ea3a9abbb3233b5fcf734ebb1"), looks := false }, kinds := [], alts := [], laidByText := true, laidKinds := [.data], laidTests := true, laidLooks := .later }
def CellGoesUptoCardSaid : Prop := Claim7.holds Tryd.pinned (.plain (OpenSpec.upto cellGoesSpec)) cellGoesUptoCard

/-- THE SECOND FORM's CARD OF 'phalanxlaw03.CellBack'. -/
def cellBackUptoCard : Claim7 := { stood := { row := cellBackUptoRow, standIns := [], harness := (true, "7699a6b808cdda9b6cd157bcd660fcbf0363628ea3a9abbb3233b5fcf734ebb1"), looks := false }, kinds := [], alts := [], laidByText := true, laidKinds := [.data], laidTests := true, laidLooks := .later }
def CellBackUptoCardSaid : Prop := Claim7.holds Tryd.pinned (.plain (OpenSpec.upto cellBackSpec)) cellBackUptoCard
end Rows
end Go.Proofs.YtebapnoaegdejaaDoor
