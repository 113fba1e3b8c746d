/-
  DERIVED. GIVEN WITH THE SEED: THE CARDS: each row of YthacppifndakjaaDoorRows.lean that lists a variable, with what it lists TIED to the program's text (the seventh form; the later family's looks); each row that meets fmt, with fmt's text TOLD by the authors' own Lean function (tested against real Go, not proved from fmt's source: count such statements apart). THE CARD IS WHAT COUNTS. Prove the row's statement (the work); the ties are given (YthacppifndakjaaDoorTie.lean); close each card by the builder's one call (the guide's Derived/Test/ToyasCard.lean, 'card_holds'). Laid BY PROGRAM, IN A SANDBOX (cutbox-door.mjs). By AI agents, Wed Nov 11 2026. No macro, syntax, notation, axiom, sorry.
-/
import Derived.Test.YthacppifndakjaaDoorRows
import GoSem.ClaimSeven
namespace Go.Proofs.YthacppifndakjaaDoor
namespace Rows

/-- THE TIED CARD OF 'phalanxlaw06.ClassShapes'. -/
def classShapesCard : Claim7 := { stood := { row := classShapesRow, standIns := [], harness := (true, "bff10cbcdc75335e150a7c84f02c2616def57f5b3e7a7e8a328e52e308d52a93"), looks := false }, kinds := [], alts := [], laidByText := true, laidKinds := [.data, .data], laidTests := true, laidLooks := .later }
def ClassShapesCardSaid : Prop := Claim7.holds Tryd.pinned (.plain (OpenSpec.ofChange classShapesSpec)) classShapesCard

/-- THE TIED CARD OF 'phalanxlaw06.ClassStands'. -/
def classStandsCard : Claim7 := { stood := { row := classStandsRow, standIns := [], harness := (true, "bff10cbcdc75335e150a7c84f02c2616def57f5b3e7a7e8a328e52e308d52a93"), looks := false }, kinds := [], alts := [], laidByText := true, laidKinds := [.data, .data], laidTests := true, laidLooks := .later }
def ClassStandsCardSaid : Prop := Claim7.holds Tryd.pinned (.plain (OpenSpec.ofChange classStandsSpec)) classStandsCard

/-- THE TIED CARD OF 'phalanxlaw06.ClassSteps'. -/
def classStepsCard : Claim7 := { stood := { row := classStepsRow, standIns := [], harness := (true, "bff10cbcdc75335e150a7c84f02c2616def57f5b3e7a7e8a328e52e308d52a93"), looks := false }, kinds := [], alts := [], laidByText := true, laidKinds := [.data, .data], laidTests := true, laidLooks := .later }
def ClassStepsCardSaid : Prop := Claim7.holds Tryd.pinned (.plain (OpenSpec.ofChange classStepsSpec)) classStepsCard

/-- THE TIED CARD OF 'phalanxlaw06.ClassPaths'. -/
def classPathsCard : Claim7 := { stood := { row := classPathsRow, standIns := [], harness := (true, "bff10cbcdc75335e150a7c84f02c2616def57f5b3e7a7e8a328e52e308d52a93"), looks := false }, kinds := [], alts := [], laidByText := true, laidKinds := [.data, .data], laidTests := true, laidLooks := .later }
def ClassPathsCardSaid : Prop := Claim7.holds Tryd.pinned (.plain (OpenSpec.ofChange classPathsSpec)) classPathsCard

/-- THE TIED CARD OF 'phalanxlaw06.ClassBack'. -/
def classBackCard : Claim7 := { stood := { row := classBackRow, standIns := [], harness := (true, "bff10cbcdc75335e150a7c84f02c2616def57f5b3e7a7e8a328e52e308d52a93"), looks := false }, kinds := [], alts := [], laidByText := true, laidKinds := [.data, .data], laidTests := true, laidLooks := .later }
def ClassBackCardSaid : Prop := Claim7.holds Tryd.pinned (.plain (OpenSpec.ofChange classBackSpec)) classBackCard

/-- THE SECOND FORM's CARD OF 'phalanxlaw06.ClassShapes'. -/
def classShapesUptoCard : Claim7 := { stood := { row := classShapesUptoRow, standIns := [], harness := (true, "bff10cbcdc75335e150a7c84f02c2616def57f5b3e7a7e8a328e52e308d52a93"), looks := false }, kinds := [], alts := [], laidByText := true, laidKinds := [.data, .data], laidTests := true, laidLooks := .later }
def ClassShapesUptoCardSaid : Prop := Claim7.holds Tryd.pinned (.plain (OpenSpec.upto classShapesSpec)) classShapesUptoCard

/-- THE SECOND FORM's CARD OF 'phalanxlaw06.ClassStands'. -/
def classStandsUptoCard : Claim7 := { stood := { row := classStandsUptoRow, standIns := [], harness := (true, "bff10cbcdc75335e150a7c84f02c2616def57f5b3e7a7e8a328e52e308d52a93"), looks := false }, kinds := [], alts := [], laidByText := true, laidKinds := [.data, .data], laidTests := true, laidLooks := .later }
def ClassStandsUptoCardSaid : Prop := Claim7.holds Tryd.pinned (.plain (OpenSpec.upto classStandsSpec)) classStandsUptoCard

/-- THE SECOND FORM's CARD OF 'phalanxlaw06.ClassSteps'. -/
def classStepsUptoCard : Claim7 := { stood := { row := classStepsUptoRow, standIns := [], harness := (true, "bff10cbcdc75335e150a7c84f02c2616def57f5b3e7a7e8a328e52e308d52a93"), looks := false }, kinds := [], alts := [], laidByText := true, laidKinds := [.data, .data], laidTests := true, laidLooks := .later }
def ClassStepsUptoCardSaid : Prop := Claim7.holds Tryd.pinned (.plain (OpenSpec.upto classStepsSpec)) classStepsUptoCard

/-- THE SECOND FORM's CARD OF 'phalanxlaw06.ClassPaths'. -/
def classPathsUptoCard : Claim7 := { stood := { row := classPathsUptoRow, standIns := [], harness := (true, "bff10cbcdc75335e150a7c84f02c2616def57f5b3e7a7e8a328e52e308d52a93"), looks := false }, kinds := [], alts := [], laidByText := true, laidKinds := [.data, .data], laidTests := true, laidLooks := .later }
def ClassPathsUptoCardSaid : Prop := Claim7.holds Tryd.pinned (.plain (OpenSpec.upto classPathsSpec)) classPathsUptoCard

/-- THE SECOND FORM's CARD OF 'phalanxlaw06.ClassBack'. -/
def classBackUptoCard : Claim7 := { stood := { row := classBackUptoRow, standIns := [], harness := (true, "bff10cbcdc75335e150a7c84f02c2616def57f5b3e7a7e8a328e52e308d52a93"), looks := false }, kinds := [], alts := [], laidByText := true, laidKinds := [.data, .data], laidTests := true, laidLooks := .later }
def ClassBackUptoCardSaid : Prop := Claim7.holds Tryd.pinned (.plain (OpenSpec.upto classBackSpec)) classBackUptoCard
end Rows
end Go.Proofs.YthacppifndakjaaDoor
