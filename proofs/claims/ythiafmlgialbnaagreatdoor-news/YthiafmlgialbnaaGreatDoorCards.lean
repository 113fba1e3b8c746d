/-
  DERIVED. GIVEN WITH THE SEED: THE CARDS: each row of YthiafmlgialbnaaGreatDoorRows.lean that lists a variable, with what it lists TIED to the program's text (the seventh form; the later family's looks); each row that meets fmt, with fmt's text TOLD by the authors' own Lean function (tested against real Go, not proved from fmt's source: count such statements apart). THE CARD IS WHAT COUNTS. Prove the row's statement (the work); the ties are given (YthiafmlgialbnaaGreatDoorTie.lean); close each card by the builder's one call (the guide's Derived/Test/ToyasCard.lean, 'card_holds'). Laid BY PROGRAM, IN A SANDBOX (cutbox-door.mjs). By AI agents, Wed Nov 11 2026. No macro, syntax, notation, axiom, sorry.
-/
import Derived.Test.YthiafmlgialbnaaGreatDoorRows
import GoSem.ClaimSeven
namespace Go.Proofs.YthiafmlgialbnaaGreatDoor
namespace Rows

/-- THE TIED CARD OF 'phalanxlaw13.AbstractNews'. -/
def abstractNewsCard : Claim7 := { stood := { row := abstractNewsRow, standIns := [], harness := (true, "e67930b1747408f059aa0dc104d416096385e1a9ce28b207fa2f510cc49f96dc"), looks := false }, kinds := [], alts := [], laidByText := true, laidKinds := [.data, .data], laidTests := true, laidLooks := .later }
def AbstractNewsCardSaid : Prop := Claim7.holds Tryz.pinned (.plain (OpenSpec.ofChange abstractNewsSpec)) abstractNewsCard

/-- THE TIED CARD OF 'phalanxlaw13.AbstractUpdates'. -/
def abstractUpdatesCard : Claim7 := { stood := { row := abstractUpdatesRow, standIns := [], harness := (true, "e67930b1747408f059aa0dc104d416096385e1a9ce28b207fa2f510cc49f96dc"), looks := false }, kinds := [], alts := [], laidByText := true, laidKinds := [.data, .data], laidTests := true, laidLooks := .later }
def AbstractUpdatesCardSaid : Prop := Claim7.holds Tryz.pinned (.plain (OpenSpec.ofChange abstractUpdatesSpec)) abstractUpdatesCard

/-- THE TIED CARD OF 'phalanxlaw13.AbstractBoth'. -/
def abstractBothCard : Claim7 := { stood := { row := abstractBothRow, standIns := [], harness := (true, "e67930b1747408f059aa0dc104d416096385e1a9ce28b207fa2f510cc49f96dc"), looks := false }, kinds := [], alts := [], laidByText := true, laidKinds := [.data, .data], laidTests := true, laidLooks := .later }
def AbstractBothCardSaid : Prop := Claim7.holds Tryz.pinned (.plain (OpenSpec.ofChange abstractBothSpec)) abstractBothCard

/-- THE TIED CARD OF 'phalanxlaw13.AbstractNobody'. -/
def abstractNobodyCard : Claim7 := { stood := { row := abstractNobodyRow, standIns := [], harness := (true, "e67930b1747408f059aa0dc104d416096385e1a9ce28b207fa2f510cc49f96dc"), looks := false }, kinds := [], alts := [], laidByText := true, laidKinds := [.data, .data], laidTests := true, laidLooks := .later }
def AbstractNobodyCardSaid : Prop := Claim7.holds Tryz.pinned (.plain (OpenSpec.ofChange abstractNobodySpec)) abstractNobodyCard

/-- THE SECOND FORM's CARD OF 'phalanxlaw13.AbstractNews'. -/
def abstractNewsUptoCard : Claim7 := { stood := { row := abstractNewsUptoRow, standIns := [], harness := (true, "e67930b1747408f059aa0dc104d416096385e1a9ce28b207fa2f510cc49f96dc"), looks := false }, kinds := [], alts := [], laidByText := true, laidKinds := [.data, .data], laidTests := true, laidLooks := .later }
def AbstractNewsUptoCardSaid : Prop := Claim7.holds Tryz.pinned (.plain (OpenSpec.upto abstractNewsSpec)) abstractNewsUptoCard

/-- THE SECOND FORM's CARD OF 'phalanxlaw13.AbstractUpdates'. -/
def abstractUpdatesUptoCard : Claim7 := { stood := { row := abstractUpdatesUptoRow, standIns := [], harness := (true, "e67930b1747408f059aa0dc104d416096385e1a9ce28b207fa2f510cc49f96dc"), looks := false }, kinds := [], alts := [], laidByText := true, laidKinds := [.data, .data], laidTests := true, laidLooks := .later }
def AbstractUpdatesUptoCardSaid : Prop := Claim7.holds Tryz.pinned (.plain (OpenSpec.upto abstractUpdatesSpec)) abstractUpdatesUptoCard

/-- THE SECOND FORM's CARD OF 'phalanxlaw13.AbstractBoth'. -/
def abstractBothUptoCard : Claim7 := { stood := { row := abstractBothUptoRow, standIns := [], harness := (true, "e67930b1747408f059aa0dc104d416096385e1a9ce28b207fa2f510cc49f96dc"), looks := false }, kinds := [], alts := [], laidByText := true, laidKinds := [.data, .data], laidTests := true, laidLooks := .later }
def AbstractBothUptoCardSaid : Prop := Claim7.holds Tryz.pinned (.plain (OpenSpec.upto abstractBothSpec)) abstractBothUptoCard

/-- THE SECOND FORM's CARD OF 'phalanxlaw13.AbstractNobody'. -/
def abstractNobodyUptoCard : Claim7 := { stood := { row := abstractNobodyUptoRow, standIns := [], harness := (true, "e67930b1747408f059aa0dc104d416096385e1a9ce28b207fa2f510cc49f96dc"), looks := false }, kinds := [], alts := [], laidByText := true, laidKinds := [.data, .data], laidTests := true, laidLooks := .later }
def AbstractNobodyUptoCardSaid : Prop := Claim7.holds Tryz.pinned (.plain (OpenSpec.upto abstractNobodySpec)) abstractNobodyUptoCard
end Rows
end Go.Proofs.YthiafmlgialbnaaGreatDoor
