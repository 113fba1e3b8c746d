/-
  DERIVED. GIVEN WITH THE SEED: THE CARDS: each row of YtoheibfijpdmfaaDoorRows.lean that lists a variable, with what it lists TIED to the program's text (the seventh form; the later family's looks); each row that meets fmt, with fmt's text TOLD by the authors' own Lean function (tested against real Go, not proved from fmt's source: count such statements apart). THE CARD IS WHAT COUNTS. Prove the row's statement (the work); the ties are given (YtoheibfijpdmfaaDoorTie.lean); close each card by the builder's one call (the guide's Derived/Test/ToyasCard.lean, 'card_holds'). Laid BY PROGRAM, IN A SANDBOX (cutbox-door.mjs). By AI agents, Wed Nov 11 2026. No macro, syntax, notation, axiom, sorry.
-/
import Derived.Test.YtoheibfijpdmfaaDoorRows
import GoSem.ClaimSeven
namespace Go.Proofs.YtoheibfijpdmfaaDoor
namespace Rows

/-- THE TIED CARD OF 'phalanxlaw08.PartsLabels'. -/
def partsLabelsCard : Claim7 := { stood := { row := partsLabelsRow, standIns := [], harness := (true, "67f620c296cef4d730c3c3c5284f458c6f42e1e9540885ffd429acee01b5fea8"), looks := false }, kinds := [], alts := [], laidByText := true, laidKinds := [.data, .data], laidTests := true, laidLooks := .later }
def PartsLabelsCardSaid : Prop := Claim7.holds Tryd.pinned (.plain (OpenSpec.ofChange partsLabelsSpec)) partsLabelsCard

/-- THE TIED CARD OF 'phalanxlaw08.PartsJoined'. -/
def partsJoinedCard : Claim7 := { stood := { row := partsJoinedRow, standIns := [], harness := (true, "67f620c296cef4d730c3c3c5284f458c6f42e1e9540885ffd429acee01b5fea8"), looks := false }, kinds := [], alts := [], laidByText := true, laidKinds := [.data, .data], laidTests := true, laidLooks := .later }
def PartsJoinedCardSaid : Prop := Claim7.holds Tryd.pinned (.plain (OpenSpec.ofChange partsJoinedSpec)) partsJoinedCard

/-- THE TIED CARD OF 'phalanxlaw08.PartsNobody'. -/
def partsNobodyCard : Claim7 := { stood := { row := partsNobodyRow, standIns := [], harness := (true, "67f620c296cef4d730c3c3c5284f458c6f42e1e9540885ffd429acee01b5fea8"), looks := false }, kinds := [], alts := [], laidByText := true, laidKinds := [.data, .data], laidTests := true, laidLooks := .later }
def PartsNobodyCardSaid : Prop := Claim7.holds Tryd.pinned (.plain (OpenSpec.ofChange partsNobodySpec)) partsNobodyCard

/-- THE SECOND FORM's CARD OF 'phalanxlaw08.PartsLabels'. -/
def partsLabelsUptoCard : Claim7 := { stood := { row := partsLabelsUptoRow, standIns := [], harness := (true, "67f620c296cef4d730c3c3c5284f458c6f42e1e9540885ffd429acee01b5fea8"), looks := false }, kinds := [], alts := [], laidByText := true, laidKinds := [.data, .data], laidTests := true, laidLooks := .later }
def PartsLabelsUptoCardSaid : Prop := Claim7.holds Tryd.pinned (.plain (OpenSpec.upto partsLabelsSpec)) partsLabelsUptoCard

/-- THE SECOND FORM's CARD OF 'phalanxlaw08.PartsJoined'. -/
def partsJoinedUptoCard : Claim7 := { stood := { row := partsJoinedUptoRow, standIns := [], harness := (true, "67f620c296cef4d730c3c3c5284f458c6f42e1e9540885ffd429acee01b5fea8"), looks := false }, kinds := [], alts := [], laidByText := true, laidKinds := [.data, .data], laidTests := true, laidLooks := .later }
def PartsJoinedUptoCardSaid : Prop := Claim7.holds Tryd.pinned (.plain (OpenSpec.upto partsJoinedSpec)) partsJoinedUptoCard

/-- THE SECOND FORM's CARD OF 'phalanxlaw08.PartsNobody'. -/
def partsNobodyUptoCard : Claim7 := { stood := { row := partsNobodyUptoRow, standIns := [], harness := (true, "67f620c296cef4d730c3c3c5284f458c6f42e1e9540885ffd429acee01b5fea8"), looks := false }, kinds := [], alts := [], laidByText := true, laidKinds := [.data, .data], laidTests := true, laidLooks := .later }
def PartsNobodyUptoCardSaid : Prop := Claim7.holds Tryd.pinned (.plain (OpenSpec.upto partsNobodySpec)) partsNobodyUptoCard
end Rows
end Go.Proofs.YtoheibfijpdmfaaDoor
