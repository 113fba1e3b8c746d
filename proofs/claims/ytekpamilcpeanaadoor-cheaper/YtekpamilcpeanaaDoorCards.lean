/-
  DERIVED. GIVEN WITH THE SEED: THE CARDS: each row of YtekpamilcpeanaaDoorRows.lean that lists a variable, with what it lists TIED to the program's text (the seventh form; the later family's looks); each row that meets fmt, with fmt's text TOLD by the authors' own Lean function (tested against real Go, not proved from fmt's source: count such statements apart). THE CARD IS WHAT COUNTS. Prove the row's statement (the work); the ties are given (YtekpamilcpeanaaDoorTie.lean); close each card by the builder's one call (the guide's Derived/Test/ToyasCard.lean, 'card_holds'). Laid BY PROGRAM, IN A SANDBOX (cutbox-door.mjs). By AI agents, Wed Nov 11 2026. No macro, syntax, notation, axiom, sorry.
-/
import Derived.Test.YtekpamilcpeanaaDoorRows
import GoSem.ClaimSeven
namespace Go.Proofs.YtekpamilcpeanaaDoor
namespace Rows

/-- THE TIED CARD OF 'phalanxlaw15.SmoothLines'. -/
def smoothLinesCard : Claim7 := { stood := { row := smoothLinesRow, standIns := [], harness := (true, "d0ab198f861d18f56ce18fa018cafcdfde3ea2b956471840c8c910289c85f383"), looks := false }, kinds := [], alts := [], laidByText := true, laidKinds := [.data, .data], laidTests := true, laidLooks := .later }
def SmoothLinesCardSaid : Prop := Claim7.holds Tryd.pinned (.plain (OpenSpec.ofChange smoothLinesSpec)) smoothLinesCard

/-- THE TIED CARD OF 'phalanxlaw15.SmoothSmooths'. -/
def smoothSmoothsCard : Claim7 := { stood := { row := smoothSmoothsRow, standIns := [], harness := (true, "d0ab198f861d18f56ce18fa018cafcdfde3ea2b956471840c8c910289c85f383"), looks := false }, kinds := [], alts := [], laidByText := true, laidKinds := [.data, .data], laidTests := true, laidLooks := .later }
def SmoothSmoothsCardSaid : Prop := Claim7.holds Tryd.pinned (.plain (OpenSpec.ofChange smoothSmoothsSpec)) smoothSmoothsCard

/-- THE TIED CARD OF 'phalanxlaw15.SmoothCheaper'. -/
def smoothCheaperCard : Claim7 := { stood := { row := smoothCheaperRow, standIns := [], harness := (true, "d0ab198f861d18f56ce18fa018cafcdfde3ea2b956471840c8c910289c85f383"), looks := false }, kinds := [], alts := [], laidByText := true, laidKinds := [.data, .data], laidTests := true, laidLooks := .later }
def SmoothCheaperCardSaid : Prop := Claim7.holds Tryd.pinned (.plain (OpenSpec.ofChange smoothCheaperSpec)) smoothCheaperCard

/-- THE TIED CARD OF 'phalanxlaw15.SmoothTurns'. -/
def smoothTurnsCard : Claim7 := { stood := { row := smoothTurnsRow, standIns := [], harness := (true, "d0ab198f861d18f56ce18fa018cafcdfde3ea2b956471840c8c910289c85f383"), looks := false }, kinds := [], alts := [], laidByText := true, laidKinds := [.data, .data], laidTests := true, laidLooks := .later }
def SmoothTurnsCardSaid : Prop := Claim7.holds Tryd.pinned (.plain (OpenSpec.ofChange smoothTurnsSpec)) smoothTurnsCard

/-- THE SECOND FORM's CARD OF 'phalanxlaw15.SmoothLines'. -/
def smoothLinesUptoCard : Claim7 := { stood := { row := smoothLinesUptoRow, standIns := [], harness := (true, "d0ab198f861d18f56ce18fa018cafcdfde3ea2b956471840c8c910289c85f383"), looks := false }, kinds := [], alts := [], laidByText := true, laidKinds := [.data, .data], laidTests := true, laidLooks := .later }
def SmoothLinesUptoCardSaid : Prop := Claim7.holds Tryd.pinned (.plain (OpenSpec.upto smoothLinesSpec)) smoothLinesUptoCard

/-- THE SECOND FORM's CARD OF 'phalanxlaw15.SmoothSmooths'. -/
def smoothSmoothsUptoCard : Claim7 := { stood := { row := smoothSmoothsUptoRow, standIns := [], harness := (true, "d0ab198f861d18f56ce18fa018cafcdfde3ea2b956471840c8c910289c85f383"), looks := false }, kinds := [], alts := [], laidByText := true, laidKinds := [.data, .data], laidTests := true, laidLooks := .later }
def SmoothSmoothsUptoCardSaid : Prop := Claim7.holds Tryd.pinned (.plain (OpenSpec.upto smoothSmoothsSpec)) smoothSmoothsUptoCard

/-- THE SECOND FORM's CARD OF 'phalanxlaw15.SmoothCheaper'. -/
def smoothCheaperUptoCard : Claim7 := { stood := { row := smoothCheaperUptoRow, standIns := [], harness := (true, "d0ab198f861d18f56ce18fa018cafcdfde3ea2b956471840c8c910289c85f383"), looks := false }, kinds := [], alts := [], laidByText := true, laidKinds := [.data, .data], laidTests := true, laidLooks := .later }
def SmoothCheaperUptoCardSaid : Prop := Claim7.holds Tryd.pinned (.plain (OpenSpec.upto smoothCheaperSpec)) smoothCheaperUptoCard

/-- THE SECOND FORM's CARD OF 'phalanxlaw15.SmoothTurns'. -/
def smoothTurnsUptoCard : Claim7 := { stood := { row := smoothTurnsUptoRow, standIns := [], harness := (true, "d0ab198f861d18f56ce18fa018cafcdfde3ea2b956471840c8c910289c85f383"), looks := false }, kinds := [], alts := [], laidByText := true, laidKinds := [.data, .data], laidTests := true, laidLooks := .later }
def SmoothTurnsUptoCardSaid : Prop := Claim7.holds Tryd.pinned (.plain (OpenSpec.upto smoothTurnsSpec)) smoothTurnsUptoCard
end Rows
end Go.Proofs.YtekpamilcpeanaaDoor
