/-
  DERIVED. GIVEN WITH THE SEED: THE CARDS: each row of YtnoodnmbghfchaaDoorRows.lean that lists a variable, with what it lists TIED to the program's text (the seventh form; the later family's looks); each row that meets fmt, with fmt's text TOLD by the authors' own Lean function (tested against real Go, not proved from fmt's source: count such statements apart). THE CARD IS WHAT COUNTS. Prove the row's statement (the work); the ties are given (YtnoodnmbghfchaaDoorTie.lean); close each card by the builder's one call (the guide's Derived/Test/ToyasCard.lean, 'card_holds'). Laid BY PROGRAM, IN A SANDBOX (cutbox-door.mjs). By AI agents, Wed Nov 11 2026. No macro, syntax, notation, axiom, sorry.
-/
import Derived.Test.YtnoodnmbghfchaaDoorRows
import GoSem.ClaimSeven
namespace Go.Proofs.YtnoodnmbghfchaaDoor
namespace Rows

/-- THE TIED CARD OF 'phalanxlaw07.ClearOf'. -/
def clearOfCard : Claim7 := { stood := { row := clearOfRow, standIns := [], harness := (true, "29b041e5124b5f363abd372be4da23848109177d376fba4c73e7039a0f922907"), looks := false }, kinds := [], alts := [], laidByText := true, laidKinds := [.data, .data], laidTests := true, laidLooks := .later }
def ClearOfCardSaid : Prop := Claim7.holds Tryd.pinned (.plain (OpenSpec.ofChange clearOfSpec)) clearOfCard

/-- THE TIED CARD OF 'phalanxlaw07.ClearUpdates'. -/
def clearUpdatesCard : Claim7 := { stood := { row := clearUpdatesRow, standIns := [], harness := (true, "29b041e5124b5f363abd372be4da23848109177d376fba4c73e7039a0f922907"), looks := false }, kinds := [], alts := [], laidByText := true, laidKinds := [.data, .data], laidTests := true, laidLooks := .later }
def ClearUpdatesCardSaid : Prop := Claim7.holds Tryd.pinned (.plain (OpenSpec.ofChange clearUpdatesSpec)) clearUpdatesCard

/-- THE TIED CARD OF 'phalanxlaw07.ClearCounts'. -/
def clearCountsCard : Claim7 := { stood := { row := clearCountsRow, standIns := [], harness := (true, "29b041e5124b5f363abd372be4da23848109177d376fba4c73e7039a0f922907"), looks := false }, kinds := [], alts := [], laidByText := true, laidKinds := [.data, .data], laidTests := true, laidLooks := .later }
def ClearCountsCardSaid : Prop := Claim7.holds Tryd.pinned (.plain (OpenSpec.ofChange clearCountsSpec)) clearCountsCard

/-- THE TIED CARD OF 'phalanxlaw07.ClearNobody'. -/
def clearNobodyCard : Claim7 := { stood := { row := clearNobodyRow, standIns := [], harness := (true, "29b041e5124b5f363abd372be4da23848109177d376fba4c73e7039a0f922907"), looks := false }, kinds := [], alts := [], laidByText := true, laidKinds := [.data, .data], laidTests := true, laidLooks := .later }
def ClearNobodyCardSaid : Prop := Claim7.holds Tryd.pinned (.plain (OpenSpec.ofChange clearNobodySpec)) clearNobodyCard

/-- THE SECOND FORM's CARD OF 'phalanxlaw07.ClearOf'. -/
def clearOfUptoCard : Claim7 := { stood := { row := clearOfUptoRow, standIns := [], harness := (true, "29b041e5124b5f363abd372be4da23848109177d376fba4c73e7039a0f922907"), looks := false }, kinds := [], alts := [], laidByText := true, laidKinds := [.data, .data], laidTests := true, laidLooks := .later }
def ClearOfUptoCardSaid : Prop := Claim7.holds Tryd.pinned (.plain (OpenSpec.upto clearOfSpec)) clearOfUptoCard

/-- THE SECOND FORM's CARD OF 'phalanxlaw07.ClearUpdates'. -/
def clearUpdatesUptoCard : Claim7 := { stood := { row := clearUpdatesUptoRow, standIns := [], harness := (true, "29b041e5124b5f363abd372be4da23848109177d376fba4c73e7039a0f922907"), looks := false }, kinds := [], alts := [], laidByText := true, laidKinds := [.data, .data], laidTests := true, laidLooks := .later }
def ClearUpdatesUptoCardSaid : Prop := Claim7.holds Tryd.pinned (.plain (OpenSpec.upto clearUpdatesSpec)) clearUpdatesUptoCard

/-- THE SECOND FORM's CARD OF 'phalanxlaw07.ClearCounts'. -/
def clearCountsUptoCard : Claim7 := { stood := { row := clearCountsUptoRow, standIns := [], harness := (true, "29b041e5124b5f363abd372be4da23848109177d376fba4c73e7039a0f922907"), looks := false }, kinds := [], alts := [], laidByText := true, laidKinds := [.data, .data], laidTests := true, laidLooks := .later }
def ClearCountsUptoCardSaid : Prop := Claim7.holds Tryd.pinned (.plain (OpenSpec.upto clearCountsSpec)) clearCountsUptoCard

/-- THE SECOND FORM's CARD OF 'phalanxlaw07.ClearNobody'. -/
def clearNobodyUptoCard : Claim7 := { stood := { row := clearNobodyUptoRow, standIns := [], harness := (true, "29b041e5124b5f363abd372be4da23848109177d376fba4c73e7039a0f922907"), looks := false }, kinds := [], alts := [], laidByText := true, laidKinds := [.data, .data], laidTests := true, laidLooks := .later }
def ClearNobodyUptoCardSaid : Prop := Claim7.holds Tryd.pinned (.plain (OpenSpec.upto clearNobodySpec)) clearNobodyUptoCard
end Rows
end Go.Proofs.YtnoodnmbghfchaaDoor
