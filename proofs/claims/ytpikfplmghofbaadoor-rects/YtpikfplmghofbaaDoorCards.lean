/-
  DERIVED. GIVEN WITH THE SEED: THE CARDS: each row of YtpikfplmghofbaaDoorRows.lean that lists a variable, with what it lists TIED to the program's text (the seventh form; the later family's looks); each row that meets fmt, with fmt's text TOLD by the authors' own Lean function (tested against real Go, not proved from fmt's source: count such statements apart). THE CARD IS WHAT COUNTS. Prove the row's statement (the work); the ties are given (YtpikfplmghofbaaDoorTie.lean); close each card by the builder's one call (the guide's Derived/Test/ToyasCard.lean, 'card_holds'). Laid BY PROGRAM, IN A SANDBOX (cutbox-door.mjs). By AI agents, Wed Nov 11 2026. No macro, syntax, notation, axiom, sorry.
-/
import Derived.Test.YtpikfplmghofbaaDoorRows
import GoSem.ClaimSeven
namespace Go.Proofs.YtpikfplmghofbaaDoor
namespace Rows

/-- THE TIED CARD OF 'phalanxlaw11.ClusterRects'. -/
def clusterRectsCard : Claim7 := { stood := { row := clusterRectsRow, standIns := [], harness := (true, "9df8a63919d274bec6c1b3079a7c02c127eac5b9102b72be4746e0771c3acd9b"), looks := false }, kinds := [], alts := [], laidByText := true, laidKinds := [.data], laidTests := true, laidLooks := .later }
def ClusterRectsCardSaid : Prop := Claim7.holds Tryd.pinned (.plain (OpenSpec.ofChange clusterRectsSpec)) clusterRectsCard

/-- THE SECOND FORM's CARD OF 'phalanxlaw11.ClusterRects'. -/
def clusterRectsUptoCard : Claim7 := { stood := { row := clusterRectsUptoRow, standIns := [], harness := (true, "9df8a63919d274bec6c1b3079a7c02c127eac5b9102b72be4746e0771c3acd9b"), looks := false }, kinds := [], alts := [], laidByText := true, laidKinds := [.data], laidTests := true, laidLooks := .later }
def ClusterRectsUptoCardSaid : Prop := Claim7.holds Tryd.pinned (.plain (OpenSpec.upto clusterRectsSpec)) clusterRectsUptoCard
end Rows
end Go.Proofs.YtpikfplmghofbaaDoor
