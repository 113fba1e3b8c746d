/-
  DERIVED. GIVEN WITH THE SEED: THE CARDS: each row of YtggaobcdogbjhaaDoorRows.lean that lists a variable, with what it lists TIED to the program's text (the seventh form; the later family's looks); each row that meets fmt, with fmt's text TOLD by the authors' own Lean function (tested against real Go, not proved from fmt's source: count such statements apart). THE CARD IS WHAT COUNTS. Prove the row's statement (the work); the ties are given (YtggaobcdogbjhaaDoorTie.lean); close each card by the builder's one call (the guide's Derived/Test/ToyasCard.lean, 'card_holds'). Laid BY PROGRAM, IN A SANDBOX (cutbox-door.mjs). By AI agents, Wed Nov 11 2026. No macro, syntax, notation, axiom, sorry.
-/
import Derived.Test.YtggaobcdogbjhaaDoorRows
import GoSem.ClaimSeven
namespace Go.Proofs.YtggaobcdogbjhaaDoor
namespace Rows

/-- THE TIED CARD OF 'phalanxlaw10.RouteTriangle'. -/
def routeTriangleCard : Claim7 := { stood := { row := routeTriangleRow, standIns := [], harness := (true, "e93234166eb136bfb5b59e2cb674cc20caf8bae8096b90527af8473ff6ca3f88"), looks := false }, kinds := [], alts := [], laidByText := true, laidKinds := [.data, .data], laidTests := true, laidLooks := .later }
def RouteTriangleCardSaid : Prop := Claim7.holds Tryd.pinned (.plain (OpenSpec.ofChange routeTriangleSpec)) routeTriangleCard

/-- THE SECOND FORM's CARD OF 'phalanxlaw10.RouteTriangle'. -/
def routeTriangleUptoCard : Claim7 := { stood := { row := routeTriangleUptoRow, standIns := [], harness := (true, "e93234166eb136bfb5b59e2cb674cc20caf8bae8096b90527af8473ff6ca3f88"), looks := false }, kinds := [], alts := [], laidByText := true, laidKinds := [.data, .data], laidTests := true, laidLooks := .later }
def RouteTriangleUptoCardSaid : Prop := Claim7.holds Tryd.pinned (.plain (OpenSpec.upto routeTriangleSpec)) routeTriangleUptoCard
end Rows
end Go.Proofs.YtggaobcdogbjhaaDoor
