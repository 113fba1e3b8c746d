/-
  DERIVED. GIVEN WITH THE SEED: THE CARDS: each row of YtggaobcdogbjhaaGreatDoorRows.lean that lists a variable, with what it lists TIED to the program's text (the seventh form; the later family's looks); each row that meets fmt, with fmt's text TOLD by the authors' own Lean function (tested against real Go, not proved from fmt's source: count such statements apart). THE CARD IS WHAT COUNTS. Prove the row's statement (the work); the ties are given (YtggaobcdogbjhaaGreatDoorTie.lean); close each card by the builder's one call (the guide's Derived/Test/ToyasCard.lean, 'card_holds'). Laid BY PROGRAM, IN A SANDBOX (cutbox-door.mjs). By AI agents, Wed Nov 11 2026. No macro, syntax, notation, axiom, sorry.
-/
import Derived.Test.YtggaobcdogbjhaaGreatDoorRows
import GoSem.ClaimSeven
namespace Go.Proofs.YtggaobcdogbjhaaGreatDoor
namespace Rows

/-- THE TIED CARD OF 'phalanxlaw10.RouteFinds'. -/
def routeFindsCard : Claim7 := { stood := { row := routeFindsRow, standIns := [], harness := (true, "373080063691d5be2f5e3428965c31e238965ae8f6496ddd90f3002a02de4b83"), looks := false }, kinds := [], alts := [], laidByText := true, laidKinds := [.data, .data], laidTests := true, laidLooks := .later }
def RouteFindsCardSaid : Prop := Claim7.holds Tryz.pinned (.plain (OpenSpec.ofChange routeFindsSpec)) routeFindsCard

/-- THE TIED CARD OF 'phalanxlaw10.RouteCosts'. -/
def routeCostsCard : Claim7 := { stood := { row := routeCostsRow, standIns := [], harness := (true, "373080063691d5be2f5e3428965c31e238965ae8f6496ddd90f3002a02de4b83"), looks := false }, kinds := [], alts := [], laidByText := true, laidKinds := [.data, .data], laidTests := true, laidLooks := .later }
def RouteCostsCardSaid : Prop := Claim7.holds Tryz.pinned (.plain (OpenSpec.ofChange routeCostsSpec)) routeCostsCard

/-- THE TIED CARD OF 'phalanxlaw10.RouteBest'. -/
def routeBestCard : Claim7 := { stood := { row := routeBestRow, standIns := [], harness := (true, "373080063691d5be2f5e3428965c31e238965ae8f6496ddd90f3002a02de4b83"), looks := false }, kinds := [], alts := [], laidByText := true, laidKinds := [.data, .data], laidTests := true, laidLooks := .later }
def RouteBestCardSaid : Prop := Claim7.holds Tryz.pinned (.plain (OpenSpec.ofChange routeBestSpec)) routeBestCard

/-- THE TIED CARD OF 'phalanxlaw10.RouteParts'. -/
def routePartsCard : Claim7 := { stood := { row := routePartsRow, standIns := [], harness := (true, "373080063691d5be2f5e3428965c31e238965ae8f6496ddd90f3002a02de4b83"), looks := false }, kinds := [], alts := [], laidByText := true, laidKinds := [.data, .data], laidTests := true, laidLooks := .later }
def RoutePartsCardSaid : Prop := Claim7.holds Tryz.pinned (.plain (OpenSpec.ofChange routePartsSpec)) routePartsCard

/-- THE SECOND FORM's CARD OF 'phalanxlaw10.RouteFinds'. -/
def routeFindsUptoCard : Claim7 := { stood := { row := routeFindsUptoRow, standIns := [], harness := (true, "373080063691d5be2f5e3428965c31e238965ae8f6496ddd90f3002a02de4b83"), looks := false }, kinds := [], alts := [], laidByText := true, laidKinds := [.data, .data], laidTests := true, laidLooks := .later }
def RouteFindsUptoCardSaid : Prop := Claim7.holds Tryz.pinned (.plain (OpenSpec.upto routeFindsSpec)) routeFindsUptoCard

/-- THE SECOND FORM's CARD OF 'phalanxlaw10.RouteCosts'. -/
def routeCostsUptoCard : Claim7 := { stood := { row := routeCostsUptoRow, standIns := [], harness := (true, "373080063691d5be2f5e3428965c31e238965ae8f6496ddd90f3002a02de4b83"), looks := false }, kinds := [], alts := [], laidByText := true, laidKinds := [.data, .data], laidTests := true, laidLooks := .later }
def RouteCostsUptoCardSaid : Prop := Claim7.holds Tryz.pinned (.plain (OpenSpec.upto routeCostsSpec)) routeCostsUptoCard

/-- THE SECOND FORM's CARD OF 'phalanxlaw10.RouteBest'. -/
def routeBestUptoCard : Claim7 := { stood := { row := routeBestUptoRow, standIns := [], harness := (true, "373080063691d5be2f5e3428965c31e238965ae8f6496ddd90f3002a02de4b83"), looks := false }, kinds := [], alts := [], laidByText := true, laidKinds := [.data, .data], laidTests := true, laidLooks := .later }
def RouteBestUptoCardSaid : Prop := Claim7.holds Tryz.pinned (.plain (OpenSpec.upto routeBestSpec)) routeBestUptoCard

/-- THE SECOND FORM's CARD OF 'phalanxlaw10.RouteParts'. -/
def routePartsUptoCard : Claim7 := { stood := { row := routePartsUptoRow, standIns := [], harness := (true, "373080063691d5be2f5e3428965c31e238965ae8f6496ddd90f3002a02de4b83"), looks := false }, kinds := [], alts := [], laidByText := true, laidKinds := [.data, .data], laidTests := true, laidLooks := .later }
def RoutePartsUptoCardSaid : Prop := Claim7.holds Tryz.pinned (.plain (OpenSpec.upto routePartsSpec)) routePartsUptoCard
end Rows
end Go.Proofs.YtggaobcdogbjhaaGreatDoor
