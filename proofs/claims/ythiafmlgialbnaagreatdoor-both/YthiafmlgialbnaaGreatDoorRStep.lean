/-
  The document's Turn, Step, Sides.
-/
import Derived.Test.YthiafmlgialbnaaGreatDoorSides
import Derived.Test.YthiafmlgialbnaaGreatDoorRefMeet
import Derived.RegionTactic
import Derived.BigRegion
set_option linter.unusedSimpArgs false
namespace Go.Proofs.YthiafmlgialbnaaGreatDoor
open Go.RowKit
set_option linter.unusedVariables false
end Go.Proofs.YthiafmlgialbnaaGreatDoor
