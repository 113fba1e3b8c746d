/-
  The document: whether a shape stands.
-/
import Derived.Test.YthiafmlgialbnaaGreatDoorStands
import Derived.Test.YthiafmlgialbnaaGreatDoorRowS
namespace Go.Proofs.YthiafmlgialbnaaGreatDoor
open Go.RowKit Go.Shelf
set_option linter.unusedVariables false
set_option linter.unusedSimpArgs false
attribute [local go_sem] Oper.semAt_some
def gd (W H : Int) (tl : List Nat) (f : Int → Int → Option Int) (c x y : Int) : Bool := !(f x y).isSome && onB c (terN W H tl x y)
attribute [local go_sem] Oper.semAt_some
end Go.Proofs.YthiafmlgialbnaaGreatDoor
