/-
  The document's ground: where a shape stands, cell by cell of a world (Of, Stands). The document's ground: Stands, Steps.
-/
import Derived.Test.YthiafmlgialbnaaGreatDoorRowS
import Derived.Test.YthiafmlgialbnaaGreatDoorRStep
import Derived.Test.YthiafmlgialbnaaGreatDoorRefSt
set_option linter.unusedSimpArgs false
namespace Go.Proofs.YthiafmlgialbnaaGreatDoor
open Go.RowKit Go.Shelf
set_option linter.unusedVariables false
def cB (b : Bool) : List Value := [.bool b]
/-- The ground as a value. -/
abbrev gdv (wd ht : Nat) (iv : Value) : Value := .agg #[.int .i64 (wd : Nat), .int .i64 (ht : Nat), iv]
/-- A ground in a block of its own. -/
def GB (w : World) (B wd ht : Nat) (iv : Value) : Prop := w.heap[B]? = some (.cells #[.int .i64 (wd : Nat), .int .i64 (ht : Nat), iv] 81 (0, 0))
/-- What Of keeps: so many cells told. -/
structure Og (w0 W : World) (B wd ht : Nat) (cl : Int) (s : Int) (f : Nat → Bool) (iv : Value) (k : Nat) : Prop where
  gb : GB W B wd ht iv
  row : Rw 4 1 cB W iv ((List.range k).map f)
  bl : Below w0.heap.size w0 W
  own : ∀ g, iv.ownBlock = some g → w0.heap.size + 2 ≤ g
  hB : w0.heap.size + 2 ≤ B
  sh : Two W w0.heap.size cl s
  res : GB W (w0.heap.size + 1) 0 0 (.slice none 0 0)
section
variable {w0 W W' : World} {B wd ht : Nat} {cl : Int} {s : Int} {f : Nat → Bool} {iv : Value} {k : Nat}
end
end Go.Proofs.YthiafmlgialbnaaGreatDoor
set_option linter.unusedSimpArgs false
namespace Go.Proofs.YthiafmlgialbnaaGreatDoor
open Go.RowKit Go.Shelf
set_option linter.unusedVariables false
/-- Where the ground says that one stands. -/
def gS (wd ht : Nat) (St : Nat → Bool) (x y : Int) : Bool := decide ((0 ≤ x ∧ x < (wd : Nat)) ∧ 0 ≤ y ∧ y < (ht : Nat)) && St (y.toNat * wd + x.toNat)
/-- A step is legal. -/
def lg (S : Int → Int → Bool) (x y d : Int) : Bool := sB x y d && (S x y && (S (sX x y d) (sY x y d) && (!siB x y d || (S (siX x y d) (si0 x y d y) && S (si0 x y d x) (siY x y d)))))
/-- A ground that lies somewhere: its slice reads as St. -/
def Gd (w : World) (wd ht N : Nat) (St : Nat → Bool) (iv : Value) : Prop := Rw 4 1 cB w iv ((List.range N).map St)
/-- What lies while Steps goes on: the ground, the cell, the answer. -/
structure Gx (w W : World) (wd ht : Nat) (iv : Value) (x y : Int) : Prop where
  gb : GB W w.heap.size wd ht iv
  fr : Two W (w.heap.size + 1) x y
  res : Two W (w.heap.size + 1 + 1) 0 0
  bl : Below w.heap.size w W
end Go.Proofs.YthiafmlgialbnaaGreatDoor
