import Derived.Test.YtejjcenhjpjefaaGreatDoorSides
import Derived.Test.YtejjcenhjpjefaaGreatDoorRefMeet
import Derived.RegionTactic
import Derived.BigRegion
import Derived.Test.YtejjcenhjpjefaaGreatDoorStands
import Derived.Test.YtejjcenhjpjefaaGreatDoorRows4
set_option linter.all false
set_option maxRecDepth 1000000
set_option maxHeartbeats 64000000
open Go.Value renaming int->O
open Go.IntKind renaming i64->ii
namespace Go.Proofs.YtejjcenhjpjefaaGreatDoor
open Go.RowKit

section
open Go.Shelf
attribute [local go_sem] Oper.semAt_some
def gd (W H:Int) (tl:List Nat) (f:Int->Int->Option Int) (c x y:Int):Bool:=!(f x y).isSome&&onB c (zQb W H tl x y)
attribute [local go_sem] Oper.semAt_some
end
section
open Go.Shelf
def cB (b:Bool):List Value:=[.bool b]
abbrev gdv (wd ht:Nat) (iv:Value):Value:=.agg #[O ii (wd:Nat),O ii (ht:Nat),iv]
def GB (w:World) (B wd ht:Nat) (iv:Value):Prop:=w.heap[B]? = some (.cells #[O ii (wd:Nat),O ii (ht:Nat),iv] 0 (0,0))
structure Og (w0 W:World) (B wd ht:Nat) (cl:Int) (s:Int) (f:Nat->Bool) (iv:Value) (k:Nat):Prop where
 gb:GB W B wd ht iv
 row:Rw 4 1 cB W iv ((List.range k).map f)
 bl:Below w0.heap.size w0 W
 own:∀g,iv.ownBlock=some g->w0.heap.size+2<=g
 hB:w0.heap.size+2<=B
 sh:Two W w0.heap.size cl s
 res:GB W (w0.heap.size+1) 0 0 (.slice none 0 0)
section
variable {w0 W W':World} {B wd ht:Nat} {cl:Int} {s:Int} {f:Nat->Bool} {iv:Value} {k:Nat}
end
end
section
open Go.Shelf
def gS (wd ht:Nat) (St:Nat->Bool) (x y:Int):Bool:=decide ((0<=x/\x<(wd:Nat))/\0<=y/\y<(ht:Nat))&&St (y.toNat*wd+x.toNat)
def lg (S:Int->Int->Bool) (x y d:Int):Bool:=sB x y d&&(S x y&&(S (sX x y d) (sY x y d)&&(!siB x y d || (S (siX x y d) (si0 x y d y)&&S (si0 x y d x) (siY x y d)))))
def Gd (w:World) (wd ht N:Nat) (St:Nat->Bool) (iv:Value):Prop:=Rw 4 1 cB w iv ((List.range N).map St)
structure Gx (w W:World) (wd ht:Nat) (iv:Value) (x y:Int):Prop where
 gb:GB W w.heap.size wd ht iv
 fr:Two W (w.heap.size+1) x y
 res:Two W (w.heap.size+1+1) 0 0
 bl:Below w.heap.size w W
end
end Go.Proofs.YtejjcenhjpjefaaGreatDoor
