import Derived.Test.YtejjcenhjpjefaaGreatDoorStands
import Derived.Test.YtejjcenhjpjefaaGreatDoorNew
set_option linter.all false
set_option maxRecDepth 1000000
set_option maxHeartbeats 64000000
namespace Go.Proofs.YtejjcenhjpjefaaGreatDoor
open Go.RowKit
theorem Made.wl {w w':World} {W H:Int} {tl:List Nat} {L:List Bd} {p:Nat} (h:Made w W H tl L p w') (hm:mt W H tl=true) (hb:∀x∈tl,x<256):Wl w' p W H tl (zB9 L)/\Below w.heap.size w w':=by
 obtain ⟨bm,tv,bv,d1,d2,d3,d4,d5,-⟩:=h;exact ⟨⟨⟨hm,hb⟩,bm,_,tv,bv,_,d1,d2,d4⟩,d5⟩
def Ep (w:World) (p n:Nat):Prop:=∃W H tv bv bm a cap,Wd w p W H tv bv bm (.slice a n cap)
theorem Ep.kept {w w':World} {p n:Nat} (h:Ep w p n) (hb:Below w.heap.size w w'):Ep w' p n:=by
 obtain ⟨W,H,tv,bv,bm,a,cap,h⟩:=h;exact ⟨W,H,tv,bv,bm,a,cap,h.kept (Turns.of_below (S:=NoB) hb) id⟩
def Wn (w:World) (p:Nat) (W H:Int) (tl:List Nat) (f:Int->Int->Option Int):Prop:=Wl w p W H tl f/\Ep w p 0
theorem Made.wn {w w':World} {W H:Int} {tl:List Nat} {L:List Bd} {p:Nat} (h:Made w W H tl L p w') (hm:mt W H tl=true) (hb:∀x∈tl,x<256):Wn w' p W H tl (zB9 L)/\Below w.heap.size w w':=by
 have h1:=h.wl hm hb;obtain ⟨bm,tv,bv,d1,-⟩:=h;exact ⟨⟨h1.1,W,H,tv,bv,bm,none,0,d1⟩,h1.2⟩
def tl9:List Nat:=List.replicate 9 0
end Go.Proofs.YtejjcenhjpjefaaGreatDoor
