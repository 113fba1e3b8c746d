import Derived.Test.YtejjcenhjpjefaaGreatDoorStand
import Derived.Test.YtejjcenhjpjefaaGreatDoorAtW
import Derived.Test.YtejjcenhjpjefaaGreatDoorRefMeet
import Derived.Test.YtejjcenhjpjefaaGreatDoorNew
set_option linter.all false
set_option maxRecDepth 1000000
set_option maxHeartbeats 64000000
open Go.Value renaming int->O
open Go.IntKind renaming i64->ii
namespace Go.Proofs.YtejjcenhjpjefaaGreatDoor
open Go.RowKit
section
open Go.Shelf
def z5:List Value:=[O ii 0,O ii 0,O ii 0,O ii 0,O ii 0]
def qA5 (w:World) (g cap:Nat) (l':List Bd) (e:Ending) (w':World):Prop:=
 e = .returned (.slice (some ⟨g,0,none⟩) l'.length cap)/\Bds w' (.slice (some ⟨g,0,none⟩) l'.length cap) l'/\w.grownBy w' (some g)
attribute [local go_sem] Oper.semAt_some
def zYu (f:Int->Int->Option Int) (pre:List Cel):Int->Int->Option Int:=fun x y=>if pre.any (fun q=>decide (q.1.1=x/\q.1.2=y))=true then none else f x y
def del (l:List Bd) (i:Nat):List Bd:=l.take i++l.drop (i+1)
def qBy (w:World) (p bm n:Nat) (W H:Int) (tv bv ev:Value) (f:Int->Int->Option Int) (l:List Bd) (es:List Rc) (i:Nat) (t:Bd) (w':World):Prop:=
 ∃bv' ev',Wd w' p W H tv bv' bm ev'/\Bds w' bv' (del l i)/\Who w' bm n (zYu f (zFg t.x t.y t.a t.b))/\Rcs w' ev' (es++[t.foot])/\
  Turns (fun k=>k=p\/k=bm\/bv.ownBlock=some k\/ev.ownBlock=some k) w w'/\(∀k,bv'.ownBlock=some k->bv.ownBlock=some k\/w.heap.size<=k)/\(∀k,ev'.ownBlock=some k->ev.ownBlock=some k\/w.heap.size<=k)
attribute [local go_sem] Oper.semAt_some
theorem Four.set {w:World} {b:Nat} {u v s t:Int} (h:Four w b u v s t) (x y a c:Int):Four ((((w.setCell ⟨b,0,none⟩ (O ii x)).setCell ⟨b,1,none⟩ (O ii y)).setCell ⟨b,2,none⟩ (O ii a)).setCell ⟨b,3,none⟩ (O ii c)) b x y a c:=by
 obtain ⟨⟨h0,h1,h2,h3⟩,⟨f0,f1,f2,f3⟩,hz⟩:=h;refine ⟨⟨?_,?_,?_,?_⟩,⟨?_,?_,?_,?_⟩,?_⟩
 ·simp [go_sem,h0]
 ·simp [go_sem,h1]
 ·simp [go_sem,h2]
 ·simp [go_sem,h3]
 ·simpa [go_sem] using f0
 ·simpa [go_sem] using f1
 ·simpa [go_sem] using f2
 ·simpa [go_sem] using f3
 ·simpa using hz
end
section
open Go.Shelf
attribute [local go_sem] Oper.semAt_some
def Rd (w:World) (r:Nat) (W H:Int) (tv bv ev:Value):Prop:=
 w.heap[r]? = some (.cells #[O ii W,O ii H,tv,bv,ev] 0 (0,0))
section
variable {w w':World} {r:Nat} {W H:Int} {tv bv ev:Value}
end
def plc (l:List Bd) (i:Int):Int:=if zCk l i=true then (pos l i:Nat) else -1
end
def qAy (l:List Bd) (t:Bd):Bool:=l.any (fun s=>mtB s.x s.y s.a s.b t.x t.y t.a t.b)
def zZs (W H:Int) (l:List Bd) (t:Bd):Int:=
 if mb W H t=false then 1 else if zCk l t.id=true then 8 else if 256<=l.length then 2 else if qAy l t=true then 6 else 0
def Bd.has (t:Bd) (u v:Int):Bool:=YtejjcenhjpjefaaGreatDoor.has t.x t.y t.a t.b u v
def Bd.mt (s t:Bd):Bool:=mtB s.x s.y s.a s.b t.x t.y t.a t.b
theorem zBz (x y a b u v:Int):has x y a b u v=true↔may x y a b=true/\x<=u/\u<=x+a-1/\y<=v/\v<=y+b-1:=by simp [has]
def qB0 (l:List Bd):Int->Int->Option Int:=fun u v=>(l.find? (fun t=>t.has u v)).map Bd.id
def qA6 (l:List Bd):Prop:=l.Pairwise (fun s t=>s.mt t=false)
structure Fine (W H:Int) (l:List Bd):Prop where
 sorted:zCn l
 len:l.length<=256
 all:∀t∈l,mb W H t=true
 apart:qA6 l
def chk (W H:Int):List Bd->List Bd->Bool
 |_,[]=>true
 |done,t::r=>mb W H t&&(done.all (fun s=>decide (s.id<t.id) && !s.mt t)&&chk W H (done++[t]) r)
end Go.Proofs.YtejjcenhjpjefaaGreatDoor
