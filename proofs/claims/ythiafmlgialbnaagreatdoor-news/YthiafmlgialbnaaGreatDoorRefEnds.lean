import Derived.Test.YthiafmlgialbnaaGreatDoorSpan
set_option linter.all false
set_option maxRecDepth 1000000
set_option maxHeartbeats 64000000
open Go.Value renaming int->O
open Go.IntKind renaming i64->ii
namespace Go.Proofs.YthiafmlgialbnaaGreatDoor
open Go.RowKit
theorem zCg {W W' w1:World} {A:Prop} (hb:Below W'.heap.size W' w1) (h:A/\Below W.heap.size W W'):Below W.heap.size W w1:=bt h.2 hb
theorem Two.kept {w w':World} {b:Nat} {u v:Int} (h:Two w b u v) (hb:Below w.heap.size w w'):Two w' b u v:=
 ⟨(Below.two hb h.2.2 h.1.1 h.1.2 h.2.1.1 h.2.1.2).1,(Below.two hb h.2.2 h.1.1 h.1.2 h.2.1.1 h.2.1.2).2,Nat.lt_of_lt_of_le h.2.2 hb.size⟩
theorem Two.at {w w1:World} {u v:Int} {t:TypeId} (h:Below (w.alloc (.cells #[O ii u,O ii v] t)).heap.size (w.alloc (.cells #[O ii u,O ii v] t)) w1):Two w1 w.heap.size u v:=zDm h
theorem Two.atd {w w1:World} {u v:Int} {t:TypeId} (h:Below (w.alloc (.cells #[O ii u,O ii v] t)).drew.heap.size (w.alloc (.cells #[O ii u,O ii v] t)).drew w1):Two w1 w.heap.size u v:=zMn h
theorem Two.at2 {w w1:World} {u v s r:Int} {t t':TypeId} (h:Below ((w.alloc (.cells #[O ii u,O ii v] t)).alloc (.cells #[O ii s,O ii r] t')).heap.size ((w.alloc (.cells #[O ii u,O ii v] t)).alloc (.cells #[O ii s,O ii r] t')) w1):Two w1 w.heap.size u v/\Two w1 (w.heap.size+1) s r:=⟨zFq h,zBu h⟩
theorem Two.at2d {w w1:World} {u v s r:Int} {t t':TypeId} (h:Below ((w.alloc (.cells #[O ii u,O ii v] t)).alloc (.cells #[O ii s,O ii r] t')).drew.heap.size ((w.alloc (.cells #[O ii u,O ii v] t)).alloc (.cells #[O ii s,O ii r] t')).drew w1):Two w1 w.heap.size u v/\Two w1 (w.heap.size+1) s r:=Two.at2 (bt ((Below.refl _ _).drew) h)
theorem Two.alloc {w:World} {b:Nat} {u v:Int} {o:Obj} (h:Two w b u v):Two (w.alloc o) b u v:=h.kept (zAk _ _)
theorem Two.newAt {w:World} {k:Nat} {u v:Int} {t:TypeId} (hk:k=w.heap.size):Two (w.alloc (.cells #[O ii u,O ii v] t)) k u v:=by
 subst hk;exact Two.at (Below.refl _ _)
theorem Two.set {w:World} {b:Nat} {u v s t:Int} (h:Two w b u v):Two ((w.setCell ⟨b,0,none⟩ (O ii s)).setCell ⟨b,1,none⟩ (O ii t)) b s t:=by
 obtain ⟨⟨h0,h1⟩,⟨f0,f1⟩,hz⟩:=h;refine ⟨⟨?_,?_⟩,⟨?_,?_⟩,?_⟩
 ·simp [go_sem,h0]
 ·simp [go_sem,h1]
 ·simpa [go_sem] using f0
 ·simpa [go_sem] using f1
 ·simpa using hz
theorem Two.other {w:World} {b k:Nat} {u v:Int} {s t:Value} (h:Two w b u v) (hk:¬b=k):Two ((w.setCell ⟨k,0,none⟩ s).setCell ⟨k,1,none⟩ t) b u v:=by
 obtain ⟨⟨h0,h1⟩,⟨f0,f1⟩,hz⟩:=h;have hk':¬k=b:=fun e=>hk e.symm;refine ⟨⟨?_,?_⟩,⟨?_,?_⟩,?_⟩
 ·simp [go_sem,h0]
 ·simp [go_sem,h1]
 ·simpa [go_sem] using f0
 ·simpa [go_sem] using f1
 ·simpa using hz
theorem Four.kept {w w':World} {b:Nat} {u v s t:Int} (h:Four w b u v s t) (hb:Below w.heap.size w w'):Four w' b u v s t:=
 ⟨Below.four hb h.2.2 h.1,⟨(hb.frozen (p:=⟨b,0,none⟩) h.2.2).trans h.2.1.1,(hb.frozen (p:=⟨b,1,none⟩) h.2.2).trans h.2.1.2.1,(hb.frozen (p:=⟨b,2,none⟩) h.2.2).trans h.2.1.2.2.1,(hb.frozen (p:=⟨b,3,none⟩) h.2.2).trans h.2.1.2.2.2⟩,Nat.lt_of_lt_of_le h.2.2 hb.size⟩
theorem zFo {W W':World} {A:Prop} (h:A/\Below W.heap.size W W'):Below W.heap.size W W':=h.2
theorem zFw {w w1:World} {a b c d:Value} {n:Nat} (h:Below w.heap.size w w1) (hn:w.heap.size<=n) :
 Below w.heap.size w ((((w1.setCell ⟨n,0,none⟩ a).setCell ⟨n,1,none⟩ b).setCell ⟨n,2,none⟩ c).setCell ⟨n,3,none⟩ d):=
 (((h.setCell hn _).setCell hn _).setCell hn _).setCell hn _
def qDj (w2 wx:World) (s6 s7:Value) (u v s t:Int):Prop:=
 ∃b6 b7:Nat,s6 = .pointer (some ⟨b6,0,none⟩)/\s7 = .pointer (some ⟨b7,0,none⟩)/\Two wx b6 u v/\Two wx b7 s t/\¬b6=b7/\(w2.heap.size<=b6/\w2.heap.size<=b7)/\Below w2.heap.size w2 wx
theorem zVt (x y:Int):(if x<y then y else x)=max x y:=by split<;>omega
theorem zVr (x y:Int):(if y<x then y else x)=min x y:=by split<;>omega
theorem zQn {x p X P:Int} (h1:-1048576<=x/\x<=1048576) (h2:-1048576<=p/\p<=1048576) (h3:-1048576<=X/\X<=1048576) (h4:-1048576<=P/\P<=1048576) :
 ((-1048576<=max x p/\max x p<=1048576)/\(-1048576<=min x p/\min x p<=1048576))/\(-1048576<=max X P/\max X P<=1048576)/\(-1048576<=min X P/\min X P<=1048576):=by omega
theorem zJd {x y a b p q c d:Int} (h:may x y a b=true) (h2:may p q c d=true) :
 (((-1048576<=max x p/\max x p<=1048576)/\(-1048576<=min x p/\min x p<=1048576))/\(-1048576<=max (x+a-1) (p+c-1)/\max (x+a-1) (p+c-1)<=1048576)/\(-1048576<=min (x+a-1) (p+c-1)/\min (x+a-1) (p+c-1)<=1048576))/\
 (((-1048576<=max y q/\max y q<=1048576)/\(-1048576<=min y q/\min y q<=1048576))/\(-1048576<=max (y+b-1) (q+d-1)/\max (y+b-1) (q+d-1)<=1048576)/\(-1048576<=min (y+b-1) (q+d-1)/\min (y+b-1) (q+d-1)<=1048576)):=by
 have h:=(zA0 _ _ _ _).1 h;have h2:=(zA0 _ _ _ _).1 h2;exact ⟨zQn h.1.1 h2.1.1 h.2.2.2.1 h2.2.2.2.1,zQn h.1.2 h2.1.2 h.2.2.2.2 h2.2.2.2.2⟩
theorem zIq {k:IntKind} {a b:Int} (h:a=b):Value.int k a = .int k b:=by rw [h]
theorem zMi {B:Nat} {a w:World} (h:Below B a w) (n:Nat):Below B a (w.drewN n):=h.trans ⟨rfl,rfl,rfl,Nat.le_refl _,fun _ _=>rfl⟩
theorem Two.set0 {w:World} {b:Nat} {u v s:Int} (h:Two w b u v):Two (w.setCell ⟨b,0,none⟩ (O ii s)) b s v:=by
 obtain ⟨⟨h0,h1⟩,⟨f0,f1⟩,hz⟩:=h;refine ⟨⟨?_,?_⟩,⟨?_,?_⟩,?_⟩
 ·simp [go_sem,h0]
 ·simpa [go_sem] using h1
 ·simpa [go_sem] using f0
 ·simpa [go_sem] using f1
 ·simpa using hz
theorem Two.set1 {w:World} {b:Nat} {u v s:Int} (h:Two w b u v):Two (w.setCell ⟨b,1,none⟩ (O ii s)) b u s:=by
 obtain ⟨⟨h0,h1⟩,⟨f0,f1⟩,hz⟩:=h;refine ⟨⟨?_,?_⟩,⟨?_,?_⟩,?_⟩
 ·simpa [go_sem] using h0
 ·simp [go_sem,h1]
 ·simpa [go_sem] using f0
 ·simpa [go_sem] using f1
 ·simpa using hz
theorem Two.past {w:World} {b k o:Nat} {u v:Int} {s:Value} (h:Two w b u v) (hk:¬b=k):Two (w.setCell ⟨k,o,none⟩ s) b u v:=by
 obtain ⟨⟨h0,h1⟩,⟨f0,f1⟩,hz⟩:=h;have hk':¬k=b:=fun e=>hk e.symm;refine ⟨⟨?_,?_⟩,⟨?_,?_⟩,?_⟩
 ·simp [go_sem,h0]
 ·simp [go_sem,h1]
 ·simpa [go_sem] using f0
 ·simpa [go_sem] using f1
 ·simpa using hz
theorem Four.past {w:World} {b k o:Nat} {u v x y:Int} {s:Value} (h:Four w b u v x y) (hk:¬b=k):Four (w.setCell ⟨k,o,none⟩ s) b u v x y:=by
 obtain ⟨⟨h0,h1,h2,h3⟩,⟨f0,f1,f2,f3⟩,hz⟩:=h;have hk':¬k=b:=fun e=>hk e.symm;refine ⟨⟨?_,?_,?_,?_⟩,⟨?_,?_,?_,?_⟩,?_⟩
 ·simp [go_sem,h0]
 ·simp [go_sem,h1]
 ·simp [go_sem,h2]
 ·simp [go_sem,h3]
 ·simpa [go_sem] using f0
 ·simpa [go_sem] using f1
 ·simpa [go_sem] using f2
 ·simpa [go_sem] using f3
 ·simpa using hz
theorem zMr {w:World} {b:Nat} {u v s t:Int} (h:Two w b u v) (h1:u=s) (h2:v=t):Two w b s t:=by rw [<-h1,<-h2];exact h
end Go.Proofs.YthiafmlgialbnaaGreatDoor
