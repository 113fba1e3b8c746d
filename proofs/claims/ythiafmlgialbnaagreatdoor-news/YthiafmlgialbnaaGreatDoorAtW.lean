import Derived.Test.YthiafmlgialbnaaGreatDoorStand
import Derived.Test.YthiafmlgialbnaaGreatDoorSpan
import Derived.WalkSpells
set_option linter.all false
set_option maxRecDepth 1000000
set_option maxHeartbeats 64000000
open Go.Proofs.Tryz
open Go.Proofs.Tryz renaming prog->pg
open Go.Value renaming int->O
open Go.IntKind renaming i64->ii
namespace Go.Proofs.YthiafmlgialbnaaGreatDoor
open Go.RowKit
def gs (n most:Int):Bool:=decide (1<=n/\n<=most)
theorem zBt (n most:Int) (w:World):Calls pg 78 #[O ii n,O ii most] w fun e w'=>e = .returned (.bool (gs n most))/\w'=w:=by
 by_cases h1:1<=n
 ·by_cases h2:n<=most
  ·go_enter func78,ntmps78;go_wp2
   go_ret;exact ⟨zAm (by simp [gs,h1,h2]),rfl⟩
  ·go_enter func78,ntmps78;go_wp2
   go_ret;exact ⟨zAm (by simp [gs,h1,h2]),rfl⟩
 ·go_enter func78,ntmps78;go_wp2
  go_ret;exact ⟨zAm (by rw [eq_comm,gs,decide_eq_false_iff_not];omega),rfl⟩
theorem zTp (w:World):Calls pg 41 #[.pointer none] w fun e w'=>e = .returned (.bool false)/\w'=w:=by
 go_enter func41,ntmps41;go_wp2
 go_ret;exact ⟨rfl,rfl⟩
theorem zX6 (b:Nat) (w:World):(binOp .neq 87 (.map (some b)) (.map none)).run pg w = .ok (.bool true) w:=by kernel_rfl
theorem zNd (p bm:Nat) (w:World) (hc:w.cell? ⟨p,6,none⟩=some (.map (some bm))):Calls pg 41 #[ptr p] w fun e w'=>e = .returned (.bool true)/\w'=w:=by
 have h1:=zX6;go_enter func41,ntmps41;go_wp2
 go_ret;exact ⟨rfl,rfl⟩
def mb (W H:Int) (t:Bd):Bool:=decide (1<=t.id)&&(decide (t.id<=2147483647)&&(gs t.a 8&&(gs t.b 8&&wi t.x t.y t.a t.b 0 0 W H)))
theorem zGp {x y a b p q c d:Int} {r:Bool} (w:World) (h:wi x y a b p q c d=r) :
 Calls pg 113 #[rct x y a b,rct p q c d] w fun e w'=>e = .returned (.bool r)/\Below w.heap.size w w':=by
 subst h;exact zCd x y a b p q c d w
theorem zE3 {w:World} {p bm:Nat} {W H:Int} {tv bv ev:Value} (hd:Wd w p W H tv bv bm ev) (t:Bd):∃X,w.alloc (.cells #[O ii t.id,O ii t.x,O ii t.y,O ii t.a,O ii t.b] 51)=X/\Below w.heap.size w X/\
 ((∀n:Lat X,n.w.cell? ⟨w.heap.size,0,none⟩=some (O ii t.id))/\(∀n:Lat X,n.w.cell? ⟨w.heap.size,1,none⟩=some (O ii t.x))/\(∀n:Lat X,n.w.cell? ⟨w.heap.size,2,none⟩=some (O ii t.y))/\(∀n:Lat X,n.w.cell? ⟨w.heap.size,3,none⟩=some (O ii t.a))/\(∀n:Lat X,n.w.cell? ⟨w.heap.size,4,none⟩=some (O ii t.b)))/\
 ((∀n:Lat X,n.w.cell? ⟨p,0,none⟩=some (O ii 0))/\(∀n:Lat X,n.w.cell? ⟨p,1,none⟩=some (O ii 0))/\(∀n:Lat X,n.w.cell? ⟨p,2,none⟩=some (O ii W))/\(∀n:Lat X,n.w.cell? ⟨p,3,none⟩=some (O ii H))):=by
 have TX:Turns NoB w (w.alloc (.cells t.cs.toArray 51)):=Turns.of_below (zAk _ _);have F:Five (w.alloc (.cells t.cs.toArray 51)) w.heap.size t:=heap_alloc_new w _;have Fn:∀n:Lat (w.alloc (.cells t.cs.toArray 51)),Five n.w w.heap.size t:=fun n=>F.kept (Turns.of_below (S:=NoB) n.h) id;have Dn:∀n:Lat (w.alloc (.cells t.cs.toArray 51)),Wd n.w p W H tv bv bm ev:=fun n=>(hd.kept TX id).kept (Turns.of_below (S:=NoB) n.h) id;exact ⟨_,rfl,zAk _ _,⟨fun n=>(Fn n).c 0,fun n=>(Fn n).c 1,fun n=>(Fn n).c 2,fun n=>(Fn n).c 3,fun n=>(Fn n).c 4⟩,fun n=>(Dn n).c 0,fun n=>(Dn n).c 1,fun n=>(Dn n).c 2,fun n=>(Dn n).c 3⟩
theorem zYf (p bm:Nat) (W H:Int) (tv bv ev:Value) (t:Bd) (w:World) (hd:Wd w p W H tv bv bm ev) (h1:¬1<=t.id) :
 Calls pg 80 #[ptr p,t.v] w fun e w'=>e = .returned (.bool (mb W H t))/\Below w.heap.size w w':=by
 rw [show mb W H t=false by simp [mb,h1]];have dh1:=decide_eq_false h1;obtain ⟨X,hX,HB,⟨c0,c1,c2,c3,c4⟩,e0,e1,e2,e3⟩:=zE3 hd t;go_enter func80,ntmps80;go_wp2_with fail;clear hX hd;have hne:=zAq X;refine zAh (by kernel_rfl) (by kernel_rfl) ?_
 repeat (go_big_quiet_step (first
  |(go_at_call 78;exact zA3 (zBt _ _ _))
  |(go_at_call 113;exact zAi (zCd _ _ _ _ _ _ _ _ _))))
 refine wpQuiet_nil ?_;rintro _ ⟨n,rfl⟩;go_wp2_with fail;go_ret;exact ⟨rfl,HB.trans (n.h.mono HB.size)⟩
theorem zYe (p bm:Nat) (W H:Int) (tv bv ev:Value) (t:Bd) (w:World) (hd:Wd w p W H tv bv bm ev) (h1:1<=t.id) (h2:¬t.id<=2147483647) :
 Calls pg 80 #[ptr p,t.v] w fun e w'=>e = .returned (.bool (mb W H t))/\Below w.heap.size w w':=by
 rw [show mb W H t=false by simp [mb,h1,h2]];have dh1:=decide_eq_true h1;have dh2:=decide_eq_false h2;obtain ⟨X,hX,HB,⟨c0,c1,c2,c3,c4⟩,e0,e1,e2,e3⟩:=zE3 hd t;go_enter func80,ntmps80;go_wp2_with fail;clear hX hd;have hne:=zAq X;refine zAh (by kernel_rfl) (by kernel_rfl) ?_
 repeat (go_big_quiet_step (first
  |(go_at_call 78;exact zA3 (zBt _ _ _))
  |(go_at_call 113;exact zAi (zCd _ _ _ _ _ _ _ _ _))))
 refine wpQuiet_nil ?_;rintro _ ⟨n,rfl⟩;go_wp2_with fail;go_ret;exact ⟨rfl,HB.trans (n.h.mono HB.size)⟩
theorem zYd (p bm:Nat) (W H:Int) (tv bv ev:Value) (t:Bd) (w:World) (hd:Wd w p W H tv bv bm ev) (h1:1<=t.id) (h2:t.id<=2147483647) (h3:gs t.a 8=false) :
 Calls pg 80 #[ptr p,t.v] w fun e w'=>e = .returned (.bool (mb W H t))/\Below w.heap.size w w':=by
 rw [show mb W H t=false by simp [mb,h1,h2,h3]];have dh1:=decide_eq_true h1;have dh2:=decide_eq_true h2;obtain ⟨X,hX,HB,⟨c0,c1,c2,c3,c4⟩,e0,e1,e2,e3⟩:=zE3 hd t;go_enter func80,ntmps80;go_wp2_with fail;clear hX hd;have hne:=zAq X;refine zAh (by kernel_rfl) (by kernel_rfl) ?_
 repeat (go_big_quiet_step (first
  |(go_at_call 78;exact zA3 (zBt _ _ _))
  |(go_at_call 113;exact zAi (zCd _ _ _ _ _ _ _ _ _))))
 refine wpQuiet_nil ?_;rintro _ ⟨n,rfl⟩;go_wp2_with fail;go_ret;exact ⟨rfl,HB.trans (n.h.mono HB.size)⟩
theorem zYc (p bm:Nat) (W H:Int) (tv bv ev:Value) (t:Bd) (w:World) (hd:Wd w p W H tv bv bm ev) (h1:1<=t.id) (h2:t.id<=2147483647) (h3:gs t.a 8=true) (h4:gs t.b 8=false) :
 Calls pg 80 #[ptr p,t.v] w fun e w'=>e = .returned (.bool (mb W H t))/\Below w.heap.size w w':=by
 rw [show mb W H t=false by simp [mb,h1,h2,h3,h4]];have dh1:=decide_eq_true h1;have dh2:=decide_eq_true h2;obtain ⟨X,hX,HB,⟨c0,c1,c2,c3,c4⟩,e0,e1,e2,e3⟩:=zE3 hd t;go_enter func80,ntmps80;go_wp2_with fail;clear hX hd;have hne:=zAq X;refine zAh (by kernel_rfl) (by kernel_rfl) ?_
 repeat (go_big_quiet_step (first
  |(go_at_call 78;exact zA3 (zBt _ _ _))
  |(go_at_call 113;exact zAi (zCd _ _ _ _ _ _ _ _ _))))
 refine wpQuiet_nil ?_;rintro _ ⟨n,rfl⟩;go_wp2_with fail;go_ret;exact ⟨rfl,HB.trans (n.h.mono HB.size)⟩
theorem zYb (p bm:Nat) (W H:Int) (tv bv ev:Value) (t:Bd) (w:World) (hd:Wd w p W H tv bv bm ev) (h1:1<=t.id) (h2:t.id<=2147483647) (h3:gs t.a 8=true) (h4:gs t.b 8=true) :
 Calls pg 80 #[ptr p,t.v] w fun e w'=>e = .returned (.bool (mb W H t))/\Below w.heap.size w w':=by
 rw [show mb W H t=wi t.x t.y t.a t.b 0 0 W H by simp [mb,h1,h2,h3,h4]];have dh1:=decide_eq_true h1;have dh2:=decide_eq_true h2;obtain ⟨X,hX,HB,⟨c0,c1,c2,c3,c4⟩,e0,e1,e2,e3⟩:=zE3 hd t;go_enter func80,ntmps80;go_wp2_with fail;clear hX hd;have hne:=zAq X;refine zAh (by kernel_rfl) (by kernel_rfl) ?_
 repeat (go_big_quiet_step (first
  |(go_at_call 78;exact zA3 (zBt _ _ _))
  |(go_at_call 113;exact zAi (zCd _ _ _ _ _ _ _ _ _))))
 refine wpQuiet_nil ?_;rintro _ ⟨n,rfl⟩;go_wp2_with fail;go_ret;exact ⟨rfl,HB.trans (n.h.mono HB.size)⟩
theorem zQr (p bm:Nat) (W H:Int) (tv bv ev:Value) (t:Bd) (w:World) (hd:Wd w p W H tv bv bm ev) :
 Calls pg 80 #[ptr p,t.v] w fun e w'=>e = .returned (.bool (mb W H t))/\Below w.heap.size w w':=by
 by_cases h1:1<=t.id
 ·by_cases h2:t.id<=2147483647
  ·cases h3:gs t.a 8
   ·exact zYd p bm W H tv bv ev t w hd h1 h2 h3
   ·cases h4:gs t.b 8
    ·exact zYc p bm W H tv bv ev t w hd h1 h2 h3 h4
    ·exact zYb p bm W H tv bv ev t w hd h1 h2 h3 h4
  ·exact zYe p bm W H tv bv ev t w hd h1 h2
 ·exact zYf p bm W H tv bv ev t w hd h1
def zMj (W H:Int) (f:Int->Int->Option Int) (l:List Bd) (t:Bd):Int:=
 if mb W H t=false then 1 else if zBm l t.id=true then 8 else if 256<=l.length then 2 else if zDl f t.x t.y t.a t.b=true then 6 else 0
theorem zHf {p bm:Nat} {W H:Int} {tv bv ev:Value} {w:World} (hd:Wd w p W H tv bv bm ev):Calls pg 41 #[ptr p] w fun e w'=>e = .returned (.bool true)/\w'=w:=zNd p bm w (hd.c 6)
theorem zNb {p bm:Nat} {W H:Int} {tv bv ev:Value} {t:Bd} {w:World} {c:Bool} (hd:Wd w p W H tv bv bm ev) (h:mb W H t=c) :
 Calls pg 80 #[ptr p,t.v] w fun e w'=>e = .returned (.bool c)/\Below w.heap.size w w':=by subst h;exact zQr p bm W H tv bv ev t w hd
theorem zJj {l:List Bd} {v:Value} {i:Int} {p:Nat} {w:World} {c:Bool} (hc:w.cell? ⟨p,5,none⟩=some v) (hv:Bds w v l) (hs:zBv l) (hl:l.length<=256) (h:zBm l i=c) :
 Calls pg 68 #[ptr p,O ii i] w fun e w'=>e = .returned (.tuple #[O ii (pos l i:Nat),.bool c])/\Below w.heap.size w w':=by subst h;exact zKq l v i p w hc hv hs hl
theorem zSm {p bm n:Nat} {f:Int->Int->Option Int} {x y a b:Int} {w:World} {c:Bool} (hc:w.cell? ⟨p,6,none⟩=some (.map (some bm))) (hw:Who w bm n f) (h:zDl f x y a b=c) :
 Calls pg 81 #[ptr p,rct x y a b] w fun e w'=>e = .returned (.bool c)/\Below w.heap.size w w':=by subst h;exact zPd p bm n f x y a b w hc hw
theorem zQs (p bm n:Nat) (W H:Int) (tv bv ev:Value) (f:Int->Int->Option Int) (l:List Bd) (t:Bd) (w:World) (hd:Wd w p W H tv bv bm ev) (hw:Who w bm n f) (hl:Bds w bv l) (hs:zBv l) (hlen:l.length<=256) :
 Calls pg 48 #[ptr p,t.v] w fun e w'=>e = .returned (O ii (zMj W H f l t))/\Below w.heap.size w w':=by
 have B0:Below w.heap.size w (w.alloc (.cells #[O ii t.id,O ii t.x,O ii t.y,O ii t.a,O ii t.b] 51)):=zAk _ _;have T0:Turns NoB w (w.alloc (.cells #[O ii t.id,O ii t.x,O ii t.y,O ii t.a,O ii t.b] 51)):=Turns.of_below B0;have F0:Five (w.alloc (.cells #[O ii t.id,O ii t.x,O ii t.y,O ii t.a,O ii t.b] 51)) w.heap.size t:=heap_alloc_new w _;have hd0:=hd.kept T0 id;have hw0:=hw.kept T0 id;have hl0:=hl.kept T0 (fun _ _=>id);have hlI:(0:Int)<=(l.length:Nat)/\((l.length:Nat):Int)<=256:=by omega
 have H1:=zAc (zHf hd0);cases h1:mb W H t
 ·have hcode:zMj W H f l t=1:=by simp [zMj,h1]
  have H2:=zAc (zNb (t:=t) hd0 h1);rw [hcode];clear hcode h1 hd0 hw0 hl0 hd hw hl;go_enter func48,ntmps48;go_wp2_with (first|(go_at_call 41;refine H1.out.mono ?_;rintro e w' ⟨rfl,rfl⟩)|(go_at_call 80;refine H2.out.mono ?_;rintro e w1 ⟨rfl,hb1⟩));go_ret;exact ⟨rfl,bt B0 hb1⟩
 ·have H2:=zAc (zNb (t:=t) hd0 h1)
  have key:∀w1,Below (w.alloc (.cells #[O ii t.id,O ii t.x,O ii t.y,O ii t.a,O ii t.b] 51)).heap.size (w.alloc (.cells #[O ii t.id,O ii t.x,O ii t.y,O ii t.a,O ii t.b] 51)) w1->Wd w1 p W H tv bv bm ev/\Who w1 bm n f/\Bds w1 bv l/\Five w1 w.heap.size t:=fun w1 hb=>by
   have T:Turns NoB (w.alloc (.cells #[O ii t.id,O ii t.x,O ii t.y,O ii t.a,O ii t.b] 51)) w1:=Turns.of_below hb;exact ⟨hd0.kept T id,hw0.kept T id,hl0.kept T (fun _ _=>id),F0.kept T id⟩
  have HK:=zAc key;clear key hd0 hw0 hl0 hd hw hl T0;cases h2:zBm l t.id
  ·by_cases h3:256<=l.length
   ·have hcode:zMj W H f l t=2:=by simp [zMj,h1,h2,h3]
    have h3':(256:Int)<=(l.length:Nat):=by omega
    rw [hcode];have HS:=zAc hs;have H3:=zAc h2;clear hcode h1 h2 hs;go_enter func48,ntmps48;go_wp2_with (first|(go_at_call 41;refine H1.out.mono ?_;rintro e w' ⟨rfl,rfl⟩)|(go_at_call 80;refine H2.out.mono ?_;rintro e w1 ⟨rfl,hb1⟩;obtain ⟨k1,k2,k3,k4⟩:=HK.out w1 hb1;have z0:w1.cell? ⟨w.heap.size,0,none⟩=some (O ii t.id):=k4.c 0)  | (go_at_call 68;refine (zJj (k1.c 5) k3 HS.out hlen H3.out).mono ?_;rintro e w2 ⟨rfl,hb2⟩;obtain ⟨m1,m2,m3,m4⟩:=HK.out w2 (bt hb1 hb2);have z5:w2.cell? ⟨p,5,none⟩=some bv:=m1.c 5;obtain ⟨a,cap,rfl,-,-,-⟩:=m3.form));go_ret;exact ⟨rfl,bt B0 (bt hb1 hb2)⟩
   ·have h3':¬(256:Int)<=(l.length:Nat):=by omega
    have hcode:zMj W H f l t=if zDl f t.x t.y t.a t.b=true then 6 else 0:=by simp [zMj,h1,h2,h3]
    rw [hcode];have HS:=zAc hs;have H3:=zAc h2;clear hcode h1 h2 hs;cases h4:zDl f t.x t.y t.a t.b
    all_goals
     have H4:=zAc h4;clear h4;go_enter func48,ntmps48;go_wp2_with (first|(go_at_call 41;refine H1.out.mono ?_;rintro e w' ⟨rfl,rfl⟩)|(go_at_call 80;refine H2.out.mono ?_;rintro e w1 ⟨rfl,hb1⟩;obtain ⟨k1,k2,k3,k4⟩:=HK.out w1 hb1;have z0:w1.cell? ⟨w.heap.size,0,none⟩=some (O ii t.id):=k4.c 0)  | (go_at_call 68;refine (zJj (k1.c 5) k3 HS.out hlen H3.out).mono ?_;rintro e w2 ⟨rfl,hb2⟩;obtain ⟨m1,m2,m3,m4⟩:=HK.out w2 (bt hb1 hb2);have z5:w2.cell? ⟨p,5,none⟩=some bv:=m1.c 5;obtain ⟨a,cap,rfl,-,-,-⟩:=m3.form;have y1:w2.cell? ⟨w.heap.size,1,none⟩=some (O ii t.x):=m4.c 1;have y2:w2.cell? ⟨w.heap.size,2,none⟩=some (O ii t.y):=m4.c 2;have y3:w2.cell? ⟨w.heap.size,3,none⟩=some (O ii t.a):=m4.c 3;have y4:w2.cell? ⟨w.heap.size,4,none⟩=some (O ii t.b):=m4.c 4)  | (go_at_call 81;refine (zSm (m1.c 6) m2 H4.out).mono ?_;rintro e w3 ⟨rfl,hb3⟩));go_ret;exact ⟨rfl,bt B0 (bt (bt hb1 hb2) hb3)⟩
  ·have hcode:zMj W H f l t=8:=by simp [zMj,h1,h2]
   rw [hcode];have HS:=zAc hs;have H3:=zAc h2;clear hcode h1 h2 hs;go_enter func48,ntmps48;go_wp2_with (first|(go_at_call 41;refine H1.out.mono ?_;rintro e w' ⟨rfl,rfl⟩)|(go_at_call 80;refine H2.out.mono ?_;rintro e w1 ⟨rfl,hb1⟩;obtain ⟨k1,k2,k3,k4⟩:=HK.out w1 hb1;have z0:w1.cell? ⟨w.heap.size,0,none⟩=some (O ii t.id):=k4.c 0)  | (go_at_call 68;refine (zJj (k1.c 5) k3 HS.out hlen H3.out).mono ?_;rintro e w2 ⟨rfl,hb2⟩));go_ret;exact ⟨rfl,bt B0 (bt hb1 hb2)⟩
structure Rc where
 x:Int
 y:Int
 a:Int
 b:Int
def Rc.cs (r:Rc):List Value:=[O ii r.x,O ii r.y,O ii r.a,O ii r.b]
def Bd.foot (t:Bd):Rc:=⟨t.x,t.y,t.a,t.b⟩
def Rcs (w:World) (v:Value) (l:List Rc):Prop:=w.ownsRow 0 49 4 v l.length (l.flatMap Rc.cs)
theorem zIx {w w':World} {e:TypeId} {k n:Nat} {v:Value} {xs:List Value} {S:Nat->Prop} (h:w.ownsRow 0 e k v n xs) (ht:Turns S w w') (hs:∀k,v.ownBlock=some k->¬S k):w'.ownsRow 0 e k v n xs:=by
 refine ⟨h.1,?_⟩;rcases h.2 with h1|⟨g,cap,cur,e,hb,hg,r⟩
 ·exact .inl h1
 ·exact .inr ⟨g,cap,cur,e,hb,ht.same (hs g (by rw [e];rfl)) hg,r⟩
theorem zDf {w:World} {e e':TypeId} {k k' n n':Nat} {v v':Value} {xs xs':List Value} (h:w.ownsRow 0 e k v n xs) (h':w.ownsRow 0 e' k' v' n' xs') (he:e≠e') {b:Nat} (hb:v.ownBlock=some b):v'.ownBlock≠some b:=by
 intro hb';rcases h.2 with ⟨rfl,_⟩|⟨g,cap,cur,rfl,_,hg,_⟩
 ·simp [Value.ownBlock] at hb
 ·rcases h'.2 with ⟨rfl,_⟩|⟨g',cap',cur',rfl,_,hg',_⟩
  ·simp [Value.ownBlock] at hb'
  ·simp [Value.ownBlock] at hb hb';subst hb;subst hb';rw [hg] at hg';simp at hg';exact he hg'.2
def z43:Value:=.agg #[O ii 0,O ii 0,O ii 0,O ii 0]
theorem zCi {P:Program} {ops:Array Oper} {o:Oper} {a:Act} {w:World} {K:Act->World->Prop} {Q:Exit->Act->World->Prop} {E:Prop} (hgd:o.guard=none) (s x:Operand) (t:TypeId)
 (ho:o.op = .call { callee:=.builtin .append,args:=#[s,x],argTypes:=#[t,t] })
 (e:TypeId) (i:TypeInfo) (z:Value) (size bytes:Nat) (ht:P.underlying t=some (.slice e)) (hi:P.info? e=some i) (hz:i.zero=some z)
 (hsize:i.size=size) (hby:i.bytes=bytes) (hzs:z.cells.size=size) (hsz:0<size)
 (v:Value) (n:Nat) (xs:List Value) (hs:a.eval s=v) (hown:w.ownsRow 0 e size v n xs)
 (ad:Addr) (m c:Nat) (news:List Value) (hx:a.eval x = .slice (some ad) m c) (hl:news.length=m*size) (hnews:∀j u,news[j]? = some u->w.cell? (ad.add j)=some u) (h1:∀u∈news,u.oneCell'=true)
 (h63:n+m<=maxLen) (hbytes:(n+m)*bytes<=140737488355328)
 (h:∀v' w',w'.ownsRow 0 e size v' (n+m) (xs++news)->w.grownBy w' v.ownBlock->(v'.ownBlock=v.ownBlock\/v'.ownBlock=some w.heap.size)->K (a.put o.dst v') w') :
 if Region.wanted o (yielded ops a.tmps)=true then Oper.wp P o a w K Q else E:=by
 have hw:Region.wanted o (yielded ops a.tmps)=true:=by simp [Region.wanted,hgd]
 rw [if_pos hw];obtain ⟨v',w',hr,h2,h3,h4,h5⟩:=run_append_own_at (P:=P) w 0 t o.type e i z size bytes ht hi hz hsize hby hzs hsz v n xs hown ad m c news hl hnews h1 h63 hbytes (Nat.zero_le _);unfold Oper.wp execOp;simp only [ho,resolve,invoke,builtin,Sem.run_bind,Sem.run_pure,Result.andThen_ok,List.map_toArray,List.map_cons,List.map_nil,hs,hx,hr];exact h v' w' h2 h3 h5
theorem qBh {W H:Int} {t:Bd} (h:mb W H t=true):(zEe t.x t.y t.a t.b).length<=64:=by
 simp only [mb,Bool.and_eq_true,gs,decide_eq_true_iff] at h;obtain ⟨h1,h2,⟨a0,a1⟩,⟨b0,b1⟩,h5⟩:=h;unfold zEe
 split
 ·rw [zDb];have:t.b.toNat<=8:=by omega
  have:t.a.toNat<=8:=by omega
  calc t.b.toNat*t.a.toNat<=8*8:=Nat.mul_le_mul (by omega) (by omega)
   _=64:=rfl
 ·simp
theorem qC5 {W H:Int} {t:Bd} (h:mb W H t=true):W64 t.id:=by
 simp only [mb,Bool.and_eq_true,decide_eq_true_iff] at h;exact zAx (by omega)
theorem zRq {W H:Int} {f:Int->Int->Option Int} {l:List Bd} {t:Bd} (h:zMj W H f l t=0):mb W H t=true/\zBm l t.id=false/\l.length<256/\zDl f t.x t.y t.a t.b=false:=by
 unfold zMj at h;cases h1:mb W H t
 ·simp [h1] at h
 ·cases h2:zBm l t.id
  ·by_cases h3:256<=l.length
   ·simp [h1,h2,h3] at h
   ·cases h4:zDl f t.x t.y t.a t.b
    ·exact ⟨rfl,rfl,by omega,rfl⟩
    ·simp [h1,h2,h3,h4] at h
  ·simp [h1,h2] at h
def qDq (w:World) (p bm n:Nat) (W H:Int) (tv bv ev:Value) (f:Int->Int->Option Int) (l:List Bd) (es:List Rc) (t:Bd) (w':World):Prop:=
 ∃bv' ev',Wd w' p W H tv bv' bm ev'/\Bds w' bv' (ins l t)/\Who w' bm (n+64) (zCp f (zEe t.x t.y t.a t.b) t.id)/\Rcs w' ev' (es++[t.foot])/\
  Turns (fun k=>k=p\/k=bm\/bv.ownBlock=some k\/ev.ownBlock=some k) w w'/\(∀k,bv'.ownBlock=some k->bv.ownBlock=some k\/w.heap.size<=k)/\(∀k,ev'.ownBlock=some k->ev.ownBlock=some k\/w.heap.size<=k)
theorem zU0 (p bm n:Nat) (W H:Int) (tv bv ev:Value) (f:Int->Int->Option Int) (x y:Int) (hx:W64 x) (hy:W64 y) (w:World) (hd:Wd w p W H tv bv bm ev) (hw:Who w bm n f) :
 Calls pg 191 #[ptr p,cel x y] w fun e w'=>e = .returned (.tuple #[O ii ((f x y).getD 0),.bool (f x y).isSome])/\Below w.heap.size w w':=by
 have B0:Below w.heap.size w (w.alloc (.cells #[O ii x,O ii y] 47)):=zAk _ _;have T0:Turns NoB w (w.alloc (.cells #[O ii x,O ii y] 47)):=Turns.of_below B0;have hd0:=hd.kept T0 id;have hw0:=hw.kept T0 id;have HM:=zAc (zHf hd0);have bX:Two (w.alloc (.cells #[O ii x,O ii y] 47)) w.heap.size x y:=Two.newAt rfl;obtain ⟨X,hX⟩:=ex (w.alloc (.cells #[O ii x,O ii y] 47));rw [hX] at B0 hd0 hw0 HM bX;obtain ⟨d0,d1⟩:=bX.lat;have c6:∀n:Lat X,n.w.cell? ⟨p,6,none⟩=some (.map (some bm)):=fun n=>(hd0.kept (Turns.of_below (S:=NoB) n.h) id).c 6;have hlook:∀m:Lat X,(Instr.lookup 87 (.map (some bm)) (cel x y) true).run pg m.w = .ok (.tuple #[O ii ((f x y).getD 0),.bool (f x y).isSome]) m.w:=fun m=>(hw0.kept (Turns.of_below (S:=NoB) m.h) id).look hx hy;obtain ⟨z,hz⟩:=ex ((f x y).getD 0);obtain ⟨b,hb⟩:=ex ((f x y).isSome);rw [hz,hb] at hlook ⊢;have hne:=zAq X;clear hz hb hd0 hw0 hd hw bX;go_enter func191,ntmps191;go_wp2_with (go_at_call 41;refine HM.out.mono ?_;rintro e w1 ⟨rfl,rfl⟩);clear hX;refine zAh (by kernel_rfl) (by kernel_rfl) ?_;repeat (go_big_quiet_step (fail))
 refine wpQuiet_nil ?_;rintro _ ⟨n,rfl⟩;go_wp2_with fail;go_ret2
 exact ⟨rfl,B0.trans (n.h.mono B0.size)⟩
end Go.Proofs.YthiafmlgialbnaaGreatDoor
