import Derived.Test.YtejjcenhjpjefaaGreatDoorStand
import Derived.Test.YtejjcenhjpjefaaGreatDoorSpan
import Derived.WalkSpells
set_option linter.all false
set_option maxRecDepth 1000000
set_option maxHeartbeats 64000000
open Go.Proofs.Tryz
open Go.Proofs.Tryz renaming prog->pg
open Go.Value renaming int->O
open Go.IntKind renaming i64->ii
namespace Go.Proofs.YtejjcenhjpjefaaGreatDoor
open Go.RowKit
def gs (n most:Int):Bool:=decide (1<=n/\n<=most)
theorem zB0 (n most:Int) (w:World):Calls pg 67 #[O ii n,O ii most] w fun e w'=>e = .returned (.bool (gs n most))/\w'=w:=by
 by_cases h1:1<=n
 ·by_cases h2:n<=most
  ·go_enter func67,ntmps67;go_wp2
   go_ret;exact ⟨zAm (by simp [gs,h1,h2]),rfl⟩
  ·go_enter func67,ntmps67;go_wp2
   go_ret;exact ⟨zAm (by simp [gs,h1,h2]),rfl⟩
 ·go_enter func67,ntmps67;go_wp2
  go_ret;exact ⟨zAm (by rw [eq_comm,gs,decide_eq_false_iff_not];omega),rfl⟩
theorem zRb (w:World):Calls pg 53 #[.pointer none] w fun e w'=>e = .returned (.bool false)/\w'=w:=by
 go_enter func53,ntmps53;go_wp2
 go_ret;exact ⟨rfl,rfl⟩
theorem zUj (b:Nat) (w:World):(binOp .neq 50 (.map (some b)) (.map none)).run pg w = .ok (.bool true) w:=by kernel_rfl
theorem zLv (p bm:Nat) (w:World) (hc:w.cell? ⟨p,6,none⟩=some (.map (some bm))):Calls pg 53 #[ptr p] w fun e w'=>e = .returned (.bool true)/\w'=w:=by
 have h1:=zUj;go_enter func53,ntmps53;go_wp2
 go_ret;exact ⟨rfl,rfl⟩
def mb (W H:Int) (t:Bd):Bool:=decide (1<=t.id)&&(decide (t.id<=2147483647)&&(gs t.a 8&&(gs t.b 8&&wi t.x t.y t.a t.b 0 0 W H)))
theorem zFw {x y a b p q c d:Int} {r:Bool} (w:World) (h:wi x y a b p q c d=r) :
 Calls pg 20 #[rct x y a b,rct p q c d] w fun e w'=>e = .returned (.bool r)/\Below w.heap.size w w':=by
 subst h;exact zB1 x y a b p q c d w
theorem zEj {w:World} {p bm:Nat} {W H:Int} {tv bv ev:Value} (hd:Wd w p W H tv bv bm ev) (t:Bd):∃X,w.alloc (.cells #[O ii t.id,O ii t.x,O ii t.y,O ii t.a,O ii t.b] 95)=X/\Below w.heap.size w X/\
 ((∀n:Lat X,n.w.cell? ⟨w.heap.size,0,none⟩=some (O ii t.id))/\(∀n:Lat X,n.w.cell? ⟨w.heap.size,1,none⟩=some (O ii t.x))/\(∀n:Lat X,n.w.cell? ⟨w.heap.size,2,none⟩=some (O ii t.y))/\(∀n:Lat X,n.w.cell? ⟨w.heap.size,3,none⟩=some (O ii t.a))/\(∀n:Lat X,n.w.cell? ⟨w.heap.size,4,none⟩=some (O ii t.b)))/\
 ((∀n:Lat X,n.w.cell? ⟨p,0,none⟩=some (O ii 0))/\(∀n:Lat X,n.w.cell? ⟨p,1,none⟩=some (O ii 0))/\(∀n:Lat X,n.w.cell? ⟨p,2,none⟩=some (O ii W))/\(∀n:Lat X,n.w.cell? ⟨p,3,none⟩=some (O ii H))):=by
 have TX:Turns NoB w (w.alloc (.cells t.cs.toArray 95)):=Turns.of_below (zAh _ _);have F:Five (w.alloc (.cells t.cs.toArray 95)) w.heap.size t:=heap_alloc_new w _;have Fn:∀n:Lat (w.alloc (.cells t.cs.toArray 95)),Five n.w w.heap.size t:=fun n=>F.kept (Turns.of_below (S:=NoB) n.h) id;have Dn:∀n:Lat (w.alloc (.cells t.cs.toArray 95)),Wd n.w p W H tv bv bm ev:=fun n=>(hd.kept TX id).kept (Turns.of_below (S:=NoB) n.h) id;exact ⟨_,rfl,zAh _ _,⟨fun n=>(Fn n).c 0,fun n=>(Fn n).c 1,fun n=>(Fn n).c 2,fun n=>(Fn n).c 3,fun n=>(Fn n).c 4⟩,fun n=>(Dn n).c 0,fun n=>(Dn n).c 1,fun n=>(Dn n).c 2,fun n=>(Dn n).c 3⟩
theorem zUt (p bm:Nat) (W H:Int) (tv bv ev:Value) (t:Bd) (w:World) (hd:Wd w p W H tv bv bm ev) (h1:¬1<=t.id) :
 Calls pg 69 #[ptr p,t.v] w fun e w'=>e = .returned (.bool (mb W H t))/\Below w.heap.size w w':=by
 rw [show mb W H t=false by simp [mb,h1]];have dh1:=decide_eq_false h1;obtain ⟨X,hX,HB,⟨c0,c1,c2,c3,c4⟩,e0,e1,e2,e3⟩:=zEj hd t;go_enter func69,ntmps69;go_wp2_with fail;clear hX hd;have hne:=zA8 X;refine zAp (by kernel_rfl) (by kernel_rfl) ?_
 repeat (go_big_quiet_step (first
  |(go_at_call 67;exact zA6 (zB0 _ _ _))
  |(go_at_call 20;exact zAr (zB1 _ _ _ _ _ _ _ _ _))))
 refine wpQuiet_nil ?_;rintro _ ⟨n,rfl⟩;go_wp2_with fail;go_ret;exact ⟨rfl,HB.trans (n.h.mono HB.size)⟩
theorem zUs (p bm:Nat) (W H:Int) (tv bv ev:Value) (t:Bd) (w:World) (hd:Wd w p W H tv bv bm ev) (h1:1<=t.id) (h2:¬t.id<=2147483647) :
 Calls pg 69 #[ptr p,t.v] w fun e w'=>e = .returned (.bool (mb W H t))/\Below w.heap.size w w':=by
 rw [show mb W H t=false by simp [mb,h1,h2]];have dh1:=decide_eq_true h1;have dh2:=decide_eq_false h2;obtain ⟨X,hX,HB,⟨c0,c1,c2,c3,c4⟩,e0,e1,e2,e3⟩:=zEj hd t;go_enter func69,ntmps69;go_wp2_with fail;clear hX hd;have hne:=zA8 X;refine zAp (by kernel_rfl) (by kernel_rfl) ?_
 repeat (go_big_quiet_step (first
  |(go_at_call 67;exact zA6 (zB0 _ _ _))
  |(go_at_call 20;exact zAr (zB1 _ _ _ _ _ _ _ _ _))))
 refine wpQuiet_nil ?_;rintro _ ⟨n,rfl⟩;go_wp2_with fail;go_ret;exact ⟨rfl,HB.trans (n.h.mono HB.size)⟩
theorem zUr (p bm:Nat) (W H:Int) (tv bv ev:Value) (t:Bd) (w:World) (hd:Wd w p W H tv bv bm ev) (h1:1<=t.id) (h2:t.id<=2147483647) (h3:gs t.a 8=false) :
 Calls pg 69 #[ptr p,t.v] w fun e w'=>e = .returned (.bool (mb W H t))/\Below w.heap.size w w':=by
 rw [show mb W H t=false by simp [mb,h1,h2,h3]];have dh1:=decide_eq_true h1;have dh2:=decide_eq_true h2;obtain ⟨X,hX,HB,⟨c0,c1,c2,c3,c4⟩,e0,e1,e2,e3⟩:=zEj hd t;go_enter func69,ntmps69;go_wp2_with fail;clear hX hd;have hne:=zA8 X;refine zAp (by kernel_rfl) (by kernel_rfl) ?_
 repeat (go_big_quiet_step (first
  |(go_at_call 67;exact zA6 (zB0 _ _ _))
  |(go_at_call 20;exact zAr (zB1 _ _ _ _ _ _ _ _ _))))
 refine wpQuiet_nil ?_;rintro _ ⟨n,rfl⟩;go_wp2_with fail;go_ret;exact ⟨rfl,HB.trans (n.h.mono HB.size)⟩
theorem zUq (p bm:Nat) (W H:Int) (tv bv ev:Value) (t:Bd) (w:World) (hd:Wd w p W H tv bv bm ev) (h1:1<=t.id) (h2:t.id<=2147483647) (h3:gs t.a 8=true) (h4:gs t.b 8=false) :
 Calls pg 69 #[ptr p,t.v] w fun e w'=>e = .returned (.bool (mb W H t))/\Below w.heap.size w w':=by
 rw [show mb W H t=false by simp [mb,h1,h2,h3,h4]];have dh1:=decide_eq_true h1;have dh2:=decide_eq_true h2;obtain ⟨X,hX,HB,⟨c0,c1,c2,c3,c4⟩,e0,e1,e2,e3⟩:=zEj hd t;go_enter func69,ntmps69;go_wp2_with fail;clear hX hd;have hne:=zA8 X;refine zAp (by kernel_rfl) (by kernel_rfl) ?_
 repeat (go_big_quiet_step (first
  |(go_at_call 67;exact zA6 (zB0 _ _ _))
  |(go_at_call 20;exact zAr (zB1 _ _ _ _ _ _ _ _ _))))
 refine wpQuiet_nil ?_;rintro _ ⟨n,rfl⟩;go_wp2_with fail;go_ret;exact ⟨rfl,HB.trans (n.h.mono HB.size)⟩
theorem zUp (p bm:Nat) (W H:Int) (tv bv ev:Value) (t:Bd) (w:World) (hd:Wd w p W H tv bv bm ev) (h1:1<=t.id) (h2:t.id<=2147483647) (h3:gs t.a 8=true) (h4:gs t.b 8=true) :
 Calls pg 69 #[ptr p,t.v] w fun e w'=>e = .returned (.bool (mb W H t))/\Below w.heap.size w w':=by
 rw [show mb W H t=wi t.x t.y t.a t.b 0 0 W H by simp [mb,h1,h2,h3,h4]];have dh1:=decide_eq_true h1;have dh2:=decide_eq_true h2;obtain ⟨X,hX,HB,⟨c0,c1,c2,c3,c4⟩,e0,e1,e2,e3⟩:=zEj hd t;go_enter func69,ntmps69;go_wp2_with fail;clear hX hd;have hne:=zA8 X;refine zAp (by kernel_rfl) (by kernel_rfl) ?_
 repeat (go_big_quiet_step (first
  |(go_at_call 67;exact zA6 (zB0 _ _ _))
  |(go_at_call 20;exact zAr (zB1 _ _ _ _ _ _ _ _ _))))
 refine wpQuiet_nil ?_;rintro _ ⟨n,rfl⟩;go_wp2_with fail;go_ret;exact ⟨rfl,HB.trans (n.h.mono HB.size)⟩
theorem zOw (p bm:Nat) (W H:Int) (tv bv ev:Value) (t:Bd) (w:World) (hd:Wd w p W H tv bv bm ev) :
 Calls pg 69 #[ptr p,t.v] w fun e w'=>e = .returned (.bool (mb W H t))/\Below w.heap.size w w':=by
 by_cases h1:1<=t.id
 ·by_cases h2:t.id<=2147483647
  ·cases h3:gs t.a 8
   ·exact zUr p bm W H tv bv ev t w hd h1 h2 h3
   ·cases h4:gs t.b 8
    ·exact zUq p bm W H tv bv ev t w hd h1 h2 h3 h4
    ·exact zUp p bm W H tv bv ev t w hd h1 h2 h3 h4
  ·exact zUs p bm W H tv bv ev t w hd h1 h2
 ·exact zUt p bm W H tv bv ev t w hd h1
def zM7 (W H:Int) (f:Int->Int->Option Int) (l:List Bd) (t:Bd):Int:=
 if mb W H t=false then 1 else if zCk l t.id=true then 8 else if 256<=l.length then 2 else if zD1 f t.x t.y t.a t.b=true then 6 else 0
theorem zGi {p bm:Nat} {W H:Int} {tv bv ev:Value} {w:World} (hd:Wd w p W H tv bv bm ev):Calls pg 53 #[ptr p] w fun e w'=>e = .returned (.bool true)/\w'=w:=zLv p bm w (hd.c 6)
theorem zLt {p bm:Nat} {W H:Int} {tv bv ev:Value} {t:Bd} {w:World} {c:Bool} (hd:Wd w p W H tv bv bm ev) (h:mb W H t=c) :
 Calls pg 69 #[ptr p,t.v] w fun e w'=>e = .returned (.bool c)/\Below w.heap.size w w':=by subst h;exact zOw p bm W H tv bv ev t w hd
theorem zId {l:List Bd} {v:Value} {i:Int} {p:Nat} {w:World} {c:Bool} (hc:w.cell? ⟨p,5,none⟩=some v) (hv:Bds w v l) (hs:zCn l) (hl:l.length<=256) (h:zCk l i=c) :
 Calls pg 70 #[ptr p,O ii i] w fun e w'=>e = .returned (.tuple #[O ii (pos l i:Nat),.bool c])/\Below w.heap.size w w':=by subst h;exact zJb l v i p w hc hv hs hl
theorem zQk {p bm n:Nat} {f:Int->Int->Option Int} {x y a b:Int} {w:World} {c:Bool} (hc:w.cell? ⟨p,6,none⟩=some (.map (some bm))) (hw:Who w bm n f) (h:zD1 f x y a b=c) :
 Calls pg 71 #[ptr p,rct x y a b] w fun e w'=>e = .returned (.bool c)/\Below w.heap.size w w':=by subst h;exact zNk p bm n f x y a b w hc hw
theorem zOx (p bm n:Nat) (W H:Int) (tv bv ev:Value) (f:Int->Int->Option Int) (l:List Bd) (t:Bd) (w:World) (hd:Wd w p W H tv bv bm ev) (hw:Who w bm n f) (hl:Bds w bv l) (hs:zCn l) (hlen:l.length<=256) :
 Calls pg 34 #[ptr p,t.v] w fun e w'=>e = .returned (O ii (zM7 W H f l t))/\Below w.heap.size w w':=by
 have B0:Below w.heap.size w (w.alloc (.cells #[O ii t.id,O ii t.x,O ii t.y,O ii t.a,O ii t.b] 95)):=zAh _ _;have T0:Turns NoB w (w.alloc (.cells #[O ii t.id,O ii t.x,O ii t.y,O ii t.a,O ii t.b] 95)):=Turns.of_below B0;have F0:Five (w.alloc (.cells #[O ii t.id,O ii t.x,O ii t.y,O ii t.a,O ii t.b] 95)) w.heap.size t:=heap_alloc_new w _;have hd0:=hd.kept T0 id;have hw0:=hw.kept T0 id;have hl0:=hl.kept T0 (fun _ _=>id);have hlI:(0:Int)<=(l.length:Nat)/\((l.length:Nat):Int)<=256:=by omega
 have H1:=zAb (zGi hd0);cases h1:mb W H t
 ·have hcode:zM7 W H f l t=1:=by simp [zM7,h1]
  have H2:=zAb (zLt (t:=t) hd0 h1);rw [hcode];clear hcode h1 hd0 hw0 hl0 hd hw hl;go_enter func34,ntmps34;go_wp2_with (first|(go_at_call 53;refine H1.out.mono ?_;rintro e w' ⟨rfl,rfl⟩)|(go_at_call 69;refine H2.out.mono ?_;rintro e w1 ⟨rfl,hb1⟩));go_ret;exact ⟨rfl,bt B0 hb1⟩
 ·have H2:=zAb (zLt (t:=t) hd0 h1)
  have key:∀w1,Below (w.alloc (.cells #[O ii t.id,O ii t.x,O ii t.y,O ii t.a,O ii t.b] 95)).heap.size (w.alloc (.cells #[O ii t.id,O ii t.x,O ii t.y,O ii t.a,O ii t.b] 95)) w1->Wd w1 p W H tv bv bm ev/\Who w1 bm n f/\Bds w1 bv l/\Five w1 w.heap.size t:=fun w1 hb=>by
   have T:Turns NoB (w.alloc (.cells #[O ii t.id,O ii t.x,O ii t.y,O ii t.a,O ii t.b] 95)) w1:=Turns.of_below hb;exact ⟨hd0.kept T id,hw0.kept T id,hl0.kept T (fun _ _=>id),F0.kept T id⟩
  have HK:=zAb key;clear key hd0 hw0 hl0 hd hw hl T0;cases h2:zCk l t.id
  ·by_cases h3:256<=l.length
   ·have hcode:zM7 W H f l t=2:=by simp [zM7,h1,h2,h3]
    have h3':(256:Int)<=(l.length:Nat):=by omega
    rw [hcode];have HS:=zAb hs;have H3:=zAb h2;clear hcode h1 h2 hs;go_enter func34,ntmps34;go_wp2_with (first|(go_at_call 53;refine H1.out.mono ?_;rintro e w' ⟨rfl,rfl⟩)|(go_at_call 69;refine H2.out.mono ?_;rintro e w1 ⟨rfl,hb1⟩;obtain ⟨k1,k2,k3,k4⟩:=HK.out w1 hb1;have z0:w1.cell? ⟨w.heap.size,0,none⟩=some (O ii t.id):=k4.c 0)  | (go_at_call 70;refine (zId (k1.c 5) k3 HS.out hlen H3.out).mono ?_;rintro e w2 ⟨rfl,hb2⟩;obtain ⟨m1,m2,m3,m4⟩:=HK.out w2 (bt hb1 hb2);have z5:w2.cell? ⟨p,5,none⟩=some bv:=m1.c 5;obtain ⟨a,cap,rfl,-,-,-⟩:=m3.form));go_ret;exact ⟨rfl,bt B0 (bt hb1 hb2)⟩
   ·have h3':¬(256:Int)<=(l.length:Nat):=by omega
    have hcode:zM7 W H f l t=if zD1 f t.x t.y t.a t.b=true then 6 else 0:=by simp [zM7,h1,h2,h3]
    rw [hcode];have HS:=zAb hs;have H3:=zAb h2;clear hcode h1 h2 hs;cases h4:zD1 f t.x t.y t.a t.b
    all_goals
     have H4:=zAb h4;clear h4;go_enter func34,ntmps34;go_wp2_with (first|(go_at_call 53;refine H1.out.mono ?_;rintro e w' ⟨rfl,rfl⟩)|(go_at_call 69;refine H2.out.mono ?_;rintro e w1 ⟨rfl,hb1⟩;obtain ⟨k1,k2,k3,k4⟩:=HK.out w1 hb1;have z0:w1.cell? ⟨w.heap.size,0,none⟩=some (O ii t.id):=k4.c 0)  | (go_at_call 70;refine (zId (k1.c 5) k3 HS.out hlen H3.out).mono ?_;rintro e w2 ⟨rfl,hb2⟩;obtain ⟨m1,m2,m3,m4⟩:=HK.out w2 (bt hb1 hb2);have z5:w2.cell? ⟨p,5,none⟩=some bv:=m1.c 5;obtain ⟨a,cap,rfl,-,-,-⟩:=m3.form;have y1:w2.cell? ⟨w.heap.size,1,none⟩=some (O ii t.x):=m4.c 1;have y2:w2.cell? ⟨w.heap.size,2,none⟩=some (O ii t.y):=m4.c 2;have y3:w2.cell? ⟨w.heap.size,3,none⟩=some (O ii t.a):=m4.c 3;have y4:w2.cell? ⟨w.heap.size,4,none⟩=some (O ii t.b):=m4.c 4)  | (go_at_call 71;refine (zQk (m1.c 6) m2 H4.out).mono ?_;rintro e w3 ⟨rfl,hb3⟩));go_ret;exact ⟨rfl,bt B0 (bt (bt hb1 hb2) hb3)⟩
  ·have hcode:zM7 W H f l t=8:=by simp [zM7,h1,h2]
   rw [hcode];have HS:=zAb hs;have H3:=zAb h2;clear hcode h1 h2 hs;go_enter func34,ntmps34;go_wp2_with (first|(go_at_call 53;refine H1.out.mono ?_;rintro e w' ⟨rfl,rfl⟩)|(go_at_call 69;refine H2.out.mono ?_;rintro e w1 ⟨rfl,hb1⟩;obtain ⟨k1,k2,k3,k4⟩:=HK.out w1 hb1;have z0:w1.cell? ⟨w.heap.size,0,none⟩=some (O ii t.id):=k4.c 0)  | (go_at_call 70;refine (zId (k1.c 5) k3 HS.out hlen H3.out).mono ?_;rintro e w2 ⟨rfl,hb2⟩));go_ret;exact ⟨rfl,bt B0 (bt hb1 hb2)⟩
structure Rc where
 x:Int
 y:Int
 a:Int
 b:Int
def Rc.cs (r:Rc):List Value:=[O ii r.x,O ii r.y,O ii r.a,O ii r.b]
def Bd.foot (t:Bd):Rc:=⟨t.x,t.y,t.a,t.b⟩
def Rcs (w:World) (v:Value) (l:List Rc):Prop:=w.ownsRow 0 65 4 v l.length (l.flatMap Rc.cs)
theorem zA3 {w w':World} {e:TypeId} {k n:Nat} {v:Value} {xs:List Value} {S:Nat->Prop} (h:w.ownsRow 0 e k v n xs) (ht:Turns S w w') (hs:∀k,v.ownBlock=some k->¬S k):w'.ownsRow 0 e k v n xs:=by
 refine ⟨h.1,?_⟩;rcases h.2 with h1|⟨g,cap,cur,e,hb,hg,r⟩
 ·exact .inl h1
 ·exact .inr ⟨g,cap,cur,e,hb,ht.same (hs g (by rw [e];rfl)) hg,r⟩
theorem zC5 {w:World} {e e':TypeId} {k k' n n':Nat} {v v':Value} {xs xs':List Value} (h:w.ownsRow 0 e k v n xs) (h':w.ownsRow 0 e' k' v' n' xs') (he:e≠e') {b:Nat} (hb:v.ownBlock=some b):v'.ownBlock≠some b:=by
 intro hb';rcases h.2 with ⟨rfl,_⟩|⟨g,cap,cur,rfl,_,hg,_⟩
 ·simp [Value.ownBlock] at hb
 ·rcases h'.2 with ⟨rfl,_⟩|⟨g',cap',cur',rfl,_,hg',_⟩
  ·simp [Value.ownBlock] at hb'
  ·simp [Value.ownBlock] at hb hb';subst hb;subst hb';rw [hg] at hg';simp at hg';exact he hg'.2
def z43:Value:=.agg #[O ii 0,O ii 0,O ii 0,O ii 0]
theorem zX3 {W H:Int} {t:Bd} (h:mb W H t=true):(zFg t.x t.y t.a t.b).length<=64:=by
 simp only [mb,Bool.and_eq_true,gs,decide_eq_true_iff] at h;obtain ⟨h1,h2,⟨a0,a1⟩,⟨b0,b1⟩,h5⟩:=h;unfold zFg
 split
 ·rw [zC2];have:t.b.toNat<=8:=by omega
  have:t.a.toNat<=8:=by omega
  calc t.b.toNat*t.a.toNat<=8*8:=Nat.mul_le_mul (by omega) (by omega)
   _=64:=rfl
 ·simp
theorem zZ2 {W H:Int} {t:Bd} (h:mb W H t=true):W64 t.id:=by
 simp only [mb,Bool.and_eq_true,decide_eq_true_iff] at h;exact zBr (by omega)
theorem zPu {W H:Int} {f:Int->Int->Option Int} {l:List Bd} {t:Bd} (h:zM7 W H f l t=0):mb W H t=true/\zCk l t.id=false/\l.length<256/\zD1 f t.x t.y t.a t.b=false:=by
 unfold zM7 at h;cases h1:mb W H t
 ·simp [h1] at h
 ·cases h2:zCk l t.id
  ·by_cases h3:256<=l.length
   ·simp [h1,h2,h3] at h
   ·cases h4:zD1 f t.x t.y t.a t.b
    ·exact ⟨rfl,rfl,by omega,rfl⟩
    ·simp [h1,h2,h3,h4] at h
  ·simp [h1,h2] at h
def qBf (w:World) (p bm n:Nat) (W H:Int) (tv bv ev:Value) (f:Int->Int->Option Int) (l:List Bd) (es:List Rc) (t:Bd) (w':World):Prop:=
 ∃bv' ev',Wd w' p W H tv bv' bm ev'/\Bds w' bv' (ins l t)/\Who w' bm (n+64) (zDg f (zFg t.x t.y t.a t.b) t.id)/\Rcs w' ev' (es++[t.foot])/\
  Turns (fun k=>k=p\/k=bm\/bv.ownBlock=some k\/ev.ownBlock=some k) w w'/\(∀k,bv'.ownBlock=some k->bv.ownBlock=some k\/w.heap.size<=k)/\(∀k,ev'.ownBlock=some k->ev.ownBlock=some k\/w.heap.size<=k)
theorem zR6 (p bm n:Nat) (W H:Int) (tv bv ev:Value) (f:Int->Int->Option Int) (x y:Int) (hx:W64 x) (hy:W64 y) (w:World) (hd:Wd w p W H tv bv bm ev) (hw:Who w bm n f) :
 Calls pg 56 #[ptr p,cel x y] w fun e w'=>e = .returned (.tuple #[O ii ((f x y).getD 0),.bool (f x y).isSome])/\Below w.heap.size w w':=by
 have B0:Below w.heap.size w (w.alloc (.cells #[O ii x,O ii y] 23)):=zAh _ _;have T0:Turns NoB w (w.alloc (.cells #[O ii x,O ii y] 23)):=Turns.of_below B0;have hd0:=hd.kept T0 id;have hw0:=hw.kept T0 id;have HM:=zAb (zGi hd0);have bX:Two (w.alloc (.cells #[O ii x,O ii y] 23)) w.heap.size x y:=Two.newAt rfl;obtain ⟨X,hX⟩:=ex (w.alloc (.cells #[O ii x,O ii y] 23));rw [hX] at B0 hd0 hw0 HM bX;obtain ⟨d0,d1⟩:=bX.lat;have c6:∀n:Lat X,n.w.cell? ⟨p,6,none⟩=some (.map (some bm)):=fun n=>(hd0.kept (Turns.of_below (S:=NoB) n.h) id).c 6;have hlook:∀m:Lat X,(Instr.lookup 50 (.map (some bm)) (cel x y) true).run pg m.w = .ok (.tuple #[O ii ((f x y).getD 0),.bool (f x y).isSome]) m.w:=fun m=>(hw0.kept (Turns.of_below (S:=NoB) m.h) id).look hx hy;obtain ⟨z,hz⟩:=ex ((f x y).getD 0);obtain ⟨b,hb⟩:=ex ((f x y).isSome);rw [hz,hb] at hlook ⊢;have hne:=zA8 X;clear hz hb hd0 hw0 hd hw bX;go_enter func56,ntmps56;go_wp2_with (go_at_call 53;refine HM.out.mono ?_;rintro e w1 ⟨rfl,rfl⟩);clear hX;refine zAp (by kernel_rfl) (by kernel_rfl) ?_;repeat (go_big_quiet_step (fail))
 refine wpQuiet_nil ?_;rintro _ ⟨n,rfl⟩;go_wp2_with fail;go_ret2
 exact ⟨rfl,B0.trans (n.h.mono B0.size)⟩
end Go.Proofs.YtejjcenhjpjefaaGreatDoor
