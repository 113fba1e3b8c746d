import Derived.Test.YtejjcenhjpjefaaGreatDoorBase
import Derived.Deep.RegionHeld3
set_option linter.all false
set_option maxRecDepth 1000000
set_option maxHeartbeats 64000000
open Go.Proofs.Tryz
open Go.Proofs.Tryz renaming prog->pg
open Go.Value renaming int->O
open Go.IntKind renaming i64->ii
namespace Go.Proofs.YtejjcenhjpjefaaGreatDoor
open Go.RowKit
def dX (k:Nat):Int:=match k with
 |0=>1|1=>0|2=>-1|3=>0|4=>1|5=>-1|6=>-1|7=>1|_=>0
def dY (k:Nat):Int:=match k with
 |0=>0|1=>1|2=>0|3=>-1|4=>1|5=>1|6=>-1|7=>-1|_=>0
theorem zFu (k:Nat):-1<=dX k/\dX k<=1:=by unfold dX;split<;>omega
theorem zFt (k:Nat):-1<=dY k/\dY k<=1:=by unfold dY;split<;>omega
def isD (d:Int):Bool:=decide (0<=d/\d<8)
theorem zD9 (d:Int):isD d=true↔(0<=d/\d<8):=by simp [isD]
theorem zU5 (d:Int):isD d=false↔¬(0<=d/\d<8):=by simp only [isD,decide_eq_false_iff_not]
def sB (x y d:Int):Bool:=isD d&&nrC x y&&nrC (x+dX d.toNat) (y+dY d.toNat)
def sX (x y d:Int):Int:=if sB x y d=true then x+dX d.toNat else 0
def sY (x y d:Int):Int:=if sB x y d=true then y+dY d.toNat else 0
def Offs (w:World):Prop:=1<w.heap.size/\∀k:Nat,k<8->w.cell? ⟨1,k*2,none⟩=some (O ii (dX k))/\w.cell? ⟨1,k*2+1,none⟩=some (O ii (dY k))
theorem Offs.kept {w w':World} (h:Offs w) (hb:Below w.heap.size w w'):Offs w':=
 ⟨Nat.lt_of_lt_of_le h.1 hb.size,fun k hk=>⟨(hb.cell (p:=⟨1,k*2,none⟩) h.1).trans (h.2 k hk).1,(hb.cell (p:=⟨1,k*2+1,none⟩) h.1).trans (h.2 k hk).2⟩⟩
theorem zB7 (d:Int) (w:World):Calls pg 153 #[O ii d] w fun e w'=>e = .returned (.bool (isD d))/\w'=w:=by
 by_cases h1:0<=d
 ·by_cases h2:d<8
  ·go_enter func153,ntmps153;go_wp2
   go_ret;exact ⟨zAm (by simp [isD,h1,h2]),rfl⟩
  ·go_enter func153,ntmps153;go_wp2
   go_ret;exact ⟨zAm (by simp [isD,h1,h2]),rfl⟩
 ·go_enter func153,ntmps153;go_wp2
  go_ret;exact ⟨zAm (by rw [eq_comm,zU5];omega),rfl⟩
theorem zXb {x y d:Int} (h:isD d=false):sB x y d=false:=by simp [sB,h]
theorem zXa {x y d:Int} (h:nrC x y=false):sB x y d=false:=by simp [sB,h]
theorem zNu {x y d:Int} (h:sB x y d=false):sX x y d=0:=by simp [sX,h]
theorem zNt {x y d:Int} (h:sB x y d=false):sY x y d=0:=by simp [sY,h]
theorem zG5 {x y d:Int} (h:sB x y d=true):sX x y d=x+dX d.toNat:=by simp [sX,h]
theorem zG4 {x y d:Int} (h:sB x y d=true):sY x y d=y+dY d.toNat:=by simp [sY,h]
theorem zQp (x y d:Int) (w:World) (h:isD d=false) :
 Calls pg 150 #[.agg #[O ii x,O ii y],O ii d] w fun e w'=>e = .returned (.tuple #[.agg #[O ii (sX x y d),O ii (sY x y d)],.bool (sB x y d)])/\Below w.heap.size w w':=by
 have h3:=zXb (x:=x) (y:=y) h;rw [zNu h3,zNt h3,h3];clear h3;go_enter func150,ntmps150;go_wp2_with (go_at_call 153;refine (zB7 _ _).mono ?_;rintro e w' ⟨rfl,rfl⟩);refine bodyPost_ret (v:=.tuple #[.agg #[O ii 0,O ii 0],.bool false]) (by simp [results,Tryz.results150,go_sem]) rfl ⟨rfl,?_⟩;exact zBe _ _ _
theorem zQo (x y d:Int) (w:World) (h:isD d=true) (hn:nrC x y=false) :
 Calls pg 150 #[.agg #[O ii x,O ii y],O ii d] w fun e w'=>e = .returned (.tuple #[.agg #[O ii (sX x y d),O ii (sY x y d)],.bool (sB x y d)])/\Below w.heap.size w w':=by
 have h3:=zXa (d:=d) hn;rw [zNu h3,zNt h3,h3];clear h3;go_enter func150,ntmps150;go_wp2_with (first|(go_at_call 153;refine (zB7 _ _).mono ?_;rintro e w' ⟨rfl,rfl⟩)|(go_at_call 73;refine (zBh _ _ _).mono ?_;rintro e w1 ⟨rfl,hb⟩;obtain ⟨hc,hf⟩:=zV8 hb;have hz:=hb.size;simp at hz));refine bodyPost_ret (v:=.tuple #[.agg #[O ii 0,O ii 0],.bool false]) (by simp [results,Tryz.results150,go_sem,hc]) rfl ⟨rfl,?_⟩;exact set2 (bt (zBe _ _ _) hb) (by simp) (by simp)
theorem zHp {n:Int} (h0:-9223372036854775808<=n) (h1:n<=9223372036854775807):IntKind.i64.wrap n=n:=by
 rw [IntKind.wrap_i64];omega
theorem zQn (x y:Int) (k:Nat) (w:World) (hk:k<8) (ho:Offs w) (hn:nrC x y=true) (hm:nrC (x+dX k) (y+dY k)=false) :
 Calls pg 150 #[.agg #[O ii x,O ii y],O ii k] w fun e w'=>e = .returned (.tuple #[.agg #[O ii (sX x y k),O ii (sY x y k)],.bool (sB x y k)])/\Below w.heap.size w w':=by
 have h:isD (k:Int)=true:=(zD9 _).2 (by omega);have h3:sB x y k=false:=by simp [sB,h,hn,hm]
 rw [zNu h3,zNt h3,h3];clear h3;go_enter func150,ntmps150;go_wp2_with (first|(go_at_call 153;refine (zB7 _ _).mono ?_;rintro e w' ⟨rfl,rfl⟩)|(go_at_call 73;refine (zBh _ _ _).mono ?_;rintro e w1 ⟨rfl,hb⟩;obtain ⟨hc,hf⟩:=zV8 hb;have hz:=hb.size;simp at hz));have HB:=zAb (bt (zBe w _ _) hb);have ho':=Offs.kept ho HB.out;obtain ⟨o1,o2⟩:=ho'.2 k hk;obtain ⟨⟨c0,c1⟩,_,z0⟩:=zGq hb;obtain ⟨⟨e0,e1⟩,⟨f0,f1⟩,z1⟩:=zCs hb;have k0:(0:Int)<=(k:Int):=by omega
 have k1:(k:Int)<8:=by omega
 clear ho hc hf hb hz
 have wx:IntKind.i64.wrap (x+dX k)=x+dX k:=by
  obtain ⟨⟨x0,x1⟩,y0,y1⟩:=(zBq x y).1 hn;obtain ⟨dx0,dx1⟩:=zFu k;exact zHp (by omega) (by omega)
 have wy:IntKind.i64.wrap (y+dY k)=y+dY k:=by
  obtain ⟨⟨x0,x1⟩,y0,y1⟩:=(zBq x y).1 hn;obtain ⟨dx0,dx1⟩:=zFt k;exact zHp (by omega) (by omega)
 go_region_held3 (fun w'=>(w'.cell? ⟨w.heap.size,0,none⟩=some (O ii x)/\w'.cell? ⟨w.heap.size,1,none⟩=some (O ii y))/\(w'.cell? ⟨1,k*2,none⟩=some (O ii (dX k))/\w'.cell? ⟨1,k*2+1,none⟩=some (O ii (dY k)))) (go_keep) (fail)
 go_wp2_with (go_at_call 73;refine (zBh _ _ _).mono ?_;rintro e w2 ⟨rfl,hb2⟩;obtain ⟨⟨g0,g1⟩,⟨gf0,gf1⟩,z2⟩:=zKx hb2;have HB2:=zAb (bt (zYz _ _) hb2);obtain ⟨⟨e2,e3⟩,f2,f3⟩:=Below.two HB2.out z1 e0 e1 f0 f1;clear hb2 e0 e1 f0 f1);refine bodyPost_ret (v:=.tuple #[.agg #[O ii 0,O ii 0],.bool false]) (by simp [results,Tryz.results150,go_sem,e2,e3]) rfl ⟨rfl,?_⟩;exact set2 (bt HB.out HB2.out) (by simp) (by simp)
theorem zQm (x y:Int) (k:Nat) (w:World) (hk:k<8) (ho:Offs w) (hn:nrC x y=true) (hm:nrC (x+dX k) (y+dY k)=true) :
 Calls pg 150 #[.agg #[O ii x,O ii y],O ii k] w fun e w'=>e = .returned (.tuple #[.agg #[O ii (sX x y k),O ii (sY x y k)],.bool (sB x y k)])/\Below w.heap.size w w':=by
 have h:isD (k:Int)=true:=(zD9 _).2 (by omega);have h3:sB x y k=true:=by simp [sB,h,hn,hm]
 rw [zG5 h3,zG4 h3,h3,Int.toNat_natCast];clear h3;go_enter func150,ntmps150;go_wp2_with (first|(go_at_call 153;refine (zB7 _ _).mono ?_;rintro e w' ⟨rfl,rfl⟩)|(go_at_call 73;refine (zBh _ _ _).mono ?_;rintro e w1 ⟨rfl,hb⟩;obtain ⟨hc,hf⟩:=zV8 hb;have hz:=hb.size;simp at hz));have HB:=zAb (bt (zBe w _ _) hb);have ho':=Offs.kept ho HB.out;obtain ⟨o1,o2⟩:=ho'.2 k hk;obtain ⟨⟨c0,c1⟩,_,z0⟩:=zGq hb;obtain ⟨⟨e0,e1⟩,⟨f0,f1⟩,z1⟩:=zCs hb;have k0:(0:Int)<=(k:Int):=by omega
 have k1:(k:Int)<8:=by omega
 clear ho hc hf hb hz
 have wx:IntKind.i64.wrap (x+dX k)=x+dX k:=by
  obtain ⟨⟨x0,x1⟩,y0,y1⟩:=(zBq x y).1 hn;obtain ⟨dx0,dx1⟩:=zFu k;exact zHp (by omega) (by omega)
 have wy:IntKind.i64.wrap (y+dY k)=y+dY k:=by
  obtain ⟨⟨x0,x1⟩,y0,y1⟩:=(zBq x y).1 hn;obtain ⟨dx0,dx1⟩:=zFt k;exact zHp (by omega) (by omega)
 go_region_held3 (fun w'=>(w'.cell? ⟨w.heap.size,0,none⟩=some (O ii x)/\w'.cell? ⟨w.heap.size,1,none⟩=some (O ii y))/\(w'.cell? ⟨1,k*2,none⟩=some (O ii (dX k))/\w'.cell? ⟨1,k*2+1,none⟩=some (O ii (dY k)))) (go_keep) (fail)
 go_wp2_with (go_at_call 73;refine (zBh _ _ _).mono ?_;rintro e w2 ⟨rfl,hb2⟩;obtain ⟨⟨g0,g1⟩,⟨gf0,gf1⟩,z2⟩:=zKx hb2;have HB2:=zAb (bt (zYz _ _) hb2);obtain ⟨⟨e2,e3⟩,f2,f3⟩:=Below.two HB2.out z1 e0 e1 f0 f1;clear hb2 e0 e1 f0 f1);refine bodyPost_ret (v:=.tuple #[.agg #[O ii (x+dX k),O ii (y+dY k)],.bool true]) (by simp [results,Tryz.results150,go_sem,e2,e3]) rfl ⟨rfl,?_⟩;exact set2 (bt HB.out HB2.out) (by simp) (by simp)
theorem zCb (x y d:Int) (w:World) (ho:Offs w) :
 Calls pg 150 #[.agg #[O ii x,O ii y],O ii d] w fun e w'=>e = .returned (.tuple #[.agg #[O ii (sX x y d),O ii (sY x y d)],.bool (sB x y d)])/\Below w.heap.size w w':=by
 cases h:isD d
 ·exact zQp x y d w h
 ·cases hn:nrC x y
  ·exact zQo x y d w h hn
  ·obtain ⟨h0,h1⟩:=(zD9 d).1 h;obtain ⟨k,rfl⟩:=Int.eq_ofNat_of_zero_le h0;cases hm:nrC (x+dX k) (y+dY k)
   ·exact zQn x y k w (by omega) ho hn hm
   ·exact zQm x y k w (by omega) ho hn hm
def oc (d:Int):Bool:=decide (4<=d)
theorem zDw (d:Int) (w:World):Calls pg 154 #[O ii d] w fun e w'=>e = .returned (.bool (oc d))/\w'=w:=by
 go_enter func154,ntmps154;go_wp2
 go_ret;exact ⟨rfl,rfl⟩
def siB (x y d:Int):Bool:=sB x y d&&oc d
def siX (x y d:Int):Int:=if siB x y d=true then x+dX d.toNat else 0
def siY (x y d:Int):Int:=if siB x y d=true then y+dY d.toNat else 0
def si0 (x y d z:Int):Int:=if siB x y d=true then z else 0
abbrev zD2 (x y d:Int):Value:=.tuple #[.agg #[O ii (siX x y d),O ii (si0 x y d y)],.agg #[O ii (si0 x y d x),O ii (siY x y d)],.bool (siB x y d)]
theorem zIv {x y d:Int} (h:siB x y d=false):zD2 x y d = .tuple #[.agg #[O ii 0,O ii 0],.agg #[O ii 0,O ii 0],.bool false]:=by simp [zD2,siX,siY,si0,h]
theorem zG3 {x y d:Int} (h:siB x y d=true):zD2 x y d = .tuple #[.agg #[O ii (x+dX d.toNat),O ii y],.agg #[O ii x,O ii (y+dY d.toNat)],.bool true]:=by simp [zD2,siX,siY,si0,h]
abbrev W3 (w:World) (x y:Int):World:=((w.alloc (.cells #[O ii x,O ii y] 23)).alloc (.cells #[O ii 0,O ii 0] 23)).alloc (.cells #[O ii 0,O ii 0] 23)
theorem zDt (w:World) (x y:Int):Below w.heap.size w (W3 w x y):=bt (zBe _ _ _) (zAh _ _)
theorem zHt {w w1:World} {x y:Int} (h:Below (W3 w x y).heap.size (W3 w x y) w1) :
 ((w1.cell? ⟨w.heap.size,0,none⟩=some (O ii x)/\w1.cell? ⟨w.heap.size,1,none⟩=some (O ii y))/\(w1.frozen? ⟨w.heap.size,0,none⟩=false/\w1.frozen? ⟨w.heap.size,1,none⟩=false)/\w.heap.size<w1.heap.size)/\
 ((w1.cell? ⟨w.heap.size+1,0,none⟩=some (O ii 0)/\w1.cell? ⟨w.heap.size+1,1,none⟩=some (O ii 0))/\(w1.frozen? ⟨w.heap.size+1,0,none⟩=false/\w1.frozen? ⟨w.heap.size+1,1,none⟩=false)/\w.heap.size+1<w1.heap.size)/\
 ((w1.cell? ⟨w.heap.size+1+1,0,none⟩=some (O ii 0)/\w1.cell? ⟨w.heap.size+1+1,1,none⟩=some (O ii 0))/\(w1.frozen? ⟨w.heap.size+1+1,0,none⟩=false/\w1.frozen? ⟨w.heap.size+1+1,1,none⟩=false)/\w.heap.size+1+1<w1.heap.size):=by
 refine ⟨zGq (bt (zAh _ _) h),zCs (bt (zAh _ _) h),?_⟩;have:=zCs (w:=w.alloc (.cells #[O ii x,O ii y] 23)) h;simpa using this
theorem zXw (w1:World) (a b:Value) (t:TypeId):∃W,w1.alloc (.cells #[a,b] t)=W/\Below w1.heap.size w1 W/\W.cell? ⟨w1.heap.size,0,none⟩=some a/\W.cell? ⟨w1.heap.size,1,none⟩=some b/\w1.heap.size<W.heap.size:=by
 obtain ⟨⟨h0,h1⟩,_,hz⟩:=zD4 (Below.refl (w1.alloc (.cells #[a,b] t)).heap.size (w1.alloc (.cells #[a,b] t)));exact ⟨_,rfl,zAh _ _,h0,h1,hz⟩
theorem zQs (x y d:Int) (w:World) (ho:Offs w) (h:siB x y d=false) :
 Calls pg 152 #[.agg #[O ii x,O ii y],O ii d] w fun e w'=>e = .returned (zD2 x y d)/\Below w.heap.size w w':=by
 rw [zIv h];cases hs:sB x y d
 ·go_enter func152,ntmps152;go_wp2_with (go_at_call 150;refine (zCb _ _ _ _ (ho.kept (zDt _ _ _))).mono ?_;rintro e w1 ⟨rfl,hb1⟩;obtain ⟨⟨⟨c0,c1⟩,_,z0⟩,⟨⟨e0,e1⟩,⟨f0,f1⟩,z1⟩,⟨g0,g1⟩,⟨k0,k1⟩,z2⟩:=zHt hb1;have Hb:=zAb (bt (zDt _ _ _) hb1);clear hb1);refine bodyPost_ret (v:=.tuple #[.agg #[O ii 0,O ii 0],.agg #[O ii 0,O ii 0],.bool false]) (by simp [results,Tryz.results152,go_sem, *]) rfl ⟨rfl,?_⟩;exact (set2 (set2 Hb.out (by simp) (by simp)) (by simp;omega) (by simp;omega)).alloc (by simp;omega) _
 ·have hc:oc d=false:=by simpa [siB,hs] using h
  go_enter func152,ntmps152;go_wp2_with (first|(go_at_call 154;refine (zDw _ _).mono ?_;rintro e w' ⟨rfl,rfl⟩)|(go_at_call 150;refine (zCb _ _ _ _ (ho.kept (zDt _ _ _))).mono ?_;rintro e w1 ⟨rfl,hb1⟩;obtain ⟨⟨⟨c0,c1⟩,_,z0⟩,⟨⟨e0,e1⟩,⟨f0,f1⟩,z1⟩,⟨g0,g1⟩,⟨k0,k1⟩,z2⟩:=zHt hb1;have Hb:=zAb (bt (zDt _ _ _) hb1);clear hb1));refine bodyPost_ret (v:=.tuple #[.agg #[O ii 0,O ii 0],.agg #[O ii 0,O ii 0],.bool false]) (by simp [results,Tryz.results152,go_sem, *]) rfl ⟨rfl,?_⟩;exact (set2 (set2 Hb.out (by simp) (by simp)) (by simp;omega) (by simp;omega)).alloc (by simp;omega) _
theorem zNq (x y d:Int) (w:World) (ho:Offs w) (h:siB x y d=true) :
 Calls pg 152 #[.agg #[O ii x,O ii y],O ii d] w fun e w'=>e = .returned (zD2 x y d)/\Below w.heap.size w w':=by
 rw [zG3 h];have h2:sB x y d=true/\oc d=true:=by simpa [siB] using h
 obtain ⟨hs,hc⟩:=h2;have hx:=zAb (zG5 hs);have hy:=zAb (zG4 hs);rw [<-hx.out,<-hy.out];clear h;go_enter func152,ntmps152;go_wp2_with (first|(go_at_call 154;refine (zDw _ _).mono ?_;rintro e w' ⟨rfl,rfl⟩)|(go_at_call 150;refine (zCb _ _ _ _ (ho.kept (zDt _ _ _))).mono ?_;rintro e w1 ⟨rfl,hb1⟩;obtain ⟨⟨⟨c0,c1⟩,_,z0⟩,⟨⟨e0,e1⟩,⟨f0,f1⟩,z1⟩,⟨g0,g1⟩,⟨k0,k1⟩,z2⟩:=zHt hb1;have Hb:=zAb (bt (zDt _ _ _) hb1);clear hb1));obtain ⟨W,hW,hBW,n0,n1,nz⟩:=zXw w1 (O ii (sX x y d)) (O ii (sY x y d)) 23;rw [hW];obtain ⟨⟨e2,e3⟩,f2,f3⟩:=Below.two hBW z1 e0 e1 f0 f1;obtain ⟨⟨g2,g3⟩,k2,k3⟩:=Below.two hBW z2 g0 g1 k0 k1;have c2:=(hBW.cell (p:=⟨w.heap.size,0,none⟩) z0).trans c0;have c3:=(hBW.cell (p:=⟨w.heap.size,1,none⟩) z0).trans c1;have HB:=zAb (bt Hb.out hBW);have q1:¬w.heap.size+1=w1.heap.size:=by omega
 have q2:¬w.heap.size+1+1=w1.heap.size:=by omega
 have q3:¬w1.heap.size=w.heap.size+1:=by omega
 have q4:¬w1.heap.size=w.heap.size+1+1:=by omega
 have q5:¬w.heap.size=w.heap.size+1+1:=by omega
 have q6:¬w.heap.size+1+1=w.heap.size:=by omega
 clear hW hBW e0 e1 f0 f1 g0 g1 k0 k1 c0 c1 Hb;go_region_held3 (fun w'=>(w'.cell? ⟨w.heap.size,0,none⟩=some (O ii x)/\w'.cell? ⟨w.heap.size,1,none⟩=some (O ii y))/\(w'.cell? ⟨w1.heap.size,0,none⟩=some (O ii (sX x y d))/\w'.cell? ⟨w1.heap.size,1,none⟩=some (O ii (sY x y d)))) (go_keep) (fail)
 go_wp2_with fail;refine bodyPost_ret (v:=.tuple #[.agg #[O ii (sX x y d),O ii y],.agg #[O ii x,O ii (sY x y d)],.bool true]) (by simp [results,Tryz.results152,go_sem, *]) rfl ⟨rfl,?_⟩;exact (set2 (set2 HB.out (by simp) (by simp)) (by simp;omega) (by simp;omega)).drew
theorem zIu (x y d:Int) (w:World) (ho:Offs w) :
 Calls pg 152 #[.agg #[O ii x,O ii y],O ii d] w fun e w'=>e = .returned (zD2 x y d)/\Below w.heap.size w w':=by
 cases h:siB x y d
 ·exact zQs x y d w ho h
 ·exact zNq x y d w ho h
def co (d:Int):Int:=if isD d=true then (if oc d=true then 14 else 10) else 0
theorem zIi (d:Int) (w:World):Calls pg 120 #[O ii d] w fun e w'=>e = .returned (O ii (co d))/\w'=w:=by
 cases h:isD d
 ·rw [show co d=0 by simp [co,h]];go_enter func120,ntmps120;go_wp2_with (go_at_call 153;refine (zB7 _ _).mono ?_;rintro e w' ⟨rfl,rfl⟩);go_ret;exact ⟨rfl,rfl⟩
 ·cases hc:oc d
  ·rw [show co d=10 by simp [co,h,hc]];go_enter func120,ntmps120;go_wp2_with (first|(go_at_call 153;refine (zB7 _ _).mono ?_;rintro e w' ⟨rfl,rfl⟩)|(go_at_call 154;refine (zDw _ _).mono ?_;rintro e w' ⟨rfl,rfl⟩));go_ret;exact ⟨rfl,rfl⟩
  ·rw [show co d=14 by simp [co,h,hc]];go_enter func120,ntmps120;go_wp2_with (first|(go_at_call 153;refine (zB7 _ _).mono ?_;rintro e w' ⟨rfl,rfl⟩)|(go_at_call 154;refine (zDw _ _).mono ?_;rintro e w' ⟨rfl,rfl⟩));go_ret;exact ⟨rfl,rfl⟩
end Go.Proofs.YtejjcenhjpjefaaGreatDoor
