import Derived.Test.YtejjcenhjpjefaaGreatDoorSpan
import Derived.Deep.RegionHeld3
import Derived.Deep.RegionWith
import Derived.Deep.DeepCutAuto
set_option linter.all false
set_option maxRecDepth 1000000
set_option maxHeartbeats 64000000
open Go.Proofs.Tryz
open Go.Proofs.Tryz renaming prog->pg
open Go.Value renaming int->O
open Go.IntKind renaming i64->ii
namespace Go.Proofs.YtejjcenhjpjefaaGreatDoor
open Go.RowKit
theorem zDy {W W' w1:World} {A:Prop} (hb:Below W'.heap.size W' w1) (h:A/\Below W.heap.size W W'):Below W.heap.size W w1:=bt h.2 hb
theorem Two.kept {w w':World} {b:Nat} {u v:Int} (h:Two w b u v) (hb:Below w.heap.size w w'):Two w' b u v:=
 ⟨(Below.two hb h.2.2 h.1.1 h.1.2 h.2.1.1 h.2.1.2).1,(Below.two hb h.2.2 h.1.1 h.1.2 h.2.1.1 h.2.1.2).2,Nat.lt_of_lt_of_le h.2.2 hb.size⟩
theorem Two.at {w w1:World} {u v:Int} {t:TypeId} (h:Below (w.alloc (.cells #[O ii u,O ii v] t)).heap.size (w.alloc (.cells #[O ii u,O ii v] t)) w1):Two w1 w.heap.size u v:=zD4 h
theorem Two.atd {w w1:World} {u v:Int} {t:TypeId} (h:Below (w.alloc (.cells #[O ii u,O ii v] t)).drew.heap.size (w.alloc (.cells #[O ii u,O ii v] t)).drew w1):Two w1 w.heap.size u v:=zKx h
theorem Two.at2 {w w1:World} {u v s r:Int} {t t':TypeId} (h:Below ((w.alloc (.cells #[O ii u,O ii v] t)).alloc (.cells #[O ii s,O ii r] t')).heap.size ((w.alloc (.cells #[O ii u,O ii v] t)).alloc (.cells #[O ii s,O ii r] t')) w1):Two w1 w.heap.size u v/\Two w1 (w.heap.size+1) s r:=⟨zGq h,zCs h⟩
theorem Two.at2d {w w1:World} {u v s r:Int} {t t':TypeId} (h:Below ((w.alloc (.cells #[O ii u,O ii v] t)).alloc (.cells #[O ii s,O ii r] t')).drew.heap.size ((w.alloc (.cells #[O ii u,O ii v] t)).alloc (.cells #[O ii s,O ii r] t')).drew w1):Two w1 w.heap.size u v/\Two w1 (w.heap.size+1) s r:=Two.at2 (bt ((Below.refl _ _).drew) h)
theorem Two.alloc {w:World} {b:Nat} {u v:Int} {o:Obj} (h:Two w b u v):Two (w.alloc o) b u v:=h.kept (zAh _ _)
theorem Two.newAt {w:World} {k:Nat} {u v:Int} {t:TypeId} (hk:k=w.heap.size):Two (w.alloc (.cells #[O ii u,O ii v] t)) k u v:=by
 subst hk;exact Two.at (Below.refl _ _)
theorem Two.set {w:World} {b:Nat} {u v s t:Int} (h:Two w b u v):Two ((w.setCell ⟨b,0,none⟩ (O ii s)).setCell ⟨b,1,none⟩ (O ii t)) b s t:=by
 obtain ⟨⟨h0,h1⟩,⟨f0,f1⟩,hz⟩:=h;refine ⟨⟨?_,?_⟩,⟨?_,?_⟩,?_⟩
 ·simp [go_sem,h0]
 ·simp [go_sem,h1]
 ·simpa [go_sem] using f0
 ·simpa [go_sem] using f1
 ·simpa using hz
theorem Two.other {w:World} {b k:Nat} {u v:Int} {s t:Value} (h:Two w b u v) (hk:¬b=k):Two ((w.setCell ⟨k,0,none⟩ s).setCell ⟨k,1,none⟩ t) b u v:=by
 obtain ⟨⟨h0,h1⟩,⟨f0,f1⟩,hz⟩:=h;have hk':¬k=b:=fun e=>hk e.symm;refine ⟨⟨?_,?_⟩,⟨?_,?_⟩,?_⟩
 ·simp [go_sem,h0]
 ·simp [go_sem,h1]
 ·simpa [go_sem] using f0
 ·simpa [go_sem] using f1
 ·simpa using hz
theorem Four.kept {w w':World} {b:Nat} {u v s t:Int} (h:Four w b u v s t) (hb:Below w.heap.size w w'):Four w' b u v s t:=
 ⟨Below.four hb h.2.2 h.1,⟨(hb.frozen (p:=⟨b,0,none⟩) h.2.2).trans h.2.1.1,(hb.frozen (p:=⟨b,1,none⟩) h.2.2).trans h.2.1.2.1,(hb.frozen (p:=⟨b,2,none⟩) h.2.2).trans h.2.1.2.2.1,(hb.frozen (p:=⟨b,3,none⟩) h.2.2).trans h.2.1.2.2.2⟩,Nat.lt_of_lt_of_le h.2.2 hb.size⟩
theorem zHf {W W':World} {A:Prop} (h:A/\Below W.heap.size W W'):Below W.heap.size W W':=h.2
theorem zJl {w w1:World} {a b c d:Value} {n:Nat} (h:Below w.heap.size w w1) (hn:w.heap.size<=n) :
 Below w.heap.size w ((((w1.setCell ⟨n,0,none⟩ a).setCell ⟨n,1,none⟩ b).setCell ⟨n,2,none⟩ c).setCell ⟨n,3,none⟩ d):=
 (((h.setCell hn _).setCell hn _).setCell hn _).setCell hn _
def qBi (w2 wx:World) (s6 s7:Value) (u v s t:Int):Prop:=
 ∃b6 b7:Nat,s6 = .pointer (some ⟨b6,0,none⟩)/\s7 = .pointer (some ⟨b7,0,none⟩)/\Two wx b6 u v/\Two wx b7 s t/\¬b6=b7/\(w2.heap.size<=b6/\w2.heap.size<=b7)/\Below w2.heap.size w2 wx
theorem zSw (x y:Int):(if x<y then y else x)=max x y:=by split<;>omega
theorem zSv (x y:Int):(if y<x then y else x)=min x y:=by split<;>omega
theorem zOr {x p X P:Int} (h1:-1048576<=x/\x<=1048576) (h2:-1048576<=p/\p<=1048576) (h3:-1048576<=X/\X<=1048576) (h4:-1048576<=P/\P<=1048576) :
 ((-1048576<=max x p/\max x p<=1048576)/\(-1048576<=min x p/\min x p<=1048576))/\(-1048576<=max X P/\max X P<=1048576)/\(-1048576<=min X P/\min X P<=1048576):=by omega
theorem zLu {x y a b p q c d:Int} (h:may x y a b=true) (h2:may p q c d=true) :
 (((-1048576<=max x p/\max x p<=1048576)/\(-1048576<=min x p/\min x p<=1048576))/\(-1048576<=max (x+a-1) (p+c-1)/\max (x+a-1) (p+c-1)<=1048576)/\(-1048576<=min (x+a-1) (p+c-1)/\min (x+a-1) (p+c-1)<=1048576))/\
 (((-1048576<=max y q/\max y q<=1048576)/\(-1048576<=min y q/\min y q<=1048576))/\(-1048576<=max (y+b-1) (q+d-1)/\max (y+b-1) (q+d-1)<=1048576)/\(-1048576<=min (y+b-1) (q+d-1)/\min (y+b-1) (q+d-1)<=1048576)):=by
 have h:=(zA5 _ _ _ _).1 h;have h2:=(zA5 _ _ _ _).1 h2;exact ⟨zOr h.1.1 h2.1.1 h.2.2.2.1 h2.2.2.2.1,zOr h.1.2 h2.1.2 h.2.2.2.2 h2.2.2.2.2⟩
theorem zF2 (u v s t:Int) (w:World) (hu:-1048576<=u/\u<=1048576) (hv:-1048576<=v/\v<=1048576) (hs:-1048576<=s/\s<=1048576) (ht:-1048576<=t/\t<=1048576) :
 Calls pg 81 #[.agg #[O ii u,O ii v],.agg #[O ii s,O ii t]] w fun e w'=>e = .returned (.agg #[O ii u,O ii v,O ii (s-u+1),O ii (t-v+1)])/\Below w.heap.size w w':=by
 obtain ⟨u0,u1⟩:=hu;obtain ⟨v0,v1⟩:=hv;obtain ⟨s0,s1⟩:=hs;obtain ⟨t0,t1⟩:=ht;go_enter func81,ntmps81;go_wp2_with fail;refine bodyPost_ret (v:=.agg #[O ii u,O ii v,O ii (s-u+1),O ii (t-v+1)]) (by simp [results,Tryz.results81,go_sem]) rfl ⟨rfl,?_⟩;exact bt (zBe _ _ _) (zAh _ _)
theorem zQ8 (x y a b p q c d:Int) (w:World) (h:may x y a b=false) :
 Calls pg 44 #[.agg #[O ii x,O ii y,O ii a,O ii b],.agg #[O ii p,O ii q,O ii c,O ii d]] w fun e w'=>e = .returned (.tuple #[mtV x y a b p q c d,.bool (mtB x y a b p q c d)])/\Below w.heap.size w w':=by
 rw [zOo (zOq h),zOq h,zGw];go_enter func44,ntmps44;go_wp2_with fail;refine (zBy _ h).mono ?_;rintro e w1 ⟨rfl,hb1⟩;obtain ⟨_,_,⟨r0,r1,r2,r3⟩,⟨f0,f1,f2,f3⟩,z2⟩:=zBm hb1;have B1:=zAb (bt (zDs _ _ _ _ _ _ _ _ _) hb1);clear hb1;go_wp2_with fail;refine bodyPost_ret (v:=.tuple #[.agg #[O ii 0,O ii 0,O ii 0,O ii 0],.bool false]) (by simp [results,Tryz.results44,go_sem,r0,r1,r2,r3]) rfl ⟨rfl,?_⟩;exact zJl B1.out (by omega)
theorem zQ7 (x y a b p q c d:Int) (w:World) (h:may x y a b=true) (h2:may p q c d=false) :
 Calls pg 44 #[.agg #[O ii x,O ii y,O ii a,O ii b],.agg #[O ii p,O ii q,O ii c,O ii d]] w fun e w'=>e = .returned (.tuple #[mtV x y a b p q c d,.bool (mtB x y a b p q c d)])/\Below w.heap.size w w':=by
 rw [zOo (zOp h2),zOp h2,zGw];go_enter func44,ntmps44;go_wp2_with fail;refine (zBy _ h).mono ?_;rintro e w1 ⟨rfl,hb1⟩;obtain ⟨e0,e1,e2,e3⟩:=(zBm hb1).2.1.1;have B1:=zAb hb1;clear hb1;go_wp2_with fail;refine (zBy _ h2).mono ?_;rintro e w2 ⟨rfl,hb2⟩;obtain ⟨_,_,⟨r0,r1,r2,r3⟩,⟨f0,f1,f2,f3⟩,z2⟩:=zBm (bt B1.out hb2);have B2:=zAb (bt (zDs _ _ _ _ _ _ _ _ _) (bt B1.out hb2));clear hb2;go_wp2_with fail;refine bodyPost_ret (v:=.tuple #[.agg #[O ii 0,O ii 0,O ii 0,O ii 0],.bool false]) (by simp [results,Tryz.results44,go_sem,r0,r1,r2,r3]) rfl ⟨rfl,?_⟩;exact zJl B2.out (by omega)
theorem zQ5 (x y a b p q c d:Int) (w:World) (h:may x y a b=true) (h2:may p q c d=true) :
 Calls pg 44 #[.agg #[O ii x,O ii y,O ii a,O ii b],.agg #[O ii p,O ii q,O ii c,O ii d]] w fun e w'=>e = .returned (.tuple #[mtV x y a b p q c d,.bool (mtB x y a b p q c d)])/\Below w.heap.size w w':=by
 have M1:=zAb (zCz h);have M2:=zAb (zCz h2);have HM:=zAb (zX0 h h2);have HN:=zAb (zLu h h2);go_enter func44,ntmps44;go_wp2_with fail;refine (zBy _ h).mono ?_;rintro e w1 ⟨rfl,hb1⟩;obtain ⟨e0,e1,e2,e3⟩:=(zBm hb1).2.1.1;have B1:=zAb hb1;clear hb1;go_wp2_with fail;refine (zBy _ h2).mono ?_;rintro e w2 ⟨rfl,hb2⟩;have B2:=zAb (bt B1.out hb2);clear hb2 e0 e1 e2 e3 B1 w1;go_wp2_with fail;go_cut [6,7] (fun s6 s7 wx=>qBi w2 wx s6 s7 (x+a-1) (y+b-1) (p+c-1) (q+d-1))
 case first =>
  obtain ⟨⟨⟨c0,c1,c2,c3⟩,_,z0⟩,⟨⟨e0,e1,e2,e3⟩,_,z1⟩,_⟩:=zBm B2.out
  have HS:Hid (∀w',Below w2.heap.size w2 w'->((w'.cell? ⟨w.heap.size,0,none⟩=some (O ii x)/\w'.cell? ⟨w.heap.size,1,none⟩=some (O ii y)/\w'.cell? ⟨w.heap.size,2,none⟩=some (O ii a)/\w'.cell? ⟨w.heap.size,3,none⟩=some (O ii b))/\(w'.cell? ⟨w.heap.size+1,0,none⟩=some (O ii p)/\w'.cell? ⟨w.heap.size+1,1,none⟩=some (O ii q)/\w'.cell? ⟨w.heap.size+1,2,none⟩=some (O ii c)/\w'.cell? ⟨w.heap.size+1,3,none⟩=some (O ii d)))/\Below w2.heap.size w2 w'):=
   fun w' hb=>⟨⟨Below.four hb z0 ⟨c0,c1,c2,c3⟩,Below.four hb z1 ⟨e0,e1,e2,e3⟩⟩,hb⟩
  go_region_held3 (fun w'=>((w'.cell? ⟨w.heap.size,0,none⟩=some (O ii x)/\w'.cell? ⟨w.heap.size,1,none⟩=some (O ii y)/\w'.cell? ⟨w.heap.size,2,none⟩=some (O ii a)/\w'.cell? ⟨w.heap.size,3,none⟩=some (O ii b))/\(w'.cell? ⟨w.heap.size+1,0,none⟩=some (O ii p)/\w'.cell? ⟨w.heap.size+1,1,none⟩=some (O ii q)/\w'.cell? ⟨w.heap.size+1,2,none⟩=some (O ii c)/\w'.cell? ⟨w.heap.size+1,3,none⟩=some (O ii d)))/\Below w2.heap.size w2 w')
   (first
    |exact HS.out _ ((Below.refl _ _).drew)
    |exact HS.out _ (by assumption)
    |(refine HS.out _ ?_;repeat (first|exact hB2|exact hB1|exact Below.refl _ _|refine Below.drew ?_|refine Below.setCell ?_ (by first|omega|(simp;done)|(simp;omega)) _|refine Below.alloc ?_ (by first|omega|(simp;done)|(simp;omega)) _)))
   (first
    |(go_at_call_of 52 x
      refine (zC9 _ _ _ _ _ M1.out.1 M1.out.2.1 M1.out.2.2.1).mono ?_;rintro e v1 ⟨rfl,hb1⟩;have hB1:=zDy (W:=w2) hb1 (by assumption);have hs1:=hB1.size
      first
       |(have T01:Two v1 w2.heap.size 0 0/\Two v1 (w2.heap.size+1) 0 0:=Two.at2d (t:=23) (t':=23) hb1;obtain ⟨T0,T1⟩:=T01;obtain ⟨⟨_,_⟩,⟨_,_⟩,_⟩:=id T0;obtain ⟨⟨_,_⟩,⟨_,_⟩,_⟩:=id T1)
       |(have T0:Two v1 w2.heap.size 0 0:=Two.atd (t:=23) hb1;obtain ⟨⟨_,_⟩,⟨_,_⟩,_⟩:=id T0)
       |skip
      clear hb1)
    |(go_at_call_of 52 p
      refine (zC9 _ _ _ _ _ M2.out.1 M2.out.2.1 M2.out.2.2.1).mono ?_;rintro e v2 ⟨rfl,hb2⟩;have hB2:=zDy (W:=w2) hb2 (by assumption);have hs2:=hB2.size;have hX:Below v1.heap.size v1 v2:=by first|exact hb2|exact bt (zAh _ _) hb2|exact bt (zBe _ _ _) hb2
      have hs3:=hX.size
      first
       |(have U0:=T0.kept hX;have U1:=T1.kept hX;obtain ⟨⟨_,_⟩,⟨_,_⟩,_⟩:=id U0;obtain ⟨⟨_,_⟩,⟨_,_⟩,_⟩:=id U1)
       |(have U0:=T0.kept hX;have U1:Two v2 v1.heap.size 0 0:=Two.at (t:=23) hb2;obtain ⟨⟨_,_⟩,⟨_,_⟩,_⟩:=id U0;obtain ⟨⟨_,_⟩,⟨_,_⟩,_⟩:=id U1)
       |(have U0:=T0.kept hX;obtain ⟨⟨_,_⟩,⟨_,_⟩,_⟩:=id U0)
       |(have U01:Two v2 v1.heap.size 0 0/\Two v2 (v1.heap.size+1) 0 0:=Two.at2 (t:=23) (t':=23) hb2;obtain ⟨U0,U1⟩:=U01;obtain ⟨⟨_,_⟩,⟨_,_⟩,_⟩:=id U0;obtain ⟨⟨_,_⟩,⟨_,_⟩,_⟩:=id U1)
       |(have U0:Two v2 v1.heap.size 0 0:=Two.at (t:=23) hb2;obtain ⟨⟨_,_⟩,⟨_,_⟩,_⟩:=id U0)
       |skip
      clear hb2))
  all_goals
   go_wp2_with fail;go_meet
   refine ⟨_,_,rfl,rfl,?_,?_,?_,⟨?_,?_⟩,zHf (by assumption)⟩
   ·repeat (first|with_reducible exact U0|with_reducible exact U1|(with_reducible refine Two.newAt ?_;first|rfl|(simp;done))|with_reducible refine Two.set (u:=0) (v:=0) ?_|(with_reducible refine Two.other ?_ (by omega))|with_reducible refine Two.alloc ?_)
   ·repeat (first|with_reducible exact U0|with_reducible exact U1|(with_reducible refine Two.newAt ?_;first|rfl|(simp;done))|with_reducible refine Two.set (u:=0) (v:=0) ?_|(with_reducible refine Two.other ?_ (by omega))|with_reducible refine Two.alloc ?_)
   ·omega
   ·omega
   ·omega
 case rest =>
  obtain ⟨b6,b7,rfl,rfl,T6,T7,hne,⟨hl6,hl7⟩,hBc⟩:=hcut;obtain ⟨⟨⟨c0,c1,c2,c3⟩,_,z0⟩,⟨⟨e0,e1,e2,e3⟩,_,z1⟩,R,⟨_,_,_,_⟩,z2⟩:=zBm (bt B2.out hBc);have FR:=zAb (zBm (bt B2.out hBc)).2.2;have Hc:=zAb (bt (zDs _ _ _ _ _ _ _ _ _) (bt B2.out hBc));clear hBc B2 M1 M2 R;have HM':=HM.out;have HN':=HN.out;have HV:=zAb (@zOn x y a b p q c d);clear HM HN h h2;generalize x+a-1=X1 at T6 HM' HN' HV;generalize y+b-1=Y1 at T6 HM' HN' HV;generalize p+c-1=X2 at T7 HM' HN' HV;generalize q+d-1=Y2 at T7 HM' HN' HV;have HM:=zAb HM';have HN:=zAb HN';clear HM' HN';obtain ⟨⟨k0,k1⟩,_,z6⟩:=T6;obtain ⟨⟨l0,l1⟩,_,z7⟩:=T7;have hmx:=zSw;have hmn:=zSv;go_wp2_with fail;refine (zF2 _ _ _ _ _ HN.out.1.1.1 HN.out.2.1.1 HN.out.1.2.2 HN.out.2.2.2).mono ?_;rintro e w3 ⟨rfl,hb3⟩;have B3:=zAb (bt Hc.out (bt (zBe _ _ _) hb3));have F3:=zAb (FR.out.kept (bt (zBe _ _ _) hb3));clear hb3;cases hm:mtB x y a b p q c d
  ·go_wp2_with fail;refine (zBy (c:=false) _ (HM.out.symm.trans hm)).mono ?_;rintro e w4 ⟨rfl,hb4⟩;obtain ⟨n0,n1,n2,n3⟩:=(zBo hb4).1;obtain ⟨⟨r0,r1,r2,r3⟩,⟨f0,f1,f2,f3⟩,zr⟩:=F3.out.kept (bt (zAh _ _) hb4);have B4:=zAb (bt B3.out (bt (zAh _ _) hb4));clear hb4;go_wp2_with fail;refine bodyPost_ret (v:=.tuple #[.agg #[O ii 0,O ii 0,O ii 0,O ii 0],.bool false]) (by simp [results,Tryz.results44,go_sem,r0,r1,r2,r3]) rfl ⟨by rw [zOo hm,hm];rfl,?_⟩;exact zJl B4.out (by omega)
  ·go_wp2_with fail;refine (zBy (c:=true) _ (HM.out.symm.trans hm)).mono ?_;rintro e w4 ⟨rfl,hb4⟩;obtain ⟨n0,n1,n2,n3⟩:=(zBo hb4).1;obtain ⟨⟨r0,r1,r2,r3⟩,⟨f0,f1,f2,f3⟩,zr⟩:=F3.out.kept (bt (zAh _ _) hb4);have B4:=zAb (bt B3.out (bt (zAh _ _) hb4));clear hb4;go_wp2_with fail;refine bodyPost_ret (v:=.tuple #[.agg #[O ii (max x p),O ii (max y q),O ii (min X1 X2-max x p+1),O ii (min Y1 Y2-max y q+1)],.bool true]) (by simp [results,Tryz.results44,go_sem,r0,r1,r2,r3]) rfl ⟨by rw [HV.out hm,hm];rfl,?_⟩;exact zJl B4.out (by omega)
theorem zLs (x y a b p q c d:Int) (w:World) :
 Calls pg 44 #[.agg #[O ii x,O ii y,O ii a,O ii b],.agg #[O ii p,O ii q,O ii c,O ii d]] w fun e w'=>e = .returned (.tuple #[mtV x y a b p q c d,.bool (mtB x y a b p q c d)])/\Below w.heap.size w w':=by
 cases h:may x y a b
 ·exact zQ8 x y a b p q c d w h
 ·cases h2:may p q c d
  ·exact zQ7 x y a b p q c d w h h2
  ·exact zQ5 x y a b p q c d w h h2
end Go.Proofs.YtejjcenhjpjefaaGreatDoor
