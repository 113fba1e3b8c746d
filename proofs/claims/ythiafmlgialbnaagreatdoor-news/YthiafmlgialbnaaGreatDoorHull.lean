import Derived.Test.YthiafmlgialbnaaGreatDoorSpan
import Derived.Test.YthiafmlgialbnaaGreatDoorMeet
import Derived.Deep.RegionHeld3
import Derived.Deep.RegionWith
import Derived.Deep.DeepCutAuto
set_option linter.all false
set_option maxRecDepth 1000000
set_option maxHeartbeats 64000000
open Go.Proofs.Tryz
open Go.Proofs.Tryz renaming prog->pg
open Go.Value renaming int->O
open Go.IntKind renaming i64->ii
namespace Go.Proofs.YthiafmlgialbnaaGreatDoor
open Go.RowKit
theorem zTy (x y a b p q c d:Int) (w:World) (h:may x y a b=false) :
 Calls pg 189 #[.agg #[O ii x,O ii y,O ii a,O ii b],.agg #[O ii p,O ii q,O ii c,O ii d]] w fun e w'=>e = .returned (huV x y a b p q c d)/\Below w.heap.size w w':=by
 rw [zQ8 (zYz h),zGo];go_enter func189,ntmps189;go_wp2_with fail;refine (zBs _ h).mono ?_;rintro e w1 ⟨rfl,hb1⟩;obtain ⟨_,_,⟨r0,r1,r2,r3⟩,⟨f0,f1,f2,f3⟩,z2⟩:=zAw hb1;have B1:=zAc (bt (zCa _ _ _ _ _ _ _ _ _) hb1);clear hb1;go_wp2_with fail;refine bodyPost_ret (v:=.agg #[O ii 0,O ii 0,O ii 0,O ii 0]) (by simp [results,Tryz.results189,go_sem,r0,r1,r2,r3]) rfl ⟨rfl,?_⟩;exact zFw B1.out (by omega)
theorem zTx (x y a b p q c d:Int) (w:World) (h:may x y a b=true) (h2:may p q c d=false) :
 Calls pg 189 #[.agg #[O ii x,O ii y,O ii a,O ii b],.agg #[O ii p,O ii q,O ii c,O ii d]] w fun e w'=>e = .returned (huV x y a b p q c d)/\Below w.heap.size w w':=by
 rw [zQ8 (zYy h2),zGo];go_enter func189,ntmps189;go_wp2_with fail;refine (zBs _ h).mono ?_;rintro e w1 ⟨rfl,hb1⟩;obtain ⟨e0,e1,e2,e3⟩:=(zAw hb1).2.1.1;have B1:=zAc hb1;clear hb1;go_wp2_with fail;refine (zBs _ h2).mono ?_;rintro e w2 ⟨rfl,hb2⟩;obtain ⟨_,_,⟨r0,r1,r2,r3⟩,⟨f0,f1,f2,f3⟩,z2⟩:=zAw (bt B1.out hb2);have B2:=zAc (bt (zCa _ _ _ _ _ _ _ _ _) (bt B1.out hb2));clear hb2;go_wp2_with fail;refine bodyPost_ret (v:=.agg #[O ii 0,O ii 0,O ii 0,O ii 0]) (by simp [results,Tryz.results189,go_sem,r0,r1,r2,r3]) rfl ⟨rfl,?_⟩;exact zFw B2.out (by omega)
theorem zTv (x y a b p q c d:Int) (w:World) (h:may x y a b=true) (h2:may p q c d=true) :
 Calls pg 189 #[.agg #[O ii x,O ii y,O ii a,O ii b],.agg #[O ii p,O ii q,O ii c,O ii d]] w fun e w'=>e = .returned (huV x y a b p q c d)/\Below w.heap.size w w':=by
 have M1:=zAc (zBj h);have M2:=zAc (zBj h2);have HM:=zAc (qBt h h2);have HN:=zAc (zJd h h2);go_enter func189,ntmps189;go_wp2_with fail;refine (zBs _ h).mono ?_;rintro e w1 ⟨rfl,hb1⟩;obtain ⟨e0,e1,e2,e3⟩:=(zAw hb1).2.1.1;have B1:=zAc hb1;clear hb1;go_wp2_with fail;refine (zBs _ h2).mono ?_;rintro e w2 ⟨rfl,hb2⟩;have B2:=zAc (bt B1.out hb2);clear hb2 e0 e1 e2 e3 B1 w1;go_wp2_with fail;go_cut [5,6] (fun s6 s7 wx=>qDj w2 wx s6 s7 (x+a-1) (y+b-1) (p+c-1) (q+d-1))
 case first =>
  obtain ⟨⟨⟨c0,c1,c2,c3⟩,_,z0⟩,⟨⟨e0,e1,e2,e3⟩,_,z1⟩,_⟩:=zAw B2.out
  have HS:Hid (∀w',Below w2.heap.size w2 w'->((w'.cell? ⟨w.heap.size,0,none⟩=some (O ii x)/\w'.cell? ⟨w.heap.size,1,none⟩=some (O ii y)/\w'.cell? ⟨w.heap.size,2,none⟩=some (O ii a)/\w'.cell? ⟨w.heap.size,3,none⟩=some (O ii b))/\(w'.cell? ⟨w.heap.size+1,0,none⟩=some (O ii p)/\w'.cell? ⟨w.heap.size+1,1,none⟩=some (O ii q)/\w'.cell? ⟨w.heap.size+1,2,none⟩=some (O ii c)/\w'.cell? ⟨w.heap.size+1,3,none⟩=some (O ii d)))/\Below w2.heap.size w2 w'):=
   fun w' hb=>⟨⟨Below.four hb z0 ⟨c0,c1,c2,c3⟩,Below.four hb z1 ⟨e0,e1,e2,e3⟩⟩,hb⟩
  go_region_held3 (fun w'=>((w'.cell? ⟨w.heap.size,0,none⟩=some (O ii x)/\w'.cell? ⟨w.heap.size,1,none⟩=some (O ii y)/\w'.cell? ⟨w.heap.size,2,none⟩=some (O ii a)/\w'.cell? ⟨w.heap.size,3,none⟩=some (O ii b))/\(w'.cell? ⟨w.heap.size+1,0,none⟩=some (O ii p)/\w'.cell? ⟨w.heap.size+1,1,none⟩=some (O ii q)/\w'.cell? ⟨w.heap.size+1,2,none⟩=some (O ii c)/\w'.cell? ⟨w.heap.size+1,3,none⟩=some (O ii d)))/\Below w2.heap.size w2 w')
   (first
    |exact HS.out _ ((Below.refl _ _).drew)
    |exact HS.out _ (by assumption)
    |(refine HS.out _ ?_;repeat (first|exact hB2|exact hB1|exact Below.refl _ _|refine Below.drew ?_|refine Below.setCell ?_ (by first|omega|(simp;done)|(simp;omega)) _|refine Below.alloc ?_ (by first|omega|(simp;done)|(simp;omega)) _)))
   (first
    |(go_at_call_of 53 x
      refine (zDh _ _ _ _ _ M1.out.1 M1.out.2.1 M1.out.2.2.1).mono ?_;rintro e v1 ⟨rfl,hb1⟩;have hB1:=zCg (W:=w2) hb1 (by assumption);have hs1:=hB1.size
      first
       |(have T01:Two v1 w2.heap.size 0 0/\Two v1 (w2.heap.size+1) 0 0:=Two.at2d (t:=47) (t':=47) hb1;obtain ⟨T0,T1⟩:=T01;obtain ⟨⟨_,_⟩,⟨_,_⟩,_⟩:=id T0;obtain ⟨⟨_,_⟩,⟨_,_⟩,_⟩:=id T1)
       |(have T0:Two v1 w2.heap.size 0 0:=Two.atd (t:=47) hb1;obtain ⟨⟨_,_⟩,⟨_,_⟩,_⟩:=id T0)
       |skip
      clear hb1)
    |(go_at_call_of 53 p
      refine (zDh _ _ _ _ _ M2.out.1 M2.out.2.1 M2.out.2.2.1).mono ?_;rintro e v2 ⟨rfl,hb2⟩;have hB2:=zCg (W:=w2) hb2 (by assumption);have hs2:=hB2.size;have hX:Below v1.heap.size v1 v2:=by first|exact hb2|exact bt (zAk _ _) hb2|exact bt (zA5 _ _ _) hb2
      have hs3:=hX.size
      first
       |(have U0:=T0.kept hX;have U1:=T1.kept hX;obtain ⟨⟨_,_⟩,⟨_,_⟩,_⟩:=id U0;obtain ⟨⟨_,_⟩,⟨_,_⟩,_⟩:=id U1)
       |(have U0:=T0.kept hX;have U1:Two v2 v1.heap.size 0 0:=Two.at (t:=47) hb2;obtain ⟨⟨_,_⟩,⟨_,_⟩,_⟩:=id U0;obtain ⟨⟨_,_⟩,⟨_,_⟩,_⟩:=id U1)
       |(have U0:=T0.kept hX;obtain ⟨⟨_,_⟩,⟨_,_⟩,_⟩:=id U0)
       |(have U01:Two v2 v1.heap.size 0 0/\Two v2 (v1.heap.size+1) 0 0:=Two.at2 (t:=47) (t':=47) hb2;obtain ⟨U0,U1⟩:=U01;obtain ⟨⟨_,_⟩,⟨_,_⟩,_⟩:=id U0;obtain ⟨⟨_,_⟩,⟨_,_⟩,_⟩:=id U1)
       |(have U0:Two v2 v1.heap.size 0 0:=Two.at (t:=47) hb2;obtain ⟨⟨_,_⟩,⟨_,_⟩,_⟩:=id U0)
       |skip
      clear hb2))
  all_goals
   go_wp2_with fail;go_meet
   refine ⟨_,_,rfl,rfl,?_,?_,?_,⟨?_,?_⟩,zFo (by assumption)⟩
   ·repeat (first|with_reducible exact U0|with_reducible exact U1|(with_reducible refine Two.newAt ?_;first|rfl|(simp;done))|with_reducible refine Two.set (u:=0) (v:=0) ?_|(with_reducible refine Two.other ?_ (by omega))|with_reducible refine Two.alloc ?_)
   ·repeat (first|with_reducible exact U0|with_reducible exact U1|(with_reducible refine Two.newAt ?_;first|rfl|(simp;done))|with_reducible refine Two.set (u:=0) (v:=0) ?_|(with_reducible refine Two.other ?_ (by omega))|with_reducible refine Two.alloc ?_)
   ·omega
   ·omega
   ·omega
 case rest =>
  obtain ⟨b6,b7,rfl,rfl,T6,T7,hne,⟨hl6,hl7⟩,hBc⟩:=hcut;obtain ⟨⟨⟨c0,c1,c2,c3⟩,_,z0⟩,⟨⟨e0,e1,e2,e3⟩,_,z1⟩,R,⟨_,_,_,_⟩,z2⟩:=zAw (bt B2.out hBc);have FR:=zAc (zAw (bt B2.out hBc)).2.2;have Hc:=zAc (bt (zCa _ _ _ _ _ _ _ _ _) (bt B2.out hBc));clear hBc B2 M1 M2 R;have HM':=HM.out;have HN':=HN.out;have HV:=zAc (@zYx x y a b p q c d);clear HM HN h h2;generalize x+a-1=X1 at T6 HM' HN' HV;generalize y+b-1=Y1 at T6 HM' HN' HV;generalize p+c-1=X2 at T7 HM' HN' HV;generalize q+d-1=Y2 at T7 HM' HN' HV;have HM:=zAc HM';have HN:=zAc HN';clear HM' HN';obtain ⟨⟨k0,k1⟩,_,z6⟩:=T6;obtain ⟨⟨l0,l1⟩,_,z7⟩:=T7;have hmx:=zVt;have hmn:=zVr;go_wp2_with fail;refine (zGu _ _ _ _ _ HN.out.1.1.2 HN.out.2.1.2 HN.out.1.2.1 HN.out.2.2.1).mono ?_;rintro e w3 ⟨rfl,hb3⟩;have B3:=zAc (bt Hc.out (bt (zA5 _ _ _) hb3));have F3:=zAc (FR.out.kept (bt (zA5 _ _ _) hb3));clear hb3;cases hm:huB x y a b p q c d
  ·go_wp2_with fail;refine (zBs (c:=false) _ (HM.out.symm.trans hm)).mono ?_;rintro e w4 ⟨rfl,hb4⟩;obtain ⟨n0,n1,n2,n3⟩:=(zA2 hb4).1;obtain ⟨⟨r0,r1,r2,r3⟩,⟨f0,f1,f2,f3⟩,zr⟩:=F3.out.kept (bt (zAk _ _) hb4);have B4:=zAc (bt B3.out (bt (zAk _ _) hb4));clear hb4;go_wp2_with fail;refine bodyPost_ret (v:=.agg #[O ii 0,O ii 0,O ii 0,O ii 0]) (by simp [results,Tryz.results189,go_sem,r0,r1,r2,r3]) rfl ⟨by rw [zQ8 hm];rfl,?_⟩;exact zFw B4.out (by omega)
  ·go_wp2_with fail;refine (zBs (c:=true) _ (HM.out.symm.trans hm)).mono ?_;rintro e w4 ⟨rfl,hb4⟩;obtain ⟨n0,n1,n2,n3⟩:=(zA2 hb4).1;obtain ⟨⟨r0,r1,r2,r3⟩,⟨f0,f1,f2,f3⟩,zr⟩:=F3.out.kept (bt (zAk _ _) hb4);have B4:=zAc (bt B3.out (bt (zAk _ _) hb4));clear hb4;go_wp2_with fail;refine bodyPost_ret (v:=.agg #[O ii (min x p),O ii (min y q),O ii (max X1 X2-min x p+1),O ii (max Y1 Y2-min y q+1)]) (by simp [results,Tryz.results189,go_sem,r0,r1,r2,r3]) rfl ⟨by rw [HV.out hm];rfl,?_⟩;exact zFw B4.out (by omega)
theorem zTz (x y a b p q c d:Int) (w:World) :
 Calls pg 189 #[.agg #[O ii x,O ii y,O ii a,O ii b],.agg #[O ii p,O ii q,O ii c,O ii d]] w fun e w'=>e = .returned (huV x y a b p q c d)/\Below w.heap.size w w':=by
 cases h:may x y a b
 ·exact zTy x y a b p q c d w h
 ·cases h2:may p q c d
  ·exact zTx x y a b p q c d w h h2
  ·exact zTv x y a b p q c d w h h2
end Go.Proofs.YthiafmlgialbnaaGreatDoor
