import Derived.Test.YthiafmlgialbnaaGreatDoorPRun
set_option linter.all false
set_option maxRecDepth 1000000
set_option maxHeartbeats 64000000
open Go.Proofs.Tryz
open Go.Proofs.Tryz renaming prog->pg
open Go.Value renaming int->O
open Go.IntKind renaming i64->ii
namespace Go.Proofs.YthiafmlgialbnaaGreatDoor
open Go.RowKit Go.Shelf
attribute [local go_sem] Oper.semAt_some
theorem eqC (a b u v:Int) (w:World):(binOp .eql 47 (cel a b) (cel u v)).run pg w = .ok (.bool (decide (a=u)&&decide (b=v))) w:=by
 by_cases h1:a=u
 ·subst h1
  by_cases h2:b=v
  ·subst h2;go_simp
  ·go_simp
 ·go_simp
theorem neC (a b u v:Int) (w:World):(binOp .neq 47 (cel a b) (cel u v)).run pg w = .ok (.bool !(decide (a=u)&&decide (b=v))) w:=by
 by_cases h1:a=u
 ·subst h1
  by_cases h2:b=v
  ·subst h2;go_simp
  ·go_simp
 ·go_simp
def bX (W kx d:Int):Int:=if d=0 then kx*8+rS W kx-1 else kx*8
def bY (H ky d:Int):Int:=if d=0 then ky*8 else ky*8+rS H ky-1
theorem zI5 {S:Int->Int->Bool} {W H kx ky d:Int} (hW:1<=W/\W<=128) (hH:1<=H/\H<=128) (hS:∀u v,S u v=true->(0<=u/\u<W)/\0<=v/\v<H) (hr:rB W H kx ky=true) (hd:d=0\/d=1) {i:Nat} (hi:i<8) (ho:opB S d (bX W kx d) (bY H ky d) i=true) :
 (clx d (bX W kx d) i/8=kx/\cly d (bY H ky d) i/8=ky)/\¬(sX (clx d (bX W kx d) i) (cly d (bY H ky d) i) d/8=kx/\sY (clx d (bX W kx d) i) (cly d (bY H ky d) i) d/8=ky)/\(i:Int)<(if d=0 then rS H ky else rS W kx)/\
  (0<=clx d (bX W kx d) i/\clx d (bX W kx d) i<=128)/\(0<=cly d (bY H ky d) i/\cly d (bY H ky d) i<=128)/\(0<=sX (clx d (bX W kx d) i) (cly d (bY H ky d) i) d/\sX (clx d (bX W kx d) i) (cly d (bY H ky d) i) d<=128)/\0<=sY (clx d (bX W kx d) i) (cly d (bY H ky d) i) d/\sY (clx d (bX W kx d) i) (cly d (bY H ky d) i) d<=128:=by
 obtain ⟨hx,hy⟩:=(zBp hW hH).1 hr;unfold opB lg at ho;rw [Bool.and_eq_true,Bool.and_eq_true,Bool.and_eq_true] at ho;obtain ⟨h1,h2,h3,-⟩:=ho;have a1:=hS _ _ h2;have a2:=hS _ _ h3;rw [zEr h1,zEq h1] at a2 ⊢;rcases hd with rfl|rfl
 ·simp only [clx,cly,bX,bY,if_true,rS,dX,dY,Int.toNat_zero] at *;omega
 ·simp only [clx,cly,bX,bY,if_neg (show ¬(1:Int)=0 by decide),rS,dX,dY,show (1:Int).toNat=1 from rfl] at *;omega
def zRh (S:Int->Int->Bool) (W H kx ky d:Int):List Q4:=if rB W H kx ky=true/\(d=0\/d=1) then (zBi (opB S d (bX W kx d) (bY H ky d)) 8).1.map (rrq d (bX W kx d) (bY H ky d)) else []
theorem zNo (w:World):Rq 49 (w.alloc (.cells #[] 49)) (.slice (some ⟨w.heap.size,0,none⟩) 0 0) []:=
 ⟨rfl,.inr ⟨w.heap.size,0,_,rfl,Nat.zero_le _,heap_alloc_new w _,Nat.le_refl _,by decide,rfl,rfl⟩⟩
theorem zUd {w:World} {wd ht:Nat} (S:Int->Int->Bool) (kx ky d:Int) (a:Option Addr) (n cap:Nat) (hW:(1:Int)<=(wd:Nat)/\((wd:Nat):Int)<=128) (hH:(1:Int)<=(ht:Nat)/\((ht:Nat):Int)<=128)
 (hS:∀u v,S u v=true->(0<=u/\u<(wd:Nat))/\0<=v/\v<(ht:Nat))
 (HSt:∀wx,Below w.heap.size w wx->∀x y,Calls pg 146 #[gdv wd ht (.slice a n cap),cel x y,O ii d] wx fun e w'=>e = .returned (.tuple #[cel (if lg S x y d=true then sX x y d else 0) (if lg S x y d=true then sY x y d else 0),.bool (lg S x y d)])/\Below wx.heap.size wx w') :
 Calls pg 142 #[gdv wd ht (.slice a n cap),cel kx ky,O ii d] w fun e w'=>∃lv,e = .returned lv/\Rq 49 w' lv (zRh S wd ht kx ky d)/\Below w.heap.size w w'/\∀g,lv.ownBlock=some g->w.heap.size<=g:=by
 obtain ⟨V,hV⟩:=ex ((w.alloc (.cells #[O ii (wd:Nat),O ii (ht:Nat),.slice a n cap] 81)).alloc (.cells #[O ii kx,O ii ky] 47));have B0:Below w.heap.size w V:=by rw [<-hV];exact zA5 _ _ _
 have G0:GB V w.heap.size wd ht (.slice a n cap):=by rw [<-hV];exact (GB.new w wd ht _).upto (zAk _ _)
 have T0:Two V (w.heap.size+1) kx ky:=by rw [<-hV];exact Two.newAt (by simp)
 obtain ⟨rx,ry,rw',rh,hrv⟩:=zP9 wd ht kx ky;have HRe:=zAc (zG5 (w:=V) wd ht kx ky hW hH);rw [hrv] at HRe;have HV:=zAc hV;have HB:=zAc B0;have HSt':=zAc HSt;obtain ⟨⟨c0,c1⟩,c2⟩:=G0.c;obtain ⟨⟨d0,d1⟩,-,-⟩:=id T0;clear hV B0 HSt;cases hr:rB wd ht kx ky
 ·rw [hr] at HRe;rw [show zRh S wd ht kx ky d=[] by simp [zRh,hr]];clear hS hrv hr;go_enter func142,ntmps142;go_wp2_with (rw [HV.out]);refine HRe.out.mono ?_;rintro e w1 ⟨rfl,hb1⟩;have HE:=zAc (show ∃lv,Ending.returned (Value.slice (some ⟨w1.heap.size+1,0,none⟩) 0 0) = .returned lv/\Rq 49 ((w1.alloc (.cells #[O ii rx,O ii ry,O ii rw',O ii rh] 49)).alloc (.cells #[] 49)) lv []/\Below w.heap.size w ((w1.alloc (.cells #[O ii rx,O ii ry,O ii rw',O ii rh] 49)).alloc (.cells #[] 49))/\∀g,lv.ownBlock=some g->w.heap.size<=g from ⟨_,rfl,by have:=zNo (w1.alloc (.cells #[O ii rx,O ii ry,O ii rw',O ii rh] 49));simpa using this,bt (bt HB.out hb1) (zA5 _ _ _),fun g e=>by cases e;have:=(bt HB.out hb1).size;show w.heap.size<=w1.heap.size+1;omega⟩);clear hb1 c0 c1 c2 d0 d1;go_wp2_with fail;refine bodyPost_ret (v:=.slice (some ⟨w1.heap.size+1,0,none⟩) 0 0) (by simp [results,Tryz.results142,go_sem]) rfl ?_;exact HE.out
 ·rw [hr] at HRe
  by_cases hd:d=0\/d=1
  ·rcases hd with rfl|rfl
   ·have hrr:(rx=kx*8/\ry=ky*8)/\rw'=rS wd kx/\rh=rS ht ky:=by
     simp only [rV,hr,if_true,Value.agg.injEq,Array.mk.injEq,List.cons.injEq,Value.int.injEq,true_and,and_true] at hrv;omega
    obtain ⟨hkx,hky⟩:=(zBp hW hH).1 hr;have hw8:=zHv hW hkx;have hh8:=zHv hH hky;obtain ⟨a1,ha1⟩:∃a,rx+rw'=a:=⟨_,rfl⟩
    obtain ⟨a2,ha2⟩:∃a,ry+rh=a:=⟨_,rfl⟩
    obtain ⟨b1,hb1⟩:∃a,a1-1=a:=⟨_,rfl⟩
    obtain ⟨b2,hb2⟩:∃a,a2-1=a:=⟨_,rfl⟩
    have k1:IntKind.i64.wrap (rx+rw')=a1:=by rw [IntKind.wrap_i64];omega
    have k2:IntKind.i64.wrap (ry+rh)=a2:=by rw [IntKind.wrap_i64];omega
    have k3:IntKind.i64.wrap (a1-1)=b1:=by rw [IntKind.wrap_i64];omega
    have k4:IntKind.i64.wrap (a2-1)=b2:=by rw [IntKind.wrap_i64];omega
    have hop:=fun i (hi:i<8)=>zI5 (S:=S) (d:=0) hW hH hS hr (.inl rfl) (i:=i) hi;have hXe:bX wd kx 0=b1:=by simp only [bX,if_true];omega
    have hYe:bY ht ky 0=ry:=by simp only [bY,if_true];omega
    have hdl:zRh S wd ht kx ky 0=(zBi (opB S 0 b1 ry) 8).1.map (rrq 0 b1 ry):=by rw [zRh,if_pos ⟨hr,.inl rfl⟩,hXe,hYe]
    rw [hXe,hYe] at hop;rw [hdl];have hbd:(0<=rx/\rx<=128)/\(0<=ry/\ry<=128)/\(0<=b1/\b1<=128)/\0<=b2/\b2<=128:=by omega
    have Hop:=zAc hop;have Hbd:=zAc hbd;clear hop hbd hdl hXe hYe hrr hkx hky hw8 hh8 ha1 ha2 hb1 hb2 hrv hr hS;obtain ⟨op,hopd⟩:=ex (opB S 0 b1 ry);rw [hopd] at Hop ⊢;go_enter func142,ntmps142;go_wp2_with (rw [HV.out]);refine HRe.out.mono ?_;rintro e w1 ⟨rfl,hb1'⟩;obtain ⟨Y0,hY0⟩:=ex (w1.alloc (.cells #[O ii rx,O ii ry,O ii rw',O ii rh] 49));have BY0:Below w1.heap.size w1 Y0:=by rw [<-hY0];exact zAk _ _
    have FY0:Four Y0 w1.heap.size rx ry rw' rh:=by rw [<-hY0];exact Four.new12 _ _ _ _ _ _
    have zY0:Y0.heap.size=w1.heap.size+1:=by rw [<-hY0];simp
    have GY0:=(G0.upto hb1').upto BY0;have TY0:=(T0.kept hb1').kept BY0;have HBY:=zAc (bt (bt HB.out hb1') BY0);have HK:Hid (∀wx,Below Y0.heap.size Y0 wx->((wx.cell? ⟨w1.heap.size,0,none⟩=some (O ii rx)/\wx.cell? ⟨w1.heap.size,1,none⟩=some (O ii ry)/\wx.cell? ⟨w1.heap.size,2,none⟩=some (O ii rw')/\wx.cell? ⟨w1.heap.size,3,none⟩=some (O ii rh))/\((wx.cell? ⟨w.heap.size,0,none⟩=some (O ii (wd:Nat))/\wx.cell? ⟨w.heap.size,1,none⟩=some (O ii (ht:Nat)))/\wx.cell? ⟨w.heap.size,2,none⟩=some (.slice a n cap))/\Two wx (w.heap.size+1) kx ky)):=zAc fun wx q=>⟨(FY0.kept q).1,(GY0.upto q).c,TY0.kept q⟩
    have E0:=zNo Y0;have HY0:=zAc hY0;have HzY:=zAc zY0;clear hb1' hY0 BY0 FY0 GY0 TY0 zY0 c0 c1 c2 d0 d1 G0 T0;go_wp2_with (rw [HY0.out]);go_loopw [9,10,11] (fun u o v wr=>∃(i m:Nat) (ga:Option Addr) (cp:Nat),u = .slice ga m cp/\o = .bool (zBi op i).2/\v = O ii (i:Nat)/\i<=8/\(Rq 49 wr (.slice ga m cp) ((zBi op i).1.map (rrq 0 b1 ry))/\∀g,(Value.slice ga m cp).ownBlock=some g->Y0.heap.size<=g)/\Below Y0.heap.size Y0 wr) (fun _ _ v _=>8-(intOf v).toNat)
    case atStart=>exact ⟨0,0,_,0,rfl,rfl,rfl,Nat.zero_le _,⟨E0,fun g e=>by cases e;exact Nat.le_refl _⟩,zAk _ _⟩
    case round =>
     clear E0;obtain ⟨i,m,ga,cp,rfl,rfl,rfl,hi8,⟨hrow,hown⟩,hbl⟩:=hrel
     by_cases hlt:i<8
     ·have hlI:((i:Nat):Int)<8:=by omega
      have hiI:(0:Int)<=(i:Nat)/\((i:Nat):Int)<=8:=by omega
      obtain ⟨⟨q0,q1,q2,q3⟩,⟨⟨g0,g1⟩,g2⟩,hTk⟩:=HK.out wr hbl;have hbd:=Hbd.out;obtain ⟨ci,hci⟩:∃e,ry+((i:Nat):Int)=e:=⟨_,rfl⟩
      obtain ⟨di,hdi⟩:∃e,rx+((i:Nat):Int)=e:=⟨_,rfl⟩
      have k5:IntKind.i64.wrap (ry+((i:Nat):Int))=ci:=by rw [IntKind.wrap_i64];omega
      have k6:IntKind.i64.wrap (rx+((i:Nat):Int))=di:=by rw [IntKind.wrap_i64];omega
      obtain ⟨V0,hV0⟩:=ex (wr.alloc (.cells #[O ii b1,O ii ci] 47));have BV0:Below wr.heap.size wr V0:=by rw [<-hV0];exact zAk _ _
      have TV0:Two V0 wr.heap.size b1 ci:=by rw [<-hV0];exact Two.newAt rfl
      obtain ⟨Vc,hVc⟩:=ex (V0);have BVc:Below wr.heap.size wr Vc:=by rw [<-hVc];exact BV0
      have TVc:Two Vc wr.heap.size b1 ci:=by rw [<-hVc];exact TV0
      have hcx:clx 0 b1 i=b1:=by simp only [clx,if_true];try omega
      have hcy:cly 0 ry i=ci:=by simp only [cly,if_true];try omega
      obtain ⟨ob,hob⟩:=ex (op i);have hlg:lg S b1 ci 0=ob:=by rw [<-hob,<-hopd,opB,hcx,hcy]
      have hfor:=Hop.out i hlt;rw [hcx,hcy,hob] at hfor;obtain ⟨⟨e0,e1,e2,e3⟩,⟨⟨e4,e5⟩,e6⟩,-⟩:=HK.out Vc (bt hbl BVc);obtain ⟨⟨t0,t1⟩,-,-⟩:=id TVc;have HS1:=zAc (HSt'.out Vc (bt HBY.out (bt hbl BVc)) b1 ci);rw [hlg] at HS1;have Hrow:=zAc (hrow.upto BVc);have Hown:=zAc hown;have Hbl:=zAc (bt hbl BVc);have HTc:=zAc TVc;have Hfor:=zAc hfor;have HVc:=zAc hVc;have HV0:=zAc hV0;have Hob:=zAc hob;have Hrq:=zAc (show b1=b1/\ry+((i:Nat):Int)=ci/\(1:Int)=1/\((1:Nat):Int)=1 from ⟨rfl,hci,rfl,rfl⟩);clear hbd hci hdi hrow hown hbl BVc TVc hcx hcy hob hlg hfor hVc hTk hV0 BV0 TV0;cases ob
      ·rw [if_neg (by decide),if_neg (by decide)] at HS1;go_wp2_with (rw [HV0.out,HVc.out]);refine HS1.out.mono ?_;rintro e w2 ⟨rfl,hb2⟩;obtain ⟨V2,hV2⟩:=ex (w2.alloc (.cells #[O ii 0,O ii 0] 47));have BV2:Below Vc.heap.size Vc V2:=bt hb2 (by rw [<-hV2];exact zAk _ _);have HV2:=zAc hV2;have HB2:=zAc BV2;clear hb2 BV2 hV2 q0 q1 q2 q3 g0 g1 g2 e0 e1 e2 e3 e4 e5 e6 t0 t1 k1 k2 k3 k4 k5 k6;go_wp2_with fail;rw [HV2.out];have hne:=zAq V2;refine zAh (by kernel_rfl) (by kernel_rfl) ?_;repeat (go_big_quiet_step (fail))
       refine wpQuiet_nil ?_;rintro _ ⟨nn,rfl⟩;have HE:Hid (∃(i' m':Nat) (ga':Option Addr) (cp':Nat),(Value.slice ga m cp) = .slice ga' m' cp'/\(Value.bool false) = .bool (zBi op i').2/\(Value.int .i64 (((i:Nat):Int)+1)) = O ii (i':Nat)/\i'<=8/\(Rq 49 nn.w (.slice ga' m' cp') ((zBi op i').1.map (rrq 0 b1 ry))/\∀g,(Value.slice ga' m' cp').ownBlock=some g->Y0.heap.size<=g)/\Below Y0.heap.size Y0 nn.w):=zAc ⟨i+1,m,ga,cp,rfl,by rw [zDn Hob.out],by push_cast;rfl,by omega,⟨by rw [zDn Hob.out];exact (Hrow.out.upto HB2.out).upto nn.h,Hown.out⟩,bt Hbl.out (bt HB2.out nn.h)⟩;clear hne Hrow Hbl HB2;go_wp2_with fail;go_roundw
       case rel=>exact HE.out
       case measure=>simp [intOf];omega
      ·obtain ⟨⟨f1,f2⟩,f3,-,f5,f6,f7,f8⟩:=Hfor.out rfl;rw [if_pos rfl,if_pos rfl] at HS1;obtain ⟨sx,hsx⟩:∃e,sX b1 ci 0=e:=⟨_,rfl⟩
       obtain ⟨sy,hsy⟩:∃e,sY b1 ci 0=e:=⟨_,rfl⟩
       rw [hsx,hsy] at HS1 f3;rw [hsx] at f7;rw [hsy] at f8;have HO1:=zAc (fun wx=>zCo sx sy (zAx (by omega)) (zAx (by omega)) wx);have HO2:=zAc (fun wx=>zCo b1 ci (zAx (by omega)) (zAx (by omega)) wx);rw [f1,f2] at HO2;obtain ⟨tx8,htx⟩:∃e,sx/8=e:=⟨_,rfl⟩
       obtain ⟨ty8,hty⟩:∃e,sy/8=e:=⟨_,rfl⟩
       rw [htx,hty] at HO1 f3
       have hne8:(decide (tx8=kx)&&decide (ty8=ky))=false:=by
        rw [Bool.and_eq_false_iff,decide_eq_false_iff_not,decide_eq_false_iff_not]
        by_cases h:tx8=kx
        ·exact .inr (fun h2=>f3 ⟨h,h2⟩)
        ·exact .inl h
       clear hsx hsy htx hty f1 f2 f3 f5 f6 f7 f8;go_wp2_with (rw [HV0.out,HVc.out]);refine HS1.out.mono ?_;rintro e w2 ⟨rfl,hb2⟩;obtain ⟨V2,hV2⟩:=ex (w2.alloc (.cells #[O ii sx,O ii sy] 47));have BV2:Below Vc.heap.size Vc V2:=bt hb2 (by rw [<-hV2];exact zAk _ _);have TV2:Two V2 w2.heap.size sx sy:=by rw [<-hV2];exact Two.newAt rfl
       have TC2:=HTc.out.kept BV2;have TK2:=(HK.out V2 (bt Hbl.out BV2)).2.2;have HV2:=zAc hV2;have HB2:=zAc BV2;clear hb2 BV2 hV2 q0 q1 q2 q3 g0 g1 g2 e0 e1 e2 e3 e4 e5 e6 t0 t1 k1 k2 k3 k4 k5 k6;go_wp2_with fail;rw [HV2.out];obtain ⟨y0,y1⟩:=TV2.lat;obtain ⟨y2,y3⟩:=TC2.lat;obtain ⟨y4,y5⟩:=TK2.lat;have hne:=zAq V2;have hce:∀wx,(binOp .eql 47 (cel tx8 ty8) (cel kx ky)).run pg wx = .ok (.bool false) wx:=fun wx=>(eqC _ _ _ _ wx).trans (by rw [hne8]);have hcn:∀wx,(binOp .neq 47 (cel kx ky) (cel kx ky)).run pg wx = .ok (.bool false) wx:=fun wx=>(neC _ _ _ _ wx).trans (by simp);refine zAh (by kernel_rfl) (by kernel_rfl) ?_;repeat (go_big_quiet_step (first|(go_at_call_of 33 sx;exact zAi (HO1.out _))|(go_at_call_of 33 b1;exact zAi (HO2.out _))))
       refine wpQuiet_nil ?_;rintro _ ⟨nn,rfl⟩;have hrow3:=(Hrow.out.upto HB2.out).upto nn.h;have TC3:=TC2.kept nn.h;obtain ⟨⟨z0,z1⟩,-,-⟩:=id TC3;have hbl3:=bt Hbl.out (bt HB2.out nn.h);have hrok:=zDd op i;obtain ⟨gb,hgb⟩:=ex ((zBi op i).2);rw [hgb];clear y0 y1 y2 y3 y4 y5 hne TV2 TC2 TK2 TC3 Hrow Hbl HB2 HO1 HO2 HV2 hce hcn hne8 HS1 HTc HV0 HVc;cases gb
       ·have hnew:=zEs Hob.out hgb;obtain ⟨a9,cp9,hv9⟩:=hrow3.slice4;have hm9:((zBi op i).1.map (rrq 0 b1 ry)).length<=8:=by have:=hrok.2.2;simp;omega
        obtain ⟨v',w3,rA,rR,rO,rT⟩:=hrow3.push4 (st:=99) Tryz.underlying99 zMc ⟨b1,ci,1,1⟩ (by omega);obtain ⟨a2',cap2,hv2⟩:=rR.slice4;obtain ⟨mm,hmm⟩:=ex (((zBi op i).1.map (rrq 0 b1 ry)++[(⟨b1,ci,1,1⟩:Q4)]).length);rw [hmm] at hv2;subst hv2;have hrq:rrq 0 b1 ry (i,1)=⟨b1,ci,1,1⟩:=by simp only [rrq,if_true,Q4.mk.injEq];exact Hrq.out
        have HE:Hid (∃(i' m':Nat) (ga':Option Addr) (cp':Nat),(Value.slice a2' mm cap2) = .slice ga' m' cp'/\(Value.bool true) = .bool (zBi op i').2/\(Value.int .i64 (((i:Nat):Int)+1)) = O ii (i':Nat)/\i'<=8/\(Rq 49 w3 (.slice ga' m' cp') ((zBi op i').1.map (rrq 0 b1 ry))/\∀g,(Value.slice ga' m' cp').ownBlock=some g->Y0.heap.size<=g)/\Below Y0.heap.size Y0 w3):=zAc ⟨i+1,_,_,_,rfl,by rw [hnew],by push_cast;rfl,by omega,⟨by rw [hnew];simp only [List.map_append,List.map_cons,List.map_nil,hrq];exact rR,fun g e=>by
         rcases rO g e with q|q
         ·exact Hown.out g q
         ·have:=hbl3.size;omega⟩,hbl3.trans (rT.below (fun j e=>Hown.out j e) hbl3.size)⟩
        have HA:=zAc rA;clear rA rR rO rT hrow3 hbl3 hrok hgb hnew hv9 hm9 hrq hmm;go_wp2_with (at_builtin;refine zAv rfl _ _ 99 rfl _ _ rfl rfl HA.out ?_);go_roundw
        case rel=>exact HE.out
        case measure=>simp [intOf];omega
       ·obtain ⟨pre,a0,n0,hpe,hsum⟩:=hrok.1 hgb;have hon:=zGx Hob.out hgb hpe;rw [hpe,List.map_append,List.map_cons,List.map_nil] at hrow3;obtain ⟨g,cp9,hv9,hgl,hgo⟩:=hrow3.own_some;obtain ⟨L0,hL0⟩:=ex (pre.map (rrq 0 b1 ry));rw [hL0] at hrow3 hv9;simp only [Value.slice.injEq] at hv9;obtain ⟨rfl,rfl,rfl⟩:=hv9;have hgY:Y0.heap.size<=g:=Hown.out g rfl
        have hlen:(0:Int)<=(L0.length:Nat)/\((L0.length:Nat):Int)<=8:=by
         have h1:=hrok.2.2;rw [hpe] at h1;rw [<-hL0];simp at h1 ⊢;omega
        obtain ⟨⟨l0,l1,l2,l3⟩,lf⟩:=hrow3.lastq;have hnn:1<=n0/\n0<=8:=by have:=hrok.2.1 (a0,n0) (by rw [hpe];simp);simp at this;omega
        have hfl:(rrq 0 b1 ry (a0,n0)).b=(n0:Nat):=by simp only [rrq,if_true]
        rw [hfl] at l3;have hwr:IntKind.i64.wrap (((n0:Nat):Int)+1)=((n0:Nat):Int)+1:=by rw [IntKind.wrap_i64];omega
        have hwl:IntKind.i64.wrap ((L0.length:Nat):Int)=((L0.length:Nat):Int):=by rw [IntKind.wrap_i64];omega
        have hsq:=hrow3.setq (r':=rrq 0 b1 ry (a0,n0+1)) 3 (O ii (((n0:Nat):Int)+1)) (by decide) (by simp only [rrq,if_true,Q4.cs];rfl);have hT3:Turns (fun j=>j=g) nn.w (nn.w.setCell ⟨g,L0.length*4+3,none⟩ (O ii (((n0:Nat):Int)+1))):=Turns.set (S:=fun j=>j=g) nn.w (p:=⟨g,L0.length*4+3,none⟩) rfl _;have HE:Hid (∃(i' m':Nat) (ga':Option Addr) (cp':Nat),(Value.slice (some ⟨g,0,none⟩) (L0.length+1) cp) = .slice ga' m' cp'/\(Value.bool true) = .bool (zBi op i').2/\(Value.int .i64 (((i:Nat):Int)+1)) = O ii (i':Nat)/\i'<=8/\(Rq 49 (nn.w.setCell ⟨g,L0.length*4+3,none⟩ (O ii (((n0:Nat):Int)+1))) (.slice ga' m' cp') ((zBi op i').1.map (rrq 0 b1 ry))/\∀g,(Value.slice ga' m' cp').ownBlock=some g->Y0.heap.size<=g)/\Below Y0.heap.size Y0 (nn.w.setCell ⟨g,L0.length*4+3,none⟩ (O ii (((n0:Nat):Int)+1)))):=zAc ⟨i+1,_,_,_,rfl,by rw [hon],by push_cast;rfl,by omega,⟨by rw [hon];simp only [List.map_append,List.map_cons,List.map_nil,hL0];exact hsq,Hown.out⟩,hbl3.trans (hT3.below (fun j e=>by omega) hbl3.size)⟩;have z3':=lf (L0.length*4+3);have HlenI:=zAc hlen;clear hsq hT3 hrow3 hbl3 hrok hgb hon hpe hL0 hgl hgo hgY lf hfl z0 z1 hnn hsum;go_wp2_with fail;go_roundw
        case rel=>exact HE.out
        case measure=>simp [intOf];omega
     ·have hle:¬((i:Nat):Int)<8:=by omega
      have hi:i=8:=by omega
      have HE:=zAc (show ∃lv,Ending.returned (Value.slice ga m cp) = .returned lv/\Rq 49 wr lv ((zBi op 8).1.map (rrq 0 b1 ry))/\Below w.heap.size w wr/\∀g,lv.ownBlock=some g->w.heap.size<=g from ⟨_,rfl,by rw [hi] at hrow;exact hrow,bt HBY.out hbl,fun g e=>by have:=hown g e;have:=HBY.out.size;omega⟩);clear hi hrow hown hbl;go_wp2_with fail;refine bodyPost_ret (v:=.slice ga m cp) (by simp [results,Tryz.results142,go_sem]) rfl ?_;exact HE.out
   ·have hrr:(rx=kx*8/\ry=ky*8)/\rw'=rS wd kx/\rh=rS ht ky:=by
     simp only [rV,hr,if_true,Value.agg.injEq,Array.mk.injEq,List.cons.injEq,Value.int.injEq,true_and,and_true] at hrv;omega
    obtain ⟨hkx,hky⟩:=(zBp hW hH).1 hr;have hw8:=zHv hW hkx;have hh8:=zHv hH hky;obtain ⟨a1,ha1⟩:∃a,rx+rw'=a:=⟨_,rfl⟩
    obtain ⟨a2,ha2⟩:∃a,ry+rh=a:=⟨_,rfl⟩
    obtain ⟨b1,hb1⟩:∃a,a1-1=a:=⟨_,rfl⟩
    obtain ⟨b2,hb2⟩:∃a,a2-1=a:=⟨_,rfl⟩
    have k1:IntKind.i64.wrap (rx+rw')=a1:=by rw [IntKind.wrap_i64];omega
    have k2:IntKind.i64.wrap (ry+rh)=a2:=by rw [IntKind.wrap_i64];omega
    have k3:IntKind.i64.wrap (a1-1)=b1:=by rw [IntKind.wrap_i64];omega
    have k4:IntKind.i64.wrap (a2-1)=b2:=by rw [IntKind.wrap_i64];omega
    have hop:=fun i (hi:i<8)=>zI5 (S:=S) (d:=1) hW hH hS hr (.inr rfl) (i:=i) hi;have hXe:bX wd kx 1=rx:=by simp only [bX,if_neg (show ¬(1:Int)=0 by decide)];omega
    have hYe:bY ht ky 1=b2:=by simp only [bY,if_neg (show ¬(1:Int)=0 by decide)];omega
    have hdl:zRh S wd ht kx ky 1=(zBi (opB S 1 rx b2) 8).1.map (rrq 1 rx b2):=by rw [zRh,if_pos ⟨hr,.inr rfl⟩,hXe,hYe]
    rw [hXe,hYe] at hop;rw [hdl];have hbd:(0<=rx/\rx<=128)/\(0<=ry/\ry<=128)/\(0<=b1/\b1<=128)/\0<=b2/\b2<=128:=by omega
    have Hop:=zAc hop;have Hbd:=zAc hbd;clear hop hbd hdl hXe hYe hrr hkx hky hw8 hh8 ha1 ha2 hb1 hb2 hrv hr hS;obtain ⟨op,hopd⟩:=ex (opB S 1 rx b2);rw [hopd] at Hop ⊢;go_enter func142,ntmps142;go_wp2_with (rw [HV.out]);refine HRe.out.mono ?_;rintro e w1 ⟨rfl,hb1'⟩;obtain ⟨Y0,hY0⟩:=ex (w1.alloc (.cells #[O ii rx,O ii ry,O ii rw',O ii rh] 49));have BY0:Below w1.heap.size w1 Y0:=by rw [<-hY0];exact zAk _ _
    have FY0:Four Y0 w1.heap.size rx ry rw' rh:=by rw [<-hY0];exact Four.new12 _ _ _ _ _ _
    have zY0:Y0.heap.size=w1.heap.size+1:=by rw [<-hY0];simp
    have GY0:=(G0.upto hb1').upto BY0;have TY0:=(T0.kept hb1').kept BY0;have HBY:=zAc (bt (bt HB.out hb1') BY0);have HK:Hid (∀wx,Below Y0.heap.size Y0 wx->((wx.cell? ⟨w1.heap.size,0,none⟩=some (O ii rx)/\wx.cell? ⟨w1.heap.size,1,none⟩=some (O ii ry)/\wx.cell? ⟨w1.heap.size,2,none⟩=some (O ii rw')/\wx.cell? ⟨w1.heap.size,3,none⟩=some (O ii rh))/\((wx.cell? ⟨w.heap.size,0,none⟩=some (O ii (wd:Nat))/\wx.cell? ⟨w.heap.size,1,none⟩=some (O ii (ht:Nat)))/\wx.cell? ⟨w.heap.size,2,none⟩=some (.slice a n cap))/\Two wx (w.heap.size+1) kx ky)):=zAc fun wx q=>⟨(FY0.kept q).1,(GY0.upto q).c,TY0.kept q⟩
    have E0:=zNo Y0;have HY0:=zAc hY0;have HzY:=zAc zY0;clear hb1' hY0 BY0 FY0 GY0 TY0 zY0 c0 c1 c2 d0 d1 G0 T0;go_wp2_with (rw [HY0.out]);go_loopw [9,10,11] (fun u o v wr=>∃(i m:Nat) (ga:Option Addr) (cp:Nat),u = .slice ga m cp/\o = .bool (zBi op i).2/\v = O ii (i:Nat)/\i<=8/\(Rq 49 wr (.slice ga m cp) ((zBi op i).1.map (rrq 1 rx b2))/\∀g,(Value.slice ga m cp).ownBlock=some g->Y0.heap.size<=g)/\Below Y0.heap.size Y0 wr) (fun _ _ v _=>8-(intOf v).toNat)
    case atStart=>exact ⟨0,0,_,0,rfl,rfl,rfl,Nat.zero_le _,⟨E0,fun g e=>by cases e;exact Nat.le_refl _⟩,zAk _ _⟩
    case round =>
     clear E0;obtain ⟨i,m,ga,cp,rfl,rfl,rfl,hi8,⟨hrow,hown⟩,hbl⟩:=hrel
     by_cases hlt:i<8
     ·have hlI:((i:Nat):Int)<8:=by omega
      have hiI:(0:Int)<=(i:Nat)/\((i:Nat):Int)<=8:=by omega
      obtain ⟨⟨q0,q1,q2,q3⟩,⟨⟨g0,g1⟩,g2⟩,hTk⟩:=HK.out wr hbl;have hbd:=Hbd.out;obtain ⟨ci,hci⟩:∃e,ry+((i:Nat):Int)=e:=⟨_,rfl⟩
      obtain ⟨di,hdi⟩:∃e,rx+((i:Nat):Int)=e:=⟨_,rfl⟩
      have k5:IntKind.i64.wrap (ry+((i:Nat):Int))=ci:=by rw [IntKind.wrap_i64];omega
      have k6:IntKind.i64.wrap (rx+((i:Nat):Int))=di:=by rw [IntKind.wrap_i64];omega
      obtain ⟨V0,hV0⟩:=ex (wr.alloc (.cells #[O ii b1,O ii ci] 47));have BV0:Below wr.heap.size wr V0:=by rw [<-hV0];exact zAk _ _
      have TV0:Two V0 wr.heap.size b1 ci:=by rw [<-hV0];exact Two.newAt rfl
      obtain ⟨⟨e0',e1',e2',e3'⟩,-,-⟩:=HK.out V0 (bt hbl BV0);obtain ⟨⟨t0',t1'⟩,⟨t2',t3'⟩,-⟩:=id TV0;obtain ⟨Vc,hVc⟩:=ex ((V0.setCell ⟨wr.heap.size,0,none⟩ (O ii di)).setCell ⟨wr.heap.size,1,none⟩ (O ii b2));have BVc:Below wr.heap.size wr Vc:=by rw [<-hVc];exact (BV0.setCell (p:=⟨wr.heap.size,0,none⟩) (Nat.le_refl _) _).setCell (p:=⟨wr.heap.size,1,none⟩) (Nat.le_refl _) _
      have TVc:Two Vc wr.heap.size di b2:=by rw [<-hVc];exact TV0.set
      have hcx:clx 1 rx i=di:=by simp only [clx,if_neg (show ¬(1:Int)=0 by decide)];try omega
      have hcy:cly 1 b2 i=b2:=by simp only [cly,if_neg (show ¬(1:Int)=0 by decide)];try omega
      obtain ⟨ob,hob⟩:=ex (op i);have hlg:lg S di b2 1=ob:=by rw [<-hob,<-hopd,opB,hcx,hcy]
      have hfor:=Hop.out i hlt;rw [hcx,hcy,hob] at hfor;obtain ⟨⟨e0,e1,e2,e3⟩,⟨⟨e4,e5⟩,e6⟩,-⟩:=HK.out Vc (bt hbl BVc);obtain ⟨⟨t0,t1⟩,-,-⟩:=id TVc;have HS1:=zAc (HSt'.out Vc (bt HBY.out (bt hbl BVc)) di b2);rw [hlg] at HS1;have Hrow:=zAc (hrow.upto BVc);have Hown:=zAc hown;have Hbl:=zAc (bt hbl BVc);have HTc:=zAc TVc;have Hfor:=zAc hfor;have HVc:=zAc hVc;have HV0:=zAc hV0;have Hob:=zAc hob;have Hrq:=zAc (show rx+((i:Nat):Int)=di/\b2=b2/\((1:Nat):Int)=1/\(1:Int)=1 from ⟨hdi,rfl,rfl,rfl⟩);clear hbd hci hdi hrow hown hbl BVc TVc hcx hcy hob hlg hfor hVc hTk hV0 BV0 TV0;cases ob
      ·rw [if_neg (by decide),if_neg (by decide)] at HS1;go_wp2_with (first|rw [HV0.out]|rw [HVc.out]);refine HS1.out.mono ?_;rintro e w2 ⟨rfl,hb2⟩;obtain ⟨V2,hV2⟩:=ex (w2.alloc (.cells #[O ii 0,O ii 0] 47));have BV2:Below Vc.heap.size Vc V2:=bt hb2 (by rw [<-hV2];exact zAk _ _);have HV2:=zAc hV2;have HB2:=zAc BV2;clear hb2 BV2 hV2 q0 q1 q2 q3 g0 g1 g2 e0 e1 e2 e3 e4 e5 e6 t0 t1 k1 k2 k3 k4 k5 k6 e0' e1' e2' e3' t0' t1' t2' t3';go_wp2_with fail;rw [HV2.out];have hne:=zAq V2;refine zAh (by kernel_rfl) (by kernel_rfl) ?_;repeat (go_big_quiet_step (fail))
       refine wpQuiet_nil ?_;rintro _ ⟨nn,rfl⟩;have HE:Hid (∃(i' m':Nat) (ga':Option Addr) (cp':Nat),(Value.slice ga m cp) = .slice ga' m' cp'/\(Value.bool false) = .bool (zBi op i').2/\(Value.int .i64 (((i:Nat):Int)+1)) = O ii (i':Nat)/\i'<=8/\(Rq 49 nn.w (.slice ga' m' cp') ((zBi op i').1.map (rrq 1 rx b2))/\∀g,(Value.slice ga' m' cp').ownBlock=some g->Y0.heap.size<=g)/\Below Y0.heap.size Y0 nn.w):=zAc ⟨i+1,m,ga,cp,rfl,by rw [zDn Hob.out],by push_cast;rfl,by omega,⟨by rw [zDn Hob.out];exact (Hrow.out.upto HB2.out).upto nn.h,Hown.out⟩,bt Hbl.out (bt HB2.out nn.h)⟩;clear hne Hrow Hbl HB2;go_wp2_with fail;go_roundw
       case rel=>exact HE.out
       case measure=>simp [intOf];omega
      ·obtain ⟨⟨f1,f2⟩,f3,-,f5,f6,f7,f8⟩:=Hfor.out rfl;rw [if_pos rfl,if_pos rfl] at HS1;obtain ⟨sx,hsx⟩:∃e,sX di b2 1=e:=⟨_,rfl⟩
       obtain ⟨sy,hsy⟩:∃e,sY di b2 1=e:=⟨_,rfl⟩
       rw [hsx,hsy] at HS1 f3;rw [hsx] at f7;rw [hsy] at f8;have HO1:=zAc (fun wx=>zCo sx sy (zAx (by omega)) (zAx (by omega)) wx);have HO2:=zAc (fun wx=>zCo di b2 (zAx (by omega)) (zAx (by omega)) wx);rw [f1,f2] at HO2;obtain ⟨tx8,htx⟩:∃e,sx/8=e:=⟨_,rfl⟩
       obtain ⟨ty8,hty⟩:∃e,sy/8=e:=⟨_,rfl⟩
       rw [htx,hty] at HO1 f3
       have hne8:(decide (tx8=kx)&&decide (ty8=ky))=false:=by
        rw [Bool.and_eq_false_iff,decide_eq_false_iff_not,decide_eq_false_iff_not]
        by_cases h:tx8=kx
        ·exact .inr (fun h2=>f3 ⟨h,h2⟩)
        ·exact .inl h
       clear hsx hsy htx hty f1 f2 f3 f5 f6 f7 f8;go_wp2_with (first|rw [HV0.out]|rw [HVc.out]);refine HS1.out.mono ?_;rintro e w2 ⟨rfl,hb2⟩;obtain ⟨V2,hV2⟩:=ex (w2.alloc (.cells #[O ii sx,O ii sy] 47));have BV2:Below Vc.heap.size Vc V2:=bt hb2 (by rw [<-hV2];exact zAk _ _);have TV2:Two V2 w2.heap.size sx sy:=by rw [<-hV2];exact Two.newAt rfl
       have TC2:=HTc.out.kept BV2;have TK2:=(HK.out V2 (bt Hbl.out BV2)).2.2;have HV2:=zAc hV2;have HB2:=zAc BV2;clear hb2 BV2 hV2 q0 q1 q2 q3 g0 g1 g2 e0 e1 e2 e3 e4 e5 e6 t0 t1 k1 k2 k3 k4 k5 k6 e0' e1' e2' e3' t0' t1' t2' t3';go_wp2_with fail;rw [HV2.out];obtain ⟨y0,y1⟩:=TV2.lat;obtain ⟨y2,y3⟩:=TC2.lat;obtain ⟨y4,y5⟩:=TK2.lat;have hne:=zAq V2;have hce:∀wx,(binOp .eql 47 (cel tx8 ty8) (cel kx ky)).run pg wx = .ok (.bool false) wx:=fun wx=>(eqC _ _ _ _ wx).trans (by rw [hne8]);have hcn:∀wx,(binOp .neq 47 (cel kx ky) (cel kx ky)).run pg wx = .ok (.bool false) wx:=fun wx=>(neC _ _ _ _ wx).trans (by simp);refine zAh (by kernel_rfl) (by kernel_rfl) ?_;repeat (go_big_quiet_step (first|(go_at_call_of 33 sx;exact zAi (HO1.out _))|(go_at_call_of 33 di;exact zAi (HO2.out _))))
       refine wpQuiet_nil ?_;rintro _ ⟨nn,rfl⟩;have hrow3:=(Hrow.out.upto HB2.out).upto nn.h;have TC3:=TC2.kept nn.h;obtain ⟨⟨z0,z1⟩,-,-⟩:=id TC3;have hbl3:=bt Hbl.out (bt HB2.out nn.h);have hrok:=zDd op i;obtain ⟨gb,hgb⟩:=ex ((zBi op i).2);rw [hgb];clear y0 y1 y2 y3 y4 y5 hne TV2 TC2 TK2 TC3 Hrow Hbl HB2 HO1 HO2 HV2 hce hcn hne8 HS1 HTc HV0 HVc;cases gb
       ·have hnew:=zEs Hob.out hgb;obtain ⟨a9,cp9,hv9⟩:=hrow3.slice4;have hm9:((zBi op i).1.map (rrq 1 rx b2)).length<=8:=by have:=hrok.2.2;simp;omega
        obtain ⟨v',w3,rA,rR,rO,rT⟩:=hrow3.push4 (st:=99) Tryz.underlying99 zMc ⟨di,b2,1,1⟩ (by omega);obtain ⟨a2',cap2,hv2⟩:=rR.slice4;obtain ⟨mm,hmm⟩:=ex (((zBi op i).1.map (rrq 1 rx b2)++[(⟨di,b2,1,1⟩:Q4)]).length);rw [hmm] at hv2;subst hv2;have hrq:rrq 1 rx b2 (i,1)=⟨di,b2,1,1⟩:=by simp only [rrq,if_neg (show ¬(1:Int)=0 by decide),Q4.mk.injEq];exact Hrq.out
        have HE:Hid (∃(i' m':Nat) (ga':Option Addr) (cp':Nat),(Value.slice a2' mm cap2) = .slice ga' m' cp'/\(Value.bool true) = .bool (zBi op i').2/\(Value.int .i64 (((i:Nat):Int)+1)) = O ii (i':Nat)/\i'<=8/\(Rq 49 w3 (.slice ga' m' cp') ((zBi op i').1.map (rrq 1 rx b2))/\∀g,(Value.slice ga' m' cp').ownBlock=some g->Y0.heap.size<=g)/\Below Y0.heap.size Y0 w3):=zAc ⟨i+1,_,_,_,rfl,by rw [hnew],by push_cast;rfl,by omega,⟨by rw [hnew];simp only [List.map_append,List.map_cons,List.map_nil,hrq];exact rR,fun g e=>by
         rcases rO g e with q|q
         ·exact Hown.out g q
         ·have:=hbl3.size;omega⟩,hbl3.trans (rT.below (fun j e=>Hown.out j e) hbl3.size)⟩
        have HA:=zAc rA;clear rA rR rO rT hrow3 hbl3 hrok hgb hnew hv9 hm9 hrq hmm;go_wp2_with (at_builtin;refine zAv rfl _ _ 99 rfl _ _ rfl rfl HA.out ?_);go_roundw
        case rel=>exact HE.out
        case measure=>simp [intOf];omega
       ·obtain ⟨pre,a0,n0,hpe,hsum⟩:=hrok.1 hgb;have hon:=zGx Hob.out hgb hpe;rw [hpe,List.map_append,List.map_cons,List.map_nil] at hrow3;obtain ⟨g,cp9,hv9,hgl,hgo⟩:=hrow3.own_some;obtain ⟨L0,hL0⟩:=ex (pre.map (rrq 1 rx b2));rw [hL0] at hrow3 hv9;simp only [Value.slice.injEq] at hv9;obtain ⟨rfl,rfl,rfl⟩:=hv9;have hgY:Y0.heap.size<=g:=Hown.out g rfl
        have hlen:(0:Int)<=(L0.length:Nat)/\((L0.length:Nat):Int)<=8:=by
         have h1:=hrok.2.2;rw [hpe] at h1;rw [<-hL0];simp at h1 ⊢;omega
        obtain ⟨⟨l0,l1,l2,l3⟩,lf⟩:=hrow3.lastq;have hnn:1<=n0/\n0<=8:=by have:=hrok.2.1 (a0,n0) (by rw [hpe];simp);simp at this;omega
        have hfl:(rrq 1 rx b2 (a0,n0)).a=(n0:Nat):=by simp only [rrq,if_neg (show ¬(1:Int)=0 by decide)]
        rw [hfl] at l2;have hwr:IntKind.i64.wrap (((n0:Nat):Int)+1)=((n0:Nat):Int)+1:=by rw [IntKind.wrap_i64];omega
        have hwl:IntKind.i64.wrap ((L0.length:Nat):Int)=((L0.length:Nat):Int):=by rw [IntKind.wrap_i64];omega
        have hsq:=hrow3.setq (r':=rrq 1 rx b2 (a0,n0+1)) 2 (O ii (((n0:Nat):Int)+1)) (by decide) (by simp only [rrq,if_neg (show ¬(1:Int)=0 by decide),Q4.cs];rfl);have hT3:Turns (fun j=>j=g) nn.w (nn.w.setCell ⟨g,L0.length*4+2,none⟩ (O ii (((n0:Nat):Int)+1))):=Turns.set (S:=fun j=>j=g) nn.w (p:=⟨g,L0.length*4+2,none⟩) rfl _;have HE:Hid (∃(i' m':Nat) (ga':Option Addr) (cp':Nat),(Value.slice (some ⟨g,0,none⟩) (L0.length+1) cp) = .slice ga' m' cp'/\(Value.bool true) = .bool (zBi op i').2/\(Value.int .i64 (((i:Nat):Int)+1)) = O ii (i':Nat)/\i'<=8/\(Rq 49 (nn.w.setCell ⟨g,L0.length*4+2,none⟩ (O ii (((n0:Nat):Int)+1))) (.slice ga' m' cp') ((zBi op i').1.map (rrq 1 rx b2))/\∀g,(Value.slice ga' m' cp').ownBlock=some g->Y0.heap.size<=g)/\Below Y0.heap.size Y0 (nn.w.setCell ⟨g,L0.length*4+2,none⟩ (O ii (((n0:Nat):Int)+1)))):=zAc ⟨i+1,_,_,_,rfl,by rw [hon],by push_cast;rfl,by omega,⟨by rw [hon];simp only [List.map_append,List.map_cons,List.map_nil,hL0];exact hsq,Hown.out⟩,hbl3.trans (hT3.below (fun j e=>by omega) hbl3.size)⟩;have z2':=lf (L0.length*4+2);have HlenI:=zAc hlen;clear hsq hT3 hrow3 hbl3 hrok hgb hon hpe hL0 hgl hgo hgY lf hfl z0 z1 hnn hsum;go_wp2_with fail;go_roundw
        case rel=>exact HE.out
        case measure=>simp [intOf];omega
     ·have hle:¬((i:Nat):Int)<8:=by omega
      have hi:i=8:=by omega
      have HE:=zAc (show ∃lv,Ending.returned (Value.slice ga m cp) = .returned lv/\Rq 49 wr lv ((zBi op 8).1.map (rrq 1 rx b2))/\Below w.heap.size w wr/\∀g,lv.ownBlock=some g->w.heap.size<=g from ⟨_,rfl,by rw [hi] at hrow;exact hrow,bt HBY.out hbl,fun g e=>by have:=hown g e;have:=HBY.out.size;omega⟩);clear hi hrow hown hbl;go_wp2_with fail;refine bodyPost_ret (v:=.slice ga m cp) (by simp [results,Tryz.results142,go_sem]) rfl ?_;exact HE.out
  ·have h0:¬d=0:=fun h=>hd (.inl h);have h1:¬d=1:=fun h=>hd (.inr h);have j0:decide (d=0)=false:=decide_eq_false h0;have j1:decide (d=1)=false:=decide_eq_false h1;have m0:(d != 0)=true:=by simpa using h0
   have m1:(d != 1)=true:=by simpa using h1
   rw [show zRh S wd ht kx ky d=[] by simp [zRh,h0,h1]];clear hS hrv hr hd;go_enter func142,ntmps142;go_wp2_with (rw [HV.out]);refine HRe.out.mono ?_;rintro e w1 ⟨rfl,hb1⟩;have HE:=zAc (show ∃lv,Ending.returned (Value.slice (some ⟨w1.heap.size+1,0,none⟩) 0 0) = .returned lv/\Rq 49 ((w1.alloc (.cells #[O ii rx,O ii ry,O ii rw',O ii rh] 49)).alloc (.cells #[] 49)) lv []/\Below w.heap.size w ((w1.alloc (.cells #[O ii rx,O ii ry,O ii rw',O ii rh] 49)).alloc (.cells #[] 49))/\∀g,lv.ownBlock=some g->w.heap.size<=g from ⟨_,rfl,by have:=zNo (w1.alloc (.cells #[O ii rx,O ii ry,O ii rw',O ii rh] 49));simpa using this,bt (bt HB.out hb1) (zA5 _ _ _),fun g e=>by cases e;have:=(bt HB.out hb1).size;show w.heap.size<=w1.heap.size+1;omega⟩);clear hb1 c0 c1 c2 d0 d1;go_wp2_with fail;refine bodyPost_ret (v:=.slice (some ⟨w1.heap.size+1,0,none⟩) 0 0) (by simp [results,Tryz.results142,go_sem]) rfl ?_;exact HE.out
attribute [local go_sem] Oper.semAt_some
theorem zVk {d X Y:Int} {r:Nat×Nat} (hd:d=0\/d=1) (hX:0<=X/\X<=1000) (hY:0<=Y/\Y<=1000) (h1:1<=r.2) (h2:r.1+r.2<=8) :
 (((rrq d X Y r).x+((rrq d X Y r).a-1)/2=(ptq d X Y r).x/\(rrq d X Y r).y+((rrq d X Y r).b-1)/2=(ptq d X Y r).y)/\(ptq d X Y r).a=sX (ptq d X Y r).x (ptq d X Y r).y d/\(ptq d X Y r).b=sY (ptq d X Y r).x (ptq d X Y r).y d)/\
   ((0<=(rrq d X Y r).x/\(rrq d X Y r).x<=1008)/\0<=(rrq d X Y r).y/\(rrq d X Y r).y<=1008)/\(1<=(rrq d X Y r).a/\(rrq d X Y r).a<=8)/\1<=(rrq d X Y r).b/\(rrq d X Y r).b<=8:=by
 obtain ⟨a,n⟩:=r;simp only at h1 h2;rcases hd with rfl|rfl
 ·simp only [ptq,rrq,clx,cly,if_true,true_and,and_true];omega
 ·simp only [ptq,rrq,clx,cly,if_neg (show ¬(1:Int)=0 by decide),true_and,and_true];omega
theorem zMg (w:World):Rq 122 (w.alloc (.cells #[] 122)) (.slice (some ⟨w.heap.size,0,none⟩) 0 0) []:=
 ⟨rfl,.inr ⟨w.heap.size,0,_,rfl,Nat.zero_le _,heap_alloc_new w _,Nat.le_refl _,by decide,rfl,rfl⟩⟩
theorem zHj {w:World} {wd ht:Nat} {d X Y:Int} {R:List (Nat×Nat)} (kx ky:Int) (a:Option Addr) (n cap:Nat) (hd:d=0\/d=1\/R=[]) (hX:0<=X/\X<=1000) (hY:0<=Y/\Y<=1000) (hR:∀r∈R,1<=r.2/\r.1+r.2<=8) (hlen:R.length<=8)
 (HRu:∀wx,Below w.heap.size w wx->Calls pg 142 #[gdv wd ht (.slice a n cap),cel kx ky,O ii d] wx fun e w'=>∃lv,e = .returned lv/\Rq 49 w' lv (R.map (rrq d X Y))/\Below wx.heap.size wx w'/\∀g,lv.ownBlock=some g->wx.heap.size<=g) :
 Calls pg 94 #[gdv wd ht (.slice a n cap),cel kx ky,O ii d] w fun e w'=>∃lv,e = .returned lv/\Rq 122 w' lv (btL d X Y R)/\Below w.heap.size w w'/\∀g,lv.ownBlock=some g->w.heap.size<=g:=by
 obtain ⟨V,hV⟩:=ex ((w.alloc (.cells #[O ii (wd:Nat),O ii (ht:Nat),.slice a n cap] 81)).alloc (.cells #[O ii kx,O ii ky] 47));have B0:Below w.heap.size w V:=by rw [<-hV];exact zA5 _ _ _
 have G0:GB V w.heap.size wd ht (.slice a n cap):=by rw [<-hV];exact (GB.new w wd ht _).upto (zAk _ _)
 have T0:Two V (w.heap.size+1) kx ky:=by rw [<-hV];exact Two.newAt (by simp)
 have HRun:=zAc (HRu V B0);have HV:=zAc hV;have HB:=zAc B0
 have HMi:Hid (∀r∈R,_):=zAc fun r (hr:r∈R)=>show (((rrq d X Y r).x+((rrq d X Y r).a-1)/2=(ptq d X Y r).x/\(rrq d X Y r).y+((rrq d X Y r).b-1)/2=(ptq d X Y r).y)/\(ptq d X Y r).a=sX (ptq d X Y r).x (ptq d X Y r).y d/\(ptq d X Y r).b=sY (ptq d X Y r).x (ptq d X Y r).y d)/\
  ((0<=(rrq d X Y r).x/\(rrq d X Y r).x<=1008)/\0<=(rrq d X Y r).y/\(rrq d X Y r).y<=1008)/\(1<=(rrq d X Y r).a/\(rrq d X Y r).a<=8)/\1<=(rrq d X Y r).b/\(rrq d X Y r).b<=8 by
  have:=hR r hr;rcases hd with h|h|h
  ·exact zVk (.inl h) hX hY this.1 this.2
  ·exact zVk (.inr h) hX hY this.1 this.2
  ·rw [h] at hr;cases hr
 obtain ⟨⟨c0,c1⟩,c2⟩:=G0.c;obtain ⟨⟨d0,d1⟩,-,-⟩:=id T0;clear hV B0 G0 T0 hd hX hY hR HRu;go_enter func94,ntmps94;go_wp2_with (rw [HV.out]);refine HRun.out.mono ?_;rintro e w1 ⟨rv,rfl,hrow,hb1,hown⟩;obtain ⟨ar,capr,hrv,hcap,hel⟩:=Rw.form Q4.cs_len hrow;rw [List.length_map] at hrv;subst hrv;have HB1:=zAc (bt HB.out hb1);have Hrow:=zAc hrow;have E0:=zMg w1;clear hrow hb1 hown c0 c1 c2 d0 d1 HRun HV HB hcap hel;have hrI:(0:Int)<=(R.length:Nat)/\((R.length:Nat):Int)<=8:=by omega
 go_wp2_with fail;go_loopw [8,9] (fun u v wr=>∃(i:Nat) (a:Option Addr) (cp:Nat),u = .slice a i cp/\v = O ii (i:Nat)/\i<=R.length/\(Rq 122 wr (.slice a i cp) (btL d X Y (R.take i))/\∀g,(Value.slice a i cp).ownBlock=some g->w1.heap.size<=g)/\Below w1.heap.size w1 wr) (fun _ v _=>R.length-(intOf v).toNat)
 case atStart=>exact ⟨0,_,0,rfl,rfl,Nat.zero_le _,⟨E0,fun g e=>by cases e;exact Nat.le_refl _⟩,zAk _ _⟩
 case round =>
  clear E0;obtain ⟨i,ga,cp,rfl,rfl,hi,⟨hr,hownr⟩,hbl⟩:=hrel
  by_cases hlt:i<R.length
  ·have hli:((i:Nat):Int)<(R.length:Nat):=by omega
   have hiI:(0:Int)<=(i:Nat)/\((i:Nat):Int)<=8:=by omega
   have hrm:R[i]∈R:=List.getElem_mem hlt;obtain ⟨ar',capr',e,-,hel⟩:=Rw.form Q4.cs_len (Hrow.out.upto hbl);simp only [Value.slice.injEq,List.length_map] at e;obtain ⟨rfl,-,rfl⟩:=e;obtain ⟨g,hg,hgl,hc⟩:=hel i (rrq d X Y R[i]) (by simp [hlt]);subst hg
   have htk:btL d X Y (R.take (i+1))=btL d X Y (R.take i)++[ptq d X Y R[i]]:=by
    unfold btL;rw [List.take_add_one,List.getElem?_eq_getElem hlt,List.map_append];rfl
   have hmi:=HMi.out R[i] hrm;obtain ⟨t,ht⟩:=ex (rrq d X Y R[i]);obtain ⟨q,hq⟩:=ex (ptq d X Y R[i]);rw [ht] at hc;rw [hq] at htk;rw [ht,hq] at hmi;obtain ⟨tx,ty,ta,tb⟩:=t;obtain ⟨mx,my,sx,sy⟩:=q;simp only at hmi;obtain ⟨⟨⟨m1,m2⟩,m3,m4⟩,⟨m5,m6⟩,m7,m8⟩:=hmi;subst m3;subst m4;obtain ⟨a',ha'⟩:∃e,ta-1=e:=⟨_,rfl⟩
   obtain ⟨b',hb'⟩:∃e,tb-1=e:=⟨_,rfl⟩
   obtain ⟨qa,hta⟩:∃e,a'.tdiv 2=e:=⟨_,rfl⟩
   obtain ⟨qb,htb⟩:∃e,b'.tdiv 2=e:=⟨_,rfl⟩
   have e1:a'.tdiv 2=a'/2:=Int.tdiv_eq_ediv_of_nonneg (by omega);have e2:b'.tdiv 2=b'/2:=Int.tdiv_eq_ediv_of_nonneg (by omega);have k1:IntKind.i64.wrap (ta-1)=a':=by rw [ha',IntKind.wrap_i64];omega
   have k2:IntKind.i64.wrap (tb-1)=b':=by rw [hb',IntKind.wrap_i64];omega
   have k3:IntKind.i64.wrap qa=qa:=by rw [IntKind.wrap_i64];omega
   have k4:IntKind.i64.wrap qb=qb:=by rw [IntKind.wrap_i64];omega
   have k5:IntKind.i64.wrap (tx+qa)=mx:=by rw [IntKind.wrap_i64];omega
   have k6:IntKind.i64.wrap (ty+qb)=my:=by rw [IntKind.wrap_i64];omega
   have c0:wr.cell? ⟨g,i*4,none⟩=some (O ii tx):=by simpa [Q4.cs] using hc 0 _ rfl
   have c1:wr.cell? ⟨g,i*4+1,none⟩=some (O ii ty):=by simpa [Q4.cs] using hc 1 _ rfl
   have c2:wr.cell? ⟨g,i*4+2,none⟩=some (O ii ta):=by simpa [Q4.cs] using hc 2 _ rfl
   have c3:wr.cell? ⟨g,i*4+3,none⟩=some (O ii tb):=by simpa [Q4.cs] using hc 3 _ rfl
   have HS:(fun wx:World=>wx.cell? ⟨g,i*4,none⟩=some (O ii tx)/\wx.cell? ⟨g,i*4+1,none⟩=some (O ii ty)/\wx.cell? ⟨g,i*4+2,none⟩=some (O ii ta)/\wx.cell? ⟨g,i*4+3,none⟩=some (O ii tb)) wr.drew:=⟨c0,c1,c2,c3⟩
   have HS2:(fun wx:World=>wx.cell? ⟨g,i*4,none⟩=some (O ii tx)/\wx.cell? ⟨g,i*4+1,none⟩=some (O ii ty)/\wx.cell? ⟨g,i*4+2,none⟩=some (O ii ta)/\wx.cell? ⟨g,i*4+3,none⟩=some (O ii tb)) (wr.drew.alloc (.cells #[O ii 0,O ii 0] 47)):=⟨((zAk wr.drew _).cell (p:=⟨g,i*4,none⟩) hgl).trans c0,((zAk wr.drew _).cell (p:=⟨g,i*4+1,none⟩) hgl).trans c1,((zAk wr.drew _).cell (p:=⟨g,i*4+2,none⟩) hgl).trans c2,((zAk wr.drew _).cell (p:=⟨g,i*4+3,none⟩) hgl).trans c3⟩
   have HSt:=zAc (fun wx=>zCm mx my d wx);generalize sX mx my d=sx at HSt htk;generalize sY mx my d=sy at HSt htk;generalize sB mx my d=sb at HSt;have Hr:=zAc hr;have Hown:=zAc hownr;have Hbl:=zAc hbl;have Htk:=zAc htk;clear hr hownr hbl htk hc hel ht hq hgl m1 m2 m5 m6 m7 m8 e1 e2 ha' hb' c0 c1 c2 c3;go_wp2_with fail;refine zAp ?_;refine zAg (fun wx:World=>wx.cell? ⟨g,i*4,none⟩=some (O ii tx)/\wx.cell? ⟨g,i*4+1,none⟩=some (O ii ty)/\wx.cell? ⟨g,i*4+2,none⟩=some (O ii ta)/\wx.cell? ⟨g,i*4+3,none⟩=some (O ii tb)) [30] (by kernel_rfl) ?_;refine zv 0 29 40 [.slice (some ⟨g,0,none⟩) R.length capr,O ii (i:Nat),.pointer (some ⟨g,i*4,none⟩),.pointer (some ⟨g,i*4,none⟩),.pointer (some ⟨g,i*4,none⟩),O ii tx,.slice (some ⟨g,0,none⟩) R.length capr,O ii (i:Nat),.pointer (some ⟨g,i*4,none⟩),.pointer (some ⟨g,i*4+2,none⟩),O ii ta,O ii a',O ii qa,O ii mx,.slice (some ⟨g,0,none⟩) R.length capr,O ii (i:Nat),.pointer (some ⟨g,i*4,none⟩),.pointer (some ⟨g,i*4,none⟩),.pointer (some ⟨g,i*4+1,none⟩),O ii ty,.slice (some ⟨g,0,none⟩) R.length capr,O ii (i:Nat),.pointer (some ⟨g,i*4,none⟩),.pointer (some ⟨g,i*4+3,none⟩),O ii tb,O ii b',O ii qb,O ii my,cel mx my] rfl rfl (by kernel_rfl) HS ?_;repeat (refine zc rfl (by rfl) (fun wx hx=>by go_simp) ?_;simp only [zp])
   refine zn ?_;refine zq 29 (by kernel_rfl) rfl rfl (v':=ptr wr.heap.size) (w':=wr.drew.alloc (.cells #[O ii 0,O ii 0] 47)) (by go_simp) (fun _=>HS2) ?_;try simp only [zp]
   obtain ⟨Y1,hY1⟩:=ex (((wr.drew.alloc (.cells #[O ii 0,O ii 0] 47)).setCell ⟨wr.heap.size,0,none⟩ (O ii mx)).setCell ⟨wr.heap.size,1,none⟩ (O ii my));have TA:Two (wr.drew.alloc (.cells #[O ii 0,O ii 0] 47)) wr.heap.size 0 0:=Two.newAt rfl;have TY1:Two Y1 wr.heap.size mx my:=by rw [<-hY1];exact TA.set
   have BY1:Below wr.heap.size wr Y1:=by rw [<-hY1];exact ((Below.trans (Below.drew (Below.refl wr.heap.size wr)) (zAk wr.drew _)).setCell (p:=⟨wr.heap.size,0,none⟩) (Nat.le_refl _) _).setCell (p:=⟨wr.heap.size,1,none⟩) (Nat.le_refl _) _
   obtain ⟨⟨t0,t1⟩,⟨t2,t3⟩,-⟩:=TA;have HY1:=zAc hY1;have HTY:=zAc TY1;have HBY:=zAc BY1;clear hY1 TY1 BY1 HS HS2;refine zw 30 [] (by kernel_rfl) ?_;refine readyZ.skip rfl rfl (w':=((wr.drew.alloc (.cells #[O ii 0,O ii 0] 47)).setCell ⟨wr.heap.size,0,none⟩ (O ii mx)).setCell ⟨wr.heap.size,1,none⟩ (O ii my)) (by go_simp) (fun h=>absurd (by decide) h) ?_ readyZ.nil;refine zAf (by kernel_rfl) ?_ _;dsimp only [zA1,Exit.then];rw [HY1.out];obtain ⟨⟨s0,s1⟩,-,-⟩:=HTY.out;clear t0 t1 t2 t3 k1 k2 k3 k4 k5 k6 hta htb HY1;go_wp2_with fail;refine (HSt.out Y1).mono ?_;rintro e w2 ⟨rfl,hb2⟩;obtain ⟨V2,hV2⟩:=ex (w2.alloc (.cells #[O ii sx,O ii sy] 47));have BV2:Below wr.heap.size wr V2:=bt HBY.out (bt hb2 (by rw [<-hV2];exact zAk _ _));have TV2:Two V2 w2.heap.size sx sy:=by rw [<-hV2];exact Two.newAt rfl
   have TM2:Two V2 wr.heap.size mx my:=(HTY.out.kept hb2).kept (by rw [<-hV2];exact zAk _ _);obtain ⟨⟨t0,t1⟩,-,-⟩:=TV2;obtain ⟨⟨t2,t3⟩,-,-⟩:=TM2;have hlb:(btL d X Y (R.take i)).length=i:=by simp [btL];omega
   obtain ⟨v',w3,rA,rR,rO,rT⟩:=(Hr.out.upto BV2).push4 (st:=118) Tryz.underlying118 zFn ⟨mx,my,sx,sy⟩ (by omega);obtain ⟨a2,cap2,hv2⟩:=rR.slice4;rw [List.length_append,List.length_cons,List.length_nil,Nat.zero_add,hlb] at hv2;subst hv2;have hbw:=bt Hbl.out BV2
   have HE:Hid (∃(i':Nat) (a:Option Addr) (cp:Nat),(Value.slice a2 (i+1) cap2) = .slice a i' cp/\(Value.int .i64 (((i:Nat):Int)+1)) = O ii (i':Nat)/\i'<=R.length/\(Rq 122 w3 (.slice a i' cp) (btL d X Y (R.take i'))/\∀g,(Value.slice a i' cp).ownBlock=some g->w1.heap.size<=g)/\Below w1.heap.size w1 w3):=zAc ⟨i+1,a2,cap2,rfl,by push_cast;rfl,by omega,⟨by rw [Htk.out];exact rR,fun g e=>by
    rcases rO g e with q|q
    ·exact Hown.out g q
    ·have:=hbw.size;omega⟩,hbw.trans (rT.below (fun j e=>Hown.out j e) hbw.size)⟩
   have HA:=zAc rA;have HV2:=zAc hV2;clear rA rR rO rT hbw hb2 hlb Htk Hown Hr Hbl hV2 BV2 HBY HTY HSt s0 s1;go_wp2_with (first|rw [HV2.out]|(at_builtin;refine zAv rfl _ _ 118 rfl _ _ rfl rfl HA.out ?_));go_roundw
   case rel=>exact HE.out
   case measure=>simp [intOf];omega
  ·have hle:¬((i:Nat):Int)<(R.length:Nat):=by omega
   have heq:i=R.length:=by omega
   have HE:Hid (∃lv,Ending.returned (Value.slice ga i cp) = .returned lv/\Rq 122 wr lv (btL d X Y R)/\Below w.heap.size w wr/\∀g,lv.ownBlock=some g->w.heap.size<=g):=zAc ⟨_,rfl,by rw [heq,List.take_length] at hr;rw [heq];exact hr,bt HB1.out hbl,fun g e=>by have:=hownr g e;have:=HB1.out.size;omega⟩;clear heq hr hownr hbl;go_wp2_with fail;refine bodyPost_ret (v:=.slice ga i cp) (by simp [results,Tryz.results94,go_sem]) rfl ?_;exact HE.out
def rnR (S:Int->Int->Bool) (W H kx ky d:Int):List (Nat×Nat):=if rB W H kx ky=true/\(d=0\/d=1) then (zBi (opB S d (bX W kx d) (bY H ky d)) 8).1 else []
def rnQ (S:Int->Int->Bool) (W H kx ky d:Int):List Q4:=(rnR S W H kx ky d).map (rrq d (bX W kx d) (bY H ky d))
def ptQ (S:Int->Int->Bool) (W H kx ky d:Int):List Q4:=btL d (bX W kx d) (bY H ky d) (rnR S W H kx ky d)
theorem zJ7 (S:Int->Int->Bool) (W H kx ky d:Int):(∀r∈rnR S W H kx ky d,1<=r.2/\r.1+r.2<=8)/\(rnR S W H kx ky d).length<=8:=by
 unfold rnR
 split
 ·exact (zDd _ 8).2
 ·exact ⟨fun r h=>absurd h (by simp),by simp⟩
theorem zFk (S:Int->Int->Bool) (W H kx ky d:Int):(ptQ S W H kx ky d).length<=8:=by
 unfold ptQ btL;rw [List.length_map];exact (zJ7 S W H kx ky d).2
theorem zR1 {W H kx ky d:Int} (hW:1<=W/\W<=128) (hH:1<=H/\H<=128) (hr:rB W H kx ky=true):(0<=bX W kx d/\bX W kx d<=1000)/\0<=bY H ky d/\bY H ky d<=1000:=by
 obtain ⟨hx,hy⟩:=(zBp hW hH).1 hr;have h1:=zHv hW hx;have h2:=zHv hH hy;unfold bX bY;constructor<;>(split<;>omega)
theorem qDm:may 0 0 0 0=false:=by decide
theorem zM4 {w:World} {p:Nat} {W H:Int} {tl:List Nat} {f:Int->Int->Option Int} (c s kx ky d:Int) (hw:Wl w p W H tl f) (hg:Grnd w) (ho:Offs w) (hS:∀u v,stB W H tl f c s u v=true->(0<=u/\u<W)/\0<=v/\v<H) :
 Calls pg 157 #[ptr p,shv c s,cel kx ky,O ii d] w fun e w'=>∃lv,e = .returned lv/\Rq 49 w' lv (rnQ (stB W H tl f c s) W H kx ky d)/\Below w.heap.size w w'/\∀g,lv.ownBlock=some g->w.heap.size<=g:=by
 obtain ⟨hW,hH⟩:=hw.sides
 by_cases hc:rB W H kx ky=true/\(d=0\/d=1)
 ·obtain ⟨hr,hd⟩:=hc;obtain ⟨hx,hy⟩:=(zBp hW hH).1 hr;have h1:=zHv hW hx;have h2:=zHv hH hy;obtain ⟨hX,hY⟩:=zR1 (d:=d) hW hH hr;have hop:=fun i (hi:i<8)=>zI5 (S:=stB W H tl f c s) (d:=d) hW hH hS hr hd (i:=i) hi
  have key:∀n:Nat,(n:Int)=(if d=0 then rS H ky else rS W kx)->n<=8->(zBi (opB (stB W H tl f c s) d (bX W kx d) (bY H ky d)) n).1=(zBi (opB (stB W H tl f c s) d (bX W kx d) (bY H ky d)) 8).1:=fun n hn h8=>by
   refine (zJ2 (fun j hj hj8=>?_) h8).symm;cases ho:opB (stB W H tl f c s) d (bX W kx d) (bY H ky d) j
   ·rfl
   ·have:=(hop j hj8 ho).2.2.1;rw [<-hn] at this;omega
  have hrn:rnQ (stB W H tl f c s) W H kx ky d=(zBi (opB (stB W H tl f c s) d (bX W kx d) (bY H ky d)) 8).1.map (rrq d (bX W kx d) (bY H ky d)):=by rw [rnQ,rnR,if_pos ⟨hr,hd⟩]
  rw [hrn];rcases hd with rfl|rfl
  ·obtain ⟨n,hn⟩:=Int.eq_ofNat_of_zero_le (show 0<=rS H ky by omega);have hm:may (bX W kx 0) (bY H ky 0) 1 (n:Nat)=true:=(zA0 _ _ _ _).2 (by omega);have hb:bdV W H kx ky 0=rct (bX W kx 0) (bY H ky 0) 1 (n:Nat):=by rw [bdV,if_pos hr,if_pos rfl,hn];rfl
   have:=zK8 c s kx ky 0 (bX W kx 0) (bY H ky 0) 1 (n:Nat) n hw hg ho hb (fun _=>⟨.inl ⟨rfl,rfl,rfl⟩,by omega,hX,hY⟩);rw [zXm,if_pos hm,key n (by rw [if_pos rfl,hn]) (by omega)] at this;exact this
  ·obtain ⟨n,hn⟩:=Int.eq_ofNat_of_zero_le (show 0<=rS W kx by omega);have hm:may (bX W kx 1) (bY H ky 1) (n:Nat) 1=true:=(zA0 _ _ _ _).2 (by omega);have hb:bdV W H kx ky 1=rct (bX W kx 1) (bY H ky 1) (n:Nat) 1:=by rw [bdV,if_pos hr,if_neg (by decide),if_pos rfl,hn];rfl
   have:=zK8 c s kx ky 1 (bX W kx 1) (bY H ky 1) (n:Nat) 1 n hw hg ho hb (fun _=>⟨.inr ⟨rfl,rfl,rfl⟩,by omega,hX,hY⟩);rw [zXm,if_pos hm,key n (by rw [if_neg (by decide),hn]) (by omega)] at this;exact this
 ·have hb:bdV W H kx ky d=rct 0 0 0 0:=by
   unfold bdV
   split
   ·rename_i hr;have h0:¬d=0:=fun h=>hc ⟨hr,.inl h⟩;have h1:¬d=1:=fun h=>hc ⟨hr,.inr h⟩;rw [if_neg h0,if_neg h1]
   ·rfl
  have:=zK8 c s kx ky d 0 0 0 0 0 hw hg ho hb (fun h=>by rw [qDm] at h;cases h);rw [zXm,if_neg (by rw [qDm];decide)] at this;rw [rnQ,rnR,if_neg hc];exact this
theorem zXw {w:World} {p:Nat} {W H:Int} {tl:List Nat} {f:Int->Int->Option Int} (c s kx ky d:Int) (hw:Wl w p W H tl f) (hg:Grnd w) (ho:Offs w) (hS:∀u v,stB W H tl f c s u v=true->(0<=u/\u<W)/\0<=v/\v<H) :
 Calls pg 124 #[ptr p,shv c s,cel kx ky,O ii d] w fun e w'=>∃lv,e = .returned lv/\Rq 122 w' lv (ptQ (stB W H tl f c s) W H kx ky d)/\Below w.heap.size w w'/\∀g,lv.ownBlock=some g->w.heap.size<=g:=by
 obtain ⟨hW,hH⟩:=hw.sides;obtain ⟨h1,h2⟩:=zJ7 (stB W H tl f c s) W H kx ky d
 by_cases hc:rB W H kx ky=true/\(d=0\/d=1)
 ·obtain ⟨hX,hY⟩:=zR1 (d:=d) hW hH hc.1;exact zIn c s kx ky (by rcases hc.2 with h|h;exact .inl h;exact .inr (.inl h)) hX hY h1 h2 ho (fun wx q=>zM4 c s kx ky d (hw.kept q) (hg.kept q) (ho.kept q) hS)
 ·have he:rnR (stB W H tl f c s) W H kx ky d=[]:=by rw [rnR,if_neg hc]
  have:=zIn (w:=w) (p:=p) (d:=d) (X:=0) (Y:=0) (R:=[]) c s kx ky (.inr (.inr rfl)) (by omega) (by omega) (fun r h=>by cases h) (by simp) ho (fun wx q=>by
   have:=zM4 c s kx ky d (hw.kept q) (hg.kept q) (ho.kept q) hS;rw [rnQ,he] at this
   exact this)
  rw [ptQ,he];exact this
theorem zUe {w:World} {wd ht:Nat} (S:Int->Int->Bool) (kx ky d:Int) (a:Option Addr) (n cap:Nat) (hW:(1:Int)<=(wd:Nat)/\((wd:Nat):Int)<=128) (hH:(1:Int)<=(ht:Nat)/\((ht:Nat):Int)<=128)
 (hS:∀u v,S u v=true->(0<=u/\u<(wd:Nat))/\0<=v/\v<(ht:Nat))
 (HSt:∀wx,Below w.heap.size w wx->∀x y,Calls pg 146 #[gdv wd ht (.slice a n cap),cel x y,O ii d] wx fun e w'=>e = .returned (.tuple #[cel (if lg S x y d=true then sX x y d else 0) (if lg S x y d=true then sY x y d else 0),.bool (lg S x y d)])/\Below wx.heap.size wx w') :
 Calls pg 142 #[gdv wd ht (.slice a n cap),cel kx ky,O ii d] w fun e w'=>∃lv,e = .returned lv/\Rq 49 w' lv (rnQ S wd ht kx ky d)/\Below w.heap.size w w'/\∀g,lv.ownBlock=some g->w.heap.size<=g:=by
 have:=zUd S kx ky d a n cap hW hH hS HSt
 have he:zRh S wd ht kx ky d=rnQ S wd ht kx ky d:=by
  unfold zRh rnQ rnR
  split<;>simp
 rwa [he] at this
theorem zZe {w:World} {wd ht:Nat} (S:Int->Int->Bool) (kx ky d:Int) (a:Option Addr) (n cap:Nat) (hW:(1:Int)<=(wd:Nat)/\((wd:Nat):Int)<=128) (hH:(1:Int)<=(ht:Nat)/\((ht:Nat):Int)<=128)
 (hS:∀u v,S u v=true->(0<=u/\u<(wd:Nat))/\0<=v/\v<(ht:Nat))
 (HSt:∀wx,Below w.heap.size w wx->∀x y,Calls pg 146 #[gdv wd ht (.slice a n cap),cel x y,O ii d] wx fun e w'=>e = .returned (.tuple #[cel (if lg S x y d=true then sX x y d else 0) (if lg S x y d=true then sY x y d else 0),.bool (lg S x y d)])/\Below wx.heap.size wx w') :
 Calls pg 94 #[gdv wd ht (.slice a n cap),cel kx ky,O ii d] w fun e w'=>∃lv,e = .returned lv/\Rq 122 w' lv (ptQ S wd ht kx ky d)/\Below w.heap.size w w'/\∀g,lv.ownBlock=some g->w.heap.size<=g:=by
 obtain ⟨h1,h2⟩:=zJ7 S wd ht kx ky d;have hru:∀wx,Below w.heap.size w wx->Calls pg 142 #[gdv wd ht (.slice a n cap),cel kx ky,O ii d] wx fun e w'=>∃lv,e = .returned lv/\Rq 49 w' lv (rnQ S wd ht kx ky d)/\Below wx.heap.size wx w'/\∀g,lv.ownBlock=some g->wx.heap.size<=g:=fun wx q=>zUe S kx ky d a n cap hW hH hS (fun wy k=>HSt wy (bt q k))
 by_cases hc:rB wd ht kx ky=true/\(d=0\/d=1)
 ·obtain ⟨hX,hY⟩:=zR1 (d:=d) hW hH hc.1;exact zHj kx ky a n cap (by rcases hc.2 with h|h;exact .inl h;exact .inr (.inl h)) hX hY h1 h2 hru
 ·have he:rnR S wd ht kx ky d=[]:=by rw [rnR,if_neg hc]
  have:=zHj (w:=w) (wd:=wd) (ht:=ht) (d:=d) (X:=0) (Y:=0) (R:=[]) kx ky a n cap (.inr (.inr rfl)) (by omega) (by omega) (fun r h=>by cases h) (by simp) (fun wx q=>by
   have:=hru wx q;rw [rnQ,he] at this
   exact this)
  rw [ptQ,he];exact this
end Go.Proofs.YthiafmlgialbnaaGreatDoor
