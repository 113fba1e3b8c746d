import Derived.Test.YtejjcenhjpjefaaGreatDoorClus
import Derived.Test.YtejjcenhjpjefaaGreatDoorRowS
import Derived.Test.YtejjcenhjpjefaaGreatDoorMeet
import Derived.Test.YtejjcenhjpjefaaGreatDoorRefMeet
import Derived.Test.YtejjcenhjpjefaaGreatDoorHas
import Derived.Deep.RegionHeld
import Init
import Derived.Test.YtejjcenhjpjefaaGreatDoorAwake
import Derived.Test.YtejjcenhjpjefaaGreatDoorSides
import Derived.Test.YtejjcenhjpjefaaGreatDoorGSt
import Derived.Test.YtejjcenhjpjefaaGreatDoorSpan
import Derived.Deep.RegionHeld3
import Derived.Deep.RegionWith
import Derived.Deep.DeepCutAuto
import Derived.Test.YtejjcenhjpjefaaGreatDoorZlast
import Derived.Test.YtejjcenhjpjefaaGreatDoorHeldIn
set_option linter.all false
set_option maxRecDepth 1000000
set_option maxHeartbeats 64000000
open Go.Proofs.Tryz
open Go.Proofs.Tryz renaming prog->pg
open And renaming intro->ai
open Go.Value renaming int->O
open Go.IntKind renaming i64->ii
namespace Go.Proofs.YtejjcenhjpjefaaGreatDoor
open Go.RowKit
attribute [local go_sem] Oper.semAt_some
theorem Four.new12 (w:World) (t:TypeId) (x y a b:Int):Four (w.alloc (.cells #[O ii x,O ii y,O ii a,O ii b] t)) w.heap.size x y a b:=zBo (Below.refl _ _)
theorem Four.newAt12 {w:World} {k:Nat} (t:TypeId) (x y a b:Int) (h:w.heap.size=k):Four (w.alloc (.cells #[O ii x,O ii y,O ii a,O ii b] t)) k x y a b:=by subst h;exact Four.new12 w t x y a b
def rS (W k:Int):Int:=min (k*8+7) (W-1)-k*8+1
def rB (W H x y:Int):Bool:=has 0 0 (clN W) (clN H) x y
def rV (W H x y:Int):Value:=if rB W H x y=true then rct (x*8) (y*8) (rS W x) (rS H y) else rct 0 0 0 0
theorem zDf {W H x y:Int} (hW:1<=W/\W<=128) (hH:1<=H/\H<=128):rB W H x y=true↔(0<=x/\x<=(W-1)/8)/\0<=y/\y<=(H-1)/8:=by
 rw [rB,zBz,zA5];unfold clN;omega
theorem zT8 (W H x y:Int):∃s t u v:Int,rV W H x y=rct s t u v:=by
 unfold rV
 split
 ·exact ⟨_,_,_,_,rfl⟩
 ·exact ⟨0,0,0,0,rfl⟩
theorem zX2 {W H x y:Int} (hW:1<=W/\W<=128) (hH:1<=H/\H<=128) (h:rB W H x y=true) :
 mtB (x*8) (y*8) 8 8 0 0 W H=true/\mtV (x*8) (y*8) 8 8 0 0 W H=rct (x*8) (y*8) (rS W x) (rS H y):=by
 obtain ⟨hx,hy⟩:=(zDf hW hH).1 h
 have h1:mtB (x*8) (y*8) 8 8 0 0 W H=true:=by
  have m1:may (x*8) (y*8) 8 8=true:=by rw [zA5];omega
  have m2:may 0 0 W H=true:=by rw [zA5];omega
  simp only [mtB,m1,m2,Bool.true_and,Bool.and_eq_true,decide_eq_true_eq];omega
 refine ⟨h1,?_⟩;rw [zOn h1];unfold zTr rS;have e1:max (x*8) 0=x*8:=by omega
 have e2:max (y*8) 0=y*8:=by omega
 have e3:x*8+8-1=x*8+7:=by omega
 have e4:y*8+8-1=y*8+7:=by omega
 have e5:0+W-1=W-1:=by omega
 have e6:0+H-1=H-1:=by omega
 rw [e1,e2,e3,e4,e5,e6]
theorem zFs {w:World} {p:Nat} {W H:Int} {tl:List Nat} {f:Int->Int->Option Int} (x y:Int) (hw:Wl w p W H tl f) :
 Calls pg 17 #[ptr p,cel x y] w fun e w'=>e = .returned (.tuple #[rV W H x y,.bool (rB W H x y)])/\Below w.heap.size w w':=by
 obtain ⟨hW,hH⟩:=hw.sides;obtain ⟨X,hX⟩:=ex ((w.alloc (.cells #[O ii x,O ii y] 23)).alloc (.cells #[O ii 0,O ii 0,O ii 0,O ii 0] 65));have B0:Below w.heap.size w X:=by rw [<-hX];exact zBe _ _ _
 have T0:Two X w.heap.size x y:=by rw [<-hX];exact (Two.newAt rfl).alloc
 have F0:Four X (w.heap.size+1) 0 0 0 0:=by rw [<-hX];exact Four.newAt12 _ _ _ _ _ (by simp)
 have HK:Hid (∀wx,Below X.heap.size X wx->Wl wx p W H tl f):=zAb fun wx hx=>hw.kept (bt B0 hx);have HB:=zAb B0;clear B0 hw;cases hr:rB W H x y
 ·have HI:Hid (has 0 0 (clN W) (clN H) x y=false):=zAb hr;rw [show rV W H x y=rct 0 0 0 0 by rw [rV,hr];rfl];clear hr hW hH;go_enter func17,ntmps17;go_wp2_with fail;clear hX;obtain ⟨d0,d1⟩:=T0.lat;have hne:=zA8 X;refine zAp (by kernel_rfl) (by kernel_rfl) ?_;repeat (go_big_quiet_step (first|(go_at_call 43;exact zAr (zIj (HK.out _ (Lat.h _))))|(go_at_call 42;exact zAr (zB5 _ HI.out))))
  refine wpQuiet_nil ?_;rintro _ ⟨n,rfl⟩;obtain ⟨⟨c0,c1,c2,c3⟩,⟨g0,g1,g2,g3⟩,z1⟩:=F0.kept n.h;have HBn:=zAb (bt HB.out n.h);clear d0 d1 hne;go_wp2_with fail;refine bodyPost_ret (v:=.tuple #[rct 0 0 0 0,.bool false]) (by simp [results,Tryz.results17,go_sem, *]) rfl ⟨rfl,?_⟩;exact zJl HBn.out (by omega)
 ·have HI:Hid (has 0 0 (clN W) (clN H) x y=true):=zAb hr;obtain ⟨hmb,hmv⟩:=zX2 hW hH hr;obtain ⟨hx,hy⟩:=(zDf hW hH).1 hr;rw [show rV W H x y=rct (x*8) (y*8) (rS W x) (rS H y) by rw [rV,hr];rfl];have e1:IntKind.i64.wrap (x*8)=x*8:=by rw [IntKind.wrap_i64];omega
  have e2:IntKind.i64.wrap (y*8)=y*8:=by rw [IntKind.wrap_i64];omega
  have HM:=zAb (zLs (x*8) (y*8) 8 8 0 0 W H);rw [hmb,hmv] at HM;clear hr hmb hmv hx hy hW hH;obtain ⟨x8,hx8⟩:∃e,x*8=e:=⟨_,rfl⟩
  obtain ⟨y8,hy8⟩:∃e,y*8=e:=⟨_,rfl⟩
  have e1':IntKind.i64.wrap (x*8)=x8:=e1.trans hx8;have e2':IntKind.i64.wrap (y*8)=y8:=e2.trans hy8;rw [hx8,hy8] at HM ⊢;clear e1 e2 hx8 hy8;generalize rS W x=sx at HM ⊢;generalize rS H y=sy at HM ⊢;go_enter func17,ntmps17;go_wp2_with fail;clear hX;obtain ⟨d0,d1⟩:=T0.lat;have hne:=zA8 X;refine zAp (by kernel_rfl) (by kernel_rfl) ?_;repeat (go_big_quiet_step (first|(go_at_call 43;exact zAr (zIj (HK.out _ (Lat.h _))))|(go_at_call 42;exact zAr (zB5 _ HI.out))))
  refine wpQuiet_nil ?_;rintro _ ⟨n,rfl⟩;have F1:=F0.kept n.h;have T1:=T0.kept n.h;have HBn:=zAb (bt HB.out n.h);have HN:=zAb n.h;clear d0 d1 hne F0 T0 HB HI;obtain ⟨⟨t0,t1⟩,-,-⟩:=id T1;go_wp2_with fail;clear t0 t1 e1' e2';obtain ⟨Y,hY⟩:=ex (n.w.alloc (.cells #[O ii x8,O ii y8,O ii 8,O ii 8] 65));have BY:Below n.w.heap.size n.w Y:=by rw [<-hY];exact zAh _ _
  have FY:Four Y n.w.heap.size x8 y8 8 8:=by rw [<-hY];exact Four.new12 _ _ _ _ _ _
  rw [hY];clear hY;have F2:=F1.kept BY;have HY:=zAb (bt HN.out BY);have HBY:=zAb (bt HBn.out BY);have HB4z:w.heap.size+1<n.w.heap.size:=F1.2.2;clear F1 T1 BY HBn HN;have hS:∀wx,Below Y.heap.size Y wx->wx.cell? ⟨n.w.heap.size,0,none⟩=some (O ii x8)/\wx.cell? ⟨n.w.heap.size,1,none⟩=some (O ii y8)/\wx.cell? ⟨n.w.heap.size,2,none⟩=some (O ii 8)/\wx.cell? ⟨n.w.heap.size,3,none⟩=some (O ii 8):=fun wx hx=>(FY.kept hx).1;have hS0:=hS _ (Below.refl _ _).drew;refine zAj ?_;refine wp_region_held_drew (S:=fun wx=>wx.cell? ⟨n.w.heap.size,0,none⟩=some (O ii x8)/\wx.cell? ⟨n.w.heap.size,1,none⟩=some (O ii y8)/\wx.cell? ⟨n.w.heap.size,2,none⟩=some (O ii 8)/\wx.cell? ⟨n.w.heap.size,3,none⟩=some (O ii 8)) (by kernel_rfl) hS0 (fun hHeld=>?_);refine wpAnyH_take (i:=0) (v:=?_) rfl (by kernel_rfl) (by kernel_rfl) (by kernel_rfl) (fun _ _ _ h=>h.elim) (Or.inl ⟨by rfl,?_⟩) (by assumption) ?_
  rotate_left
  ·intro wx hSw;try dsimp only at hSw
   go_simp;try with_reducible rfl
  try simp only [zp]
  refine wpAnyH_take (i:=1) (v:=?_) rfl (by kernel_rfl) (by kernel_rfl) (by kernel_rfl) (fun _ _ _ h=>h.elim) (Or.inl ⟨by rfl,?_⟩) (by assumption) ?_
  rotate_left
  ·intro wx hSw;try dsimp only at hSw
   go_simp;try with_reducible rfl
  try simp only [zp]
  refine wpAnyH_ready (rs:=[2]) (by kernel_rfl) (by simp) ?_;refine AllReadyH.cons rfl (fun K hK=>?_) AllReadyH.nil;go_simp;refine (zGt (HK.out _ (bt HY.out (Below.refl _ _).drew))).mono ?_;rintro e w3 ⟨rfl,hb3⟩;have hB3:Below Y.heap.size Y w3:=bt (Below.refl _ _).drew hb3;clear hb3;try go_wp2_with fail
  refine hK.out _ _ (by first|exact hS _ (Below.refl _ _).drew|exact hS _ (zAh _ _)|exact hS _ (zAh _ _).drew|exact hS _ (by assumption)) (fun hHeld=>?_);clear hK K;try simp only [zp]
  refine wpAnyH_ready (rs:=[3]) (by kernel_rfl) (by simp) ?_;refine AllReadyH.cons rfl (fun K hK=>?_) AllReadyH.nil;go_simp;refine (HM.out _).mono ?_;rintro e w4 ⟨rfl,hb4⟩;have hB4:=bt hB3 hb4;clear hb4;try go_wp2_with fail
  refine hK.out _ _ (by first|exact hS _ (Below.refl _ _).drew|exact hS _ (zAh _ _)|exact hS _ (zAh _ _).drew|exact hS _ (by assumption)) (fun hHeld=>?_);clear hK K;try simp only [zp]
  refine wpAnyH_take (i:=4) (v:=?_) rfl (by kernel_rfl) (by kernel_rfl) (by kernel_rfl) (fun _ _ _ h=>h.elim) (Or.inl ⟨by rfl,?_⟩) (by assumption) ?_
  rotate_left
  ·intro wx hSw;try dsimp only at hSw
   go_simp;try with_reducible rfl
  try simp only [zp]
  refine wpAnyH_take (i:=5) (v:=?_) rfl (by kernel_rfl) (by kernel_rfl) (by kernel_rfl) (fun _ _ _ h=>h.elim) (Or.inl ⟨by rfl,?_⟩) (by assumption) ?_
  rotate_left
  ·intro wx hSw;try dsimp only at hSw
   go_simp;try with_reducible rfl
  try simp only [zp]
  have F4:=F2.kept hB4;obtain ⟨⟨c0,c1,c2,c3⟩,⟨g0,g1,g2,g3⟩,z4⟩:=id F4;have hzn:¬w.heap.size+1=n.w.heap.size:=by omega
  refine wpAnyH_ready (rs:=[6]) (by kernel_rfl) (by simp) ?_;refine AllReadyH.cons rfl (fun K hK=>?_) AllReadyH.nil;go_simp;refine hK.out _ _ (by first|exact ⟨by simp [go_sem, *],by simp [go_sem, *],by simp [go_sem, *],by simp [go_sem, *]⟩|exact hS _ (Below.refl _ _).drew|exact hS _ (zAh _ _)|exact hS _ (zAh _ _).drew|exact hS _ (by assumption)) (fun hHeld=>?_);clear hK K;try simp only [zp]
  refine wpAnyH_take (i:=7) (v:=?_) rfl (by kernel_rfl) (by kernel_rfl) (by kernel_rfl) (fun _ _ _ h=>h.elim) (Or.inl ⟨by rfl,?_⟩) (by assumption) ?_
  rotate_left
  ·intro wx hSw;try dsimp only at hSw
   go_simp;try with_reducible rfl
  try simp only [zp]
  refine wpAnyH_done (by kernel_rfl) ?_ _;dsimp only [zAv,Exit.then];go_wp2_with fail;refine bodyPost_ret (v:=.tuple #[rct x8 y8 sx sy,.bool true]) (by simp [results,Tryz.results17,go_sem, *]) rfl ⟨rfl,?_⟩;exact zJl (bt HBY.out hB4) (by omega)
def zC3 (op:Nat->Bool):Nat->List (Nat×Nat)×Bool
 |0=>([],false)
 |i+1 =>
  if op i=true then
   (if (zC3 op i).2=true then ((zC3 op i).1.dropLast++[(((zC3 op i).1.getLastD (0,0)).1,((zC3 op i).1.getLastD (0,0)).2+1)],true)
    else ((zC3 op i).1++[(i,1)],true))
  else ((zC3 op i).1,false)
theorem zHx {op:Nat->Bool} {i:Nat} (h:op i=false):zC3 op (i+1)=((zC3 op i).1,false):=by simp [zC3,h]
theorem zHy {op:Nat->Bool} {i:Nat} (h:op i=true) (hb:(zC3 op i).2=false):zC3 op (i+1)=((zC3 op i).1++[(i,1)],true):=by simp [zC3,h,hb]
theorem zJr {op:Nat->Bool} {i:Nat} {pre:List (Nat×Nat)} {a n:Nat} (h:op i=true) (hb:(zC3 op i).2=true) (hl:(zC3 op i).1=pre++[(a,n)]):zC3 op (i+1)=(pre++[(a,n+1)],true):=by
 simp [zC3,h,hb,hl]
theorem zD6 (op:Nat->Bool):∀i,((zC3 op i).2=true->∃pre a n,(zC3 op i).1=pre++[(a,n)]/\a+n=i)/\(∀r∈(zC3 op i).1,1<=r.2/\r.1+r.2<=i)/\(zC3 op i).1.length<=i
 |0=>⟨fun h=>by simp [zC3] at h,fun r h=>by simp [zC3] at h,by simp [zC3]⟩
 |i+1=>by
  obtain ⟨h1,h2,h3⟩:=zD6 op i;cases h:op i
  ·rw [zHx h];exact ⟨fun q=>by simp at q,fun r q=>by have:=h2 r q;omega,by simp;omega⟩
  ·cases hb:(zC3 op i).2
   ·rw [zHy h hb];refine ⟨fun _=>⟨_,_,_,rfl,rfl⟩,fun r q=>?_,by simp;omega⟩;rcases List.mem_append.1 q with q|q
    ·have:=h2 r q;omega
    ·simp at q;subst q;simp
   ·obtain ⟨pre,a,n,e,ha⟩:=h1 hb;rw [zJr h hb e];rw [e] at h2 h3;refine ⟨fun _=>⟨_,_,_,rfl,by omega⟩,fun r q=>?_,by simp at h3 ⊢;omega⟩;rcases List.mem_append.1 q with q|q
    ·have:=h2 r (List.mem_append_left _ q);omega
    ·have:=h2 (a,n) (List.mem_append_right _ (by simp));simp at q this;subst q;simp;omega
theorem zIx {op:Nat->Bool} {i:Nat}:∀{k:Nat},(∀j,i<=j->j<k->op j=false)->i<=k->(zC3 op k).1=(zC3 op i).1
 |0,h,hk=>by
  have:i=0:=by omega
  subst this;rfl
 |k+1,h,hk=>by
  rcases Nat.lt_or_ge i (k+1) with q|q
  ·rw [zHx (h k (by omega) (by omega))];exact zIx (fun j h1 h2=>h j h1 (by omega)) (by omega)
  ·have:i=k+1:=by omega
   subst this;rfl
attribute [local go_sem] Oper.semAt_some
def bdV (W H x y d:Int):Value:=if rB W H x y=true then (if d=0 then rct (x*8+rS W x-1) (y*8) 1 (rS H y) else if d=1 then rct (x*8) (y*8+rS H y-1) (rS W x) 1 else rct 0 0 0 0) else rct 0 0 0 0
theorem zMt {W k:Int} (hW:1<=W/\W<=128) (hk:0<=k/\k<=(W-1)/8):1<=rS W k/\rS W k<=8:=by
 unfold rS;omega
theorem zPy {w:World} {p:Nat} {W H:Int} {tl:List Nat} {f:Int->Int->Option Int} (x y d:Int) (hw:Wl w p W H tl f) :
 Calls pg 173 #[ptr p,cel x y,O ii d] w fun e w'=>e = .returned (bdV W H x y d)/\Below w.heap.size w w':=by
 obtain ⟨hW,hH⟩:=hw.sides;obtain ⟨X,hX⟩:=ex ((w.alloc (.cells #[O ii x,O ii y] 23)).alloc (.cells #[O ii 0,O ii 0,O ii 0,O ii 0] 65));have B0:Below w.heap.size w X:=by rw [<-hX];exact zBe _ _ _
 have T0:Two X w.heap.size x y:=by rw [<-hX];exact (Two.newAt rfl).alloc
 have F0:Four X (w.heap.size+1) 0 0 0 0:=by rw [<-hX];exact Four.newAt12 _ _ _ _ _ (by simp)
 have HR:=zAb (zFs x y (hw.kept B0));have HB:=zAb B0;have HX:=zAb hX;obtain ⟨rx,ry,rw',rh,hrv⟩:=zT8 W H x y
 have e1:rB W H x y=true->(IntKind.i64.wrap (rx+rw')=rx+rw'/\IntKind.i64.wrap (rx+rw'-1)=rx+rw'-1)/\IntKind.i64.wrap (ry+rh)=ry+rh/\IntKind.i64.wrap (ry+rh-1)=ry+rh-1:=fun hr=>by
  obtain ⟨hx,hy⟩:=(zDf hW hH).1 hr;have h1:=zMt hW hx;have h2:=zMt hH hy;simp only [rV,hr,if_true,Value.agg.injEq,Array.mk.injEq,List.cons.injEq,Value.int.injEq,true_and,and_true] at hrv;obtain ⟨rfl,rfl,rfl,rfl⟩:=hrv;simp only [IntKind.wrap_i64];omega
 have e2:bdV W H x y d=if rB W H x y=true then (if d=0 then rct (rx+rw'-1) ry 1 rh else if d=1 then rct rx (ry+rh-1) rw' 1 else rct 0 0 0 0) else rct 0 0 0 0:=by
  unfold bdV
  split
  ·rename_i hr;simp only [rV,hr,if_true,Value.agg.injEq,Array.mk.injEq,List.cons.injEq,Value.int.injEq,true_and,and_true] at hrv;obtain ⟨rfl,rfl,rfl,rfl⟩:=hrv;rfl
  ·rfl
 rw [hrv] at HR;rw [e2];clear e2 hrv hW hH hw B0 hX;obtain ⟨⟨c0,c1⟩,-,-⟩:=id T0;cases hr:rB W H x y
 ·rw [hr] at HR;clear e1;rw [if_neg (by decide)];go_enter func173,ntmps173;go_wp2_with (rw [HX.out]);refine HR.out.mono ?_;rintro e w1 ⟨rfl,hb1⟩;obtain ⟨⟨f0,f1,f2,f3⟩,⟨g0,g1,g2,g3⟩,z1⟩:=(F0.kept hb1).kept (zAh w1 (.cells #[O ii rx,O ii ry,O ii rw',O ii rh] 65));have HB1:=zAb (bt (bt HB.out hb1) (zAh w1 (.cells #[O ii rx,O ii ry,O ii rw',O ii rh] 65)));clear hb1 c0 c1;obtain ⟨Y,hY⟩:=ex (w1.alloc (.cells #[O ii rx,O ii ry,O ii rw',O ii rh] 65));rw [hY] at f0 f1 f2 f3 g0 g1 g2 g3 z1 HB1;have HY:=zAb hY;clear hY;go_wp2_with (rw [HY.out]);refine bodyPost_ret (v:=rct 0 0 0 0) (by simp [results,Tryz.results173,go_sem, *]) rfl ⟨rfl,?_⟩;exact zJl HB1.out (by omega)
 ·rw [hr] at HR;obtain ⟨⟨e1,e3⟩,e4,e5⟩:=e1 hr;rw [if_pos rfl];obtain ⟨a1,ha1⟩:∃a,rx+rw'=a:=⟨_,rfl⟩
  obtain ⟨a2,ha2⟩:∃a,ry+rh=a:=⟨_,rfl⟩
  rw [ha1] at e1 e3 ⊢;rw [ha2] at e4 e5 ⊢;obtain ⟨b1,hb1⟩:∃a,a1-1=a:=⟨_,rfl⟩
  obtain ⟨b2,hb2⟩:∃a,a2-1=a:=⟨_,rfl⟩
  rw [hb1] at e3 ⊢;rw [hb2] at e5 ⊢;have k1:IntKind.i64.wrap (rx+rw')=a1:=by rw [ha1];exact e1
  have k2:IntKind.i64.wrap (ry+rh)=a2:=by rw [ha2];exact e4
  have k3:IntKind.i64.wrap (a1-1)=b1:=by rw [hb1];exact e3
  have k4:IntKind.i64.wrap (a2-1)=b2:=by rw [hb2];exact e5
  clear ha1 ha2 hb1 hb2 e1 e3 e4 e5 hr
  by_cases h0:d=0
  ·subst h0;rw [if_pos rfl];go_enter func173,ntmps173;go_wp2_with (rw [HX.out]);refine HR.out.mono ?_;rintro e w1 ⟨rfl,hb1⟩;have R1:Four (w1.alloc (.cells #[O ii rx,O ii ry,O ii rw',O ii rh] 65)) w1.heap.size rx ry rw' rh:=Four.new12 _ _ _ _ _ _;have F1:=(F0.kept hb1).kept (zAh w1 (.cells #[O ii rx,O ii ry,O ii rw',O ii rh] 65));have HB1:=zAb (bt (bt HB.out hb1) (zAh w1 (.cells #[O ii rx,O ii ry,O ii rw',O ii rh] 65)));clear hb1 c0 c1;obtain ⟨Y,hY⟩:=ex (w1.alloc (.cells #[O ii rx,O ii ry,O ii rw',O ii rh] 65));rw [hY] at R1 F1 HB1;obtain ⟨⟨f0,f1,f2,f3⟩,⟨g0,g1,g2,g3⟩,z1⟩:=F1;obtain ⟨⟨r0,r1,r2,r3⟩,-,-⟩:=R1;have HY:=zAb hY;clear hY;go_wp2_with (rw [HY.out]);refine bodyPost_ret (v:=rct b1 ry 1 rh) (by simp [results,Tryz.results173,go_sem, *]) rfl ⟨rfl,?_⟩;exact zJl HB1.out (by omega)
  ·rw [if_neg h0]
   by_cases h1:d=1
   ·subst h1;rw [if_pos rfl];go_enter func173,ntmps173;go_wp2_with (rw [HX.out]);refine HR.out.mono ?_;rintro e w1 ⟨rfl,hb1⟩;have R1:Four (w1.alloc (.cells #[O ii rx,O ii ry,O ii rw',O ii rh] 65)) w1.heap.size rx ry rw' rh:=Four.new12 _ _ _ _ _ _;have F1:=(F0.kept hb1).kept (zAh w1 (.cells #[O ii rx,O ii ry,O ii rw',O ii rh] 65));have HB1:=zAb (bt (bt HB.out hb1) (zAh w1 (.cells #[O ii rx,O ii ry,O ii rw',O ii rh] 65)));clear hb1 c0 c1;obtain ⟨Y,hY⟩:=ex (w1.alloc (.cells #[O ii rx,O ii ry,O ii rw',O ii rh] 65));rw [hY] at R1 F1 HB1;obtain ⟨⟨f0,f1,f2,f3⟩,⟨g0,g1,g2,g3⟩,z1⟩:=F1;obtain ⟨⟨r0,r1,r2,r3⟩,-,-⟩:=R1;have HY:=zAb hY;clear hY;go_wp2_with (rw [HY.out]);refine bodyPost_ret (v:=rct rx b2 rw' 1) (by simp [results,Tryz.results173,go_sem, *]) rfl ⟨rfl,?_⟩;exact zJl HB1.out (by omega)
   ·rw [if_neg h1];go_enter func173,ntmps173;go_wp2_with (rw [HX.out]);refine HR.out.mono ?_;rintro e w1 ⟨rfl,hb1⟩;obtain ⟨⟨f0,f1,f2,f3⟩,⟨g0,g1,g2,g3⟩,z1⟩:=(F0.kept hb1).kept (zAh w1 (.cells #[O ii rx,O ii ry,O ii rw',O ii rh] 65));have HB1:=zAb (bt (bt HB.out hb1) (zAh w1 (.cells #[O ii rx,O ii ry,O ii rw',O ii rh] 65)));clear hb1 c0 c1;obtain ⟨Y,hY⟩:=ex (w1.alloc (.cells #[O ii rx,O ii ry,O ii rw',O ii rh] 65));rw [hY] at f0 f1 f2 f3 g0 g1 g2 g3 z1 HB1;have HY:=zAb hY;clear hY;go_wp2_with (rw [HY.out]);refine bodyPost_ret (v:=rct 0 0 0 0) (by simp [results,Tryz.results173,go_sem, *]) rfl ⟨rfl,?_⟩;exact zJl HB1.out (by omega)
theorem zQl (p:Nat) (S:Int->Int->Bool) (c s x y d:Int) (w:World)
 (HT:∀wx,Below w.heap.size w wx->Calls pg 150 #[cel x y,O ii d] wx fun e w'=>e = .returned (.tuple #[cel (sX x y d) (sY x y d),.bool (sB x y d)])/\Below wx.heap.size wx w')
 (HD:∀wx,Below w.heap.size w wx->Calls pg 152 #[cel x y,O ii d] wx fun e w'=>e = .returned (zD2 x y d)/\Below wx.heap.size wx w')
 (HS:∀wx,Below w.heap.size w wx->∀x y,Calls pg 8 #[ptr p,shv c s,cel x y] wx fun e w'=>e = .returned (.bool (S x y))/\Below wx.heap.size wx w') :
 Calls pg 174 #[ptr p,shv c s,cel x y,O ii d] w fun e w'=>e = .returned (.bool (lg S x y d))/\Below w.heap.size w w':=by
 have B2:=zBe w (.cells #[O ii c,O ii s] 29) (.cells #[O ii x,O ii y] 23);have S0:Two ((w.alloc (.cells #[O ii c,O ii s] 29)).alloc (.cells #[O ii x,O ii y] 23)) w.heap.size c s:=(Two.newAt rfl).alloc;have C0:Two ((w.alloc (.cells #[O ii c,O ii s] 29)).alloc (.cells #[O ii x,O ii y] 23)) (w.heap.size+1) x y:=Two.newAt (by simp);unfold zD2 at HD;unfold lg;obtain ⟨tx,htx⟩:=ex (sX x y d);obtain ⟨ty,hty⟩:=ex (sY x y d);obtain ⟨ax,hax⟩:=ex (siX x y d);obtain ⟨ay,hay⟩:=ex (si0 x y d y);obtain ⟨bx,hbx⟩:=ex (si0 x y d x);obtain ⟨bY,hby⟩:=ex (siY x y d);rw [htx,hty] at HT;rw [hax,hay,hbx,hby] at HD;rw [htx,hty,hax,hay,hbx,hby];clear htx hty hax hay hbx hby;have HS':∀wx (b:Bool) u v,Below w.heap.size w wx->S u v=b->Calls pg 8 #[ptr p,shv c s,cel u v] wx fun e w'=>e = .returned (.bool b)/\Below wx.heap.size wx w':=fun wx b u v hb he=>he▸HS wx hb u v;clear HS;cases g1:sB x y d
 ·rw [g1] at HT;go_enter func174,ntmps174;go_wp2_with fail;refine (HT _ B2).mono ?_;rintro e w1 ⟨rfl,hb1⟩;have HB1:=zAb (bt B2 hb1);have S1:=zAb (S0.kept hb1);have C1:=zAb (C0.kept hb1);clear S0 C0 hb1;have BX:Below w1.heap.size w1 (w1.alloc (.cells #[O ii tx,O ii ty] 23)):=zAh _ _;have T2:Two (w1.alloc (.cells #[O ii tx,O ii ty] 23)) w1.heap.size tx ty:=Two.newAt rfl;obtain ⟨w2,h2⟩:=ex (w1.alloc (.cells #[O ii tx,O ii ty] 23));rw [h2] at BX T2;have S2:=S1.out.kept BX;have C2:=C1.out.kept BX;have HB2:=zAb (bt HB1.out BX);go_wp2_with fail;clear h2;go_ret;exact ⟨zAm (by simp []),HB2.out⟩
 ·rw [g1] at HT;cases g2:S x y
  ·go_enter func174,ntmps174;go_wp2_with fail;refine (HT _ B2).mono ?_;rintro e w1 ⟨rfl,hb1⟩;have HB1:=zAb (bt B2 hb1);have S1:=zAb (S0.kept hb1);have C1:=zAb (C0.kept hb1);clear S0 C0 hb1;have BX:Below w1.heap.size w1 (w1.alloc (.cells #[O ii tx,O ii ty] 23)):=zAh _ _;have T2:Two (w1.alloc (.cells #[O ii tx,O ii ty] 23)) w1.heap.size tx ty:=Two.newAt rfl;obtain ⟨w2,h2⟩:=ex (w1.alloc (.cells #[O ii tx,O ii ty] 23));rw [h2] at BX T2;have S2:=S1.out.kept BX;have C2:=C1.out.kept BX;have HB2:=zAb (bt HB1.out BX);obtain ⟨⟨c0,c1⟩,-,-⟩:=id C2;obtain ⟨⟨s0,s1⟩,-,-⟩:=id S2;go_wp2_with fail;clear h2;refine (HS' _ _ _ _ HB2.out g2).mono ?_;rintro e w3 ⟨rfl,hb3⟩;have HB3:=zAb (bt HB2.out hb3);have S3:=S2.kept hb3;have C3:=C2.kept hb3;have T3:=T2.kept hb3;clear hb3 c0 c1 s0 s1;go_wp2_with fail;go_ret;exact ⟨zAm (by simp []),HB3.out⟩
  ·cases g3:S tx ty
   ·go_enter func174,ntmps174;go_wp2_with fail;refine (HT _ B2).mono ?_;rintro e w1 ⟨rfl,hb1⟩;have HB1:=zAb (bt B2 hb1);have S1:=zAb (S0.kept hb1);have C1:=zAb (C0.kept hb1);clear S0 C0 hb1;have BX:Below w1.heap.size w1 (w1.alloc (.cells #[O ii tx,O ii ty] 23)):=zAh _ _;have T2:Two (w1.alloc (.cells #[O ii tx,O ii ty] 23)) w1.heap.size tx ty:=Two.newAt rfl;obtain ⟨w2,h2⟩:=ex (w1.alloc (.cells #[O ii tx,O ii ty] 23));rw [h2] at BX T2;have S2:=S1.out.kept BX;have C2:=C1.out.kept BX;have HB2:=zAb (bt HB1.out BX);obtain ⟨⟨c0,c1⟩,-,-⟩:=id C2;obtain ⟨⟨s0,s1⟩,-,-⟩:=id S2;go_wp2_with fail;clear h2;refine (HS' _ _ _ _ HB2.out g2).mono ?_;rintro e w3 ⟨rfl,hb3⟩;have HB3:=zAb (bt HB2.out hb3);have S3:=S2.kept hb3;have C3:=C2.kept hb3;have T3:=T2.kept hb3;clear hb3 c0 c1 s0 s1;obtain ⟨⟨t0,t1⟩,-,-⟩:=id T3;obtain ⟨⟨s0,s1⟩,-,-⟩:=id S3;go_wp2_with fail;refine (HS' _ _ _ _ HB3.out g3).mono ?_;rintro e w4 ⟨rfl,hb4⟩;have HB4:=zAb (bt HB3.out hb4);have S4:=S3.kept hb4;have C4:=C3.kept hb4;clear hb4 t0 t1 s0 s1;go_wp2_with fail;go_ret;exact ⟨zAm (by simp []),HB4.out⟩
   ·cases g4:siB x y d
    ·rw [g4] at HD;go_enter func174,ntmps174;go_wp2_with fail;refine (HT _ B2).mono ?_;rintro e w1 ⟨rfl,hb1⟩;have HB1:=zAb (bt B2 hb1);have S1:=zAb (S0.kept hb1);have C1:=zAb (C0.kept hb1);clear S0 C0 hb1;have BX:Below w1.heap.size w1 (w1.alloc (.cells #[O ii tx,O ii ty] 23)):=zAh _ _;have T2:Two (w1.alloc (.cells #[O ii tx,O ii ty] 23)) w1.heap.size tx ty:=Two.newAt rfl;obtain ⟨w2,h2⟩:=ex (w1.alloc (.cells #[O ii tx,O ii ty] 23));rw [h2] at BX T2;have S2:=S1.out.kept BX;have C2:=C1.out.kept BX;have HB2:=zAb (bt HB1.out BX);obtain ⟨⟨c0,c1⟩,-,-⟩:=id C2;obtain ⟨⟨s0,s1⟩,-,-⟩:=id S2;go_wp2_with fail;clear h2;refine (HS' _ _ _ _ HB2.out g2).mono ?_;rintro e w3 ⟨rfl,hb3⟩;have HB3:=zAb (bt HB2.out hb3);have S3:=S2.kept hb3;have C3:=C2.kept hb3;have T3:=T2.kept hb3;clear hb3 c0 c1 s0 s1;obtain ⟨⟨t0,t1⟩,-,-⟩:=id T3;obtain ⟨⟨s0,s1⟩,-,-⟩:=id S3;go_wp2_with fail;refine (HS' _ _ _ _ HB3.out g3).mono ?_;rintro e w4 ⟨rfl,hb4⟩;have HB4:=zAb (bt HB3.out hb4);have S4:=S3.kept hb4;have C4:=C3.kept hb4;clear hb4 t0 t1 s0 s1;obtain ⟨⟨c0,c1⟩,-,-⟩:=id C4;go_wp2_with fail;refine (HD _ HB4.out).mono ?_;rintro e w5 ⟨rfl,hb5⟩;have HB5:=zAb (bt HB4.out hb5);have S5:=S4.kept hb5;clear hb5 c0 c1;have BZ:Below w5.heap.size w5 ((w5.alloc (.cells #[O ii ax,O ii ay] 23)).alloc (.cells #[O ii bx,O ii bY] 23)):=zBe _ _ _;have TA:Two ((w5.alloc (.cells #[O ii ax,O ii ay] 23)).alloc (.cells #[O ii bx,O ii bY] 23)) w5.heap.size ax ay:=(Two.newAt rfl).alloc;have TB:Two ((w5.alloc (.cells #[O ii ax,O ii ay] 23)).alloc (.cells #[O ii bx,O ii bY] 23)) (w5.heap.size+1) bx bY:=Two.newAt (by simp);obtain ⟨w6,h6⟩:=ex ((w5.alloc (.cells #[O ii ax,O ii ay] 23)).alloc (.cells #[O ii bx,O ii bY] 23));rw [h6] at BZ TA TB;have S6:=S5.kept BZ;have HB6:=zAb (bt HB5.out BZ);go_wp2_with fail;clear h6;go_ret;exact ⟨zAm (by simp []),HB6.out⟩
    ·rw [g4] at HD;cases g5:S ax ay
     ·go_enter func174,ntmps174;go_wp2_with fail;refine (HT _ B2).mono ?_;rintro e w1 ⟨rfl,hb1⟩;have HB1:=zAb (bt B2 hb1);have S1:=zAb (S0.kept hb1);have C1:=zAb (C0.kept hb1);clear S0 C0 hb1;have BX:Below w1.heap.size w1 (w1.alloc (.cells #[O ii tx,O ii ty] 23)):=zAh _ _;have T2:Two (w1.alloc (.cells #[O ii tx,O ii ty] 23)) w1.heap.size tx ty:=Two.newAt rfl;obtain ⟨w2,h2⟩:=ex (w1.alloc (.cells #[O ii tx,O ii ty] 23));rw [h2] at BX T2;have S2:=S1.out.kept BX;have C2:=C1.out.kept BX;have HB2:=zAb (bt HB1.out BX);obtain ⟨⟨c0,c1⟩,-,-⟩:=id C2;obtain ⟨⟨s0,s1⟩,-,-⟩:=id S2;go_wp2_with fail;clear h2;refine (HS' _ _ _ _ HB2.out g2).mono ?_;rintro e w3 ⟨rfl,hb3⟩;have HB3:=zAb (bt HB2.out hb3);have S3:=S2.kept hb3;have C3:=C2.kept hb3;have T3:=T2.kept hb3;clear hb3 c0 c1 s0 s1;obtain ⟨⟨t0,t1⟩,-,-⟩:=id T3;obtain ⟨⟨s0,s1⟩,-,-⟩:=id S3;go_wp2_with fail;refine (HS' _ _ _ _ HB3.out g3).mono ?_;rintro e w4 ⟨rfl,hb4⟩;have HB4:=zAb (bt HB3.out hb4);have S4:=S3.kept hb4;have C4:=C3.kept hb4;clear hb4 t0 t1 s0 s1;obtain ⟨⟨c0,c1⟩,-,-⟩:=id C4;go_wp2_with fail;refine (HD _ HB4.out).mono ?_;rintro e w5 ⟨rfl,hb5⟩;have HB5:=zAb (bt HB4.out hb5);have S5:=S4.kept hb5;clear hb5 c0 c1;have BZ:Below w5.heap.size w5 ((w5.alloc (.cells #[O ii ax,O ii ay] 23)).alloc (.cells #[O ii bx,O ii bY] 23)):=zBe _ _ _;have TA:Two ((w5.alloc (.cells #[O ii ax,O ii ay] 23)).alloc (.cells #[O ii bx,O ii bY] 23)) w5.heap.size ax ay:=(Two.newAt rfl).alloc;have TB:Two ((w5.alloc (.cells #[O ii ax,O ii ay] 23)).alloc (.cells #[O ii bx,O ii bY] 23)) (w5.heap.size+1) bx bY:=Two.newAt (by simp);obtain ⟨w6,h6⟩:=ex ((w5.alloc (.cells #[O ii ax,O ii ay] 23)).alloc (.cells #[O ii bx,O ii bY] 23));rw [h6] at BZ TA TB;have S6:=S5.kept BZ;have HB6:=zAb (bt HB5.out BZ);obtain ⟨⟨a0,a1⟩,-,-⟩:=id TA;obtain ⟨⟨s0,s1⟩,-,-⟩:=id S6;go_wp2_with fail;clear h6;refine (HS' _ _ _ _ HB6.out g5).mono ?_;rintro e w7 ⟨rfl,hb7⟩;have HB7:=zAb (bt HB6.out hb7);have S7:=S6.kept hb7;have TB7:=TB.kept hb7;clear hb7 a0 a1 s0 s1;go_wp2_with fail;go_ret;exact ⟨zAm (by simp []),HB7.out⟩
     ·go_enter func174,ntmps174;go_wp2_with fail;refine (HT _ B2).mono ?_;rintro e w1 ⟨rfl,hb1⟩;have HB1:=zAb (bt B2 hb1);have S1:=zAb (S0.kept hb1);have C1:=zAb (C0.kept hb1);clear S0 C0 hb1;have BX:Below w1.heap.size w1 (w1.alloc (.cells #[O ii tx,O ii ty] 23)):=zAh _ _;have T2:Two (w1.alloc (.cells #[O ii tx,O ii ty] 23)) w1.heap.size tx ty:=Two.newAt rfl;obtain ⟨w2,h2⟩:=ex (w1.alloc (.cells #[O ii tx,O ii ty] 23));rw [h2] at BX T2;have S2:=S1.out.kept BX;have C2:=C1.out.kept BX;have HB2:=zAb (bt HB1.out BX);obtain ⟨⟨c0,c1⟩,-,-⟩:=id C2;obtain ⟨⟨s0,s1⟩,-,-⟩:=id S2;go_wp2_with fail;clear h2;refine (HS' _ _ _ _ HB2.out g2).mono ?_;rintro e w3 ⟨rfl,hb3⟩;have HB3:=zAb (bt HB2.out hb3);have S3:=S2.kept hb3;have C3:=C2.kept hb3;have T3:=T2.kept hb3;clear hb3 c0 c1 s0 s1;obtain ⟨⟨t0,t1⟩,-,-⟩:=id T3;obtain ⟨⟨s0,s1⟩,-,-⟩:=id S3;go_wp2_with fail;refine (HS' _ _ _ _ HB3.out g3).mono ?_;rintro e w4 ⟨rfl,hb4⟩;have HB4:=zAb (bt HB3.out hb4);have S4:=S3.kept hb4;have C4:=C3.kept hb4;clear hb4 t0 t1 s0 s1;obtain ⟨⟨c0,c1⟩,-,-⟩:=id C4;go_wp2_with fail;refine (HD _ HB4.out).mono ?_;rintro e w5 ⟨rfl,hb5⟩;have HB5:=zAb (bt HB4.out hb5);have S5:=S4.kept hb5;clear hb5 c0 c1;have BZ:Below w5.heap.size w5 ((w5.alloc (.cells #[O ii ax,O ii ay] 23)).alloc (.cells #[O ii bx,O ii bY] 23)):=zBe _ _ _;have TA:Two ((w5.alloc (.cells #[O ii ax,O ii ay] 23)).alloc (.cells #[O ii bx,O ii bY] 23)) w5.heap.size ax ay:=(Two.newAt rfl).alloc;have TB:Two ((w5.alloc (.cells #[O ii ax,O ii ay] 23)).alloc (.cells #[O ii bx,O ii bY] 23)) (w5.heap.size+1) bx bY:=Two.newAt (by simp);obtain ⟨w6,h6⟩:=ex ((w5.alloc (.cells #[O ii ax,O ii ay] 23)).alloc (.cells #[O ii bx,O ii bY] 23));rw [h6] at BZ TA TB;have S6:=S5.kept BZ;have HB6:=zAb (bt HB5.out BZ);obtain ⟨⟨a0,a1⟩,-,-⟩:=id TA;obtain ⟨⟨s0,s1⟩,-,-⟩:=id S6;go_wp2_with fail;clear h6;refine (HS' _ _ _ _ HB6.out g5).mono ?_;rintro e w7 ⟨rfl,hb7⟩;have HB7:=zAb (bt HB6.out hb7);have S7:=S6.kept hb7;have TB7:=TB.kept hb7;clear hb7 a0 a1 s0 s1;obtain ⟨⟨b0,b1⟩,-,-⟩:=id TB7;obtain ⟨⟨s0,s1⟩,-,-⟩:=id S7;go_wp2_with fail;refine (HS' _ _ _ _ HB7.out rfl).mono ?_;rintro e w8 ⟨rfl,hb8⟩;have HB8:=zAb (bt HB7.out hb8);clear hb8 b0 b1 s0 s1;go_wp2_with fail;go_ret;exact ⟨zAm (by simp []),HB8.out⟩
theorem zPs {w:World} {p:Nat} {W H:Int} {tl:List Nat} {f:Int->Int->Option Int} (c s x y d:Int) (hw:Wl w p W H tl f) (hg:Grnd w) (ho:Offs w) :
 Calls pg 174 #[ptr p,shv c s,cel x y,O ii d] w fun e w'=>e = .returned (.bool (lg (stB W H tl f c s) x y d))/\Below w.heap.size w w':=
 zQl p (stB W H tl f c s) c s x y d w (fun wx hb=>zCb x y d wx (ho.kept hb)) (fun wx hb=>zIu x y d wx (ho.kept hb)) (fun wx hb u v=>zCc p W H tl f c s u v wx (hw.kept hb) (hg.kept hb))
theorem zRk (x y a b p q c d:Int) (w:World) (h:may x y a b=false) :
 Calls pg 175 #[.agg #[O ii x,O ii y,O ii a,O ii b],.agg #[O ii p,O ii q,O ii c,O ii d]] w fun e w'=>e = .returned (huV x y a b p q c d)/\Below w.heap.size w w':=by
 rw [zPb (zVi h),zGw];go_enter func175,ntmps175;go_wp2_with fail;refine (zBy _ h).mono ?_;rintro e w1 ⟨rfl,hb1⟩;obtain ⟨_,_,⟨r0,r1,r2,r3⟩,⟨f0,f1,f2,f3⟩,z2⟩:=zBm hb1;have B1:=zAb (bt (zDs _ _ _ _ _ _ _ _ _) hb1);clear hb1;go_wp2_with fail;refine bodyPost_ret (v:=.agg #[O ii 0,O ii 0,O ii 0,O ii 0]) (by simp [results,Tryz.results175,go_sem,r0,r1,r2,r3]) rfl ⟨rfl,?_⟩;exact zJl B1.out (by omega)
theorem zRj (x y a b p q c d:Int) (w:World) (h:may x y a b=true) (h2:may p q c d=false) :
 Calls pg 175 #[.agg #[O ii x,O ii y,O ii a,O ii b],.agg #[O ii p,O ii q,O ii c,O ii d]] w fun e w'=>e = .returned (huV x y a b p q c d)/\Below w.heap.size w w':=by
 rw [zPb (zVh h2),zGw];go_enter func175,ntmps175;go_wp2_with fail;refine (zBy _ h).mono ?_;rintro e w1 ⟨rfl,hb1⟩;obtain ⟨e0,e1,e2,e3⟩:=(zBm hb1).2.1.1;have B1:=zAb hb1;clear hb1;go_wp2_with fail;refine (zBy _ h2).mono ?_;rintro e w2 ⟨rfl,hb2⟩;obtain ⟨_,_,⟨r0,r1,r2,r3⟩,⟨f0,f1,f2,f3⟩,z2⟩:=zBm (bt B1.out hb2);have B2:=zAb (bt (zDs _ _ _ _ _ _ _ _ _) (bt B1.out hb2));clear hb2;go_wp2_with fail;refine bodyPost_ret (v:=.agg #[O ii 0,O ii 0,O ii 0,O ii 0]) (by simp [results,Tryz.results175,go_sem,r0,r1,r2,r3]) rfl ⟨rfl,?_⟩;exact zJl B2.out (by omega)
theorem zRh (x y a b p q c d:Int) (w:World) (h:may x y a b=true) (h2:may p q c d=true) :
 Calls pg 175 #[.agg #[O ii x,O ii y,O ii a,O ii b],.agg #[O ii p,O ii q,O ii c,O ii d]] w fun e w'=>e = .returned (huV x y a b p q c d)/\Below w.heap.size w w':=by
 have M1:=zAb (zCz h);have M2:=zAb (zCz h2);have HM:=zAb (zYe h h2);have HN:=zAb (zLu h h2);go_enter func175,ntmps175;go_wp2_with fail;refine (zBy _ h).mono ?_;rintro e w1 ⟨rfl,hb1⟩;obtain ⟨e0,e1,e2,e3⟩:=(zBm hb1).2.1.1;have B1:=zAb hb1;clear hb1;go_wp2_with fail;refine (zBy _ h2).mono ?_;rintro e w2 ⟨rfl,hb2⟩;have B2:=zAb (bt B1.out hb2);clear hb2 e0 e1 e2 e3 B1 w1;go_wp2_with fail;go_cut [5,6] (fun s6 s7 wx=>qBi w2 wx s6 s7 (x+a-1) (y+b-1) (p+c-1) (q+d-1))
 case first =>
  obtain ⟨⟨⟨c0,c1,c2,c3⟩,_,z0⟩,⟨⟨e0,e1,e2,e3⟩,_,z1⟩,_⟩:=zBm B2.out
  have HS:Hid (∀w',Below w2.heap.size w2 w'->((w'.cell? ⟨w.heap.size,0,none⟩=some (O ii x)/\w'.cell? ⟨w.heap.size,1,none⟩=some (O ii y)/\w'.cell? ⟨w.heap.size,2,none⟩=some (O ii a)/\w'.cell? ⟨w.heap.size,3,none⟩=some (O ii b))/\(w'.cell? ⟨w.heap.size+1,0,none⟩=some (O ii p)/\w'.cell? ⟨w.heap.size+1,1,none⟩=some (O ii q)/\w'.cell? ⟨w.heap.size+1,2,none⟩=some (O ii c)/\w'.cell? ⟨w.heap.size+1,3,none⟩=some (O ii d)))/\Below w2.heap.size w2 w'):=
   fun w' hb=>⟨⟨Below.four hb z0 ⟨c0,c1,c2,c3⟩,Below.four hb z1 ⟨e0,e1,e2,e3⟩⟩,hb⟩
  go_region_held3 (fun w'=>((w'.cell? ⟨w.heap.size,0,none⟩=some (O ii x)/\w'.cell? ⟨w.heap.size,1,none⟩=some (O ii y)/\w'.cell? ⟨w.heap.size,2,none⟩=some (O ii a)/\w'.cell? ⟨w.heap.size,3,none⟩=some (O ii b))/\(w'.cell? ⟨w.heap.size+1,0,none⟩=some (O ii p)/\w'.cell? ⟨w.heap.size+1,1,none⟩=some (O ii q)/\w'.cell? ⟨w.heap.size+1,2,none⟩=some (O ii c)/\w'.cell? ⟨w.heap.size+1,3,none⟩=some (O ii d)))/\Below w2.heap.size w2 w')
   (first
    |exact HS.out _ ((Below.refl _ _).drew)
    |exact HS.out _ (by assumption)
    |(refine HS.out _ ?_;repeat (first|exact hB2|exact hB1|exact Below.refl _ _|refine Below.drew ?_|refine Below.setCell ?_ (by first|omega|(simp;done)|(simp;omega)) _|refine Below.alloc ?_ (by first|omega|(simp;done)|(simp;omega)) _)))
   (first
    |(go_at_call_of 52 x
      refine (zC9 _ _ _ _ _ M1.out.1 M1.out.2.1 M1.out.2.2.1).mono ?_;rintro e v1 ⟨rfl,hb1⟩;have hB1:=zDy (W:=w2) hb1 (by assumption);have hs1:=hB1.size
      first
       |(have T01:Two v1 w2.heap.size 0 0/\Two v1 (w2.heap.size+1) 0 0:=Two.at2d (t:=23) (t':=23) hb1;obtain ⟨T0,T1⟩:=T01;obtain ⟨⟨_,_⟩,⟨_,_⟩,_⟩:=id T0;obtain ⟨⟨_,_⟩,⟨_,_⟩,_⟩:=id T1)
       |(have T0:Two v1 w2.heap.size 0 0:=Two.atd (t:=23) hb1;obtain ⟨⟨_,_⟩,⟨_,_⟩,_⟩:=id T0)
       |skip
      clear hb1)
    |(go_at_call_of 52 p
      refine (zC9 _ _ _ _ _ M2.out.1 M2.out.2.1 M2.out.2.2.1).mono ?_;rintro e v2 ⟨rfl,hb2⟩;have hB2:=zDy (W:=w2) hb2 (by assumption);have hs2:=hB2.size;have hX:Below v1.heap.size v1 v2:=by first|exact hb2|exact bt (zAh _ _) hb2|exact bt (zBe _ _ _) hb2
      have hs3:=hX.size
      first
       |(have U0:=T0.kept hX;have U1:=T1.kept hX;obtain ⟨⟨_,_⟩,⟨_,_⟩,_⟩:=id U0;obtain ⟨⟨_,_⟩,⟨_,_⟩,_⟩:=id U1)
       |(have U0:=T0.kept hX;have U1:Two v2 v1.heap.size 0 0:=Two.at (t:=23) hb2;obtain ⟨⟨_,_⟩,⟨_,_⟩,_⟩:=id U0;obtain ⟨⟨_,_⟩,⟨_,_⟩,_⟩:=id U1)
       |(have U0:=T0.kept hX;obtain ⟨⟨_,_⟩,⟨_,_⟩,_⟩:=id U0)
       |(have U01:Two v2 v1.heap.size 0 0/\Two v2 (v1.heap.size+1) 0 0:=Two.at2 (t:=23) (t':=23) hb2;obtain ⟨U0,U1⟩:=U01;obtain ⟨⟨_,_⟩,⟨_,_⟩,_⟩:=id U0;obtain ⟨⟨_,_⟩,⟨_,_⟩,_⟩:=id U1)
       |(have U0:Two v2 v1.heap.size 0 0:=Two.at (t:=23) hb2;obtain ⟨⟨_,_⟩,⟨_,_⟩,_⟩:=id U0)
       |skip
      clear hb2))
  all_goals
   go_wp2_with fail;go_meet
   refine ⟨_,_,rfl,rfl,?_,?_,?_,⟨?_,?_⟩,zHf (by assumption)⟩
   ·repeat (first|with_reducible exact U0|with_reducible exact U1|(with_reducible refine Two.newAt ?_;first|rfl|(simp;done))|with_reducible refine Two.set (u:=0) (v:=0) ?_|(with_reducible refine Two.other ?_ (by omega))|with_reducible refine Two.alloc ?_)
   ·repeat (first|with_reducible exact U0|with_reducible exact U1|(with_reducible refine Two.newAt ?_;first|rfl|(simp;done))|with_reducible refine Two.set (u:=0) (v:=0) ?_|(with_reducible refine Two.other ?_ (by omega))|with_reducible refine Two.alloc ?_)
   ·omega
   ·omega
   ·omega
 case rest =>
  obtain ⟨b6,b7,rfl,rfl,T6,T7,hne,⟨hl6,hl7⟩,hBc⟩:=hcut;obtain ⟨⟨⟨c0,c1,c2,c3⟩,_,z0⟩,⟨⟨e0,e1,e2,e3⟩,_,z1⟩,R,⟨_,_,_,_⟩,z2⟩:=zBm (bt B2.out hBc);have FR:=zAb (zBm (bt B2.out hBc)).2.2;have Hc:=zAb (bt (zDs _ _ _ _ _ _ _ _ _) (bt B2.out hBc));clear hBc B2 M1 M2 R;have HM':=HM.out;have HN':=HN.out;have HV:=zAb (@zVg x y a b p q c d);clear HM HN h h2;generalize x+a-1=X1 at T6 HM' HN' HV;generalize y+b-1=Y1 at T6 HM' HN' HV;generalize p+c-1=X2 at T7 HM' HN' HV;generalize q+d-1=Y2 at T7 HM' HN' HV;have HM:=zAb HM';have HN:=zAb HN';clear HM' HN';obtain ⟨⟨k0,k1⟩,_,z6⟩:=T6;obtain ⟨⟨l0,l1⟩,_,z7⟩:=T7;have hmx:=zSw;have hmn:=zSv;go_wp2_with fail;refine (zF2 _ _ _ _ _ HN.out.1.1.2 HN.out.2.1.2 HN.out.1.2.1 HN.out.2.2.1).mono ?_;rintro e w3 ⟨rfl,hb3⟩;have B3:=zAb (bt Hc.out (bt (zBe _ _ _) hb3));have F3:=zAb (FR.out.kept (bt (zBe _ _ _) hb3));clear hb3;cases hm:huB x y a b p q c d
  ·go_wp2_with fail;refine (zBy (c:=false) _ (HM.out.symm.trans hm)).mono ?_;rintro e w4 ⟨rfl,hb4⟩;obtain ⟨n0,n1,n2,n3⟩:=(zBo hb4).1;obtain ⟨⟨r0,r1,r2,r3⟩,⟨f0,f1,f2,f3⟩,zr⟩:=F3.out.kept (bt (zAh _ _) hb4);have B4:=zAb (bt B3.out (bt (zAh _ _) hb4));clear hb4;go_wp2_with fail;refine bodyPost_ret (v:=.agg #[O ii 0,O ii 0,O ii 0,O ii 0]) (by simp [results,Tryz.results175,go_sem,r0,r1,r2,r3]) rfl ⟨by rw [zPb hm];rfl,?_⟩;exact zJl B4.out (by omega)
  ·go_wp2_with fail;refine (zBy (c:=true) _ (HM.out.symm.trans hm)).mono ?_;rintro e w4 ⟨rfl,hb4⟩;obtain ⟨n0,n1,n2,n3⟩:=(zBo hb4).1;obtain ⟨⟨r0,r1,r2,r3⟩,⟨f0,f1,f2,f3⟩,zr⟩:=F3.out.kept (bt (zAh _ _) hb4);have B4:=zAb (bt B3.out (bt (zAh _ _) hb4));clear hb4;go_wp2_with fail;refine bodyPost_ret (v:=.agg #[O ii (min x p),O ii (min y q),O ii (max X1 X2-min x p+1),O ii (max Y1 Y2-min y q+1)]) (by simp [results,Tryz.results175,go_sem,r0,r1,r2,r3]) rfl ⟨by rw [HV.out hm];rfl,?_⟩;exact zJl B4.out (by omega)
theorem zRl (x y a b p q c d:Int) (w:World) :
 Calls pg 175 #[.agg #[O ii x,O ii y,O ii a,O ii b],.agg #[O ii p,O ii q,O ii c,O ii d]] w fun e w'=>e = .returned (huV x y a b p q c d)/\Below w.heap.size w w':=by
 cases h:may x y a b
 ·exact zRk x y a b p q c d w h
 ·cases h2:may p q c d
  ·exact zRj x y a b p q c d w h h2
  ·exact zRh x y a b p q c d w h h2
section
open Go.Shelf
def clx (d X:Int) (i:Nat):Int:=if d=0 then X else X+i
def cly (d Y:Int) (i:Nat):Int:=if d=0 then Y+i else Y
def rrq (d X Y:Int) (r:Nat×Nat):Q4:=if d=0 then ⟨X,Y+(r.1:Nat),1,(r.2:Nat)⟩ else ⟨X+(r.1:Nat),Y,(r.2:Nat),1⟩
def opB (S:Int->Int->Bool) (d X Y:Int) (i:Nat):Bool:=lg S (clx d X i) (cly d Y i) d
def BdOk (d X Y A B:Int) (n:Nat):Prop:=may X Y A B=true->((d=0/\A=1/\B=(n:Nat))\/(d=1/\A=(n:Nat)/\B=1))/\(1<=n/\n<=8)/\(0<=X/\X<=1000)/\0<=Y/\Y<=1000
theorem BdOk.cells {d X Y A B:Int} {n:Nat} (h:BdOk d X Y A B n) (hm:may X Y A B=true):(zFg X Y A B).map (·.1)=(List.range n).map fun i=>(clx d X i,cly d Y i):=by
 obtain ⟨h1,h2,h3,h4⟩:=h hm;rw [zFg,if_pos hm,upto,List.map_map];have hn:B.toNat*A.toNat=n:=by rcases h1 with ⟨-,rfl,rfl⟩|⟨-,rfl,rfl⟩<;>simp
 rw [hn];refine List.map_congr_left (fun i hi=>?_);have hlt:i<n:=List.mem_range.1 hi
 have hc:zDr X Y A.toNat i=(clx d X i,cly d Y i):=by
  unfold zDr clx cly;rcases h1 with ⟨rfl,rfl,rfl⟩|⟨rfl,rfl,rfl⟩
  ·simp [Nat.mod_one]
  ·rw [Int.toNat_natCast,Nat.mod_eq_of_lt hlt,Nat.div_eq_of_lt hlt];simp
 show (mkC (zDr X Y A.toNat i)).1=_;rw [hc];refine zOs ⟨zBr ?_,zBr ?_⟩<;>(unfold clx cly;simp only;split<;>omega)
def zJc (t u:Q4):Q4:=if huB t.x t.y t.a t.b u.x u.y u.a u.b=true then ⟨min t.x u.x,min t.y u.y,max (t.x+t.a-1) (u.x+u.a-1)-min t.x u.x+1,max (t.y+t.b-1) (u.y+u.b-1)-min t.y u.y+1⟩ else ⟨0,0,0,0⟩
theorem zVf (t u:Q4):huV t.x t.y t.a t.b u.x u.y u.a u.b=(zJc t u).v:=by
 unfold huV zJc zTr zGw
 split<;>rfl
def fqS (S:Int->Int->Bool) (d:Int) (st:List Q4×Bool) (q:Int×Int):List Q4×Bool:=
 if lg S q.1 q.2 d=true then (if st.2=true then (st.1.dropLast++[zJc (st.1.getLastD ⟨0,0,0,0⟩) ⟨q.1,q.2,1,1⟩],true) else (st.1++[⟨q.1,q.2,1,1⟩],true)) else (st.1,false)
def fq (S:Int->Int->Bool) (d:Int) (l:List (Int×Int)):List Q4×Bool:=l.foldl (fqS S d) ([],false)
theorem zIf (S:Int->Int->Bool) (d:Int) (l:List (Int×Int)) (q:Int×Int):fq S d (l++[q])=fqS S d (fq S d l) q:=by simp [fq]
theorem zS4 (S:Int->Int->Bool) (d:Int) (st:List Q4×Bool) (q:Int×Int):((fqS S d st q).2=true->∃L r,(fqS S d st q).1=L++[r])/\(fqS S d st q).1.length<=st.1.length+1:=by
 unfold fqS
 split
 ·split
  ·refine ⟨fun _=>⟨_,_,rfl⟩,?_⟩;simp only [List.length_append,List.length_dropLast,List.length_cons,List.length_nil];omega
  ·refine ⟨fun _=>⟨_,_,rfl⟩,by simp⟩
 ·exact ⟨fun h=>absurd h (by simp),Nat.le_succ _⟩
theorem zS3 {S:Int->Int->Bool} {d:Int} {st:List Q4×Bool} {x y:Int} (h:lg S x y d=false):fqS S d st (x,y)=(st.1,false):=by simp [fqS,h]
theorem zPk {S:Int->Int->Bool} {d:Int} {st:List Q4×Bool} {x y:Int} (h:lg S x y d=true) (hb:st.2=false):fqS S d st (x,y)=(st.1++[⟨x,y,1,1⟩],true):=by simp [fqS,h,hb]
theorem zS2 {S:Int->Int->Bool} {d:Int} {st:List Q4×Bool} {x y:Int} {L:List Q4} {r:Q4} (h:lg S x y d=true) (hb:st.2=true) (hl:st.1=L++[r]):fqS S d st (x,y)=(L++[zJc r ⟨x,y,1,1⟩],true):=by simp [fqS,h,hb,hl]
theorem zG1 {α:Type} (l:List α):l=[]\/∃L q,l=L++[q]:=by
 cases h:l.reverse with
 |nil=>left;simpa using h
 |cons q L=>right;exact ⟨L.reverse,q,by have:=congrArg List.reverse h;simpa using this⟩
theorem qAt (S:Int->Int->Bool) (d:Int) (l:List (Int×Int)):((fq S d l).2=true->∃L r,(fq S d l).1=L++[r]):=by
 rcases zG1 l with rfl|⟨L,q,rfl⟩
 ·intro h;cases h
 ·rw [zIf];exact (zS4 _ _ _ _).1
theorem zS1 (S:Int->Int->Bool) (d:Int):∀(n:Nat) (l:List (Int×Int)),l.length=n->(fq S d l).1.length<=n
 |0,l,h=>by
  have:=List.eq_nil_of_length_eq_zero h;subst this;simp [fq]
 |n+1,l,h=>by
  rcases zG1 l with rfl|⟨L,q,rfl⟩
  ·simp at h
  ·rw [zIf];have h1:=zS1 S d n L (by simpa using h);have h2:=(zS4 S d (fq S d L) q).2;omega
theorem zRi {d X Y:Int} {a n i:Nat} (hd:d=0\/d=1) (hX:0<=X/\X<=1000) (hY:0<=Y/\Y<=1000) (hi:i<8) (h1:1<=n) (ha:a+n=i):zJc (rrq d X Y (a,n)) ⟨clx d X i,cly d Y i,1,1⟩=rrq d X Y (a,n+1):=by
 have hm:∀{x y u v:Int},(0<=x/\x<=1100)->(0<=y/\y<=1100)->(1<=u/\u<=100)->(1<=v/\v<=100)->may x y u v=true:=fun {x y u v} h1 h2 h3 h4=>(zA5 _ _ _ _).2 (by omega);rcases hd with rfl|rfl
 ·simp only [zJc,rrq,clx,cly,if_true];rw [if_pos]
  ·simp only [Q4.mk.injEq];omega
  ·rw [huB,hm (by omega) (by omega) (by omega) (by omega),hm (by omega) (by omega) (by omega) (by omega),hm (by omega) (by omega) (by omega) (by omega)];rfl
 ·simp only [zJc,rrq,clx,cly,if_neg (show ¬(1:Int)=0 by decide)];rw [if_pos]
  ·simp only [Q4.mk.injEq];omega
  ·rw [huB,hm (by omega) (by omega) (by omega) (by omega),hm (by omega) (by omega) (by omega) (by omega),hm (by omega) (by omega) (by omega) (by omega)];rfl
theorem zPj {S:Int->Int->Bool} {d X Y:Int} (hd:d=0\/d=1) (hX:0<=X/\X<=1000) (hY:0<=Y/\Y<=1000):∀k,k<=8->fq S d ((List.range k).map fun i=>(clx d X i,cly d Y i))=((zC3 (opB S d X Y) k).1.map (rrq d X Y),(zC3 (opB S d X Y) k).2)
 |0,_=>rfl
 |k+1,hk=>by
  rw [List.range_succ,List.map_append,List.map_cons,List.map_nil,zIf,zPj hd hX hY k (by omega)];cases ho:opB S d X Y k
  ·rw [zS3 (by exact ho),zHx ho]
  ·cases hb:(zC3 (opB S d X Y) k).2
   ·rw [zPk (by exact ho) rfl,zHy ho hb];simp only [List.map_append,List.map_cons,List.map_nil]
    have:rrq d X Y (k,1)=⟨clx d X k,cly d Y k,1,1⟩:=by
     rcases hd with rfl|rfl
     ·simp [rrq,clx,cly]
     ·simp [rrq,clx,cly]
    rw [this]
   ·obtain ⟨pre,a,n,e,ha⟩:=(zD6 (opB S d X Y) k).1 hb;have h1:=(zD6 (opB S d X Y) k).2.1 (a,n) (by rw [e];simp);rw [zS2 (L:=pre.map (rrq d X Y)) (r:=rrq d X Y (a,n)) (by exact ho) rfl (by simp [e]),zJr ho hb e,zRi hd hX hY (by omega) h1.1 ha];simp
structure Rs (w Z:World) (p:Nat) (c s d:Int) (lv:Value) (L:List Q4) (b:Bool) (M:Nat):Prop where
 bl:Below w.heap.size w Z
 b0:Boxed Z w.heap.size 27 (ptr p)
 b1:Two Z (w.heap.size+1) c s
 b3:Boxed Z (w.heap.size+3) 3 (O ii d)
 b4:Boxed Z (w.heap.size+4) 91 lv
 b5:Boxed Z (w.heap.size+5) 4 (.bool b)
 row:Rq 65 Z lv L
 own:∀g,lv.ownBlock=some g->M<=g
 size:M<=Z.heap.size
 hM:w.heap.size+6<=M
section
variable {w Z Z':World} {p:Nat} {c s d:Int} {lv:Value} {L:List Q4} {b:Bool} {M:Nat}
theorem Rs.turned (h:Rs w Z p c s d lv L b M) {S:Nat->Prop} (T:Turns S Z Z') (hS:∀j,S j->M<=j) (hv:∀g,lv.ownBlock=some g->¬S g):Rs w Z' p c s d lv L b M:=by
 have hM:=h.hM;have hz:=h.bl.size;have key:∀j,j<M->¬S j:=fun j hj e=>by have:=hS j e;omega
 exact ⟨h.bl.trans (T.below (fun j e=>by have:=hS j e;omega) hz),zAg h.b0 T (key _ (by omega)),zAy h.b1 T (key _ (by omega)),zAg h.b3 T (key _ (by omega)),zAg h.b4 T (key _ (by omega)),zAg h.b5 T (key _ (by omega)),h.row.kept T hv,h.own,Nat.le_trans h.size T.size,h.hM⟩
theorem Rs.upto (h:Rs w Z p c s d lv L b M) (hb:Below Z.heap.size Z Z'):Rs w Z' p c s d lv L b M:=h.turned (S:=NoB) (Turns.of_below hb) (fun _ e=>e.elim) (fun _ _=>id)
theorem Rs.own_from (h:Rs w Z p c s d lv L b M) {row:Option Nat} (hg:Z.grownBy Z' row) (hr:∀r,row=some r->M<=r/\∃o:Obj,Z.heap[r]? = some o/\o.isCells=false):Rs w Z' p c s d lv L b M:=
 h.turned (S:=fun j=>row=some j) (Turns.of_grown hg (fun j e=>e)) (fun j e=>(hr j e).1) (fun g hg' e=>by
  obtain ⟨cur,hc⟩:=h.row.blk hg';obtain ⟨o,ho,hi⟩:=(hr g e).2
  rw [hc] at ho;cases ho;cases hi)
theorem Rs.setB (h:Rs w Z p c s d lv L b M) (b':Bool):Rs w (Z.setCell ⟨w.heap.size+5,0,none⟩ (.bool b')) p c s d lv L b' M/\Turns (fun j=>j=w.heap.size+5) Z (Z.setCell ⟨w.heap.size+5,0,none⟩ (.bool b')):=by
 have hM:=h.hM;have hz:=h.bl.size;have T:Turns (fun j=>j=w.heap.size+5) Z (Z.setCell ⟨w.heap.size+5,0,none⟩ (.bool b')):=Turns.set (S:=fun j=>j=w.heap.size+5) Z (p:=⟨w.heap.size+5,0,none⟩) rfl _;refine ⟨⟨h.bl.trans (T.below (fun j e=>by omega) hz),zAg h.b0 T (by omega),zAy h.b1 T (by omega),zAg h.b3 T (by omega),zAg h.b4 T (by omega),h.b5.set _,h.row.kept T (fun g e q=>by have:=h.own g e;omega),h.own,Nat.le_trans h.size T.size,h.hM⟩,T⟩
theorem Rs.setL (h:Rs w Z p c s d lv L b M) {lv':Value} {L':List Q4} (T:Turns (fun j=>lv.ownBlock=some j) Z Z') (hr:Rq 65 Z' lv' L') (ho:∀g,lv'.ownBlock=some g->M<=g) :
 Rs w (Z'.setCell ⟨w.heap.size+4,0,none⟩ lv') p c s d lv' L' b M/\Turns (fun j=>j=w.heap.size+4\/lv.ownBlock=some j) Z (Z'.setCell ⟨w.heap.size+4,0,none⟩ lv'):=by
 have hM:=h.hM;have hz:=h.bl.size;have key:∀j,j<M->¬lv.ownBlock=some j:=fun j hj e=>by have:=h.own j e;omega
 have T2:Turns (fun j=>j=w.heap.size+4) Z' (Z'.setCell ⟨w.heap.size+4,0,none⟩ lv'):=Turns.set (S:=fun j=>j=w.heap.size+4) Z' (p:=⟨w.heap.size+4,0,none⟩) rfl _;have TT:Turns (fun j=>j=w.heap.size+4\/lv.ownBlock=some j) Z (Z'.setCell ⟨w.heap.size+4,0,none⟩ lv'):=(T.mono (fun j _ e => .inr e)).trans (T2.mono (fun j _ e => .inl (.inl e)));have b4:=(zAg h.b4 T (key _ (by omega)))
 refine ⟨⟨h.bl.trans (TT.below (fun j e=>by rcases e with e|e;omega;have:=h.own j e;omega) hz),zAg (zAg h.b0 T (key _ (by omega))) T2 (by omega),zAy (zAy h.b1 T (key _ (by omega))) T2 (by omega),zAg (zAg h.b3 T (key _ (by omega))) T2 (by omega),b4.set _,zAg (zAg h.b5 T (key _ (by omega))) T2 (by omega),hr.kept T2 (fun g e q=>by have:=ho g e;omega),ho,Nat.le_trans h.size TT.size,h.hM⟩,TT⟩
theorem Rs.keeps (h:Rs w Z p c s d lv L b M) (T:Turns (fun j=>j=w.heap.size+5\/j=w.heap.size+4\/lv.ownBlock=some j) Z Z'):KeepsFrom M Z Z':=
 ⟨T.size,fun j o hj ho hi=>T.same (fun e=>by
  have hM:=h.hM;rcases e with e|e|e
  ·omega
  ·omega
  ·obtain ⟨cur,hc⟩:=h.row.blk e
   rw [hc] at ho;cases ho;cases hi) ho⟩
end
attribute [local go_sem] Oper.semAt_some
theorem zD5 {F:Fence} {nF:Nat} {P:Program} {w:World} {ops:Array Oper} {rest:List Oper} {o:Oper} {a:Act} {Q:Exit->Act->World->Prop}
 (hgd:o.guard=none) (s x:Operand) (t:TypeId) (ho:o.op = .call { callee:=.builtin .append,args:=#[s,x],argTypes:=#[t,t] })
 (v xv:Value) (hs:a.eval s=v) (hx:a.eval x=xv) {v':Value} {w':World} (hr:(Builtin.append_ #[t,t] o.type #[v,xv]).run P w = .ok v' w') (h:wpListIn F nF P ops Q rest (a.put o.dst v') w') :
 wpListIn F nF P ops Q (o::rest) a w:=by
 refine wpListIn_plain hgd fun K hK=>?_;unfold Oper.wpIn;refine ⟨by simp [Oper.about,ho,resolve,Target.leads,Sem.run_pure],?_⟩;rw [Oper.semAt_plain F _ _ (by rw [ho];intro c hc';cases hc')];simp [execOp,ho,resolve,invoke,builtin,hs,hx,hr,Result.andThen];exact hK _ _ h
theorem zMh (X:World) {l:Nat} (o:Obj) (S:Nat->Prop) (hl:S l):Turns S X (X.putObj l o):=Turns.of_grown (grownBy_putObj' X l o) (fun k e=>by cases e;exact hl)
theorem zMq:Rcl 175:=zl fun _ _=>by go_simp
def zT3 (S:Int->Int->Bool) (d X Y A B:Int) (n:Nat):List Q4:=if may X Y A B=true then (zC3 (opB S d X Y) n).1.map (rrq d X Y) else []
theorem zJs {w:World} {p:Nat} {W H:Int} {tl:List Nat} {f:Int->Int->Option Int} (c s kx ky d X Y A B:Int) (n:Nat) (hw:Wl w p W H tl f) (hg:Grnd w) (ho:Offs w)
 (hb:bdV W H kx ky d=rct X Y A B) (hn:BdOk d X Y A B n) :
 Calls pg 162 #[ptr p,shv c s,cel kx ky,O ii d] w fun e w'=>∃lv,e = .returned lv/\Rq 65 w' lv (zT3 (stB W H tl f c s) d X Y A B n)/\Below w.heap.size w w'/\∀g,lv.ownBlock=some g->w.heap.size<=g:=by
 refine (callsIn_wide (n:=10)).1 ?_;refine callsIn_of_wp_marks func162 rfl trivial ?_ rfl;simp only [ntmps162,List.size_toArray,List.length_cons,List.length_nil,Nat.reduceAdd,Nat.reduceSub,Array.replicate_succ,Array.replicate_zero,List.push_toArray,List.append_toArray,List.nil_append,List.cons_append];obtain ⟨V,hV⟩:=ex ((((((w.alloc (.cells #[ptr p] 27)).alloc (.cells #[O ii c,O ii s] 29)).alloc (.cells #[O ii kx,O ii ky] 23)).alloc (.cells #[O ii d] 3)).alloc (.cells #[.slice none 0 0] 91)).alloc (.cells #[.bool false] 4));have B0:Below w.heap.size w V:=hV▸bt (bt (zBe _ _ _) (zBe _ _ _)) (zBe _ _ _);have k0:Boxed V w.heap.size 27 (ptr p):=by rw [<-hV];exact (((((Boxed.new w 27 _).alloc _).alloc _).alloc _).alloc _).alloc _
 have k1:Two V (w.heap.size+1) c s:=by rw [<-hV];exact ((((Two.newAt (by simp)).alloc).alloc).alloc).alloc
 have k2:Two V (w.heap.size+2) kx ky:=by rw [<-hV];exact (((Two.newAt (by simp)).alloc).alloc).alloc
 have k3:Boxed V (w.heap.size+3) 3 (O ii d):=by
  rw [<-hV];have:=Boxed.new (((w.alloc (.cells #[ptr p] 27)).alloc (.cells #[O ii c,O ii s] 29)).alloc (.cells #[O ii kx,O ii ky] 23)) 3 (O ii d);exact ((by simpa using this:Boxed _ (w.heap.size+3) 3 (O ii d)).alloc _).alloc _
 have k4:Boxed V (w.heap.size+4) 91 (.slice none 0 0):=by
  rw [<-hV];have:=Boxed.new ((((w.alloc (.cells #[ptr p] 27)).alloc (.cells #[O ii c,O ii s] 29)).alloc (.cells #[O ii kx,O ii ky] 23)).alloc (.cells #[O ii d] 3)) 91 (.slice none 0 0);exact (by simpa using this:Boxed _ (w.heap.size+4) 91 (.slice none 0 0)).alloc _
 have k5:Boxed V (w.heap.size+5) 4 (.bool false):=by
  rw [<-hV];have:=Boxed.new (((((w.alloc (.cells #[ptr p] 27)).alloc (.cells #[O ii c,O ii s] 29)).alloc (.cells #[O ii kx,O ii ky] 23)).alloc (.cells #[O ii d] 3)).alloc (.cells #[.slice none 0 0] 91)) 4 (.bool false);simpa using this
 have zV:V.heap.size=w.heap.size+6:=by rw [<-hV];simp
 have HBo:=zAb (zPy kx ky d (hw.kept B0));rw [hb] at HBo;have HSt:Hid (∀wx,Below w.heap.size w wx->∀u v,Calls pg 174 #[ptr p,shv c s,cel u v,O ii d] wx fun e w'=>e = .returned (.bool (lg (stB W H tl f c s) u v d))/\Below wx.heap.size wx w'):=zAb fun wx q u v=>zPs c s u v d (hw.kept q) (hg.kept q) (ho.kept q);have HV:=zAb hV;have HR0:Hid (Rs w V p c s d (.slice none 0 0) [] false (w.heap.size+6)):=zAb ⟨B0,k0,k1,k3,k4,k5,Rw.nil _ _ _ _,(fun g e=>by cases e),by omega,Nat.le_refl _⟩;have c0:=k0.cell;obtain ⟨⟨c2,c3⟩,-,-⟩:=id k2;have c4:=k3.cell;have zV':=zAb zV;clear hV hb B0 k0 k1 k2 k3 k4 k5 zV hw hg ho;gi_wp2_with fail;rw [HV.out];simp only [Nat.add_assoc,Nat.reduceAdd];refine ⟨trivial,?_⟩;refine (callsIn_wide.2 HBo.out).mono ?_;rintro e w1 ⟨rfl,hb1⟩;have HR1:=zAb (HR0.out.upto hb1);have hs1:=hb1.size;clear hb1 c0 c2 c3 c4;gi_wp2_with fail;refine ⟨trivial,?_⟩;refine (callsIn_wide.2 (zDq X Y A B w1)).mono ?_;rintro e X0 ⟨rfl,hX0⟩;have F0:Four X0 w1.heap.size X Y A B:=by rw [hX0];exact Four.new12 _ _ _ _ _ _
 have zX:X0.heap.size=w1.heap.size+1:=by rw [hX0];simp
 have hR2:Rs w X0 p c s d (.slice none 0 0) [] false X0.heap.size:=by
  have h:=HR1.out.upto (Z':=X0) (by rw [hX0];exact zAh _ _);exact ⟨h.bl,h.b0,h.b1,h.b3,h.b4,h.b5,h.row,(fun g e=>by cases e),Nat.le_refl _,by have:=zV'.out;omega⟩
 have hN:may X Y A B=true->B.toNat*A.toNat<=8:=fun hm=>by
  obtain ⟨h1,h2,-⟩:=hn hm;rcases h1 with ⟨-,rfl,rfl⟩|⟨-,rfl,rfl⟩<;>(simp;omega)
 have hw6:w.heap.size+6<=w1.heap.size:=by have:=zV'.out;omega
 clear hX0 HR1 HR0 HBo HV;gi_wp2_with fail
 refine wpIn_rangeFunc_ownH rfl (n:=10) (by omega) (gf:=54) (lb:=#[ptr w1.heap.size]) rfl trivial (enters_of func54 (by kernel_rfl) rfl)
  (zCm (10-1) w1.heap.size 8 X Y A B X0 F0 hN) zWl (zWm (by omega)) (Below.refl _ _) (fun _=>rfl)
  (fun pre Z=>∃lv,Rs w Z p c s d lv (fq (stB W H tl f c s) d (pre.map (·.1))).1 (fq (stB W H tl f c s) d (pre.map (·.1))).2 X0.heap.size) (fun _ _ _=>False)
  (fun pre Y' Z row hs hg hr=>by obtain ⟨lv,h⟩:=hs;exact ⟨lv,h.own_from hg hr⟩) (fun _ _ _ _ _ h _ _=>h.elim)
  ⟨_,hR2⟩
  (fun q a' Z=>∃Bx,X0.heap.size<=Bx/\Two Z Bx q.1.1 q.1.2/\a'={ tmps:=#[ptr p,shv c s,cel kx ky,O ii d,ptr w.heap.size,ptr (w.heap.size+1),ptr (w.heap.size+2),ptr (w.heap.size+3),.slice none 0 0,ptr (w.heap.size+4),ptr (w.heap.size+5),ptr Bx,undef,undef,ptr p,cel kx ky,O ii d,rct X Y A B,.func (.func 54) #[] #[ptr w1.heap.size],cel q.1.1 q.1.2,undef,undef,undef,undef,undef,undef,undef,undef,undef,undef,undef,undef,undef,undef,undef,undef,undef,undef,undef,undef,undef,undef,undef,undef,undef,undef,undef,undef,undef,undef,undef],defers:=[] })
  (fun q a' _ X Y row hs hg hr=>by obtain ⟨Bx,e1,e2,e3⟩:=hs;exact ⟨Bx,e1,e2.own hg (fun r e=>(hr r e).2),e3⟩)
  ?assign ?body ?done ?stop
 case assign =>
  rintro lo pre q Z K ⟨lv,hR⟩ hK;have hz:=hR.size;gi_wp2
  exact hK _ _ ((KeepsOthers.alloc _ _).from _) (Below.heap_alloc _ _ _ (by omega)) ⟨lv,hR.upto (zAh _ _)⟩ ⟨Z.heap.size,by omega,Two.newAt rfl,rfl⟩
 case body =>
  rintro lo pre q a' Z hlo hlr ⟨lv,hR⟩ ⟨Bx,hBx,bX,rfl⟩ hlt;obtain ⟨⟨qx,qy⟩,hqw⟩:=q;simp only at bX ⊢;obtain ⟨st,hst⟩:=ex (fq (stB W H tl f c s) d (pre.map (·.1)));have hln:fq (stB W H tl f c s) d ((pre++[(⟨(qx,qy),hqw⟩:Cel)]).map (·.1))=fqS (stB W H tl f c s) d st (qx,qy):=by rw [List.map_append,List.map_cons,List.map_nil,zIf,hst]
  have hne:=qAt (stB W H tl f c s) d (pre.map (·.1));have hle:=zS1 (stB W H tl f c s) d pre.length (pre.map (·.1)) (by simp);rw [hst] at hR hne hle;obtain ⟨L,gb⟩:=st;simp only at hR hne hle;obtain ⟨ob,hob⟩:=ex (lg (stB W H tl f c s) qx qy d)
  have HSq:Hid (∀wx,Below w.heap.size w wx->Calls pg 174 #[ptr p,shv c s,cel qx qy,O ii d] wx fun e w'=>e = .returned (.bool ob)/\Below wx.heap.size wx w'):=zAb fun wx q=>by
   have:=HSt.out wx q qx qy
   rwa [hob] at this
  have x0:=hR.b0.cell;obtain ⟨⟨x1,x2⟩,-,-⟩:=id hR.b1;have x3:=hR.b3.cell;obtain ⟨⟨y0,y1⟩,-,-⟩:=id bX;have HRi:=zAb hR;have HbX:=zAb bX;have Hln:=zAb hln;have Hob:=zAb hob;have HBx:=zAb hBx;have Hlt:=zAb (Nat.le_trans hle (Nat.le_of_lt hlt));have Hne:=zAb hne;clear hR bX hln hob hlt hlr hlo hle hne hst;gi_wp2_with fail;refine ⟨trivial,?_⟩;refine (CallsIn.inRound lo (callsIn_wide.2 (HSq.out Z HRi.out.bl))).mono ?_;rintro e Z1 ⟨rfl,hb1⟩;have bX1:=HbX.out.kept hb1;have T1:Turns NoB Z Z1:=Turns.of_below hb1;have R1:=HRi.out.upto hb1;clear x0 x1 x2 x3 y0 y1;obtain ⟨Z2,hZ2⟩:=ex (Z1.alloc (.cells #[O ii qx,O ii qy,O ii 1,O ii 1] 65));have R2:Rs w Z2 p c s d lv L gb X0.heap.size:=by rw [<-hZ2];exact R1.upto (zAh _ _)
  have F2:Four Z2 Z1.heap.size qx qy 1 1:=by rw [<-hZ2];exact Four.new12 _ _ _ _ _ _
  have T2:Turns NoB Z Z2:=T1.trans (by rw [<-hZ2];exact (Turns.of_below (zAh _ _)).mono (fun _ _ e => .inl e));have z2:Z2.heap.size=Z1.heap.size+1:=by rw [<-hZ2];simp
  obtain ⟨⟨y0,y1⟩,-,-⟩:=id bX1;have HZ2:=zAb hZ2;have hzB:X0.heap.size<=Z1.heap.size:=R1.size;have HR2:=zAb R2;have HT2:=zAb T2;have HF2:=zAb F2;have Hz2:=zAb z2
  have HKB:Hid (∀Z',Turns (fun j=>j=w.heap.size+5\/j=w.heap.size+4\/lv.ownBlock=some j) Z Z'->KeepsFrom X0.heap.size Z Z'/\KB w1.heap.size Z Z'):=zAb fun Z' TT=>⟨HRi.out.keeps TT,TT.block _ (by have:=HRi.out.size;omega) (fun e=>by
   rcases e with e|e|e
   ·omega
   ·omega
   ·have:=HRi.out.own _ e;omega)⟩
  clear hZ2 R1 R2 T1 T2 F2 hb1 bX1 z2;cases ob
  ·have hE:KeepsFrom X0.heap.size Z (Z2.setCell ⟨w.heap.size+5,0,none⟩ (.bool false))/\KB w1.heap.size Z (Z2.setCell ⟨w.heap.size+5,0,none⟩ (.bool false))/\∃lv,Rs w (Z2.setCell ⟨w.heap.size+5,0,none⟩ (.bool false)) p c s d lv (fq (stB W H tl f c s) d ((pre++[(⟨(qx,qy),hqw⟩:Cel)]).map (·.1))).1 (fq (stB W H tl f c s) d ((pre++[(⟨(qx,qy),hqw⟩:Cel)]).map (·.1))).2 X0.heap.size:=by
    obtain ⟨r3,t3⟩:=HR2.out.setB false;have TT:Turns (fun j=>j=w.heap.size+5\/j=w.heap.size+4\/lv.ownBlock=some j) Z (Z2.setCell ⟨w.heap.size+5,0,none⟩ (.bool false)):=(HT2.out.mono (fun _ _ e=>e.elim)).trans (t3.mono (fun _ _ e => .inl (.inl e)));obtain ⟨q1,q2⟩:=HKB.out _ TT;refine ⟨q1,q2,lv,?_⟩;rw [Hln.out,zS3 Hob.out];exact r3
   have HE:=zAb hE;have g5:Z2.frozen? ⟨w.heap.size+5,0,none⟩=false:=HR2.out.b5.frozen;have x5:=HR2.out.b5.cell;clear hE;gi_wp2_with (first|rw [HZ2.out]|fail);exact HE.out
  ·have x5:=HR2.out.b5.cell;have x4:=HR2.out.b4.cell;obtain ⟨⟨f0,f1,f2,f3⟩,-,-⟩:=HF2.out;cases gb
   ·obtain ⟨a1,cap1,hlv⟩:=HR2.out.row.slice4;obtain ⟨v',Z3,rA,rR,rO,rT⟩:=HR2.out.row.push4 (st:=91) Tryz.underlying91 zVb ⟨qx,qy,1,1⟩ (by have:=Hlt.out;omega);obtain ⟨a2,cap2,hv2⟩:=rR.slice4;rw [List.length_append,List.length_cons,List.length_nil,Nat.zero_add] at hv2
    have hown:∀g,v'.ownBlock=some g->X0.heap.size<=g:=fun g e=>by
     rcases rO g e with q|q
     ·exact HR2.out.own g q
     ·have:=HR2.out.size;omega
    obtain ⟨R4,T4⟩:=HR2.out.setL rT rR hown;obtain ⟨R5,T5⟩:=R4.setB true;have b43:Boxed Z3 (w.heap.size+4) 91 lv:=zAg HR2.out.b4 rT (fun e=>by have:=HR2.out.own _ e;have:=HR2.out.hM;omega)
    have hE:KeepsFrom X0.heap.size Z ((Z3.setCell ⟨w.heap.size+4,0,none⟩ v').setCell ⟨w.heap.size+5,0,none⟩ (.bool true))/\KB w1.heap.size Z ((Z3.setCell ⟨w.heap.size+4,0,none⟩ v').setCell ⟨w.heap.size+5,0,none⟩ (.bool true))/\∃lv,Rs w ((Z3.setCell ⟨w.heap.size+4,0,none⟩ v').setCell ⟨w.heap.size+5,0,none⟩ (.bool true)) p c s d lv (fq (stB W H tl f c s) d ((pre++[(⟨(qx,qy),hqw⟩:Cel)]).map (·.1))).1 (fq (stB W H tl f c s) d ((pre++[(⟨(qx,qy),hqw⟩:Cel)]).map (·.1))).2 X0.heap.size:=by
     have TT:Turns (fun j=>j=w.heap.size+5\/j=w.heap.size+4\/lv.ownBlock=some j) Z ((Z3.setCell ⟨w.heap.size+4,0,none⟩ v').setCell ⟨w.heap.size+5,0,none⟩ (.bool true)):=((HT2.out.mono (fun _ _ e=>e.elim)).trans (T4.mono (fun j _ e => .inl (by rcases e with e|e;exact .inr (.inl e);exact .inr (.inr e))))).trans (T5.mono (fun _ _ e => .inl (.inl e)));obtain ⟨q1,q2⟩:=HKB.out _ TT;refine ⟨q1,q2,v',?_⟩;rw [Hln.out,zPk Hob.out rfl];exact R5
    subst hv2;subst hlv;have HA:=zAb rA;have HE:=zAb hE;have x4':=b43.cell;have g4':=b43.frozen;have x5':=R4.b5.cell;have g5':=R4.b5.frozen;have x4a:(Z2.alloc (.cells #[O ii qx,O ii qy,O ii 1,O ii 1] 65)).cell? ⟨w.heap.size+4,0,none⟩=some (.slice a1 L.length cap1):=(HR2.out.b4.alloc _).cell;clear rA rR rO rT hown R4 T4 R5 T5 b43 hE HKB HR2 HRi HbX HF2 Hlt Hne hzB hBx HBx HSq HT2;gi_wp2_with (first|rw [HZ2.out]|(gi_at_builtin;refine zD5 rfl _ _ 91 rfl _ _ rfl rfl HA.out ?_));exact HE.out
   ·obtain ⟨L0,r,hL⟩:=Hne.out rfl;subst hL;obtain ⟨g,cap,hlv,hgl,hgo⟩:=HR2.out.row.own_some;subst hlv;have hgX:X0.heap.size<=g:=HR2.out.own g rfl;obtain ⟨⟨l0,l1,l2,l3⟩,lf⟩:=HR2.out.row.lastq;have hlen:(0:Int)<=(L0.length:Nat)/\((L0.length:Nat):Int)<=8:=by have:=Hlt.out;simp at this;omega
    have hwr:IntKind.i64.wrap ((L0.length:Nat):Int)=((L0.length:Nat):Int):=by rw [IntKind.wrap_i64];omega
    have hwr2:IntKind.i64.wrap (((L0.length:Nat):Int)+1-1)=((L0.length:Nat):Int):=by rw [IntKind.wrap_i64];omega
    have HS:(fun wx:World=>wx.cell? ⟨w.heap.size+4,0,none⟩=some (.slice (some ⟨g,0,none⟩) (L0.length+1) cap)/\(wx.cell? ⟨g,L0.length*4,none⟩=some (O ii r.x)/\wx.cell? ⟨g,L0.length*4+1,none⟩=some (O ii r.y)/\wx.cell? ⟨g,L0.length*4+2,none⟩=some (O ii r.a)/\wx.cell? ⟨g,L0.length*4+3,none⟩=some (O ii r.b))/\wx.cell? ⟨Z1.heap.size,0,none⟩=some (O ii qx)/\wx.cell? ⟨Z1.heap.size,1,none⟩=some (O ii qy)/\wx.cell? ⟨Z1.heap.size,2,none⟩=some (O ii 1)/\wx.cell? ⟨Z1.heap.size,3,none⟩=some (O ii 1)) Z2.drew:=⟨x4,⟨l0,l1,l2,l3⟩,f0,f1,f2,f3⟩
    obtain ⟨hx,hy,ha,hb,hh⟩:∃hx hy ha hb,zJc r ⟨qx,qy,1,1⟩=⟨hx,hy,ha,hb⟩:=⟨_,_,_,_,rfl⟩
    have HHu:Hid (∀wx,Calls pg 175 #[rct r.x r.y r.a r.b,rct qx qy 1 1] wx fun e w'=>e = .returned (rct hx hy ha hb)/\Below wx.heap.size wx w'):=zAb fun wx=>by
     have:=zRl r.x r.y r.a r.b qx qy 1 1 wx
     rwa [zVf r ⟨qx,qy,1,1⟩,hh] at this
    have Hhh:=zAb hh;have Hfr:=zAb lf;have Hgx:=zAb (ai hgX hgl);clear hh lf l0 l1 l2 l3 x4 f0 f1 f2 f3 hgX hgl hgo;gi_wp2_with (first|rw [HZ2.out]|fail);refine zA1 ?_;refine zAw (fun wx:World=>wx.cell? ⟨w.heap.size+4,0,none⟩=some (.slice (some ⟨g,0,none⟩) (L0.length+1) cap)/\(wx.cell? ⟨g,L0.length*4,none⟩=some (O ii r.x)/\wx.cell? ⟨g,L0.length*4+1,none⟩=some (O ii r.y)/\wx.cell? ⟨g,L0.length*4+2,none⟩=some (O ii r.a)/\wx.cell? ⟨g,L0.length*4+3,none⟩=some (O ii r.b))/\wx.cell? ⟨Z1.heap.size,0,none⟩=some (O ii qx)/\wx.cell? ⟨Z1.heap.size,1,none⟩=some (O ii qy)/\wx.cell? ⟨Z1.heap.size,2,none⟩=some (O ii 1)/\wx.cell? ⟨Z1.heap.size,3,none⟩=some (O ii 1)) [13] zC7 (by kernel_rfl) (by kernel_rfl) ?_;refine zv 0 8 20 [.slice (some ⟨g,0,none⟩) (L0.length+1) cap,.slice (some ⟨g,0,none⟩) (L0.length+1) cap,O ii (((L0.length+1:Nat)):Int),O ii ((L0.length:Nat):Int),.slice (some ⟨g,0,none⟩) (L0.length+1) cap,.slice (some ⟨g,0,none⟩) (L0.length+1) cap,O ii (((L0.length+1:Nat)):Int),O ii ((L0.length:Nat):Int)] rfl rfl (by kernel_rfl) HS ?_;repeat (refine zc rfl (by rfl) (fun wx hx=>by go_simp) ?_;simp only [zp])
    refine zn ?_;refine zt 8 20 (.pointer (some ⟨g,L0.length*4,none⟩)) rfl (by kernel_rfl) (by rfl) (fun wx hx=>by go_simp;intro hq;omega) HS ?_;try simp only [zp]
    refine zv 9 2 20 [rct r.x r.y r.a r.b,rct qx qy 1 1] rfl rfl (by kernel_rfl) HS ?_;repeat (refine zc rfl (by rfl) (fun wx hx=>by go_simp) ?_;simp only [zp])
    refine zn ?_;refine zw 11 [] (by kernel_rfl) ?_;refine readyZ.call rfl rfl (zMq (by rfl) (by rfl) (by simp only [zj];rfl)) (HHu.out _) ?_ readyZ.nil;rintro e Z3 ⟨rfl,hb3'⟩;have hb3:Below Z2.heap.size Z2 Z3:=Below.trans (Below.drew (Below.refl Z2.heap.size Z2)) hb3';have R3:=HR2.out.upto hb3;obtain ⟨⟨l0,l1,l2,l3⟩,lf⟩:=R3.row.lastq;have F3:=HF2.out.kept hb3;obtain ⟨⟨f0,f1,f2,f3⟩,-,-⟩:=F3;have x4:=R3.b4.cell;have HS3:(fun wx:World=>wx.cell? ⟨w.heap.size+4,0,none⟩=some (.slice (some ⟨g,0,none⟩) (L0.length+1) cap)/\(wx.cell? ⟨g,L0.length*4,none⟩=some (O ii r.x)/\wx.cell? ⟨g,L0.length*4+1,none⟩=some (O ii r.y)/\wx.cell? ⟨g,L0.length*4+2,none⟩=some (O ii r.a)/\wx.cell? ⟨g,L0.length*4+3,none⟩=some (O ii r.b))/\wx.cell? ⟨Z1.heap.size,0,none⟩=some (O ii qx)/\wx.cell? ⟨Z1.heap.size,1,none⟩=some (O ii qy)/\wx.cell? ⟨Z1.heap.size,2,none⟩=some (O ii 1)/\wx.cell? ⟨Z1.heap.size,3,none⟩=some (O ii 1)) Z3:=⟨x4,⟨l0,l1,l2,l3⟩,f0,f1,f2,f3⟩
    refine ⟨_,rfl,fun _=>HS3,?_⟩;try simp only [zp]
    refine zt 12 20 (.pointer (some ⟨g,L0.length*4,none⟩)) rfl (by kernel_rfl) (by rfl) (fun wx hx=>by go_simp;intro hq;omega) HS3 ?_;try simp only [zp]
    obtain ⟨rR,rT⟩:=R3.row.set4q ⟨hx,hy,ha,hb⟩;obtain ⟨Z4,hZ4⟩:=ex ((((Z3.setCell ⟨g,L0.length*4,none⟩ (O ii hx)).setCell ⟨g,L0.length*4+1,none⟩ (O ii hy)).setCell ⟨g,L0.length*4+2,none⟩ (O ii ha)).setCell ⟨g,L0.length*4+3,none⟩ (O ii hb));rw [hZ4] at rR rT
    have R4:Rs w Z4 p c s d (.slice (some ⟨g,0,none⟩) (L0.length+1) cap) (L0++[⟨hx,hy,ha,hb⟩]) true X0.heap.size:=by
     have hgX:=Hgx.out.1;have hM:=R3.hM;have hz:=R3.bl.size;exact ⟨R3.bl.trans (rT.below (fun j e=>by omega) hz),zAg R3.b0 rT (by omega),zAy R3.b1 rT (by omega),zAg R3.b3 rT (by omega),zAg R3.b4 rT (by omega),zAg R3.b5 rT (by omega),rR,R3.own,Nat.le_trans R3.size rT.size,R3.hM⟩
    obtain ⟨R5,T5⟩:=R4.setB true
    have hE:KeepsFrom X0.heap.size Z (Z4.setCell ⟨w.heap.size+5,0,none⟩ (.bool true))/\KB w1.heap.size Z (Z4.setCell ⟨w.heap.size+5,0,none⟩ (.bool true))/\∃lv,Rs w (Z4.setCell ⟨w.heap.size+5,0,none⟩ (.bool true)) p c s d lv (fq (stB W H tl f c s) d ((pre++[(⟨(qx,qy),hqw⟩:Cel)]).map (·.1))).1 (fq (stB W H tl f c s) d ((pre++[(⟨(qx,qy),hqw⟩:Cel)]).map (·.1))).2 X0.heap.size:=by
     have TT:Turns (fun j=>j=w.heap.size+5\/j=w.heap.size+4\/(Value.slice (some ⟨g,0,none⟩) (L0.length+1) cap).ownBlock=some j) Z (Z4.setCell ⟨w.heap.size+5,0,none⟩ (.bool true)):=(((HT2.out.mono (fun _ _ e=>e.elim)).trans ((Turns.of_below (S:=NoB) hb3).mono (fun _ _ e=>e.elim))).trans (rT.mono (fun j _ e => .inl (.inr (.inr (by rw [e];rfl)))))).trans (T5.mono (fun _ _ e => .inl (.inl e)));obtain ⟨q1,q2⟩:=HKB.out _ TT;refine ⟨q1,q2,.slice (some ⟨g,0,none⟩) (L0.length+1) cap,?_⟩;rw [Hln.out,zS2 (L:=L0) (r:=r) Hob.out rfl rfl,Hhh.out];exact R5
    have HE:=zAb hE;have x5a:=R4.b5.cell;have g5a:=R4.b5.frozen;have z0:=lf (L0.length*4);have z1:=lf (L0.length*4+1);have z2:=lf (L0.length*4+2);have z3:=lf (L0.length*4+3);have HZ4:=zAb hZ4;clear hE R5 T5 R4 rR rT hZ4 R3 lf HS3 HS x4 f0 f1 f2 f3 HKB HR2 HRi HbX HF2 Hlt Hne hBx HBx HSq HT2 hb3 hb3';refine zw 13 [] (by kernel_rfl) ?_;refine readyZ.skip rfl rfl (w':=(((Z3.setCell ⟨g,L0.length*4,none⟩ (O ii hx)).setCell ⟨g,L0.length*4+1,none⟩ (O ii hy)).setCell ⟨g,L0.length*4+2,none⟩ (O ii ha)).setCell ⟨g,L0.length*4+3,none⟩ (O ii hb)) (by go_simp) (fun h=>absurd (by decide) h) ?_ readyZ.nil;refine zAd (by kernel_rfl) ?_ _;dsimp only [zAv,Exit.then];rw [HZ4.out];clear zX;gi_wp2_with fail;exact HE.out
 case done =>
  rintro D xs Z hD rfl ⟨lv,hR⟩ hK;have T:Turns (fun j=>j=D) Z (Z.putObj D (.deferred none)):=zMh _ _ _ rfl;have x4:=hR.b4.cell;obtain ⟨a1,cap1,hlv⟩:=hR.row.slice4
  have hfin:Rq 65 (Z.putObj D (.deferred none)) lv (zT3 (stB W H tl f c s) d X Y A B n)/\Below w.heap.size w (Z.putObj D (.deferred none))/\∀g,lv.ownBlock=some g->w.heap.size<=g:=by
   have hM:=hR.hM;refine ⟨?_,hR.bl.trans (T.below (fun j e=>by omega) hR.bl.size),fun g e=>by have:=hR.own g e;omega⟩
   have hrow:=hR.row.kept T (fun g e q=>by
    obtain ⟨cur,hc⟩:=hR.row.blk e;subst q
    rw [hK] at hc;cases hc)
   have hl:(fq (stB W H tl f c s) d ((zFg X Y A B).map (·.1))).1=zT3 (stB W H tl f c s) d X Y A B n:=by
    unfold zT3;cases hm:may X Y A B
    ·rw [zFg,if_neg (by rw [hm];decide),if_neg (by decide)];rfl
    ·obtain ⟨h1,h2,h3,h4⟩:=hn hm;rw [hn.cells hm,zPj (by rcases h1 with ⟨rfl,-⟩|⟨rfl,-⟩;exact .inl rfl;exact .inr rfl) h3 h4 n h2.2,if_pos rfl]
   rw [<-hl];exact hrow
  subst hlv;have HE:=zAb hfin;clear hfin hR T zX;gi_wp2_with fail;refine ⟨by simp,.inl ⟨_,_,rfl,run_takeDeferred hK,?_⟩⟩;exact ⟨_,by simp [results,Tryz.f162,go_sem],_,rfl,HE.out⟩
 case stop=>exact fun D c pre Z hD hp h hK=>h.elim
attribute [local go_sem] Oper.semAt_some
theorem zI6 (x y a b d mx my:Int) (w:World) (ho:Offs w) (hx:0<=x/\x<=2000) (hy:0<=y/\y<=2000) (ha:1<=a/\a<=100) (hb:1<=b/\b<=100) (hmx:x+(a-1)/2=mx) (hmy:y+(b-1)/2=my) :
 Calls pg 163 #[rct x y a b,O ii d] w fun e w'=>e = .returned (.agg #[O ii mx,O ii my,O ii (sX mx my d),O ii (sY mx my d)])/\Below w.heap.size w w':=by
 obtain ⟨X,hX⟩:=ex ((w.alloc (.cells #[O ii x,O ii y,O ii a,O ii b] 65)).alloc (.cells #[O ii 0,O ii 0,O ii 0,O ii 0] 178));have B0:Below w.heap.size w X:=by rw [<-hX];exact zBe _ _ _
 have F0:Four X w.heap.size x y a b:=by rw [<-hX];exact (Four.newAt12 _ _ _ _ _ rfl).kept (zAh _ _)
 have G0:Four X (w.heap.size+1) 0 0 0 0:=by rw [<-hX];exact Four.newAt12 _ _ _ _ _ (by simp)
 have zX:X.heap.size=w.heap.size+2:=by rw [<-hX];simp
 obtain ⟨a',ha'⟩:∃e,a-1=e:=⟨_,rfl⟩
 obtain ⟨b',hb'⟩:∃e,b-1=e:=⟨_,rfl⟩
 obtain ⟨ta,hta⟩:∃e,a'.tdiv 2=e:=⟨_,rfl⟩
 obtain ⟨tb,htb⟩:∃e,b'.tdiv 2=e:=⟨_,rfl⟩
 have e1:a'.tdiv 2=a'/2:=Int.tdiv_eq_ediv_of_nonneg (by omega);have e2:b'.tdiv 2=b'/2:=Int.tdiv_eq_ediv_of_nonneg (by omega);have k1:IntKind.i64.wrap (a-1)=a':=by rw [ha',IntKind.wrap_i64];omega
 have k2:IntKind.i64.wrap (b-1)=b':=by rw [hb',IntKind.wrap_i64];omega
 have k3:IntKind.i64.wrap ta=ta:=by rw [IntKind.wrap_i64];omega
 have k4:IntKind.i64.wrap tb=tb:=by rw [IntKind.wrap_i64];omega
 have k5:IntKind.i64.wrap (x+ta)=mx:=by rw [IntKind.wrap_i64];omega
 have k6:IntKind.i64.wrap (y+tb)=my:=by rw [IntKind.wrap_i64];omega
 have HSt:Hid (∀wx,Below w.heap.size w wx->Calls pg 150 #[cel mx my,O ii d] wx fun e w'=>e = .returned (.tuple #[cel (sX mx my d) (sY mx my d),.bool (sB mx my d)])/\Below wx.heap.size wx w'):=zAb fun wx q=>zCb mx my d wx (ho.kept q);generalize sX mx my d=tx at HSt ⊢;generalize sY mx my d=ty at HSt ⊢;generalize sB mx my d=tb' at HSt;clear e1 e2 ha' hb' hx hy ha hb hmx hmy ho;obtain ⟨⟨c0,c1,c2,c3⟩,-,-⟩:=id F0;obtain ⟨Y,hY⟩:=ex (X.alloc (.cells #[O ii mx,O ii my] 23));have BY:Below X.heap.size X Y:=by rw [<-hY];exact zAh _ _
 have TY:Two Y (w.heap.size+2) mx my:=by rw [<-hY];exact Two.newAt zX.symm
 have G1:=G0.kept BY;obtain ⟨⟨d0,d1⟩,-,-⟩:=id TY;have HX:=zAb hX;have HY:=zAb hY;have HB:=zAb (bt B0 BY);have HzX:=zAb zX;clear hX hY B0 BY zX F0 G0;go_enter func163,ntmps163;go_wp2_with fail;rw [HX.out,HY.out];simp only [Nat.add_assoc,Nat.reduceAdd];refine (HSt.out Y HB.out).mono ?_;rintro e w1 ⟨rfl,hb1⟩;obtain ⟨V,hV⟩:=ex (w1.alloc (.cells #[O ii tx,O ii ty] 23));have BV:Below w1.heap.size w1 V:=by rw [<-hV];exact zAh _ _
 have TV:Two V w1.heap.size tx ty:=by rw [<-hV];exact Two.newAt rfl
 have T2:=(TY.kept hb1).kept BV;have G2:=(G1.kept hb1).kept BV;have HBV:=zAb (bt (bt HB.out hb1) BV);have HV:=zAb hV;clear hV BV hb1 c0 c1 c2 c3 d0 d1 k1 k2 k3 k4 k5 k6 hta htb HX HY G1 TY HSt HB;obtain ⟨⟨c0,c1⟩,-,-⟩:=TV;obtain ⟨⟨d0,d1⟩,-,-⟩:=T2;obtain ⟨⟨r0,r1,r2,r3⟩,⟨g0,g1,g2,g3⟩,z1⟩:=G2;go_wp2_with (rw [HV.out]);refine bodyPost_ret (v:=.agg #[O ii mx,O ii my,O ii tx,O ii ty]) (by simp [results,Tryz.results163,go_sem, *]) rfl ⟨rfl,?_⟩;exact zJl HBV.out (by omega)
def ptq (d X Y:Int) (r:Nat×Nat):Q4:=⟨clx d X (r.1+(r.2-1)/2),cly d Y (r.1+(r.2-1)/2),sX (clx d X (r.1+(r.2-1)/2)) (cly d Y (r.1+(r.2-1)/2)) d,sY (clx d X (r.1+(r.2-1)/2)) (cly d Y (r.1+(r.2-1)/2)) d⟩
theorem zI7 {w:World} {d X Y:Int} {r:Nat×Nat} (hd:d=0\/d=1) (hX:0<=X/\X<=1000) (hY:0<=Y/\Y<=1000) (h1:1<=r.2) (h2:r.1+r.2<=8) (ho:Offs w) :
 Calls pg 163 #[(rrq d X Y r).v,O ii d] w fun e w'=>e = .returned (ptq d X Y r).v/\Below w.heap.size w w':=by
 obtain ⟨a,n⟩:=r;simp only at h1 h2;rcases hd with rfl|rfl
 ·simp only [rrq,if_true];exact zI6 X (Y+(a:Nat)) 1 (n:Nat) 0 _ _ w ho (by omega) (by omega) (by omega) (by omega) (by simp [ptq,clx]) (by simp only [ptq,cly,if_true];omega)
 ·simp only [rrq,if_neg (show ¬(1:Int)=0 by decide)];exact zI6 (X+(a:Nat)) Y (n:Nat) 1 1 _ _ w ho (by omega) (by omega) (by omega) (by omega) (by simp only [ptq,clx,if_neg (show ¬(1:Int)=0 by decide)];omega) (by simp [ptq,cly])
def btL (d X Y:Int) (R:List (Nat×Nat)):List Q4:=R.map (ptq d X Y)
theorem zHm {w:World} {p:Nat} {d X Y:Int} {R:List (Nat×Nat)} (c s kx ky:Int) (hd:d=0\/d=1\/R=[]) (hX:0<=X/\X<=1000) (hY:0<=Y/\Y<=1000) (hR:∀r∈R,1<=r.2/\r.1+r.2<=8) (hlen:R.length<=8) (ho:Offs w)
 (HRu:∀wx,Below w.heap.size w wx->Calls pg 162 #[ptr p,shv c s,cel kx ky,O ii d] wx fun e w'=>∃lv,e = .returned lv/\Rq 65 w' lv (R.map (rrq d X Y))/\Below wx.heap.size wx w'/\∀g,lv.ownBlock=some g->wx.heap.size<=g) :
 Calls pg 137 #[ptr p,shv c s,cel kx ky,O ii d] w fun e w'=>∃lv,e = .returned lv/\Rq 178 w' lv (btL d X Y R)/\Below w.heap.size w w'/\∀g,lv.ownBlock=some g->w.heap.size<=g:=by
 obtain ⟨V,hV⟩:=ex ((w.alloc (.cells #[O ii c,O ii s] 29)).alloc (.cells #[O ii kx,O ii ky] 23));have B0:Below w.heap.size w V:=by rw [<-hV];exact zBe _ _ _
 have T0:Two V w.heap.size c s:=by rw [<-hV];exact (Two.newAt rfl).alloc
 have T1:Two V (w.heap.size+1) kx ky:=by rw [<-hV];exact Two.newAt (by simp)
 have HRun:=zAb (HRu V B0);have HV:=zAb hV;have HB:=zAb B0
 have HMi:Hid (∀wx,Below w.heap.size w wx->∀r∈R,Calls pg 163 #[(rrq d X Y r).v,O ii d] wx fun e w'=>e = .returned (ptq d X Y r).v/\Below wx.heap.size wx w'):=zAb fun wx q r hr=>by
  have:=hR r hr;rcases hd with h|h|h
  ·exact zI7 (.inl h) hX hY this.1 this.2 (ho.kept q)
  ·exact zI7 (.inr h) hX hY this.1 this.2 (ho.kept q)
  ·rw [h] at hr;cases hr
 obtain ⟨⟨c0,c1⟩,-,-⟩:=id T0;obtain ⟨⟨c2,c3⟩,-,-⟩:=id T1;clear hV B0 T0 T1 hd hX hY hR ho HRu;go_enter func137,ntmps137;go_wp2_with (rw [HV.out]);refine HRun.out.mono ?_;rintro e w1 ⟨rv,rfl,hrow,hb1,hown⟩;obtain ⟨ar,capr,hrv,hcap,hel⟩:=Rw.form Q4.cs_len hrow;rw [List.length_map] at hrv;subst hrv;have HB1:=zAb (bt HB.out hb1);have Hrow:=zAb hrow;clear hrow hb1 hown c0 c1 c2 c3 HRun HV HB hcap hel;go_wp2_with fail;have hrI:(0:Int)<=(R.length:Nat)/\((R.length:Nat):Int)<=8:=by omega
 go_loopw [9,18] (fun u v wr=>∃(i:Nat) (a:Option Addr) (cp:Nat),u = .slice a i cp/\v = O ii (i:Nat)/\i<=R.length/\(Rq 178 wr (.slice a i cp) (btL d X Y (R.take i))/\∀g,(Value.slice a i cp).ownBlock=some g->w1.heap.size<=g)/\Below w1.heap.size w1 wr) (fun _ v _=>R.length-(intOf v).toNat)
 case atStart=>exact ⟨0,none,0,rfl,rfl,Nat.zero_le _,⟨Rw.nil _ _ _ _,fun g e=>by cases e⟩,Below.refl _ _⟩
 case round =>
  obtain ⟨i,a,cp,rfl,rfl,hi,⟨hr,hownr⟩,hbl⟩:=hrel
  by_cases hlt:i<R.length
  ·have hli:((i:Nat):Int)<(R.length:Nat):=by omega
   have hiI:(0:Int)<=(i:Nat)/\((i:Nat):Int)<=8:=by omega
   have hrm:R[i]∈R:=List.getElem_mem hlt;obtain ⟨ar',capr',e,-,hel⟩:=Rw.form Q4.cs_len (Hrow.out.upto hbl);simp only [Value.slice.injEq,List.length_map] at e;obtain ⟨rfl,-,rfl⟩:=e;obtain ⟨g,hg,hgl,hc⟩:=hel i (rrq d X Y R[i]) (by simp [hlt]);subst hg
   have htk:btL d X Y (R.take (i+1))=btL d X Y (R.take i)++[ptq d X Y R[i]]:=by
    unfold btL;rw [List.take_add_one,List.getElem?_eq_getElem hlt,List.map_append];rfl
   have HMr:=zAb (fun wx q=>HMi.out wx q R[i] hrm);obtain ⟨t,ht⟩:=ex (rrq d X Y R[i]);obtain ⟨q,hq⟩:=ex (ptq d X Y R[i]);rw [ht] at hc;rw [hq] at htk;rw [ht,hq] at HMr;obtain ⟨tx,ty,ta,tb⟩:=t;obtain ⟨qx,qy,qa,qb⟩:=q;have c0:wr.cell? ⟨g,i*4,none⟩=some (O ii tx):=by simpa [Q4.cs] using hc 0 _ rfl
   have c1:wr.cell? ⟨g,i*4+1,none⟩=some (O ii ty):=by simpa [Q4.cs] using hc 1 _ rfl
   have c2:wr.cell? ⟨g,i*4+2,none⟩=some (O ii ta):=by simpa [Q4.cs] using hc 2 _ rfl
   have c3:wr.cell? ⟨g,i*4+3,none⟩=some (O ii tb):=by simpa [Q4.cs] using hc 3 _ rfl
   obtain ⟨Y1,hY1⟩:=ex (wr.alloc (.cells #[O ii tx,O ii ty,O ii ta,O ii tb] 65));have BY1:Below wr.heap.size wr Y1:=by rw [<-hY1];exact zAh _ _
   have FY1:Four Y1 wr.heap.size tx ty ta tb:=by rw [<-hY1];exact Four.new12 _ _ _ _ _ _
   obtain ⟨⟨d0,d1,d2,d3⟩,-,-⟩:=id FY1;have HM1:=zAb (HMr.out Y1 (bt HB1.out (bt hbl BY1)));have HY1:=zAb hY1;have Hr:=zAb hr;have Hown:=zAb hownr;have Hbl:=zAb (bt hbl BY1);have HbY:=zAb BY1;have Htk:=zAb htk;clear hr hownr hbl BY1 htk hY1 FY1 hc hel ht hq HMr hgl;go_wp2_with (rw [HY1.out]);refine HM1.out.mono ?_;rintro e w2 ⟨rfl,hb2⟩;have hlb:(btL d X Y (R.take i)).length=i:=by simp [btL];omega
   have r2:=(Hr.out.upto HbY.out).upto hb2;obtain ⟨v',w3,rA,rR,rO,rT⟩:=r2.push4 (st:=175) Tryz.underlying175 zVa ⟨qx,qy,qa,qb⟩ (by omega);obtain ⟨a2,cap2,hv2⟩:=rR.slice4;rw [List.length_append,List.length_cons,List.length_nil,Nat.zero_add,hlb] at hv2;subst hv2;have hbw:=bt Hbl.out hb2
   have HE:Hid (∃(i':Nat) (a:Option Addr) (cp:Nat),(Value.slice a2 (i+1) cap2) = .slice a i' cp/\(Value.int .i64 (((i:Nat):Int)+1)) = O ii (i':Nat)/\i'<=R.length/\(Rq 178 w3 (.slice a i' cp) (btL d X Y (R.take i'))/\∀g,(Value.slice a i' cp).ownBlock=some g->w1.heap.size<=g)/\Below w1.heap.size w1 w3):=zAb ⟨i+1,a2,cap2,rfl,by push_cast;rfl,by omega,⟨by rw [Htk.out];exact rR,fun g e=>by
    rcases rO g e with q|q
    ·exact Hown.out g q
    ·have:=hbw.size;omega⟩,hbw.trans (rT.below (fun j e=>Hown.out j e) hbw.size)⟩
   have HA:=zAb rA;clear rA rR rO rT hbw r2 hb2 c0 c1 c2 c3 d0 d1 d2 d3 HM1 hlb Htk Hown Hr HbY Hbl;go_wp2_with (at_builtin;refine zA0 rfl _ _ 175 rfl _ _ rfl rfl HA.out ?_);go_roundw
   case rel=>exact HE.out
   case measure=>simp [intOf];omega
  ·have hle:¬((i:Nat):Int)<(R.length:Nat):=by omega
   have heq:i=R.length:=by omega
   have HE:Hid (∃lv,Ending.returned (Value.slice a i cp) = .returned lv/\Rq 178 wr lv (btL d X Y R)/\Below w.heap.size w wr/\∀g,lv.ownBlock=some g->w.heap.size<=g):=zAb ⟨_,rfl,by rw [heq,List.take_length] at hr;rw [heq];exact hr,bt HB1.out hbl,fun g e=>by have:=hownr g e;have:=HB1.out.size;omega⟩;clear heq hr hownr hbl;go_wp2_with fail;refine bodyPost_ret (v:=.slice a i cp) (by simp [results,Tryz.results137,go_sem]) rfl ?_;exact HE.out
end
end Go.Proofs.YtejjcenhjpjefaaGreatDoor
