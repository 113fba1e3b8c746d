import Derived.Test.YthiafmlgialbnaaGreatDoorNestT
import Derived.Test.YthiafmlgialbnaaGreatDoorRowS
import Derived.Test.YthiafmlgialbnaaGreatDoorMeet
import Derived.Test.YthiafmlgialbnaaGreatDoorRefMeet
import Derived.Test.YthiafmlgialbnaaGreatDoorHas
import Derived.Deep.RegionHeld
import Init
set_option linter.all false
set_option maxRecDepth 1000000
set_option maxHeartbeats 64000000
open Go.Proofs.Tryz
open Go.Proofs.Tryz renaming prog->pg
open Go.Value renaming int->O
open Go.IntKind renaming i64->ii
namespace Go.Proofs.YthiafmlgialbnaaGreatDoor
open Go.RowKit
attribute [local go_sem] Oper.semAt_some
theorem Four.new12 (w:World) (t:TypeId) (x y a b:Int):Four (w.alloc (.cells #[O ii x,O ii y,O ii a,O ii b] t)) w.heap.size x y a b:=zA2 (Below.refl _ _)
theorem Four.newAt12 {w:World} {k:Nat} (t:TypeId) (x y a b:Int) (h:w.heap.size=k):Four (w.alloc (.cells #[O ii x,O ii y,O ii a,O ii b] t)) k x y a b:=by subst h;exact Four.new12 w t x y a b
def rS (W k:Int):Int:=min (k*8+7) (W-1)-k*8+1
def rB (W H x y:Int):Bool:=has 0 0 (clN W) (clN H) x y
def rV (W H x y:Int):Value:=if rB W H x y=true then rct (x*8) (y*8) (rS W x) (rS H y) else rct 0 0 0 0
theorem zBp {W H x y:Int} (hW:1<=W/\W<=128) (hH:1<=H/\H<=128):rB W H x y=true↔(0<=x/\x<=(W-1)/8)/\0<=y/\y<=(H-1)/8:=by
 rw [rB,zAy,zA0];unfold clN;omega
theorem zP9 (W H x y:Int):∃s t u v:Int,rV W H x y=rct s t u v:=by
 unfold rV
 split
 ·exact ⟨_,_,_,_,rfl⟩
 ·exact ⟨0,0,0,0,rfl⟩
theorem zVs {W H x y:Int} (hW:1<=W/\W<=128) (hH:1<=H/\H<=128) (h:rB W H x y=true) :
 mtB (x*8) (y*8) 8 8 0 0 W H=true/\mtV (x*8) (y*8) 8 8 0 0 W H=rct (x*8) (y*8) (rS W x) (rS H y):=by
 obtain ⟨hx,hy⟩:=(zBp hW hH).1 h
 have h1:mtB (x*8) (y*8) 8 8 0 0 W H=true:=by
  have m1:may (x*8) (y*8) 8 8=true:=by rw [zA0];omega
  have m2:may 0 0 W H=true:=by rw [zA0];omega
  simp only [mtB,m1,m2,Bool.true_and,Bool.and_eq_true,decide_eq_true_eq];omega
 refine ⟨h1,?_⟩;rw [zI8 h1];unfold zZ6 rS;have e1:max (x*8) 0=x*8:=by omega
 have e2:max (y*8) 0=y*8:=by omega
 have e3:x*8+8-1=x*8+7:=by omega
 have e4:y*8+8-1=y*8+7:=by omega
 have e5:0+W-1=W-1:=by omega
 have e6:0+H-1=H-1:=by omega
 rw [e1,e2,e3,e4,e5,e6]
theorem zM2 {w:World} {p:Nat} {W H:Int} {tl:List Nat} {f:Int->Int->Option Int} (x y:Int) (hw:Wl w p W H tl f) :
 Calls pg 90 #[ptr p,cel x y] w fun e w'=>e = .returned (.tuple #[rV W H x y,.bool (rB W H x y)])/\Below w.heap.size w w':=by
 obtain ⟨hW,hH⟩:=hw.sides;obtain ⟨X,hX⟩:=ex ((w.alloc (.cells #[O ii x,O ii y] 47)).alloc (.cells #[O ii 0,O ii 0,O ii 0,O ii 0] 49));have B0:Below w.heap.size w X:=by rw [<-hX];exact zA5 _ _ _
 have T0:Two X w.heap.size x y:=by rw [<-hX];exact (Two.newAt rfl).alloc
 have F0:Four X (w.heap.size+1) 0 0 0 0:=by rw [<-hX];exact Four.newAt12 _ _ _ _ _ (by simp)
 have HK:Hid (∀wx,Below X.heap.size X wx->Wl wx p W H tl f):=zAc fun wx hx=>hw.kept (bt B0 hx);have HB:=zAc B0;clear B0 hw;cases hr:rB W H x y
 ·have HI:Hid (has 0 0 (clN W) (clN H) x y=false):=zAc hr;rw [show rV W H x y=rct 0 0 0 0 by rw [rV,hr];rfl];clear hr hW hH;go_enter func90,ntmps90;go_wp2_with fail;clear hX;obtain ⟨d0,d1⟩:=T0.lat;have hne:=zAq X;refine zAh (by kernel_rfl) (by kernel_rfl) ?_;repeat (go_big_quiet_step (first|(go_at_call 57;exact zAi (zJl (HK.out _ (Lat.h _))))|(go_at_call 122;exact zAi (zBy _ HI.out))))
  refine wpQuiet_nil ?_;rintro _ ⟨n,rfl⟩;obtain ⟨⟨c0,c1,c2,c3⟩,⟨g0,g1,g2,g3⟩,z1⟩:=F0.kept n.h;have HBn:=zAc (bt HB.out n.h);clear d0 d1 hne;go_wp2_with fail;refine bodyPost_ret (v:=.tuple #[rct 0 0 0 0,.bool false]) (by simp [results,Tryz.results90,go_sem, *]) rfl ⟨rfl,?_⟩;exact zFw HBn.out (by omega)
 ·have HI:Hid (has 0 0 (clN W) (clN H) x y=true):=zAc hr;obtain ⟨hmb,hmv⟩:=zVs hW hH hr;obtain ⟨hx,hy⟩:=(zBp hW hH).1 hr;rw [show rV W H x y=rct (x*8) (y*8) (rS W x) (rS H y) by rw [rV,hr];rfl];have e1:IntKind.i64.wrap (x*8)=x*8:=by rw [IntKind.wrap_i64];omega
  have e2:IntKind.i64.wrap (y*8)=y*8:=by rw [IntKind.wrap_i64];omega
  have HM:=zAc (zTn (x*8) (y*8) 8 8 0 0 W H);rw [hmb,hmv] at HM;clear hr hmb hmv hx hy hW hH;obtain ⟨x8,hx8⟩:∃e,x*8=e:=⟨_,rfl⟩
  obtain ⟨y8,hy8⟩:∃e,y*8=e:=⟨_,rfl⟩
  have e1':IntKind.i64.wrap (x*8)=x8:=e1.trans hx8;have e2':IntKind.i64.wrap (y*8)=y8:=e2.trans hy8;rw [hx8,hy8] at HM ⊢;clear e1 e2 hx8 hy8;generalize rS W x=sx at HM ⊢;generalize rS H y=sy at HM ⊢;go_enter func90,ntmps90;go_wp2_with fail;clear hX;obtain ⟨d0,d1⟩:=T0.lat;have hne:=zAq X;refine zAh (by kernel_rfl) (by kernel_rfl) ?_;repeat (go_big_quiet_step (first|(go_at_call 57;exact zAi (zJl (HK.out _ (Lat.h _))))|(go_at_call 122;exact zAi (zBy _ HI.out))))
  refine wpQuiet_nil ?_;rintro _ ⟨n,rfl⟩;have F1:=F0.kept n.h;have T1:=T0.kept n.h;have HBn:=zAc (bt HB.out n.h);have HN:=zAc n.h;clear d0 d1 hne F0 T0 HB HI;obtain ⟨⟨t0,t1⟩,-,-⟩:=id T1;go_wp2_with fail;clear t0 t1 e1' e2';obtain ⟨Y,hY⟩:=ex (n.w.alloc (.cells #[O ii x8,O ii y8,O ii 8,O ii 8] 49));have BY:Below n.w.heap.size n.w Y:=by rw [<-hY];exact zAk _ _
  have FY:Four Y n.w.heap.size x8 y8 8 8:=by rw [<-hY];exact Four.new12 _ _ _ _ _ _
  rw [hY];clear hY;have F2:=F1.kept BY;have HY:=zAc (bt HN.out BY);have HBY:=zAc (bt HBn.out BY);have HB4z:w.heap.size+1<n.w.heap.size:=F1.2.2;clear F1 T1 BY HBn HN;have hS:∀wx,Below Y.heap.size Y wx->wx.cell? ⟨n.w.heap.size,0,none⟩=some (O ii x8)/\wx.cell? ⟨n.w.heap.size,1,none⟩=some (O ii y8)/\wx.cell? ⟨n.w.heap.size,2,none⟩=some (O ii 8)/\wx.cell? ⟨n.w.heap.size,3,none⟩=some (O ii 8):=fun wx hx=>(FY.kept hx).1;have hS0:=hS _ (Below.refl _ _).drew;refine zAp ?_;refine wp_region_held_drew (S:=fun wx=>wx.cell? ⟨n.w.heap.size,0,none⟩=some (O ii x8)/\wx.cell? ⟨n.w.heap.size,1,none⟩=some (O ii y8)/\wx.cell? ⟨n.w.heap.size,2,none⟩=some (O ii 8)/\wx.cell? ⟨n.w.heap.size,3,none⟩=some (O ii 8)) (by kernel_rfl) hS0 (fun hHeld=>?_);refine wpAnyH_take (i:=0) (v:=?_) rfl (by kernel_rfl) (by kernel_rfl) (by kernel_rfl) (fun _ _ _ h=>h.elim) (Or.inl ⟨by rfl,?_⟩) (by assumption) ?_
  rotate_left
  ·intro wx hSw;try dsimp only at hSw
   go_simp;try with_reducible rfl
  try simp only [zp]
  refine wpAnyH_take (i:=1) (v:=?_) rfl (by kernel_rfl) (by kernel_rfl) (by kernel_rfl) (fun _ _ _ h=>h.elim) (Or.inl ⟨by rfl,?_⟩) (by assumption) ?_
  rotate_left
  ·intro wx hSw;try dsimp only at hSw
   go_simp;try with_reducible rfl
  try simp only [zp]
  refine wpAnyH_ready (rs:=[2]) (by kernel_rfl) (by simp) ?_;refine AllReadyH.cons rfl (fun K hK=>?_) AllReadyH.nil;go_simp;refine (zHr (HK.out _ (bt HY.out (Below.refl _ _).drew))).mono ?_;rintro e w3 ⟨rfl,hb3⟩;have hB3:Below Y.heap.size Y w3:=bt (Below.refl _ _).drew hb3;clear hb3;try go_wp2_with fail
  refine hK.out _ _ (by first|exact hS _ (Below.refl _ _).drew|exact hS _ (zAk _ _)|exact hS _ (zAk _ _).drew|exact hS _ (by assumption)) (fun hHeld=>?_);clear hK K;try simp only [zp]
  refine wpAnyH_ready (rs:=[3]) (by kernel_rfl) (by simp) ?_;refine AllReadyH.cons rfl (fun K hK=>?_) AllReadyH.nil;go_simp;refine (HM.out _).mono ?_;rintro e w4 ⟨rfl,hb4⟩;have hB4:=bt hB3 hb4;clear hb4;try go_wp2_with fail
  refine hK.out _ _ (by first|exact hS _ (Below.refl _ _).drew|exact hS _ (zAk _ _)|exact hS _ (zAk _ _).drew|exact hS _ (by assumption)) (fun hHeld=>?_);clear hK K;try simp only [zp]
  refine wpAnyH_take (i:=4) (v:=?_) rfl (by kernel_rfl) (by kernel_rfl) (by kernel_rfl) (fun _ _ _ h=>h.elim) (Or.inl ⟨by rfl,?_⟩) (by assumption) ?_
  rotate_left
  ·intro wx hSw;try dsimp only at hSw
   go_simp;try with_reducible rfl
  try simp only [zp]
  refine wpAnyH_take (i:=5) (v:=?_) rfl (by kernel_rfl) (by kernel_rfl) (by kernel_rfl) (fun _ _ _ h=>h.elim) (Or.inl ⟨by rfl,?_⟩) (by assumption) ?_
  rotate_left
  ·intro wx hSw;try dsimp only at hSw
   go_simp;try with_reducible rfl
  try simp only [zp]
  have F4:=F2.kept hB4;obtain ⟨⟨c0,c1,c2,c3⟩,⟨g0,g1,g2,g3⟩,z4⟩:=id F4;have hzn:¬w.heap.size+1=n.w.heap.size:=by omega
  refine wpAnyH_ready (rs:=[6]) (by kernel_rfl) (by simp) ?_;refine AllReadyH.cons rfl (fun K hK=>?_) AllReadyH.nil;go_simp;refine hK.out _ _ (by first|exact ⟨by simp [go_sem, *],by simp [go_sem, *],by simp [go_sem, *],by simp [go_sem, *]⟩|exact hS _ (Below.refl _ _).drew|exact hS _ (zAk _ _)|exact hS _ (zAk _ _).drew|exact hS _ (by assumption)) (fun hHeld=>?_);clear hK K;try simp only [zp]
  refine wpAnyH_take (i:=7) (v:=?_) rfl (by kernel_rfl) (by kernel_rfl) (by kernel_rfl) (fun _ _ _ h=>h.elim) (Or.inl ⟨by rfl,?_⟩) (by assumption) ?_
  rotate_left
  ·intro wx hSw;try dsimp only at hSw
   go_simp;try with_reducible rfl
  try simp only [zp]
  refine wpAnyH_done (by kernel_rfl) ?_ _;dsimp only [zA1,Exit.then];go_wp2_with fail;refine bodyPost_ret (v:=.tuple #[rct x8 y8 sx sy,.bool true]) (by simp [results,Tryz.results90,go_sem, *]) rfl ⟨rfl,?_⟩;exact zFw (bt HBY.out hB4) (by omega)
theorem zGk (a b c d:Int) (w:World):Calls pg 96 #[cel a b,cel c d] w fun e w'=>e = .returned (.bool (decide (b<d\/(b=d/\a<c))))/\Below w.heap.size w w':=by
 obtain ⟨X,hX⟩:=ex ((w.alloc (.cells #[O ii a,O ii b] 47)).alloc (.cells #[O ii c,O ii d] 47));have B0:Below w.heap.size w X:=by rw [<-hX];exact zA5 _ _ _
 have T0:Two X w.heap.size a b:=by rw [<-hX];exact (Two.newAt rfl).alloc
 have T1:Two X (w.heap.size+1) c d:=by rw [<-hX];exact Two.newAt (by simp)
 obtain ⟨⟨t0,t1⟩,-,-⟩:=id T0;obtain ⟨⟨s0,s1⟩,-,-⟩:=id T1;have HB:=zAc B0;clear B0 T0 T1
 by_cases h1:b<d
 ·go_enter func96,ntmps96;go_wp2_with fail;go_ret;exact ⟨zAm (by simp [h1]),HB.out⟩
 ·by_cases h2:b=d
  ·subst h2
   by_cases h3:a<c
   ·go_enter func96,ntmps96;go_wp2_with fail;go_ret;exact ⟨zAm (by simp [h3]),HB.out⟩
   ·go_enter func96,ntmps96;go_wp2_with fail;go_ret;exact ⟨zAm (by simp;omega),HB.out⟩
  ·go_enter func96,ntmps96;go_wp2_with fail;go_ret;exact ⟨zAm (by simp [h2];omega),HB.out⟩
theorem zG5 {w:World} (W H x y:Int) (hW:1<=W/\W<=128) (hH:1<=H/\H<=128) :
 Calls pg 97 #[O ii W,O ii H,cel x y] w fun e w'=>e = .returned (.tuple #[rV W H x y,.bool (rB W H x y)])/\Below w.heap.size w w':=by
 obtain ⟨X,hX⟩:=ex ((w.alloc (.cells #[O ii x,O ii y] 47)).alloc (.cells #[O ii 0,O ii 0,O ii 0,O ii 0] 49));have B0:Below w.heap.size w X:=by rw [<-hX];exact zA5 _ _ _
 have T0:Two X w.heap.size x y:=by rw [<-hX];exact (Two.newAt rfl).alloc
 have F0:Four X (w.heap.size+1) 0 0 0 0:=by rw [<-hX];exact Four.newAt12 _ _ _ _ _ (by simp)
 have HD1:Hid (∀wx,Calls pg 67 #[O ii (W-1)] wx fun e w'=>e = .returned (O ii ((W-1)/8))/\Below wx.heap.size wx w'):=zAc fun wx=>(zD4 (W-1) (zAx (by omega)) wx).mono fun e w' h=>⟨h.1,by rw [h.2];exact Below.refl _ _⟩
 have HD2:Hid (∀wx,Calls pg 67 #[O ii (H-1)] wx fun e w'=>e = .returned (O ii ((H-1)/8))/\Below wx.heap.size wx w'):=zAc fun wx=>(zD4 (H-1) (zAx (by omega)) wx).mono fun e w' h=>⟨h.1,by rw [h.2];exact Below.refl _ _⟩
 have eW:IntKind.i64.wrap (W-1)=W-1:=by rw [IntKind.wrap_i64];omega
 have eH:IntKind.i64.wrap (H-1)=H-1:=by rw [IntKind.wrap_i64];omega
 have HB:=zAc B0;clear B0;have hri:=zBp (x:=x) (y:=y) hW hH;cases hr:rB W H x y
 ·rw [hr] at hri;rw [show rV W H x y=rct 0 0 0 0 by rw [rV,hr];rfl];have hn:¬((0<=x/\x<=(W-1)/8)/\0<=y/\y<=(H-1)/8):=fun h=>by have:=hri.2 h;cases this
  clear hri hr hW hH;generalize (W-1)/8=KW at HD1 hn;generalize (H-1)/8=KH at HD2 hn;have done:∀n:Lat X,Hid (Below w.heap.size w n.w):=fun n=>zAc (bt HB.out n.h)
  by_cases h1:x<0
  ·have b1:decide (x<0)=true:=decide_eq_true h1;clear hn;go_enter func97,ntmps97;go_wp2_with fail;clear hX;obtain ⟨d0,d1⟩:=T0.lat;have hne:=zAq X;refine zAh (by kernel_rfl) (by kernel_rfl) ?_;repeat (go_big_quiet_step (first|(go_at_call_of 67 W;exact zAi (HD1.out _))|(go_at_call_of 67 H;exact zAi (HD2.out _))))
   refine wpQuiet_nil ?_;rintro _ ⟨n,rfl⟩;obtain ⟨⟨c0,c1,c2,c3⟩,⟨g0,g1,g2,g3⟩,z1⟩:=F0.kept n.h;have HBn:=done n;clear d0 d1 hne;go_wp2_with fail;refine bodyPost_ret (v:=.tuple #[rct 0 0 0 0,.bool false]) (by simp [results,Tryz.results97,go_sem, *]) rfl ⟨rfl,?_⟩;exact zFw HBn.out (by omega)
  ·have b1:decide (x<0)=false:=decide_eq_false h1
   by_cases h2:y<0
   ·have b2:decide (y<0)=true:=decide_eq_true h2;clear hn;go_enter func97,ntmps97;go_wp2_with fail;clear hX;obtain ⟨d0,d1⟩:=T0.lat;have hne:=zAq X;refine zAh (by kernel_rfl) (by kernel_rfl) ?_;repeat (go_big_quiet_step (first|(go_at_call_of 67 W;exact zAi (HD1.out _))|(go_at_call_of 67 H;exact zAi (HD2.out _))))
    refine wpQuiet_nil ?_;rintro _ ⟨n,rfl⟩;obtain ⟨⟨c0,c1,c2,c3⟩,⟨g0,g1,g2,g3⟩,z1⟩:=F0.kept n.h;have HBn:=done n;clear d0 d1 hne;go_wp2_with fail;refine bodyPost_ret (v:=.tuple #[rct 0 0 0 0,.bool false]) (by simp [results,Tryz.results97,go_sem, *]) rfl ⟨rfl,?_⟩;exact zFw HBn.out (by omega)
   ·have b2:decide (y<0)=false:=decide_eq_false h2
    by_cases h3:KW<x
    ·have b3:decide (KW<x)=true:=decide_eq_true h3;clear hn;go_enter func97,ntmps97;go_wp2_with fail;clear hX;obtain ⟨d0,d1⟩:=T0.lat;have hne:=zAq X;refine zAh (by kernel_rfl) (by kernel_rfl) ?_;repeat (go_big_quiet_step (first|(go_at_call_of 67 W;exact zAi (HD1.out _))|(go_at_call_of 67 H;exact zAi (HD2.out _))))
     refine wpQuiet_nil ?_;rintro _ ⟨n,rfl⟩;obtain ⟨⟨c0,c1,c2,c3⟩,⟨g0,g1,g2,g3⟩,z1⟩:=F0.kept n.h;have HBn:=done n;clear d0 d1 hne;go_wp2_with fail;refine bodyPost_ret (v:=.tuple #[rct 0 0 0 0,.bool false]) (by simp [results,Tryz.results97,go_sem, *]) rfl ⟨rfl,?_⟩;exact zFw HBn.out (by omega)
    ·have h4:KH<y:=by omega
     have b3:decide (KW<x)=false:=decide_eq_false h3;have b4:decide (KH<y)=true:=decide_eq_true h4;clear hn;go_enter func97,ntmps97;go_wp2_with fail;clear hX;obtain ⟨d0,d1⟩:=T0.lat;have hne:=zAq X;refine zAh (by kernel_rfl) (by kernel_rfl) ?_;repeat (go_big_quiet_step (first|(go_at_call_of 67 W;exact zAi (HD1.out _))|(go_at_call_of 67 H;exact zAi (HD2.out _))))
     refine wpQuiet_nil ?_;rintro _ ⟨n,rfl⟩;obtain ⟨⟨c0,c1,c2,c3⟩,⟨g0,g1,g2,g3⟩,z1⟩:=F0.kept n.h;have HBn:=done n;clear d0 d1 hne;go_wp2_with fail;refine bodyPost_ret (v:=.tuple #[rct 0 0 0 0,.bool false]) (by simp [results,Tryz.results97,go_sem, *]) rfl ⟨rfl,?_⟩;exact zFw HBn.out (by omega)
 ·obtain ⟨hmb,hmv⟩:=zVs hW hH hr;obtain ⟨hx,hy⟩:=(zBp hW hH).1 hr;rw [show rV W H x y=rct (x*8) (y*8) (rS W x) (rS H y) by rw [rV,hr];rfl];have e1:IntKind.i64.wrap (x*8)=x*8:=by rw [IntKind.wrap_i64];omega
  have e2:IntKind.i64.wrap (y*8)=y*8:=by rw [IntKind.wrap_i64];omega
  have HM:=zAc (zG6 (x*8) (y*8) 8 8 0 0 W H);rw [hmb,hmv] at HM;have h1:¬x<0:=by omega
  have h2:¬y<0:=by omega
  have h3:¬(W-1)/8<x:=by omega
  have h4:¬(H-1)/8<y:=by omega
  clear hr hmb hmv hx hy hW hH hri;obtain ⟨x8,hx8⟩:∃e,x*8=e:=⟨_,rfl⟩
  obtain ⟨y8,hy8⟩:∃e,y*8=e:=⟨_,rfl⟩
  have e1':IntKind.i64.wrap (x*8)=x8:=e1.trans hx8;have e2':IntKind.i64.wrap (y*8)=y8:=e2.trans hy8;rw [hx8,hy8] at HM ⊢;clear e1 e2 hx8 hy8;generalize rS W x=sx at HM ⊢;generalize rS H y=sy at HM ⊢;generalize (W-1)/8=KW at HD1 h3;generalize (H-1)/8=KH at HD2 h4;have b1:decide (x<0)=false:=decide_eq_false h1;have b2:decide (y<0)=false:=decide_eq_false h2;have b3:decide (KW<x)=false:=decide_eq_false h3;have b4:decide (KH<y)=false:=decide_eq_false h4;go_enter func97,ntmps97;go_wp2_with fail;clear hX;obtain ⟨d0,d1⟩:=T0.lat;have hne:=zAq X;refine zAh (by kernel_rfl) (by kernel_rfl) ?_;repeat (go_big_quiet_step (first|(go_at_call_of 67 W;exact zAi (HD1.out _))|(go_at_call_of 67 H;exact zAi (HD2.out _))))
  refine wpQuiet_nil ?_;rintro _ ⟨n,rfl⟩;have F1:=F0.kept n.h;have T1:=T0.kept n.h;have HBn:=zAc (bt HB.out n.h);clear d0 d1 hne F0 T0 HB h1 h2 h3 h4 b1 b2 b3 b4 eW eH HD1 HD2;obtain ⟨⟨t0,t1⟩,-,-⟩:=id T1;go_wp2_with fail;clear t0 t1 e1' e2';refine (HM.out _).mono ?_;rintro e w3 ⟨rfl,hb3⟩;have F3:=F1.kept hb3;have HB3:=zAc (bt HBn.out hb3);clear HM hb3 F1 T1 HBn;obtain ⟨⟨c0,c1,c2,c3⟩,⟨g0,g1,g2,g3⟩,z1⟩:=id F3;go_wp2_with fail;refine bodyPost_ret (v:=.tuple #[rct x8 y8 sx sy,.bool true]) (by simp [results,Tryz.results97,go_sem, *]) rfl ⟨rfl,?_⟩;exact zFw HB3.out (by omega)
def zBi (op:Nat->Bool):Nat->List (Nat×Nat)×Bool
 |0=>([],false)
 |i+1 =>
  if op i=true then
   (if (zBi op i).2=true then ((zBi op i).1.dropLast++[(((zBi op i).1.getLastD (0,0)).1,((zBi op i).1.getLastD (0,0)).2+1)],true)
    else ((zBi op i).1++[(i,1)],true))
  else ((zBi op i).1,false)
theorem zDn {op:Nat->Bool} {i:Nat} (h:op i=false):zBi op (i+1)=((zBi op i).1,false):=by simp [zBi,h]
theorem zEs {op:Nat->Bool} {i:Nat} (h:op i=true) (hb:(zBi op i).2=false):zBi op (i+1)=((zBi op i).1++[(i,1)],true):=by simp [zBi,h,hb]
theorem zGx {op:Nat->Bool} {i:Nat} {pre:List (Nat×Nat)} {a n:Nat} (h:op i=true) (hb:(zBi op i).2=true) (hl:(zBi op i).1=pre++[(a,n)]):zBi op (i+1)=(pre++[(a,n+1)],true):=by
 simp [zBi,h,hb,hl]
theorem zDd (op:Nat->Bool):∀i,((zBi op i).2=true->∃pre a n,(zBi op i).1=pre++[(a,n)]/\a+n=i)/\(∀r∈(zBi op i).1,1<=r.2/\r.1+r.2<=i)/\(zBi op i).1.length<=i
 |0=>⟨fun h=>by simp [zBi] at h,fun r h=>by simp [zBi] at h,by simp [zBi]⟩
 |i+1=>by
  obtain ⟨h1,h2,h3⟩:=zDd op i;cases h:op i
  ·rw [zDn h];exact ⟨fun q=>by simp at q,fun r q=>by have:=h2 r q;omega,by simp;omega⟩
  ·cases hb:(zBi op i).2
   ·rw [zEs h hb];refine ⟨fun _=>⟨_,_,_,rfl,rfl⟩,fun r q=>?_,by simp;omega⟩;rcases List.mem_append.1 q with q|q
    ·have:=h2 r q;omega
    ·simp at q;subst q;simp
   ·obtain ⟨pre,a,n,e,ha⟩:=h1 hb;rw [zGx h hb e];rw [e] at h2 h3;refine ⟨fun _=>⟨_,_,_,rfl,by omega⟩,fun r q=>?_,by simp at h3 ⊢;omega⟩;rcases List.mem_append.1 q with q|q
    ·have:=h2 r (List.mem_append_left _ q);omega
    ·have:=h2 (a,n) (List.mem_append_right _ (by simp));simp at q this;subst q;simp;omega
theorem zJ2 {op:Nat->Bool} {i:Nat}:∀{k:Nat},(∀j,i<=j->j<k->op j=false)->i<=k->(zBi op k).1=(zBi op i).1
 |0,h,hk=>by
  have:i=0:=by omega
  subst this;rfl
 |k+1,h,hk=>by
  rcases Nat.lt_or_ge i (k+1) with q|q
  ·rw [zDn (h k (by omega) (by omega))];exact zJ2 (fun j h1 h2=>h j h1 (by omega)) (by omega)
  ·have:i=k+1:=by omega
   subst this;rfl
attribute [local go_sem] Oper.semAt_some
def bdV (W H x y d:Int):Value:=if rB W H x y=true then (if d=0 then rct (x*8+rS W x-1) (y*8) 1 (rS H y) else if d=1 then rct (x*8) (y*8+rS H y-1) (rS W x) 1 else rct 0 0 0 0) else rct 0 0 0 0
theorem zHv {W k:Int} (hW:1<=W/\W<=128) (hk:0<=k/\k<=(W-1)/8):1<=rS W k/\rS W k<=8:=by
 unfold rS;omega
theorem zRz {w:World} {p:Nat} {W H:Int} {tl:List Nat} {f:Int->Int->Option Int} (x y d:Int) (hw:Wl w p W H tl f) :
 Calls pg 187 #[ptr p,cel x y,O ii d] w fun e w'=>e = .returned (bdV W H x y d)/\Below w.heap.size w w':=by
 obtain ⟨hW,hH⟩:=hw.sides;obtain ⟨X,hX⟩:=ex ((w.alloc (.cells #[O ii x,O ii y] 47)).alloc (.cells #[O ii 0,O ii 0,O ii 0,O ii 0] 49));have B0:Below w.heap.size w X:=by rw [<-hX];exact zA5 _ _ _
 have T0:Two X w.heap.size x y:=by rw [<-hX];exact (Two.newAt rfl).alloc
 have F0:Four X (w.heap.size+1) 0 0 0 0:=by rw [<-hX];exact Four.newAt12 _ _ _ _ _ (by simp)
 have HR:=zAc (zM2 x y (hw.kept B0));have HB:=zAc B0;have HX:=zAc hX;obtain ⟨rx,ry,rw',rh,hrv⟩:=zP9 W H x y
 have e1:rB W H x y=true->(IntKind.i64.wrap (rx+rw')=rx+rw'/\IntKind.i64.wrap (rx+rw'-1)=rx+rw'-1)/\IntKind.i64.wrap (ry+rh)=ry+rh/\IntKind.i64.wrap (ry+rh-1)=ry+rh-1:=fun hr=>by
  obtain ⟨hx,hy⟩:=(zBp hW hH).1 hr;have h1:=zHv hW hx;have h2:=zHv hH hy;simp only [rV,hr,if_true,Value.agg.injEq,Array.mk.injEq,List.cons.injEq,Value.int.injEq,true_and,and_true] at hrv;obtain ⟨rfl,rfl,rfl,rfl⟩:=hrv;simp only [IntKind.wrap_i64];omega
 have e2:bdV W H x y d=if rB W H x y=true then (if d=0 then rct (rx+rw'-1) ry 1 rh else if d=1 then rct rx (ry+rh-1) rw' 1 else rct 0 0 0 0) else rct 0 0 0 0:=by
  unfold bdV
  split
  ·rename_i hr;simp only [rV,hr,if_true,Value.agg.injEq,Array.mk.injEq,List.cons.injEq,Value.int.injEq,true_and,and_true] at hrv;obtain ⟨rfl,rfl,rfl,rfl⟩:=hrv;rfl
  ·rfl
 rw [hrv] at HR;rw [e2];clear e2 hrv hW hH hw B0 hX;obtain ⟨⟨c0,c1⟩,-,-⟩:=id T0;cases hr:rB W H x y
 ·rw [hr] at HR;clear e1;rw [if_neg (by decide)];go_enter func187,ntmps187;go_wp2_with (rw [HX.out]);refine HR.out.mono ?_;rintro e w1 ⟨rfl,hb1⟩;obtain ⟨⟨f0,f1,f2,f3⟩,⟨g0,g1,g2,g3⟩,z1⟩:=(F0.kept hb1).kept (zAk w1 (.cells #[O ii rx,O ii ry,O ii rw',O ii rh] 49));have HB1:=zAc (bt (bt HB.out hb1) (zAk w1 (.cells #[O ii rx,O ii ry,O ii rw',O ii rh] 49)));clear hb1 c0 c1;obtain ⟨Y,hY⟩:=ex (w1.alloc (.cells #[O ii rx,O ii ry,O ii rw',O ii rh] 49));rw [hY] at f0 f1 f2 f3 g0 g1 g2 g3 z1 HB1;have HY:=zAc hY;clear hY;go_wp2_with (rw [HY.out]);refine bodyPost_ret (v:=rct 0 0 0 0) (by simp [results,Tryz.results187,go_sem, *]) rfl ⟨rfl,?_⟩;exact zFw HB1.out (by omega)
 ·rw [hr] at HR;obtain ⟨⟨e1,e3⟩,e4,e5⟩:=e1 hr;rw [if_pos rfl];obtain ⟨a1,ha1⟩:∃a,rx+rw'=a:=⟨_,rfl⟩
  obtain ⟨a2,ha2⟩:∃a,ry+rh=a:=⟨_,rfl⟩
  rw [ha1] at e1 e3 ⊢;rw [ha2] at e4 e5 ⊢;obtain ⟨b1,hb1⟩:∃a,a1-1=a:=⟨_,rfl⟩
  obtain ⟨b2,hb2⟩:∃a,a2-1=a:=⟨_,rfl⟩
  rw [hb1] at e3 ⊢;rw [hb2] at e5 ⊢;have k1:IntKind.i64.wrap (rx+rw')=a1:=by rw [ha1];exact e1
  have k2:IntKind.i64.wrap (ry+rh)=a2:=by rw [ha2];exact e4
  have k3:IntKind.i64.wrap (a1-1)=b1:=by rw [hb1];exact e3
  have k4:IntKind.i64.wrap (a2-1)=b2:=by rw [hb2];exact e5
  clear ha1 ha2 hb1 hb2 e1 e3 e4 e5 hr
  by_cases h0:d=0
  ·subst h0;rw [if_pos rfl];go_enter func187,ntmps187;go_wp2_with (rw [HX.out]);refine HR.out.mono ?_;rintro e w1 ⟨rfl,hb1⟩;have R1:Four (w1.alloc (.cells #[O ii rx,O ii ry,O ii rw',O ii rh] 49)) w1.heap.size rx ry rw' rh:=Four.new12 _ _ _ _ _ _;have F1:=(F0.kept hb1).kept (zAk w1 (.cells #[O ii rx,O ii ry,O ii rw',O ii rh] 49));have HB1:=zAc (bt (bt HB.out hb1) (zAk w1 (.cells #[O ii rx,O ii ry,O ii rw',O ii rh] 49)));clear hb1 c0 c1;obtain ⟨Y,hY⟩:=ex (w1.alloc (.cells #[O ii rx,O ii ry,O ii rw',O ii rh] 49));rw [hY] at R1 F1 HB1;obtain ⟨⟨f0,f1,f2,f3⟩,⟨g0,g1,g2,g3⟩,z1⟩:=F1;obtain ⟨⟨r0,r1,r2,r3⟩,-,-⟩:=R1;have HY:=zAc hY;clear hY;go_wp2_with (rw [HY.out]);refine bodyPost_ret (v:=rct b1 ry 1 rh) (by simp [results,Tryz.results187,go_sem, *]) rfl ⟨rfl,?_⟩;exact zFw HB1.out (by omega)
  ·rw [if_neg h0]
   by_cases h1:d=1
   ·subst h1;rw [if_pos rfl];go_enter func187,ntmps187;go_wp2_with (rw [HX.out]);refine HR.out.mono ?_;rintro e w1 ⟨rfl,hb1⟩;have R1:Four (w1.alloc (.cells #[O ii rx,O ii ry,O ii rw',O ii rh] 49)) w1.heap.size rx ry rw' rh:=Four.new12 _ _ _ _ _ _;have F1:=(F0.kept hb1).kept (zAk w1 (.cells #[O ii rx,O ii ry,O ii rw',O ii rh] 49));have HB1:=zAc (bt (bt HB.out hb1) (zAk w1 (.cells #[O ii rx,O ii ry,O ii rw',O ii rh] 49)));clear hb1 c0 c1;obtain ⟨Y,hY⟩:=ex (w1.alloc (.cells #[O ii rx,O ii ry,O ii rw',O ii rh] 49));rw [hY] at R1 F1 HB1;obtain ⟨⟨f0,f1,f2,f3⟩,⟨g0,g1,g2,g3⟩,z1⟩:=F1;obtain ⟨⟨r0,r1,r2,r3⟩,-,-⟩:=R1;have HY:=zAc hY;clear hY;go_wp2_with (rw [HY.out]);refine bodyPost_ret (v:=rct rx b2 rw' 1) (by simp [results,Tryz.results187,go_sem, *]) rfl ⟨rfl,?_⟩;exact zFw HB1.out (by omega)
   ·rw [if_neg h1];go_enter func187,ntmps187;go_wp2_with (rw [HX.out]);refine HR.out.mono ?_;rintro e w1 ⟨rfl,hb1⟩;obtain ⟨⟨f0,f1,f2,f3⟩,⟨g0,g1,g2,g3⟩,z1⟩:=(F0.kept hb1).kept (zAk w1 (.cells #[O ii rx,O ii ry,O ii rw',O ii rh] 49));have HB1:=zAc (bt (bt HB.out hb1) (zAk w1 (.cells #[O ii rx,O ii ry,O ii rw',O ii rh] 49)));clear hb1 c0 c1;obtain ⟨Y,hY⟩:=ex (w1.alloc (.cells #[O ii rx,O ii ry,O ii rw',O ii rh] 49));rw [hY] at f0 f1 f2 f3 g0 g1 g2 g3 z1 HB1;have HY:=zAc hY;clear hY;go_wp2_with (rw [HY.out]);refine bodyPost_ret (v:=rct 0 0 0 0) (by simp [results,Tryz.results187,go_sem, *]) rfl ⟨rfl,?_⟩;exact zFw HB1.out (by omega)
end Go.Proofs.YthiafmlgialbnaaGreatDoor
