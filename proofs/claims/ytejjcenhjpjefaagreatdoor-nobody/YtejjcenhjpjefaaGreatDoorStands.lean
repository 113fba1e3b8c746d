import Derived.Test.YtejjcenhjpjefaaGreatDoorPure
import Derived.Test.YtejjcenhjpjefaaGreatDoorAtW
import Derived.Test.YtejjcenhjpjefaaGreatDoorLaid
set_option linter.all false
set_option maxRecDepth 1000000
set_option maxHeartbeats 64000000
open Go.Proofs.Tryz
open Go.Proofs.Tryz renaming prog->pg
open Go.Value renaming int->O
open Go.IntKind renaming i64->ii
namespace Go.Proofs.YtejjcenhjpjefaaGreatDoor
open Go.RowKit
def zQb (W H:Int) (tl:List Nat) (x y:Int):Int:=if has 0 0 W H x y=true then (tl.getD (y*W+x).toNat 0:Nat) else 0
theorem zYa {W H x y:Int} {tl:List Nat} (hm:mt W H tl=true) (h:has 0 0 W H x y=true):∃(k n:Nat) (z:Int),tl[k]? = some n/\zQb W H tl x y=(n:Nat)/\IntKind.i64.wrap (y*W)=z/\IntKind.i64.wrap (z+x)=(k:Nat)/\(k:Int)<(tl.length:Nat)/\(0:Int)<=(k:Int)/\(tl.length:Int)<=16384:=by
 simp only [mt,Bool.and_eq_true,decide_eq_true_eq] at hm;obtain ⟨h1,h2,h3,-⟩:=hm;have ha:=qA0 h1 h2;simp only [gs,decide_eq_true_iff] at h1 h2;obtain ⟨-,b1,b2,b3,b4⟩:=(zBz _ _ _ _ _ _).1 h;have m1:y*W<=(H-1)*W:=Int.mul_le_mul_of_nonneg_right (by omega) (by omega);have m2:0<=y*W:=Int.mul_nonneg (by omega) (by omega);rw [Int.sub_mul,Int.mul_comm H W,Int.one_mul] at m1;have ht:zQb W H tl x y=(tl.getD (y*W+x).toNat 0:Nat):=by rw [zQb,if_pos h]
 obtain ⟨z,hz⟩:=ex (y*W);rw [hz] at m1 m2 ht ⊢;have hk:(z+x).toNat<tl.length:=by omega
 refine ⟨(z+x).toNat,tl[(z+x).toNat],z,List.getElem?_eq_getElem hk,?_,?_,?_,by omega,by omega,by omega⟩
 ·rw [ht,List.getD_eq_getElem?_getD,List.getElem?_eq_getElem hk];rfl
 ·rw [IntKind.wrap_i64];omega
 ·rw [IntKind.wrap_i64];omega
theorem zHu (p bm:Nat) (W H:Int) (tv bv ev:Value) (tl:List Nat) (x y:Int) (w:World) (hd:Wd w p W H tv bv bm ev) (ht:Tls w tv tl) (hm:mt W H tl=true) (hb:∀n∈tl,n<256) :
 Calls pg 55 #[ptr p,cel x y] w fun e w'=>e = .returned (.tuple #[O ii (zQb W H tl x y),.bool (has 0 0 W H x y)])/\Below w.heap.size w w':=by
 obtain ⟨X,hX⟩:=ex (w.alloc (.cells #[O ii x,O ii y] 23));have B0:Below w.heap.size w X:=hX▸zAh _ _;have T0:Turns NoB w X:=Turns.of_below B0;have bX:Two X w.heap.size x y:=hX▸Two.newAt rfl;obtain ⟨d0,d1⟩:=bX.lat
 have key:∀n:Lat X,Wd n.w p W H tv bv bm ev/\Tls n.w tv tl:=fun n=>by
  have T:Turns NoB X n.w:=Turns.of_below n.h;exact ⟨(hd.kept T0 id).kept T id,(ht.kept T0 (fun _ _=>id)).kept T (fun _ _=>id)⟩
 have HK:=zAb key;obtain ⟨a,cap,rfl,hcap,hmax,hat⟩:=ht.form;have c0:∀n:Lat X,n.w.cell? ⟨p,0,none⟩=some (O ii 0):=fun n=>(key n).1.c 0;have c1:∀n:Lat X,n.w.cell? ⟨p,1,none⟩=some (O ii 0):=fun n=>(key n).1.c 1;have c2:∀n:Lat X,n.w.cell? ⟨p,2,none⟩=some (O ii W):=fun n=>(key n).1.c 2;have c3:∀n:Lat X,n.w.cell? ⟨p,3,none⟩=some (O ii H):=fun n=>(key n).1.c 3;have c4:∀n:Lat X,n.w.cell? ⟨p,4,none⟩=some (.slice a tl.length cap):=fun n=>(key n).1.c 4;have hne:=zA8 X;cases h:has 0 0 W H x y
 ·have HB:=zAb h;rw [show zQb W H tl x y=0 by simp [zQb,h]];clear key hd ht T0 bX hat h;go_enter func55,ntmps55;go_wp2_with fail;clear hX;refine zAp (by kernel_rfl) (by kernel_rfl) ?_;repeat (go_big_quiet_step (first|(go_at_call 53;exact zA6 (zGi (HK.out _).1))|(go_at_call 42;exact zAr (zB5 _ HB.out))))
  refine wpQuiet_nil ?_;rintro _ ⟨n,rfl⟩;go_wp2_with fail;go_ret2
  exact ⟨rfl,bt B0 n.h⟩
 ·have HB:=zAb h;obtain ⟨k,u,z,hu,hter,hw1,hw2,hki,hk0,hlI⟩:=zYa hm h;obtain ⟨g,hga,hg,hcell⟩:=hat k u hu;subst hga;have hub:u<256:=hb u (List.mem_of_getElem? hu);have hub':(0:Int)<=(u:Nat)/\((u:Nat):Int)<256:=by omega
  have hcell':∀n:Lat X,n.w.cell? ⟨g,k,none⟩=some (.int .u8 (u:Nat)):=fun n=>by
   obtain ⟨a',cap',he',_,_,hform⟩:=(HK.out n).2.form;obtain ⟨g',hgg,_,q⟩:=hform k u hu;rw [hgg] at he';injection he' with h1 h2 h3
   injection h1 with h1
   injection h1 with h1
   subst h1;exact q
  rw [hter];clear key hd ht T0 bX hat h hter hu hcell hb hm;go_enter func55,ntmps55;go_wp2_with fail;clear hX;refine zAp (by kernel_rfl) (by kernel_rfl) ?_;repeat (go_big_quiet_step (first|(go_at_call 53;exact zA6 (zGi (HK.out _).1))|(go_at_call 42;exact zAr (zB5 _ HB.out))))
  refine wpQuiet_nil ?_;rintro _ ⟨n,rfl⟩;go_wp2_with fail;have e0:∀m:Lat n.w,m.w.cell? ⟨w.heap.size,0,none⟩=some (O ii x):=fun m=>d0 ⟨m.w,bt n.h m.h⟩;have e1:∀m:Lat n.w,m.w.cell? ⟨w.heap.size,1,none⟩=some (O ii y):=fun m=>d1 ⟨m.w,bt n.h m.h⟩;have e2:∀m:Lat n.w,m.w.cell? ⟨p,2,none⟩=some (O ii W):=fun m=>c2 ⟨m.w,bt n.h m.h⟩;have e4:∀m:Lat n.w,m.w.cell? ⟨p,4,none⟩=some (.slice (some ⟨g,0,none⟩) tl.length cap):=fun m=>c4 ⟨m.w,bt n.h m.h⟩;have e5:∀m:Lat n.w,m.w.cell? ⟨g,k,none⟩=some (.int .u8 (u:Nat)):=fun m=>hcell' ⟨m.w,bt n.h m.h⟩;have hne2:=zA8 n.w;clear d0 d1 c0 c1 c2 c3 c4 hcell' hne;refine zAp (by kernel_rfl) (by kernel_rfl) ?_;repeat (go_big_quiet_step (fail))
  refine wpQuiet_nil ?_;rintro _ ⟨m,rfl⟩;go_wp2_with fail;go_ret2
  exact ⟨rfl,bt B0 (bt n.h m.h)⟩
abbrev Z4 (w:World):World:=w.alloc (.cells #[O ii 0,O ii 0,O ii 0,O ii 0] 65)
theorem zP0 (p bm:Nat) (W H:Int) (tv bv ev:Value) (w:World) (hd:Wd w p W H tv bv bm ev):Calls pg 21 #[ptr p] w fun e w'=>e = .returned (rct 0 0 W H)/\Below w.heap.size w w':=by
 have B0:Below w.heap.size w (Z4 w):=zAh _ _;have hd0:Wd (Z4 w) p W H tv bv bm ev:=hd.kept (Turns.of_below (S:=NoB) B0) id;have HM:=zAb (zGi hd0);have c0:(Z4 w).cell? ⟨p,0,none⟩=some (O ii 0):=hd0.c 0;have c1:(Z4 w).cell? ⟨p,1,none⟩=some (O ii 0):=hd0.c 1;have c2:(Z4 w).cell? ⟨p,2,none⟩=some (O ii W):=hd0.c 2;have c3:(Z4 w).cell? ⟨p,3,none⟩=some (O ii H):=hd0.c 3;have hp:=hd.lt;obtain ⟨⟨g0,g1,g2,g3⟩,⟨f0,f1,f2,f3⟩,zz⟩:Four (Z4 w) w.heap.size 0 0 0 0:=zBo (Below.refl _ _);clear hd0 hd;go_enter func21,ntmps21;go_wp2_with (go_at_call 53;refine HM.out.mono ?_;rintro e w1 ⟨rfl,rfl⟩);refine bodyPost_ret (v:=rct 0 0 W H) (by simp [results,Tryz.results21,go_sem]) rfl ⟨rfl,?_⟩;exact zAh _ _
section
open Go.Shelf
def Wl (w:World) (p:Nat) (W H:Int) (tl:List Nat) (f:Int->Int->Option Int):Prop:=
 (mt W H tl=true/\∀n∈tl,n<256)/\∃(bm n:Nat) (tv bv ev:Value),Wd w p W H tv bv bm ev/\Tls w tv tl/\Who w bm n f
theorem Wl.kept {w w':World} {p:Nat} {W H:Int} {tl:List Nat} {f:Int->Int->Option Int} (h:Wl w p W H tl f) (hb:Below w.heap.size w w'):Wl w' p W H tl f:=by
 obtain ⟨h0,bm,n,tv,bv,ev,h1,h2,h3⟩:=h;have T:Turns NoB w w':=Turns.of_below hb;exact ⟨h0,bm,n,tv,bv,ev,h1.kept T id,h2.kept T (fun _ _=>id),h3.kept T id⟩
def zVz (W H:Int) (tl:List Nat) (f:Int->Int->Option Int) (c x y:Int):Bool:=has 0 0 W H x y&&(!(f x y).isSome&&onB c (zQb W H tl x y))
theorem zTl {w:World} {p:Nat} {W H:Int} {tl:List Nat} {f:Int->Int->Option Int} (x y:Int) {b:Bool} {t:Int} (h:Wl w p W H tl f) (hb:has 0 0 W H x y=b) (ht:zQb W H tl x y=t) :
 Calls pg 55 #[ptr p,cel x y] w fun e w'=>e = .returned (.tuple #[O ii t,.bool b])/\Below w.heap.size w w':=by
 obtain ⟨⟨h0,h00⟩,bm,n,tv,bv,ev,h1,h2,h3⟩:=h;subst hb;subst ht;exact zHu p bm W H tv bv ev tl x y w h1 h2 h0 h00
theorem qAz {w:World} {p:Nat} {W H:Int} {tl:List Nat} {f:Int->Int->Option Int} (x y:Int) (hx:W64 x) (hy:W64 y) {b:Bool} {t:Int} (h:Wl w p W H tl f) (hb:(f x y).isSome=b) (ht:(f x y).getD 0=t) :
 Calls pg 56 #[ptr p,cel x y] w fun e w'=>e = .returned (.tuple #[O ii t,.bool b])/\Below w.heap.size w w':=by
 obtain ⟨⟨h0,h00⟩,bm,n,tv,bv,ev,h1,h2,h3⟩:=h;subst hb;subst ht;exact zR6 p bm n W H tv bv ev f x y hx hy w h1 h3
theorem zKz (p:Nat) (W H:Int) (tl:List Nat) (f:Int->Int->Option Int) (c x y:Int) (hx:W64 x) (hy:W64 y) (w:World) (hw:Wl w p W H tl f) (hg:Grnd w) :
 Calls pg 23 #[ptr p,O ii c,cel x y] w fun e w'=>e = .returned (.bool (zVz W H tl f c x y))/\Below w.heap.size w w':=by
 have B0:Below w.heap.size w (w.alloc (.cells #[O ii x,O ii y] 23)):=zAh _ _;have HW:=zAb (hw.kept B0);have HG:=zAb (hg.kept B0);obtain ⟨t,ht⟩:=ex (zQb W H tl x y);obtain ⟨i,hi⟩:=ex ((f x y).getD 0);cases hb:has 0 0 W H x y<;>cases hs:(f x y).isSome
 all_goals
  have Hb:=zAb hb;have Hs:=zAb hs;have Ht:=zAb ht;have Hi:=zAb hi;clear hw hg hb hs ht hi;go_enter func23,ntmps23;go_wp2_with fail;refine (zTl x y HW.out Hb.out Ht.out).mono ?_;rintro e w1 ⟨rfl,hb1⟩;obtain ⟨⟨c0,c1⟩,-,-⟩:=zD4 hb1;have H1:=zAb hb1;clear hb1;go_wp2_with fail;refine (qAz x y hx hy (HW.out.kept H1.out) Hs.out Hi.out).mono ?_;rintro e w2 ⟨rfl,hb2⟩;have H2:=zAb hb2;clear hb2 c0 c1;go_wp2_with (go_at_call 57;refine (zXp _ _ _ (HG.out.kept (bt H1.out H2.out))).mono ?_;rintro e w3 ⟨rfl,rfl⟩);go_ret;exact ⟨zAm (by simp [zVz,Hb.out,Hs.out,Ht.out]),bt B0 (bt H1.out H2.out)⟩
attribute [local go_sem] Oper.semAt_some
def stU (W H:Int) (tl:List Nat) (f:Int->Int->Option Int) (c u v k:Int):Bool:=wi u v k k 0 0 W H&&(zFg u v k k).all (fun q=>zVz W H tl f c q.1.1 q.1.2)
def stB (W H:Int) (tl:List Nat) (f:Int->Int->Option Int) (c s x y:Int):Bool:=stU W H tl f c (fi c s x y x) (fi c s x y y) (fi c s x y s)
theorem zGt {w:World} {p:Nat} {W H:Int} {tl:List Nat} {f:Int->Int->Option Int} (h:Wl w p W H tl f) :
 Calls pg 21 #[ptr p] w fun e w'=>e = .returned (rct 0 0 W H)/\Below w.heap.size w w':=by
 obtain ⟨-,bm,n,tv,bv,ev,h1,-,-⟩:=h;exact zP0 p bm W H tv bv ev w h1
theorem Two.upto {n₀:Nat} {W W':World} {k:Nat} {u v:Int} (h:Two W k u v) (hB:Below n₀ W W') (hk:k<n₀):Two W' k u v:=
 ⟨⟨(hB.cell (p:=⟨k,0,none⟩) hk).trans h.1.1,(hB.cell (p:=⟨k,1,none⟩) hk).trans h.1.2⟩,⟨(hB.frozen (p:=⟨k,0,none⟩) hk).trans h.2.1.1,(hB.frozen (p:=⟨k,1,none⟩) hk).trans h.2.1.2⟩,Nat.lt_of_lt_of_le h.2.2 hB.size⟩
theorem zHl {w:World} {p:Nat} {W H:Int} {tl:List Nat} {f:Int->Int->Option Int} {c x y:Int} (hx:W64 x) (hy:W64 y) {b:Bool} (hw:Wl w p W H tl f) (hg:Grnd w) (h:zVz W H tl f c x y=b) :
 Calls pg 23 #[ptr p,O ii c,cel x y] w fun e w'=>e = .returned (.bool b)/\Below w.heap.size w w':=by subst h;exact zKz p W H tl f c x y hx hy w hw hg
abbrev W4 (w:World) (p:Nat) (c s x y:Int):World:=(((w.alloc (.cells #[ptr p] 27)).alloc (.cells #[O ii c,O ii s] 29)).alloc (.cells #[O ii x,O ii y] 23)).alloc (.cells #[.bool false] 4)
theorem zQj (w:World) (p:Nat) (c s x y:Int):Below w.heap.size w (W4 w p c s x y):=bt (zBe _ _ _) (zBe _ _ _)
theorem zTk (w:World) (p:Nat) (c s x y:Int):(W4 w p c s x y).heap.size=w.heap.size+4:=by simp
theorem zWx (w:World) (p:Nat) (c s x y:Int):Boxed (W4 w p c s x y) w.heap.size 27 (ptr p):=(((Boxed.new w 27 (ptr p)).alloc _).alloc _).alloc _
theorem zQi (w:World) (p:Nat) (c s x y:Int):Two (W4 w p c s x y) (w.heap.size+1) c s:=by
 have:=((Two.newAt (w:=w.alloc (.cells #[ptr p] 27)) (k:=w.heap.size+1) (u:=c) (v:=s) (t:=29) (by simp)).alloc (o:=.cells #[O ii x,O ii y] 23)).alloc (o:=.cells #[.bool false] 4);exact this
theorem zWw (w:World) (p:Nat) (c s x y:Int):Boxed (W4 w p c s x y) (w.heap.size+1+1+1) 4 (.bool false):=by
 have:=Boxed.new (((w.alloc (.cells #[ptr p] 27)).alloc (.cells #[O ii c,O ii s] 29)).alloc (.cells #[O ii x,O ii y] 23)) 4 (.bool false);simpa using this
theorem zCc (p:Nat) (W H:Int) (tl:List Nat) (f:Int->Int->Option Int) (c s x y:Int) (w:World) (hw:Wl w p W H tl f) (hg:Grnd w) :
 Calls pg 8 #[ptr p,shv c s,cel x y] w fun e w'=>e = .returned (.bool (stB W H tl f c s x y))/\Below w.heap.size w w':=by
 have HF:=zAb (zL2 c s x y (W4 w p c s x y));unfold ftV at HF;unfold stB;obtain ⟨u,hu⟩:=ex (fi c s x y x);obtain ⟨v,hv⟩:=ex (fi c s x y y);obtain ⟨k,hk⟩:=ex (fi c s x y s);rw [hu,hv,hk] at HF ⊢;clear hu hv hk;have B4:=zQj w p c s x y;have z4:=zTk w p c s x y;have P4:=zWx w p c s x y;have S4:=zQi w p c s x y;have R4:=zWw w p c s x y;refine (callsIn_wide (n:=10)).1 ?_;refine callsIn_of_wp_marks func8 rfl trivial ?_ rfl;simp only [ntmps8,List.size_toArray,List.length_cons,List.length_nil,Nat.reduceAdd,Nat.reduceSub,Array.replicate_succ,Array.replicate_zero,List.push_toArray,List.append_toArray,List.nil_append,List.cons_append];gi_wp2_with fail;refine ⟨trivial,?_⟩;refine (callsIn_wide.2 HF.out).mono ?_;rintro e w1 ⟨rfl,hb1⟩;clear HF;have z1:=hb1.size;have P1:=zAi P4 hb1 (by omega);have S1:=S4.kept hb1;have R1:=zAi R4 hb1 (by omega);have HB1:=zAb (bt B4 hb1);clear P4 S4 R4 B4 hb1;gi_wp2_with fail;have FX:Four (w1.alloc (.cells #[O ii u,O ii v,O ii k,O ii k] 65)) w1.heap.size u v k k:=zBo (Below.refl _ _);have BX:Below w1.heap.size w1 (w1.alloc (.cells #[O ii u,O ii v,O ii k,O ii k] 65)):=zAh _ _;obtain ⟨X,hX⟩:=ex (w1.alloc (.cells #[O ii u,O ii v,O ii k,O ii k] 65));have zX:X.heap.size=w1.heap.size+1:=by rw [<-hX];simp
 rw [hX] at FX BX ⊢;clear hX;have TX:∀n:Lat X,Below w.heap.size w n.w:=fun n=>bt (bt HB1.out BX) n.h;have HK:Hid (∀n:Lat X,Wl n.w p W H tl f):=zAb fun n=>hw.kept (TX n);have PX:=zAi P1 BX P1.lt;have c0:∀n:Lat X,n.w.cell? ⟨w.heap.size,0,none⟩=some (ptr p):=fun n=>(n.h.cell (p:=⟨w.heap.size,0,none⟩) PX.lt).trans PX.cell;obtain ⟨d0,d1,d2,d3⟩:=FX.lat;have hne:=zA8 X;cases hi:wi u v k k 0 0 W H
 ·have HI:=zAb hi;clear hi;gi_wp2_with fail;refine zBw (by kernel_rfl) (by kernel_rfl) (by kernel_rfl) ?_;repeat (refine wpQuietIn_step (fun _ _ _ _=>trivial) (fun K hK=>?_);go_simp;first|(refine hK _ ?_;clear hK K)|(apply Exists.intro;refine ⟨fun _=>?_,hK _ ?_⟩;first|exact zDd (callsIn_wide.2 (zGt (HK.out _)))|exact zDd (callsIn_wide.2 (zFw _ HI.out));clear hK K))
  refine wpQuietIn_nil ?_;rintro _ ⟨n,rfl⟩;have bR:=zAi (zAi R1 BX R1.lt) n.h (by omega);have cR:=bR.cell;have fR:=bR.frozen;gi_wp2_with fail;have hB:=TX n;refine ⟨.bool false,by simp [results,Tryz.f8,go_sem,cR],by simp [stU,HI.out],hB.setCell (p:=⟨w.heap.size+1+1+1,0,none⟩) (by simp;omega) _⟩
 ·have HI:=zAb hi;clear hi;gi_wp2_with fail;refine zBw (by kernel_rfl) (by kernel_rfl) (by kernel_rfl) ?_;repeat (refine wpQuietIn_step (fun _ _ _ _=>trivial) (fun K hK=>?_);go_simp;first|(refine hK _ ?_;clear hK K)|(apply Exists.intro;refine ⟨fun _=>?_,hK _ ?_⟩;first|exact zDd (callsIn_wide.2 (zGt (HK.out _)))|exact zDd (callsIn_wide.2 (zFw _ HI.out));clear hK K))
  refine wpQuietIn_nil ?_;rintro _ ⟨n,rfl⟩;have hY:=TX n;obtain ⟨⟨g0,g1,g2,g3⟩,-,gz⟩:=Four.kept FX n.h;gi_wp2_with fail;refine ⟨trivial,?_⟩;refine (callsIn_wide.2 (zDq _ _ _ _ _)).mono ?_;rintro e w3 ⟨rfl,rfl⟩;have zY:=n.h.size;have F0:Four (n.w.alloc (.cells #[O ii u,O ii v,O ii k,O ii k] 65)) n.w.heap.size u v k k:=zBo (Below.refl _ _);have BY:Below n.w.heap.size n.w (n.w.alloc (.cells #[O ii u,O ii v,O ii k,O ii k] 65)):=zAh _ _;have hsz:(n.w.alloc (.cells #[O ii u,O ii v,O ii k,O ii k] 65)).heap.size=n.w.heap.size+1:=by simp
  have bYX:=bt n.h BY;have P0:=zAi PX bYX PX.lt;have R0:=zAi (zAi R1 BX R1.lt) bYX (by omega);have S0:=(S1.kept BX).kept bYX;have HB0:=bt hY BY;clear g0 g1 g2 g3 c0 d0 d1 d2 d3;gi_wp2_with fail;obtain ⟨W0,hW0⟩:=ex (n.w.alloc (.cells #[O ii u,O ii v,O ii k,O ii k] 65));rw [hW0] at F0 BY hsz bYX P0 R0 S0 HB0 ⊢;obtain ⟨C,hC⟩:=ex (n.w.heap.size);rw [hC] at F0 hsz gz zY ⊢;clear hW0;have hi:=HI.out;have hpl:=hw
  refine wpIn_rangeFunc_ownH rfl (by omega) (gf:=54) (lb:=#[ptr C]) rfl trivial (enters_of func54 (by kernel_rfl) rfl)
   (zCm (10-1) C (k.toNat*k.toNat+1) u v k k W0 F0 (fun _=>by omega)) zWl (zWm (by omega)) (Below.refl _ _) (fun _=>rfl)
   (fun pre W'=>(∀q∈pre,zVz W H tl f c q.1.1 q.1.2=true)/\Below (C+1) W0 W')
   (fun e pre W'=>((e = .ret/\∃q∈pre,zVz W H tl f c q.1.1 q.1.2=false)/\Boxed W' (w.heap.size+1+1+1) 4 (.bool false))/\Below w.heap.size w W')
   (OwnFrom.and (ownFrom_pure _ _) (ownFrom_below (by omega) (by omega)))
   (fun e=>OwnFrom.and (OwnFrom.and (ownFrom_pure _ _) (Own.from (boxed_own _ _ _) _)) (ownFrom_below (Nat.le_refl _) (by omega)))
   ⟨fun q h=>by simp at h,Below.refl _ _⟩
   (fun q a' W'=>∃Bx,C+1<=Bx/\Two W' Bx q.1.1 q.1.2/\a'={ tmps:=#[ptr p,shv c s,cel x y,ptr w.heap.size,ptr (w.heap.size+1),ptr (w.heap.size+1+1),ptr (w.heap.size+1+1+1),ptr w1.heap.size,ptr Bx,shv c s,cel x y,rct u v k k,rct u v k k,ptr p,rct 0 0 W H,.bool true,.bool false,rct u v k k,.func (.func 54) #[] #[ptr C],cel q.1.1 q.1.2,undef,undef,undef,undef,undef,undef],defers:=[] })
   (fun q a' _ X Y row hs hg hr=>by obtain ⟨Bx,e1,e2,e3⟩:=hs;exact ⟨Bx,e1,e2.own hg (fun r e=>(hr r e).2),e3⟩)
   ?assign ?body ?done ?stop
  case assign =>
   rintro l pre q W' K ⟨hp,hB⟩ hK;have hsB:=hB.size;gi_wp2
   exact hK _ _ ((KeepsOthers.alloc _ _).from _) (Below.heap_alloc _ _ _ (by omega)) ⟨hp,hB.alloc (by omega) _⟩ ⟨W'.heap.size,by omega,Two.newAt rfl,rfl⟩
  case body =>
   rintro l pre q a' W' hl ⟨r,hr⟩ ⟨hp,hB⟩ ⟨Bx,hBx,bX,rfl⟩ hlt;have hsB:=hB.size;have bP:=zAi P0 hB (by omega);have bS:=S0.upto hB (by omega);have bR:=zAi R0 hB (by omega);have HBW:Below w.heap.size w W':=HB0.trans (hB.mono (by omega));have cP:=bP.cell;obtain ⟨⟨s0,s1⟩,-,-⟩:=bS;obtain ⟨⟨x0,x1⟩,-,-⟩:=bX;cases hs:zVz W H tl f c q.1.1 q.1.2
   ·have Hs:=zAb hs;clear hs hp;gi_wp2_with fail;refine ⟨trivial,?_⟩;refine (CallsIn.inRound l (callsIn_wide.2 (zHl q.2.1 q.2.2 (hw.kept HBW) (hg.kept HBW) Hs.out))).mono ?_;rintro e v1 ⟨rfl,hb⟩;have bR1:=zAi bR hb bR.lt;have cR:=bR1.cell;have fR:=bR1.frozen;gi_wp2_with fail;exact ⟨((zDa hb).trans (KeepsOthers.setCell _ _ _)).from _,⟨⟨rfl,q,by simp,Hs.out⟩,bR1.set _⟩,(bt HBW hb).setCell (p:=⟨w.heap.size+1+1+1,0,none⟩) (by simp;omega) _⟩
   ·have Hs:=zAb hs;have Hp:=zAb hp;clear hs hp;gi_wp2_with fail;refine ⟨trivial,?_⟩;refine (CallsIn.inRound l (callsIn_wide.2 (zHl q.2.1 q.2.2 (hw.kept HBW) (hg.kept HBW) Hs.out))).mono ?_;rintro e v1 ⟨rfl,hb⟩;gi_wp2_with fail;refine ⟨(zDa hb).from _,zIb hb (by omega),⟨fun q' hq'=>?_,hB.trans (hb.mono (by omega))⟩⟩;rcases List.mem_append.1 hq' with h|h
    ·exact Hp.out q' h
    ·simp at h;subst h;exact Hs.out
  case done =>
   rintro D xs W' hD rfl ⟨hp,hB⟩ hK;have hsW:=hB.size;have HBW:Below w.heap.size w W':=HB0.trans (hB.mono (by omega));have bR:=zAi R0 hB (by omega);have cR:=bR.cell;have fR:=bR.frozen
   have ht:stU W H tl f c u v k=true:=by
    rw [stU,HI.out,Bool.true_and,List.all_eq_true];exact hp
   have Ht:=zAb ht;clear ht hp;gi_wp2_with fail;have hK3:=(KeepsOthers.setCell _ ⟨w.heap.size+1+1+1,0,none⟩ (.bool true)).same D _ hK rfl;refine ⟨by simp,.inl ⟨_,_,rfl,run_takeDeferred hK3,?_⟩⟩;have hc5:=cell_kept (bR.set (.bool true)).cell (grownBy_putObj' _ D (.deferred none)) (fun r e=>by cases e;exact ⟨_,hK3,rfl⟩);refine ⟨.bool true,?_,by rw [Ht.out],(HBW.setCell (p:=⟨w.heap.size+1+1+1,0,none⟩) (by simp;omega) _).trans (belowK_b (w:=w) (Nat.le_refl _) _ D _ _ (by omega) hK3 rfl rfl)⟩;simp [results,Tryz.f8,go_sem,hc5]
  case stop =>
   rintro D e pre W' hD hpre ⟨⟨⟨rfl,q,hq,hs⟩,bR⟩,hB⟩ hK;have cR:=bR.cell
   have ht:stU W H tl f c u v k=false:=by
    rw [stU,HI.out,Bool.true_and,Bool.eq_false_iff];intro h;rw [List.all_eq_true] at h;rw [h q (hpre.subset hq)] at hs;cases hs
   have Ht:=zAb ht;clear hs ht;gi_wp2
   refine ⟨by simp,.inl ⟨_,_,rfl,run_takeDeferred hK,?_⟩⟩;have hc5:=cell_kept bR.cell (grownBy_putObj' _ D (.deferred none)) (fun r e=>by cases e;exact ⟨_,hK,rfl⟩);refine ⟨.bool false,?_,by rw [Ht.out],hB.trans (belowK_b (w:=w) (Nat.le_refl _) W' D _ _ (by omega) hK rfl rfl)⟩;simp [results,Tryz.f8,go_sem,hc5]
end
end Go.Proofs.YtejjcenhjpjefaaGreatDoor
