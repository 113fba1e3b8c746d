import Derived.Test.YthiafmlgialbnaaGreatDoorStands
import Derived.Test.YthiafmlgialbnaaGreatDoorNew
import Derived.Test.YthiafmlgialbnaaGreatDoorAwake
import Derived.Test.YthiafmlgialbnaaGreatDoorStand
import Derived.Test.YthiafmlgialbnaaGreatDoorSpan
import Derived.Test.YthiafmlgialbnaaGreatDoorZlast
import Derived.Defers
import Derived.Recover
import Derived.Laws.Pointers
import Derived.Deep.RegionHeld
import Derived.Maps.AppendAt
import Derived.Laws.OwnMore
set_option linter.all false
set_option maxRecDepth 1000000
set_option maxHeartbeats 64000000
open Go.Proofs.Tryz
open Go.Proofs.Tryz renaming prog->pg
open Array renaming getElem?_eq_some_iff->gE
open Go.Value renaming int->O
open Go.IntKind renaming i64->ii
namespace Go.Proofs.YthiafmlgialbnaaGreatDoor
open Go.RowKit
def zO6 (W H:Int) (L:List Bd) (k:Nat):Prop:=∀(i:Nat) t,L[i]? = some t->i<k->mb W H t=true/\∀(j:Nat) s,L[j]? = some s->j<i->s.id<t.id/\s.mt t=false
theorem zRs (W H:Int):∀(rest done:List Bd),chk W H done rest=true↔∀(i:Nat) t,rest[i]? = some t->mb W H t=true/\∀s∈done++rest.take i,s.id<t.id/\s.mt t=false
 | [],done=>by simp [chk]
 |t::r,done=>by
  have ih:=zRs W H r (done++[t]);simp only [chk,Bool.and_eq_true,ih,List.all_eq_true,decide_eq_true_eq,Bool.not_eq_true'];constructor
  ·rintro ⟨h1,h2,h3⟩ i u hu
   match i with
   |0 =>
    simp at hu;subst hu;exact ⟨h1,fun s hs=>h2 s (by simpa using hs)⟩
   |i+1 =>
    have:=h3 i u (by simpa using hu);simpa using this
  ·intro h;refine ⟨(h 0 t rfl).1,fun s hs=>(h 0 t rfl).2 s (by simpa using hs),fun i u hu=>?_⟩;have:=h (i+1) u (by simpa using hu);simpa using this
theorem zKt {W H:Int} {L:List Bd}:chk W H [] L=true↔zO6 W H L L.length:=by
 rw [zRs];constructor
 ·intro h i t ht _;refine ⟨(h i t ht).1,fun j s hs hj=>(h i t ht).2 s ?_⟩;rw [List.nil_append];exact List.mem_of_getElem? (i:=j) (by rw [List.getElem?_take_of_lt hj];exact hs)
 ·intro h i t ht;have hl:i<L.length:=(List.getElem?_eq_some_iff.1 ht).1;refine ⟨(h i t ht hl).1,fun s hs=>?_⟩;rw [List.nil_append] at hs;obtain ⟨j,hj⟩:=List.getElem?_of_mem hs
  have hji:j<i:=by
   have:=(List.getElem?_eq_some_iff.1 hj).1;simp at this;omega
  exact (h i t ht hl).2 j s (by rw [List.getElem?_take_of_lt hji] at hj;exact hj) hji
def zEl (W H:Int) (tl:List Nat) (L:List Bd):Int:=if (mt W H tl&&(decide (L.length<=256)&&chk W H [] L))=true then 0 else 1
theorem zD8 {W H:Int} {tl:List Nat} {L:List Bd} (h:mt W H tl=false):zEl W H tl L=1:=by simp [zEl,h]
theorem zUs {W H:Int} {tl:List Nat} {L:List Bd} (h:¬L.length<=256):zEl W H tl L=1:=by simp [zEl,h]
theorem zUr {W H:Int} {tl:List Nat} {L:List Bd} (h:¬zO6 W H L L.length):zEl W H tl L=1:=by
 have:chk W H [] L=false:=by rw [Bool.eq_false_iff,ne_eq,zKt];exact h
 simp [zEl,this]
theorem zUo {W H:Int} {tl:List Nat} {L:List Bd} (h:mt W H tl=true) (h2:L.length<=256) (h3:zO6 W H L L.length):zEl W H tl L=0:=by
 simp [zEl,h,h2,zKt.2 h3]
theorem zQm {W H:Int} {tl:List Nat} (h:¬((1<=W/\W<=128)/\(1<=H/\H<=128)/\(tl.length:Int)=W*H)):mt W H tl=false:=by
 rw [Bool.eq_false_iff];intro e;simp only [mt,gs,Bool.and_eq_true,decide_eq_true_eq] at e;exact h ⟨e.1,e.2.1,e.2.2.1⟩
theorem qBd {W H:Int} {tl:List Nat} {k n:Nat} (hk:tl[k]? = some n) (h:4<=n):mt W H tl=false:=by
 rw [Bool.eq_false_iff];intro e;simp only [mt,Bool.and_eq_true,decide_eq_true_eq,List.all_eq_true] at e;have:=e.2.2.2 n (List.mem_of_getElem? hk);omega
theorem qBc {W H:Int} {tl:List Nat} (h1:1<=W/\W<=128) (h2:1<=H/\H<=128) (h3:(tl.length:Int)=W*H) (h4:∀(k n:Nat),tl[k]? = some n->k<tl.length->n<4):mt W H tl=true:=by
 simp only [mt,gs,Bool.and_eq_true,decide_eq_true_eq,List.all_eq_true];refine ⟨h1,h2,h3,fun n hn=>?_⟩;obtain ⟨k,hk⟩:=List.getElem?_of_mem hn;exact h4 k n hk (List.getElem?_eq_some_iff.1 hk).1
theorem zKd (W H:Int) (tv bv:Value) (tl:List Nat) (L:List Bd) (w:World) (hv:TlR w tv tl) (hb:∀x∈tl,x<256) (hl:BdR w bv L) :
 Calls pg 50 #[mp W H tv bv] w fun e w'=>e = .returned (O ii (zEl W H tl L))/\Below w.heap.size w w':=by
 obtain ⟨X,hX⟩:=ex (w.alloc (.cells #[O ii W,O ii H,tv,bv] 25));have B0:Below w.heap.size w X:=hX▸zAk _ _;have T0:Turns NoB w X:=Turns.of_below B0;have HBox:X.heap[w.heap.size]? = some (.cells #[O ii W,O ii H,tv,bv] 25 (0,0)):=hX▸heap_alloc_new w _
 have key:∀n:Lat X,TlR n.w tv tl/\BdR n.w bv L/\n.w.heap[w.heap.size]? = some (.cells #[O ii W,O ii H,tv,bv] 25 (0,0)):=fun n=>by
  have T:Turns NoB X n.w:=Turns.of_below n.h;exact ⟨(hv.kept B0).kept n.h,(hl.kept B0).kept n.h,T.same id HBox⟩
 have HK:=zAc key;have hv':=hv;have hl':=hl;obtain ⟨a1,cap1,rfl,hcap1,hmax1,-⟩:=hv';obtain ⟨a2,cap2,rfl,hcap2,hmax2,-⟩:=hl';have c0:∀n:Lat X,n.w.cell? ⟨w.heap.size,0,none⟩=some (O ii W):=fun n=>cell_of_row n.w _ 0 _ _ _ (key n).2.2;have c1:∀n:Lat X,n.w.cell? ⟨w.heap.size,1,none⟩=some (O ii H):=fun n=>cell_of_row n.w _ 1 _ _ _ (key n).2.2;have c2:∀n:Lat X,n.w.cell? ⟨w.heap.size,2,none⟩=some (.slice a1 tl.length cap1):=fun n=>cell_of_row n.w _ 2 _ _ _ (key n).2.2;have c3:∀n:Lat X,n.w.cell? ⟨w.heap.size,3,none⟩=some (.slice a2 L.length cap2):=fun n=>cell_of_row n.w _ 3 _ _ _ (key n).2.2;have z0:=c0 ⟨X,Below.refl _ _⟩;have z1:=c1 ⟨X,Below.refl _ _⟩;have z2:=c2 ⟨X,Below.refl _ _⟩;have z3:=c3 ⟨X,Below.refl _ _⟩;simp only at z0 z1 z2 z3;clear hv hl key T0 HBox
 by_cases h1:W<1
 ·rw [zD8 (zQm (by omega))];go_enter func50,ntmps50;go_wp2_with fail;go_ret;exact ⟨rfl,B0⟩
 by_cases h2:128<W
 ·rw [zD8 (zQm (by omega))];go_enter func50,ntmps50;go_wp2_with fail;go_ret;exact ⟨rfl,B0⟩
 by_cases h3:H<1
 ·rw [zD8 (zQm (by omega))];go_enter func50,ntmps50;go_wp2_with fail;go_ret;exact ⟨rfl,B0⟩
 by_cases h4:128<H
 ·rw [zD8 (zQm (by omega))];go_enter func50,ntmps50;go_wp2_with fail;go_ret;exact ⟨rfl,B0⟩
 have har:=qCf (W:=W) (H:=H) (by simp [gs];omega) (by simp [gs];omega);obtain ⟨z,hz⟩:=ex (W*H);rw [hz] at har;have hwz:IntKind.i64.wrap (W*H)=z:=by rw [hz,IntKind.wrap_i64];omega
 by_cases h5:¬(tl.length:Int)=z
 ·rw [zD8 (zQm (by rw [hz];exact fun h=>h5 h.2.2))];go_enter func50,ntmps50;go_wp2_with fail;go_ret;exact ⟨rfl,B0⟩
 have h5':=Classical.not_not.1 h5;have hzz:z=(tl.length:Int):=h5'.symm;subst hzz;clear h5 h5'
 by_cases h6:(256:Int)<(L.length:Nat)
 ·rw [zUs (by omega)];go_enter func50,ntmps50;go_wp2_with fail;go_ret;exact ⟨rfl,B0⟩
 have HY1:∀(h:∀(k n:Nat),tl[k]? = some n->k<tl.length->n<4),mt W H tl=true:=fun h=>qBc (by omega) (by omega) hz.symm h;obtain ⟨c,hc⟩:=ex (zEl W H tl L);have HC1:Hid (∀(k n:Nat),tl[k]? = some n->4<=n->1=c):=zAc fun k n h1 h2=>by rw [<-hc];exact (zD8 (qBd h1 h2)).symm
 have HC2:Hid ((∀(k n:Nat),tl[k]? = some n->k<tl.length->n<4)->zO6 W H L L.length->0=c):=zAc fun h1 h2=>by rw [<-hc];exact (zUo (HY1 h1) (by omega) h2).symm
 have HC3:Hid (¬zO6 W H L L.length->1=c):=zAc fun h=>by rw [<-hc];exact (zUr h).symm
 rw [hc];clear hc HY1;go_enter func50,ntmps50;go_wp2_with fail;go_loopw [3] (fun p wr=>∃k:Nat,k<=tl.length/\p = O ii k/\(∀(j n:Nat),tl[j]? = some n->j<k->n<4)/\wr=X) (fun p _=>tl.length-(intOf p).toNat)
 case atStart=>exact ⟨0,Nat.zero_le _,rfl,fun j t _ h=>absurd h (by omega),rfl⟩
 case round =>
  obtain ⟨k,hk,rfl,hno,rfl⟩:=hrel
  by_cases hlt:k<tl.length
  ·obtain ⟨n,hn⟩:∃n,tl[k]? = some n:=⟨_,List.getElem?_eq_getElem hlt⟩
   have hn256:=hb n (List.mem_of_getElem? hn)
   obtain ⟨g,o,hga,hcell⟩:∃g o,a1=some ⟨g,o,none⟩/\wr.cell? ⟨g,o+k,none⟩=some (.int .u8 (n:Nat)):=by
    obtain ⟨a',cap',he',_,_,_,hform⟩:=(HK.out ⟨wr,Below.refl _ _⟩).1;obtain ⟨g',o',hgg,_,q⟩:=hform k n hn;injection he' with h1 h2 h3
    exact ⟨g',o',h1.trans hgg,q⟩
   subst hga;have hki:(k:Int)<(tl.length:Nat):=by omega
   have hn0:(0:Int)<=(n:Nat)/\((n:Nat):Int)<256:=by omega
   by_cases h4n:n<4
   ·have hd:¬(4:Int)<=(n:Nat):=by omega
    go_wp2_with fail;go_roundw
    case rel =>
     refine ⟨k+1,by omega,by go_num,fun j m hj hjk=>?_,trivial⟩
     by_cases hjk':j=k
     ·subst hjk';rw [hn] at hj;cases hj;exact h4n
     ·exact hno j m hj (by omega)
    case measure=>simp [intOf];omega
   ·have hd:(4:Int)<=(n:Nat):=by omega
    go_wp2_with fail;go_ret;exact ⟨zDo (HC1.out k n hn (by omega)),B0⟩
  ·obtain rfl:k=tl.length:=by omega
   have HC4:=zAc (HC2.out hno);have hki:¬((tl.length:Nat):Int)<(tl.length:Nat):=by omega
   clear hno HC1 HC2;go_wp2_with fail;rename World=>wo;go_loopw [4,5] (fun p q wr=>∃k:Nat,k<=L.length/\p = O ii k/\zO6 W H L k/\∃m:Lat wo,wr=m.w) (fun p q _=>L.length-(intOf p).toNat)
   case atStart=>exact ⟨0,Nat.zero_le _,rfl,fun i t _ h=>absurd h (by omega),⟨wo,Below.refl _ _⟩,rfl⟩
   case round =>
    obtain ⟨k,hk,rfl,hgo,m,rfl⟩:=hrel;have y3:=c3 m
    by_cases hlt:k<L.length
    ·obtain ⟨t,htk⟩:∃t,L[k]? = some t:=⟨_,List.getElem?_eq_getElem hlt⟩
     obtain ⟨g,o,hga⟩:∃g o,a2=some ⟨g,o,none⟩:=by
      obtain ⟨a',cap',he',_,_,_,hform⟩:=(HK.out m).2.1;obtain ⟨g',o',hgg,_⟩:=hform k t htk;injection he' with h1 h2 h3
      exact ⟨g',o',h1.trans hgg⟩
     subst hga
     have HCel:Hid (∀n:Lat wo,∀(i:Nat) s,L[i]? = some s->n.w.cell? ⟨g,o+i*5,none⟩=some (O ii s.id)/\n.w.cell? ⟨g,o+i*5+1,none⟩=some (O ii s.x)/\n.w.cell? ⟨g,o+i*5+2,none⟩=some (O ii s.y)/\n.w.cell? ⟨g,o+i*5+3,none⟩=some (O ii s.a)/\n.w.cell? ⟨g,o+i*5+4,none⟩=some (O ii s.b)):=zAc fun n i s hs=>by
      obtain ⟨a',cap',he',_,_,_,hform⟩:=(HK.out n).2.1;obtain ⟨g',o',hgg,_,q0,q1,q2,q3,q4⟩:=hform i s hs;rw [hgg] at he';injection he' with h1 h2 h3
      injection h1 with h1
      injection h1 with h1 h1'
      subst h1;subst h1';exact ⟨q0,q1,q2,q3,q4⟩
     have e0:∀n:Lat m.w,n.w.cell? ⟨g,o+k*5,none⟩=some (O ii t.id):=fun n=>(HCel.out ⟨n.w,bt m.h n.h⟩ k t htk).1;have e1:∀n:Lat m.w,n.w.cell? ⟨g,o+k*5+1,none⟩=some (O ii t.x):=fun n=>(HCel.out ⟨n.w,bt m.h n.h⟩ k t htk).2.1;have e2:∀n:Lat m.w,n.w.cell? ⟨g,o+k*5+2,none⟩=some (O ii t.y):=fun n=>(HCel.out ⟨n.w,bt m.h n.h⟩ k t htk).2.2.1;have e3:∀n:Lat m.w,n.w.cell? ⟨g,o+k*5+3,none⟩=some (O ii t.a):=fun n=>(HCel.out ⟨n.w,bt m.h n.h⟩ k t htk).2.2.2.1;have e4:∀n:Lat m.w,n.w.cell? ⟨g,o+k*5+4,none⟩=some (O ii t.b):=fun n=>(HCel.out ⟨n.w,bt m.h n.h⟩ k t htk).2.2.2.2;have d0:∀n:Lat m.w,n.w.cell? ⟨w.heap.size,0,none⟩=some (O ii W):=fun n=>c0 ⟨n.w,bt m.h n.h⟩;have d1:∀n:Lat m.w,n.w.cell? ⟨w.heap.size,1,none⟩=some (O ii H):=fun n=>c1 ⟨n.w,bt m.h n.h⟩;have d3:∀n:Lat m.w,n.w.cell? ⟨w.heap.size,3,none⟩=some (.slice (some ⟨g,o,none⟩) L.length cap2):=fun n=>c3 ⟨n.w,bt m.h n.h⟩;have hki2:(k:Int)<(L.length:Nat):=by omega
     have hne:=zAq m.w;cases hmb:mb W H t
     ·have hcode:=HC3.out (fun hG=>by have:=(hG k t htk hlt).1;rw [hmb] at this;cases this);have HM:=zAc hmb;clear c0 c1 c2 c3 z0 z1 z2 z3 hmb htk hgo;go_wp2_with fail;refine zAh (by kernel_rfl) (by kernel_rfl) ?_;repeat (go_big_quiet_step (first|(go_at_call 83;exact zAi (zG7 HM.out))))
      refine wpQuiet_nil ?_;rintro _ ⟨n2,rfl⟩;go_wp2_with fail;go_ret;exact ⟨zDo hcode,bt B0 (bt m.h n2.h)⟩
     ·have HM:=zAc hmb;have HG:=zAc hgo;have HT:=zAc htk;clear z0 z1 z2 z3 hmb hgo htk;go_wp2_with fail;refine zAh (by kernel_rfl) (by kernel_rfl) ?_;repeat (go_big_quiet_step (first|(go_at_call 83;exact zAi (zG7 HM.out))))
      refine wpQuiet_nil ?_;rintro _ ⟨n2,rfl⟩;clear e0 e1 e2 e3 e4 d0 d1 d3;go_wp2_with fail;go_loopw [5] (fun q wr=>∃j:Nat,j<=k/\q = O ii j/\(∀(i:Nat) s,L[i]? = some s->i<j->s.id<t.id/\s.mt t=false)/\∃m:Lat wo,wr=m.w) (fun q _=>k-(intOf q).toNat)
      case atStart=>exact ⟨0,Nat.zero_le _,rfl,fun i t _ h=>absurd h (by omega),⟨n2.w,bt m.h n2.h⟩,rfl⟩
      case round =>
       obtain ⟨j,hj,rfl,hin,m3,rfl⟩:=hrel
       by_cases hjk:j<k
       ·obtain ⟨s,hsj⟩:∃s,L[j]? = some s:=⟨_,List.getElem?_eq_getElem (by omega)⟩
        have e0:∀n:Lat m3.w,n.w.cell? ⟨g,o+k*5,none⟩=some (O ii t.id):=fun n=>(HCel.out ⟨n.w,bt m3.h n.h⟩ k t HT.out).1;have e1:∀n:Lat m3.w,n.w.cell? ⟨g,o+k*5+1,none⟩=some (O ii t.x):=fun n=>(HCel.out ⟨n.w,bt m3.h n.h⟩ k t HT.out).2.1;have e2:∀n:Lat m3.w,n.w.cell? ⟨g,o+k*5+2,none⟩=some (O ii t.y):=fun n=>(HCel.out ⟨n.w,bt m3.h n.h⟩ k t HT.out).2.2.1;have e3:∀n:Lat m3.w,n.w.cell? ⟨g,o+k*5+3,none⟩=some (O ii t.a):=fun n=>(HCel.out ⟨n.w,bt m3.h n.h⟩ k t HT.out).2.2.2.1;have e4:∀n:Lat m3.w,n.w.cell? ⟨g,o+k*5+4,none⟩=some (O ii t.b):=fun n=>(HCel.out ⟨n.w,bt m3.h n.h⟩ k t HT.out).2.2.2.2;have i0:∀n:Lat m3.w,n.w.cell? ⟨g,o+j*5,none⟩=some (O ii s.id):=fun n=>(HCel.out ⟨n.w,bt m3.h n.h⟩ j s hsj).1;have i1:∀n:Lat m3.w,n.w.cell? ⟨g,o+j*5+1,none⟩=some (O ii s.x):=fun n=>(HCel.out ⟨n.w,bt m3.h n.h⟩ j s hsj).2.1;have i2:∀n:Lat m3.w,n.w.cell? ⟨g,o+j*5+2,none⟩=some (O ii s.y):=fun n=>(HCel.out ⟨n.w,bt m3.h n.h⟩ j s hsj).2.2.1;have i3:∀n:Lat m3.w,n.w.cell? ⟨g,o+j*5+3,none⟩=some (O ii s.a):=fun n=>(HCel.out ⟨n.w,bt m3.h n.h⟩ j s hsj).2.2.2.1;have i4:∀n:Lat m3.w,n.w.cell? ⟨g,o+j*5+4,none⟩=some (O ii s.b):=fun n=>(HCel.out ⟨n.w,bt m3.h n.h⟩ j s hsj).2.2.2.2;have d3:∀n:Lat m3.w,n.w.cell? ⟨w.heap.size,3,none⟩=some (.slice (some ⟨g,o,none⟩) L.length cap2):=fun n=>c3 ⟨n.w,bt m3.h n.h⟩;have hji:(j:Int)<(k:Nat):=by omega
        have hji2:(j:Int)<(L.length:Nat):=by omega
        have hne2:=zAq m3.w;have HSJ:=zAc hsj;have HIN:=zAc hin;clear c0 c1 c2 c3 hsj hin hne y3
        by_cases hid:t.id<=s.id
        ·have hcode:=HC3.out (fun hG=>by have:=((hG k t HT.out hlt).2 j s HSJ.out hjk).1;omega);have hd:=decide_eq_true hid;go_wp2_with fail;refine zAh (by kernel_rfl) (by kernel_rfl) ?_;repeat (go_big_quiet_step (fail))
         refine wpQuiet_nil ?_;rintro _ ⟨n3,rfl⟩;go_wp2_with fail;go_ret;exact ⟨zDo hcode,bt B0 (bt m3.h n3.h)⟩
        ·have hd:=decide_eq_false hid;cases hmt:mtB s.x s.y s.a s.b t.x t.y t.a t.b
         ·have HS:=zAc hmt;clear hmt;go_wp2_with fail;refine zAh (by kernel_rfl) (by kernel_rfl) ?_;repeat (go_big_quiet_step (first|(go_at_call 84;exact zAi (zMw HS.out))))
          refine wpQuiet_nil ?_;rintro _ ⟨n3,rfl⟩;go_wp2_with fail;go_roundw
          case rel =>
           refine ⟨j+1,by omega,by go_num,fun i s' hi hij=>?_,⟨n3.w,bt m3.h n3.h⟩,rfl⟩
           by_cases hij':i=j
           ·subst hij';rw [HSJ.out] at hi;cases hi;exact ⟨by omega,HS.out⟩
           ·exact HIN.out i s' hi (by omega)
          case measure=>simp [intOf];omega
         ·have hcode:=HC3.out (fun hG=>by have:=((hG k t HT.out hlt).2 j s HSJ.out hjk).2;rw [Bd.mt,hmt] at this;cases this);have HS:=zAc hmt;clear hmt;go_wp2_with fail;refine zAh (by kernel_rfl) (by kernel_rfl) ?_;repeat (go_big_quiet_step (first|(go_at_call 84;exact zAi (zMw HS.out))))
          refine wpQuiet_nil ?_;rintro _ ⟨n3,rfl⟩;go_wp2_with fail;go_ret;exact ⟨zDo hcode,bt B0 (bt m3.h n3.h)⟩
       ·obtain rfl:j=k:=by omega
        have hji:¬((j:Nat):Int)<(j:Nat):=by omega
        have HIN:=zAc hin;clear hin;go_wp2_with fail;go_roundw
        case rel =>
         refine ⟨j+1,by omega,by go_num,fun i u hu hij=>?_,m3,rfl⟩
         by_cases hij':i=j
         ·subst hij';rw [HT.out] at hu;cases hu;exact ⟨HM.out,HIN.out⟩
         ·exact HG.out i u hu (by omega)
        case measure=>simp [intOf];omega
    ·obtain rfl:k=L.length:=by omega
     have hcode:=HC4.out hgo;have hki2:¬((L.length:Nat):Int)<(L.length:Nat):=by omega
     clear hgo;go_wp2_with fail;go_ret;exact ⟨rfl,bt B0 m.h⟩
theorem zG8 {W H:Int} {tv bv:Value} {tl:List Nat} {L:List Bd} {w:World} {c:Int} (hv:TlR w tv tl) (hb:∀x∈tl,x<256) (hl:BdR w bv L) (h:zEl W H tl L=c) :
 Calls pg 50 #[mp W H tv bv] w fun e w'=>e = .returned (O ii c)/\Below w.heap.size w w':=by subst h;exact zKd W H tv bv tl L w hv hb hl
theorem zK1 (w:World) (ty:TypeId):(Builtin.append_ #[22,22] ty #[.slice none 0 0,.slice none 0 0]).run pg w = .ok (.slice none 0 0) w:=by kernel_rfl
theorem zK0 (w:World) (ty:TypeId):(Builtin.append_ #[23,23] ty #[.slice none 0 0,.slice none 0 0]).run pg w = .ok (.slice none 0 0) w:=by kernel_rfl
theorem zHp {W W':World} (h:W.grownBy W' none):Below W.heap.size W W':=⟨h.os,h.tape,h.output,h.size,fun k hk=>h.block k hk (by simp)⟩
theorem TlR.cellsAt {w:World} {a:Option Addr} {l:List Nat} {cap:Nat} (h:TlR w (.slice a l.length cap) l):∀ad,a=some ad->∀j u,(l.map (fun n=>Value.int .u8 (n:Nat)))[j]? = some u->w.cell? (ad.add j)=some u:=fun ad ha j u hu=>by
 obtain ⟨a',cap',e,-,-,-,hat⟩:=h;injection e with e1
 subst e1;rw [List.getElem?_map] at hu
 cases hx:l[j]? with
 |none=>rw [hx] at hu;cases hu
 |some x =>
  rw [hx] at hu;cases hu;obtain ⟨g,o,e1,e2,e3⟩:=hat j x hx;rw [ha] at e1;cases e1;rw [Addr.add_lit];exact e3
theorem BdR.cellsAt {w:World} {a:Option Addr} {l:List Bd} {cap:Nat} (h:BdR w (.slice a l.length cap) l):∀ad,a=some ad->∀j u,(l.flatMap Bd.cs)[j]? = some u->w.cell? (ad.add j)=some u:=fun ad ha j u hu=>by
 obtain ⟨a',cap',e,-,-,-,hat⟩:=h;injection e with e1
 subst e1;have hj:j<l.length*5:=by have:=(List.getElem?_eq_some_iff.1 hu).1;rwa [cs_len] at this
 obtain ⟨t,ht⟩:∃t,l[j/5]? = some t:=⟨_,List.getElem?_eq_getElem (by omega)⟩
 have hg:=cs_get l (j/5) t (j%5) ht (by omega);rw [show j/5*5+j%5=j by omega] at hg;rw [hg] at hu;obtain ⟨g,o,e1,e2,c0,c1,c2,c3,c4⟩:=hat (j/5) t ht;rw [ha] at e1;cases e1;rw [Addr.add_lit];have hm:j%5<5:=by omega
 have hj5:o+j=o+j/5*5+j%5:=by omega
 rw [hj5]
 match hq:j%5,hm with
 |0,_=>rw [hq] at hu;cases hu;simpa using c0
 |1,_=>rw [hq] at hu;cases hu;exact c1
 |2,_=>rw [hq] at hu;cases hu;exact c2
 |3,_=>rw [hq] at hu;cases hu;exact c3
 |4,_=>rw [hq] at hu;cases hu;exact c4
theorem zIo (w:World) (t ty e:TypeId) (i:TypeInfo) (z:Value) (size bytes:Nat) (ht:pg.underlying t=some (.slice e)) (hi:pg.info? e=some i) (hz:i.zero=some z)
 (hsize:i.size=size) (hby:i.bytes=bytes) (hzs:z.cells.size=size) (hsz:0<size) (hnil:(Builtin.append_ #[t,t] ty #[.slice none 0 0,.slice none 0 0]).run pg w = .ok (.slice none 0 0) w)
 (src:Option Addr) (c n:Nat) (xs:List Value) (hlen:xs.length=n*size) (h0:src=none->n=0/\c=0) (h:∀ad,src=some ad->∀j u,xs[j]? = some u->w.cell? (ad.add j)=some u) (hone:∀u∈xs,u.oneCell'=true) (h63:n<=maxLen) (hbytes:n*bytes<=140737488355328) :
 ∃a cap w',(Builtin.append_ #[t,t] ty #[.slice none 0 0,.slice src n c]).run pg w = .ok (.slice a n cap) w'/\w'.ownsRow 0 e size (.slice a n cap) n xs/\Below w.heap.size w w'/\∀b,(Value.slice a n cap).ownBlock=some b->w.heap.size<=b:=by
 cases src with
 |none =>
  obtain ⟨rfl,rfl⟩:=h0 rfl;rw [Nat.zero_mul] at hlen;obtain rfl:=List.eq_nil_of_length_eq_zero hlen;exact ⟨none,0,w,hnil,World.ownsRow_nil _ _ _ _,Below.refl _ _,fun b h=>by simp [Value.ownBlock] at h⟩
 |some ad =>
  obtain ⟨v',w',hr,h2,h3,h4,h6⟩:=run_append_own_at (P:=pg) w 0 t ty e i z size bytes ht hi hz hsize hby hzs hsz (.slice none 0 0) 0 [] (World.ownsRow_nil _ _ _ _) ad n c xs hlen (h ad rfl) hone (by omega) (by rw [Nat.zero_add];exact hbytes) (Nat.zero_le _);rw [Nat.zero_add,List.nil_append] at h2;have hB:Below w.heap.size w w':=zHp h3
  have hown:∀b,v'.ownBlock=some b->w.heap.size<=b:=fun b hb=>by
   rcases h6 with h|h
   ·rw [h] at hb;cases hb
   ·rw [h] at hb;cases hb;exact Nat.le_refl _
  rcases h2.2 with ⟨rfl,h0⟩|⟨g',cap',cur',rfl,_⟩
  ·subst h0;exact ⟨none,0,w',hr,h2,hB,hown⟩
  ·exact ⟨_,_,w',hr,h2,hB,hown⟩
theorem Rd.set2 {w:World} {r:Nat} {W H:Int} {tv bv ev:Value} (h:Rd w r W H tv bv ev) (v:Value):Rd (w.setCell ⟨r,2,none⟩ v) r W H v bv ev:=by
 have h':w.heap[r]? = _:=h;have hlt:=h.lt;unfold Rd;simp [World.setCell,Array.getElem?_modify,h']
def RefMade (w:World) (W H:Int) (tl:List Nat) (L:List Bd) (r:Nat) (w':World):Prop:=
 ∃tv bv,Rd w' r W H tv bv (.slice none 0 0)/\Tls w' tv tl/\Bds w' bv L/\Below w.heap.size w w'/\(w.heap.size<=r/\(∀b,tv.ownBlock=some b->w.heap.size<=b)/\∀b,bv.ownBlock=some b->w.heap.size<=b)
theorem zOg (W H:Int) (tv bv:Value) (tl:List Nat) (L:List Bd) (w:World) (hv:TlR w tv tl) (hb:∀x∈tl,x<256) (hl:BdR w bv L) (hc:zEl W H tl L=1) :
 Calls pg 24 #[mp W H tv bv] w fun e w'=>e = .returned (.tuple #[.pointer none,O ii 1])/\Below w.heap.size w w':=by
 have B0:Below w.heap.size w (w.alloc (.cells #[O ii W,O ii H,tv,bv] 25)):=zAk _ _;have HC:=zAc (zG8 (hv.kept B0) hb (hl.kept B0) hc);obtain ⟨a1,cap1,rfl,-⟩:=hv;obtain ⟨a2,cap2,rfl,-⟩:=hl;clear hc;go_enter func24,ntmps24;go_wp2_with (go_at_call 50;refine HC.out.mono ?_;rintro e w1 ⟨rfl,hb1⟩);go_ret2
 exact ⟨rfl,bt B0 hb1⟩
theorem zLk (W H:Int) (tv bv:Value) (tl:List Nat) (L:List Bd) (w:World) (hv:TlR w tv tl) (hb:∀x∈tl,x<256) (hl:BdR w bv L) (hc:zEl W H tl L=0) :
 Calls pg 24 #[mp W H tv bv] w fun e w'=>∃r,e = .returned (.tuple #[ptr r,O ii 0])/\RefMade w W H tl L r w':=by
 have hsz:tl.length<=16384/\L.length<=256:=by
  unfold zEl at hc
  split at hc
  ·rename_i h;simp only [Bool.and_eq_true,decide_eq_true_eq] at h;have hm:=h.1;simp only [mt,Bool.and_eq_true,decide_eq_true_eq] at hm;have:=qCf hm.1 hm.2.1;exact ⟨by omega,h.2.1⟩
  ·cases hc
 obtain ⟨X,hX⟩:=ex (w.alloc (.cells #[O ii W,O ii H,tv,bv] 25));have B0:Below w.heap.size w X:=hX▸zAk _ _;have zX:X.heap.size=w.heap.size+1:=by rw [<-hX];simp
 have T0:Turns NoB w X:=Turns.of_below B0;have HBox:X.heap[w.heap.size]? = some (.cells #[O ii W,O ii H,tv,bv] 25 (0,0)):=hX▸heap_alloc_new w _
 have key:∀n:Lat X,TlR n.w tv tl/\BdR n.w bv L/\n.w.heap[w.heap.size]? = some (.cells #[O ii W,O ii H,tv,bv] 25 (0,0)):=fun n=>by
  have T:Turns NoB X n.w:=Turns.of_below n.h;exact ⟨(hv.kept B0).kept n.h,(hl.kept B0).kept n.h,T.same id HBox⟩
 have HK:=zAc key;have HC:=zAc (zG8 (key ⟨X,Below.refl _ _⟩).1 hb (key ⟨X,Below.refl _ _⟩).2.1 hc);simp only at HC;have hvf:=hv;have hlf:=hl;obtain ⟨a1,cap1,rfl,-,-,h01,-⟩:=hvf;obtain ⟨a2,cap2,rfl,-,-,h02,-⟩:=hlf;clear hv hl hc T0 HBox key;go_enter func24,ntmps24;have KX:=(HK.out ⟨X,Below.refl _ _⟩).2.2;have s0:X.cell? ⟨w.heap.size,0,none⟩=some (O ii W):=cell_of_row X _ 0 _ _ _ KX;have s1:X.cell? ⟨w.heap.size,1,none⟩=some (O ii H):=cell_of_row X _ 1 _ _ _ KX;have s2:X.cell? ⟨w.heap.size,2,none⟩=some (.slice a1 tl.length cap1):=cell_of_row X _ 2 _ _ _ KX;have s3:X.cell? ⟨w.heap.size,3,none⟩=some (.slice a2 L.length cap2):=cell_of_row X _ 3 _ _ _ KX;clear KX;go_wp2_with fail;refine HC.out.mono ?_;rintro e w1 ⟨rfl,hb1⟩;clear HC s0 s1 s2 s3;have K1:=(HK.out ⟨w1,hb1⟩).2.2;have m0:w1.cell? ⟨w.heap.size,0,none⟩=some (O ii W):=cell_of_row w1 _ 0 _ _ _ K1;have m1:w1.cell? ⟨w.heap.size,1,none⟩=some (O ii H):=cell_of_row w1 _ 1 _ _ _ K1;clear hX K1;go_wp2_with fail;clear m0 m1;have BY:Below w1.heap.size w1 (w1.alloc (.cells #[O ii W,O ii H,.slice none 0 0,.slice none 0 0,.slice none 0 0] 109)):=zAk _ _;have RY:Rd (w1.alloc (.cells #[O ii W,O ii H,.slice none 0 0,.slice none 0 0,.slice none 0 0] 109)) w1.heap.size W H (.slice none 0 0) (.slice none 0 0) (.slice none 0 0):=heap_alloc_new w1 _;obtain ⟨Y,hY⟩:=ex (w1.alloc (.cells #[O ii W,O ii H,.slice none 0 0,.slice none 0 0,.slice none 0 0] 109));have zY:Y.heap.size=w1.heap.size+1:=by rw [<-hY];simp
 rw [hY] at BY RY ⊢;clear hY;obtain ⟨r,hr⟩:=ex (w1.heap.size);have z1:=hb1.size;rw [hr] at RY zY z1 ⊢;have BXY:Below X.heap.size X Y:=bt hb1 BY;have KY:=HK.out ⟨Y,BXY⟩;simp only at KY;obtain ⟨f5,hf5,hz5,hs5,hb5⟩:=info_parts zYs;obtain ⟨f92,hf92,hz92,hs92,hb92⟩:=info_parts zNg;obtain ⟨a3,cap3,w3,hrun3,hown3,hB3,hfr3⟩:=zIo Y.drew 22 22 5 f5 (.int .u8 0) 1 1 Tryz.underlying22 hf5 hz5 hs5 hb5 rfl (by decide) (zK1 _ _) a1 cap1 tl.length _ (by simp) h01 (KY.1.cellsAt) zVl (by unfold maxLen;omega) (by omega);have B3:Below Y.heap.size Y w3:=zCx hB3;have R3:=RY.kept (Turns.of_below (S:=NoB) B3) id;have TS3:Turns (fun j=>j=r) w3 (w3.setCell ⟨r,2,none⟩ (.slice a3 tl.length cap3)):=Turns.set (S:=fun j=>j=r) w3 (p:=⟨r,2,none⟩) rfl _;have B4:Below X.heap.size X (w3.setCell ⟨r,2,none⟩ (.slice a3 tl.length cap3)):=(bt BXY B3).setCell (p:=⟨r,2,none⟩) (by simp;omega) _;have HB4:=zAc B4;have m2Y:Y.cell? ⟨w.heap.size,2,none⟩=some (.slice a1 tl.length cap1):=cell_of_row Y _ 2 _ _ _ KY.2.2;have m2_3:w3.cell? ⟨w.heap.size,2,none⟩=some (.slice a1 tl.length cap1):=(B3.cell (p:=⟨w.heap.size,2,none⟩) (by simp;omega)).trans m2Y;have m2_4:(w3.setCell ⟨r,2,none⟩ (.slice a3 tl.length cap3)).cell? ⟨w.heap.size,2,none⟩=some (.slice a1 tl.length cap1):=(B4.cell (p:=⟨w.heap.size,2,none⟩) (by simp;omega)).trans (cell_of_row X _ 2 _ _ _ (HK.out ⟨X,Below.refl _ _⟩).2.2);have y2:Y.cell? ⟨r,2,none⟩=some (.slice none 0 0):=RY.c 2;have x2:w3.cell? ⟨r,2,none⟩=some (.slice none 0 0):=R3.c 2;have q2:=R3.f 2;have HR3:=zAc R3;have HO3:=zAc hown3;have HF3:=zAc hfr3;clear hown3 hfr3 R3 KY hb;refine Code.wp_mono (Q:=zA1 (fun a' w'=>w'=w3.setCell ⟨r,2,none⟩ (.slice a3 tl.length cap3)/\a'={ tmps:=#[mp W H (.slice a1 tl.length cap1) (.slice a2 L.length cap2),ptr w.heap.size,.pointer none,O ii 0,ptr r,mp W H (.slice a1 tl.length cap1) (.slice a2 L.length cap2),O ii 0,.bool false,.pointer (some ⟨w.heap.size,0,none⟩),O ii W,.pointer (some ⟨w.heap.size,1,none⟩),O ii H,.agg #[O ii W,O ii H,.slice none 0 0,.slice none 0 0,.slice none 0 0],ptr r,ptr r,ptr r,ptr r,.pointer (some ⟨r,2,none⟩),.slice none 0 0,.pointer (some ⟨w.heap.size,2,none⟩),.slice a1 tl.length cap1,.slice a3 tl.length cap3,ptr r,.pointer (some ⟨r,2,none⟩),undef,undef,undef,undef,undef,undef,undef,undef,undef,undef,undef],defers:=[] })) ?rest ?_
 case rest =>
  rintro (_|_|_|_|_) a' w' hO;all_goals first|exact hO.elim|skip
  obtain ⟨rfl,rfl⟩:=hO;have R4:=HR3.out.set2 (.slice a3 tl.length cap3);have hne3:(Value.slice a3 tl.length cap3).ownBlock≠some r:=fun h=>by have:=HF3.out r h;simp at this;omega
  have T4:Tls (w3.setCell ⟨r,2,none⟩ (.slice a3 tl.length cap3)) (.slice a3 tl.length cap3) tl:=Tls.kept (show Tls w3 (.slice a3 tl.length cap3) tl from HO3.out) TS3 (fun k e h=>hne3 (h▸e));clear m2Y m2_3 m2_4 y2 x2 q2 HR3 HO3 hrun3;obtain ⟨w4,hw4⟩:=ex (w3.setCell ⟨r,2,none⟩ (.slice a3 tl.length cap3));have z4:Y.heap.size<=w4.heap.size:=by rw [<-hw4];have:=B3.size;simpa using this
  rw [hw4] at R4 T4 HB4 B4 ⊢;clear hw4 TS3;have K4:=HK.out ⟨w4,HB4.out⟩;simp only at K4;obtain ⟨a5,cap5,w5,hrun5,hown5,hB5,hfr5⟩:=zIo w4.drew 23 23 51 f92 z55 5 40 Tryz.underlying23 hf92 hz92 hs92 hb92 rfl (by decide) (zK0 _ _) a2 cap2 L.length _ (cs_len L) h02 (K4.2.1.cellsAt) zLz (by unfold maxLen;omega) (by omega);have B5:Below w4.heap.size w4 w5:=zCx hB5;have R5:=R4.kept (Turns.of_below (S:=NoB) B5) id;have TS5:Turns (fun j=>j=r) w5 (w5.setCell ⟨r,3,none⟩ (.slice a5 L.length cap5)):=Turns.set (S:=fun j=>j=r) w5 (p:=⟨r,3,none⟩) rfl _;have B6:Below X.heap.size X (w5.setCell ⟨r,3,none⟩ (.slice a5 L.length cap5)):=(bt HB4.out B5).setCell (p:=⟨r,3,none⟩) (by simp;omega) _;have m3_4:w4.cell? ⟨w.heap.size,3,none⟩=some (.slice a2 L.length cap2):=cell_of_row w4 _ 3 _ _ _ K4.2.2;have m3_5:w5.cell? ⟨w.heap.size,3,none⟩=some (.slice a2 L.length cap2):=(B5.cell (p:=⟨w.heap.size,3,none⟩) (by simp;omega)).trans m3_4;have m3_6:(w5.setCell ⟨r,3,none⟩ (.slice a5 L.length cap5)).cell? ⟨w.heap.size,3,none⟩=some (.slice a2 L.length cap2):=(B6.cell (p:=⟨w.heap.size,3,none⟩) (by simp;omega)).trans (cell_of_row X _ 3 _ _ _ (HK.out ⟨X,Below.refl _ _⟩).2.2);have y3:w4.cell? ⟨r,3,none⟩=some (.slice none 0 0):=R4.c 3;have x3:w5.cell? ⟨r,3,none⟩=some (.slice none 0 0):=R5.c 3;have q3:=R5.f 3
  have hEnd:RefMade w W H tl L r (w5.setCell ⟨r,3,none⟩ (.slice a5 L.length cap5)):=by
   have hne5:(Value.slice a5 L.length cap5).ownBlock≠some r:=fun h=>by have:=hfr5 r h;simp at this;omega
   refine ⟨_,_,R5.set3 _,(T4.kept (Turns.of_below (S:=NoB) B5) (fun _ _=>id)).kept TS5 (fun k e h=>hne3 (h▸e)),Bds.kept (show Bds w5 (.slice a5 L.length cap5) L from hown5) TS5 (fun k e h=>hne5 (h▸e)),bt B0 B6,by omega,fun b e=>?_,fun b e=>?_⟩
   ·have:=HF3.out b e;simp at this;omega
   ·have:=hfr5 b e;simp at this;omega
  have HE:=zAc hEnd;clear hEnd R4 T4 R5 TS5 hown5 hfr5 K4 HF3 HK;go_wp2_with fail;refine Code.wp_mono (Q:=zA1 (fun a' w'=>w'=w5.setCell ⟨r,3,none⟩ (.slice a5 L.length cap5)/\a'={ tmps:=#[mp W H (.slice a1 tl.length cap1) (.slice a2 L.length cap2),ptr w.heap.size,.pointer none,O ii 0,ptr r,mp W H (.slice a1 tl.length cap1) (.slice a2 L.length cap2),O ii 0,.bool false,.pointer (some ⟨w.heap.size,0,none⟩),O ii W,.pointer (some ⟨w.heap.size,1,none⟩),O ii H,.agg #[O ii W,O ii H,.slice none 0 0,.slice none 0 0,.slice none 0 0],ptr r,ptr r,ptr r,ptr r,.pointer (some ⟨r,2,none⟩),.slice none 0 0,.pointer (some ⟨w.heap.size,2,none⟩),.slice a1 tl.length cap1,.slice a3 tl.length cap3,ptr r,.pointer (some ⟨r,2,none⟩),ptr r,ptr r,ptr r,.pointer (some ⟨r,3,none⟩),.slice none 0 0,.pointer (some ⟨w.heap.size,3,none⟩),.slice a2 L.length cap2,.slice a5 L.length cap5,ptr r,.pointer (some ⟨r,3,none⟩),undef],defers:=[] })) ?rest2 ?_
  case rest2 =>
   rintro (_|_|_|_|_) a' w' hO;all_goals first|exact hO.elim|skip
   obtain ⟨rfl,rfl⟩:=hO;clear m3_4 m3_5 m3_6 y3 x3 q3 hrun5;go_wp2_with fail;go_ret2
   exact ⟨r,rfl,HE.out⟩
  refine wp_region_held_drew (S:=fun w'=>w'.cell? ⟨w.heap.size,3,none⟩=some (.slice a2 L.length cap2)) (by kernel_rfl) m3_4 (fun hHeld=>?_);refine wpAnyH_take (i:=0) (v:=?_) rfl (by kernel_rfl) (by kernel_rfl) (by kernel_rfl) (fun _ _ _ h=>h.elim) (Or.inl ⟨by rfl,?_⟩) (by assumption) ?_
  rotate_left
  ·intro wx hSw;try dsimp only at hSw
   go_simp;try with_reducible rfl
  try simp only [Act.put,List.getElem_toArray,List.getElem_cons_zero,List.setIfInBounds_toArray,List.set_cons_zero,List.set_cons_succ]
  refine wpAnyH_take (i:=1) (v:=?_) rfl (by kernel_rfl) (by kernel_rfl) (by kernel_rfl) (fun _ _ _ h=>h.elim) (Or.inl ⟨by rfl,?_⟩) (by assumption) ?_
  rotate_left
  ·intro wx hSw;try dsimp only at hSw
   go_simp;try with_reducible rfl
  try simp only [zp]
  refine wpAnyH_take (i:=2) (v:=?_) rfl (by kernel_rfl) (by kernel_rfl) (by kernel_rfl) (fun _ _ _ h=>h.elim) (Or.inl ⟨by rfl,?_⟩) (by assumption) ?_
  rotate_left
  ·intro wx hSw;try dsimp only at hSw
   go_simp;try with_reducible rfl
  try simp only [zp]
  refine wpAnyH_take (i:=3) (v:=?_) rfl (by kernel_rfl) (by kernel_rfl) (by kernel_rfl) (fun _ _ _ h=>h.elim) (Or.inl ⟨by rfl,?_⟩) (by assumption) ?_
  rotate_left
  ·intro wx hSw;try dsimp only at hSw
   go_simp;try with_reducible rfl
  try simp only [zp]
  refine wpAnyH_take (i:=5) (v:=?_) rfl (by kernel_rfl) (by kernel_rfl) (by kernel_rfl) (fun _ _ _ h=>h.elim) (Or.inl ⟨by rfl,?_⟩) (by assumption) ?_
  rotate_left
  ·intro wx hSw;try dsimp only at hSw
   go_simp;try with_reducible rfl
  try simp only [zp]
  refine wpAnyH_take (i:=6) (v:=?_) rfl (by kernel_rfl) (by kernel_rfl) (by kernel_rfl) (fun _ _ _ h=>h.elim) (Or.inl ⟨by rfl,?_⟩) (by assumption) ?_
  rotate_left
  ·intro wx hSw;try dsimp only at hSw
   go_simp;try with_reducible rfl
  try simp only [zp]
  refine wpAnyH_ready (rs:=[4]) (by kernel_rfl) (by simp) ?_;refine AllReadyH.cons rfl (fun K hK=>?_) ?_
  ·go_simp;refine hK.out _ _ ?_ (fun hHeld=>?_)
   ·first|exact m3_4|exact m3_5|exact m3_6
   clear hK K;try simp only [zp]
   refine wpAnyH_ready (rs:=[7]) (by kernel_rfl) (by simp) ?_;refine AllReadyH.cons rfl (fun K hK=>?_) ?_
   ·refine zEc rfl _ _ 23 23 rfl (by simp [Act.eval]) (by simp [Act.eval]) hrun5 ?_;refine hK.out _ _ ?_ (fun hHeld=>?_)
    ·first|exact m3_4|exact m3_5|exact m3_6
    clear hK K;try simp only [zp]
    refine wpAnyH_take (i:=8) (v:=?_) rfl (by kernel_rfl) (by kernel_rfl) (by kernel_rfl) (fun _ _ _ h=>h.elim) (Or.inl ⟨by rfl,?_⟩) (by assumption) ?_
    rotate_left
    ·intro wx hSw;try dsimp only at hSw
     go_simp;try with_reducible rfl
    try simp only [zp]
    refine wpAnyH_take (i:=9) (v:=?_) rfl (by kernel_rfl) (by kernel_rfl) (by kernel_rfl) (fun _ _ _ h=>h.elim) (Or.inl ⟨by rfl,?_⟩) (by assumption) ?_
    rotate_left
    ·intro wx hSw;try dsimp only at hSw
     go_simp;try with_reducible rfl
    try simp only [zp]
    refine wpAnyH_ready (rs:=[10]) (by kernel_rfl) (by simp) ?_;refine AllReadyH.cons rfl (fun K hK=>?_) ?_
    ·go_simp;refine hK.out _ _ ?_ (fun hHeld=>?_)
     ·first|exact m3_4|exact m3_5|exact m3_6
     clear hK K;try simp only [zp]
     refine wpAnyH_done (by kernel_rfl) ?_ _;exact ⟨rfl,rfl⟩
    exact AllReadyH.nil
   exact AllReadyH.nil
  exact AllReadyH.nil
 refine wp_region_held_drew (S:=fun w'=>w'.cell? ⟨w.heap.size,2,none⟩=some (.slice a1 tl.length cap1)) (by kernel_rfl) m2Y (fun hHeld=>?_);refine wpAnyH_take (i:=0) (v:=?_) rfl (by kernel_rfl) (by kernel_rfl) (by kernel_rfl) (fun _ _ _ h=>h.elim) (Or.inl ⟨by rfl,?_⟩) (by assumption) ?_
 rotate_left
 ·intro wx hSw;try dsimp only at hSw
  go_simp;try with_reducible rfl
 try simp only [Act.put,List.getElem_toArray,List.getElem_cons_zero,List.setIfInBounds_toArray,List.set_cons_zero,List.set_cons_succ]
 refine wpAnyH_take (i:=1) (v:=?_) rfl (by kernel_rfl) (by kernel_rfl) (by kernel_rfl) (fun _ _ _ h=>h.elim) (Or.inl ⟨by rfl,?_⟩) (by assumption) ?_
 rotate_left
 ·intro wx hSw;try dsimp only at hSw
  go_simp;try with_reducible rfl
 try simp only [zp]
 refine wpAnyH_take (i:=2) (v:=?_) rfl (by kernel_rfl) (by kernel_rfl) (by kernel_rfl) (fun _ _ _ h=>h.elim) (Or.inl ⟨by rfl,?_⟩) (by assumption) ?_
 rotate_left
 ·intro wx hSw;try dsimp only at hSw
  go_simp;try with_reducible rfl
 try simp only [zp]
 refine wpAnyH_take (i:=3) (v:=?_) rfl (by kernel_rfl) (by kernel_rfl) (by kernel_rfl) (fun _ _ _ h=>h.elim) (Or.inl ⟨by rfl,?_⟩) (by assumption) ?_
 rotate_left
 ·intro wx hSw;try dsimp only at hSw
  go_simp;try with_reducible rfl
 try simp only [zp]
 refine wpAnyH_take (i:=5) (v:=?_) rfl (by kernel_rfl) (by kernel_rfl) (by kernel_rfl) (fun _ _ _ h=>h.elim) (Or.inl ⟨by rfl,?_⟩) (by assumption) ?_
 rotate_left
 ·intro wx hSw;try dsimp only at hSw
  go_simp;try with_reducible rfl
 try simp only [zp]
 refine wpAnyH_take (i:=6) (v:=?_) rfl (by kernel_rfl) (by kernel_rfl) (by kernel_rfl) (fun _ _ _ h=>h.elim) (Or.inl ⟨by rfl,?_⟩) (by assumption) ?_
 rotate_left
 ·intro wx hSw;try dsimp only at hSw
  go_simp;try with_reducible rfl
 try simp only [zp]
 refine wpAnyH_ready (rs:=[4]) (by kernel_rfl) (by simp) ?_;refine AllReadyH.cons rfl (fun K hK=>?_) ?_
 ·go_simp;refine hK.out _ _ ?_ (fun hHeld=>?_)
  ·first|exact m2Y|exact m2_3|exact m2_4
  clear hK K;try simp only [zp]
  refine wpAnyH_ready (rs:=[7]) (by kernel_rfl) (by simp) ?_;refine AllReadyH.cons rfl (fun K hK=>?_) ?_
  ·refine zEc rfl _ _ 22 22 rfl (by simp [Act.eval]) (by simp [Act.eval]) hrun3 ?_;refine hK.out _ _ ?_ (fun hHeld=>?_)
   ·first|exact m2Y|exact m2_3|exact m2_4
   clear hK K;try simp only [zp]
   refine wpAnyH_take (i:=8) (v:=?_) rfl (by kernel_rfl) (by kernel_rfl) (by kernel_rfl) (fun _ _ _ h=>h.elim) (Or.inl ⟨by rfl,?_⟩) (by assumption) ?_
   rotate_left
   ·intro wx hSw;try dsimp only at hSw
    go_simp;try with_reducible rfl
   try simp only [zp]
   refine wpAnyH_take (i:=9) (v:=?_) rfl (by kernel_rfl) (by kernel_rfl) (by kernel_rfl) (fun _ _ _ h=>h.elim) (Or.inl ⟨by rfl,?_⟩) (by assumption) ?_
   rotate_left
   ·intro wx hSw;try dsimp only at hSw
    go_simp;try with_reducible rfl
   try simp only [zp]
   refine wpAnyH_ready (rs:=[10]) (by kernel_rfl) (by simp) ?_;refine AllReadyH.cons rfl (fun K hK=>?_) ?_
   ·go_simp;refine hK.out _ _ ?_ (fun hHeld=>?_)
    ·first|exact m2Y|exact m2_3|exact m2_4
    clear hK K;try simp only [zp]
    refine wpAnyH_done (by kernel_rfl) ?_ _;exact ⟨rfl,rfl⟩
   exact AllReadyH.nil
  exact AllReadyH.nil
 exact AllReadyH.nil
def Rl (w:World) (r:Nat) (W H:Int) (tl:List Nat) (L:List Bd):Prop:=
 ((mt W H tl=true/\∀n∈tl,n<256)/\L.length<=256)/\∃(tv bv ev:Value),Rd w r W H tv bv ev/\Tls w tv tl/\Bds w bv L
theorem Rl.kept {w w':World} {r:Nat} {W H:Int} {tl:List Nat} {L:List Bd} (h:Rl w r W H tl L) (hb:Below w.heap.size w w'):Rl w' r W H tl L:=by
 obtain ⟨h0,tv,bv,ev,h1,h2,h3⟩:=h;have T:Turns NoB w w':=Turns.of_below hb;exact ⟨h0,tv,bv,ev,h1.kept T id,h2.kept T (fun _ _=>id),h3.kept T (fun _ _=>id)⟩
theorem zHl {W H:Int} {tl:List Nat} {L:List Bd} (h:zEl W H tl L=0):mt W H tl=true/\L.length<=256/\okL W H [] L=true/\zGr L=zB4 L:=by
 unfold zEl at h
 split at h
 ·rename_i h';simp only [Bool.and_eq_true,decide_eq_true_eq] at h'
  have hok:okL W H [] L=true:=by
   rw [zL0 W H L [] (Fine.nil W H) rfl];simp [h'.2.1,h'.2.2]
  have:=(zM7 W H L [] (Fine.nil W H) rfl hok).2;exact ⟨h'.1,h'.2.1,hok,by simpa using this⟩
 ·cases h
theorem zUq {W H:Int} {tl:List Nat} {L:List Bd} (h:zEl W H tl L≠0) (hm:mt W H tl=true):okL W H [] L=false:=by
 rw [zL0 W H L [] (Fine.nil W H) rfl,Bool.eq_false_iff];intro e;apply h;simp only [Bool.and_eq_true,decide_eq_true_eq,List.length_nil,Nat.zero_add] at e;simp [zEl,hm,e.1,e.2]
theorem zUp (W H:Int) (tl:List Nat) (L:List Bd):zEl W H tl L=0\/zEl W H tl L=1:=by
 unfold zEl
 split
 ·exact .inl rfl
 ·exact .inr rfl
theorem RefMade.rl {w w':World} {W H:Int} {tl:List Nat} {L:List Bd} {r:Nat} (h:RefMade w W H tl L r w') (hm:mt W H tl=true) (hb:∀x∈tl,x<256) (hl:L.length<=256):Rl w' r W H tl L/\Below w.heap.size w w':=by
 obtain ⟨tv,bv,d1,d2,d3,d4,-⟩:=h;exact ⟨⟨⟨⟨hm,hb⟩,hl⟩,tv,bv,_,d1,d2,d3⟩,d4⟩
theorem zX2 {W H:Int} {tv bv:Value} {tl:List Nat} {L:List Bd} {w:World} (hv:TlR w tv tl) (hb:∀x∈tl,x<256) (hl:BdR w bv L) (hc:zEl W H tl L=0) :
 Calls pg 23 #[mp W H tv bv] w fun e w'=>∃p,e = .returned (.tuple #[ptr p,O ii 0])/\Wn w' p W H tl (zB4 L)/\Below w.heap.size w w':=by
 obtain ⟨hm,hlen,hok,hw⟩:=zHl hc;refine (zI6 W H tv bv tl L w hv hb hl hm).mono ?_;rintro e w' (⟨-,p,he,hM⟩|⟨h,-⟩)
 ·have:=hM.wn hm hb;rw [hw] at this;exact ⟨p,he,this.1,this.2⟩
 ·rw [hok] at h;cases h
theorem zX3 {W H:Int} {tv bv:Value} {tl:List Nat} {L:List Bd} {w:World} (hv:TlR w tv tl) (hb:∀x∈tl,x<256) (hl:BdR w bv L) (hc:zEl W H tl L≠0) :
 Calls pg 23 #[mp W H tv bv] w fun e w'=>e = .returned (.tuple #[.pointer none,O ii 1])/\Below w.heap.size w w':=by
 cases hm:mt W H tl
 ·obtain ⟨a2,cap2,rfl,-⟩:=hl;exact zX4 W H tv a2 L.length cap2 tl w hv hb hm
 ·refine (zI6 W H tv bv tl L w hv hb hl hm).mono ?_;rintro e w' (⟨h,-⟩|⟨-,he,hB⟩)
  ·rw [zUq hc hm] at h;cases h
  ·exact ⟨he,hB⟩
theorem zX1 {W H:Int} {tv bv:Value} {tl:List Nat} {L:List Bd} {w:World} (hv:TlR w tv tl) (hb:∀x∈tl,x<256) (hl:BdR w bv L) (hc:zEl W H tl L=0) :
 Calls pg 24 #[mp W H tv bv] w fun e w'=>∃r,e = .returned (.tuple #[ptr r,O ii 0])/\Rl w' r W H tl L/\Below w.heap.size w w':=by
 obtain ⟨hm,hlen,-,-⟩:=zHl hc;refine (zLk W H tv bv tl L w hv hb hl hc).mono ?_;rintro e w' ⟨r,he,hM⟩;have:=hM.rl hm hb hlen;exact ⟨r,he,this.1,this.2⟩
def MB (w:World) (k:Nat) (W H:Int) (tv bv:Value):Prop:=w.heap[k]? = some (.cells #[O ii W,O ii H,tv,bv] 25 (0,0))
theorem MB.kept {w w':World} {k:Nat} {W H:Int} {tv bv:Value} (h:MB w k W H tv bv) (hb:Below w.heap.size w w'):MB w' k W H tv bv:=(hb.block k (gE.1 h).1).trans h
theorem MB.c {w:World} {k:Nat} {W H:Int} {tv bv:Value} (h:MB w k W H tv bv):w.cell? ⟨k,0,none⟩=some (O ii W)/\w.cell? ⟨k,1,none⟩=some (O ii H)/\w.cell? ⟨k,2,none⟩=some tv/\w.cell? ⟨k,3,none⟩=some bv:=
 ⟨cell_of_row w k 0 _ _ _ h,cell_of_row w k 1 _ _ _ h,cell_of_row w k 2 _ _ _ h,cell_of_row w k 3 _ _ _ h⟩
theorem MB.new (w:World) (W H:Int) (tv bv:Value):MB (w.alloc (.cells #[O ii W,O ii H,tv,bv] 25)) w.heap.size W H tv bv:=heap_alloc_new w _
theorem zZo (W H:Int) (tv bv:Value) (tl:List Nat) (L:List Bd) (w:World) (hv:TlR w tv tl) (hb:∀x∈tl,x<256) (hl:BdR w bv L) (hc:zEl W H tl L=0) :
 Calls pg 8 #[mp W H tv bv] w fun e w'=>∃p r,e = .returned (.tuple #[ptr p,ptr r,.bool true])/\Wn w' p W H tl (zB4 L)/\Rl w' r W H tl L/\Below w.heap.size w w':=by
 have MX:=MB.new w W H tv bv;have B0:Below w.heap.size w (w.alloc (.cells #[O ii W,O ii H,tv,bv] 25)):=zAk _ _;obtain ⟨X,hX⟩:=ex (w.alloc (.cells #[O ii W,O ii H,tv,bv] 25));rw [hX] at MX B0;have HN:Hid (∀wx,Below w.heap.size w wx->Calls pg 23 #[mp W H tv bv] wx fun e w'=>∃p,e = .returned (.tuple #[ptr p,O ii 0])/\Wn w' p W H tl (zB4 L)/\Below wx.heap.size wx w'):=zAc fun wx hx=>zX2 (hv.kept hx) hb (hl.kept hx) hc;have HR:Hid (∀wx,Below w.heap.size w wx->Calls pg 24 #[mp W H tv bv] wx fun e w'=>∃r,e = .returned (.tuple #[ptr r,O ii 0])/\Rl w' r W H tl L/\Below wx.heap.size wx w'):=zAc fun wx hx=>zX1 (hv.kept hx) hb (hl.kept hx) hc;have hvf:=hv;have hlf:=hl;obtain ⟨a1,cap1,rfl,-⟩:=hvf;obtain ⟨a2,cap2,rfl,-⟩:=hlf;clear hv hl hc hb;obtain ⟨m0,m1,m2,m3⟩:=MX.c;go_enter func8,ntmps8;go_wp2_with fail;refine (HN.out _ B0).mono ?_;rintro e w1 ⟨p,rfl,hW,hb1⟩;have HW:=zAc hW;have HB1:=zAc hb1;have M1:=MX.kept hb1;clear hX m0 m1 m2 m3 MX hW hb1;obtain ⟨m0,m1,m2,m3⟩:=M1.c;go_wp2_with fail;refine (HR.out _ (bt B0 HB1.out)).mono ?_;rintro e w2 ⟨r,rfl,hR,hb2⟩;have HRR:=zAc hR;have HB2:=zAc hb2;clear m0 m1 m2 m3 M1 hR hb2;go_wp2_with fail;refine bodyPost_ret (v:=.tuple #[ptr p,ptr r,.bool true]) (by simp [results,Tryz.results8,go_sem]) rfl ?_;exact ⟨p,r,rfl,HW.out.kept HB2.out,HRR.out,bt B0 (bt HB1.out HB2.out)⟩
theorem zZp (W H:Int) (tv bv:Value) (tl:List Nat) (L:List Bd) (w:World) (hv:TlR w tv tl) (hb:∀x∈tl,x<256) (hl:BdR w bv L) (hc:zEl W H tl L=1) :
 Calls pg 8 #[mp W H tv bv] w fun e w'=>e = .returned (.tuple #[.pointer none,.pointer none,.bool false])/\Below w.heap.size w w':=by
 have MX:=MB.new w W H tv bv;have B0:Below w.heap.size w (w.alloc (.cells #[O ii W,O ii H,tv,bv] 25)):=zAk _ _;obtain ⟨X,hX⟩:=ex (w.alloc (.cells #[O ii W,O ii H,tv,bv] 25));rw [hX] at MX B0;have HN:Hid (∀wx,Below w.heap.size w wx->Calls pg 23 #[mp W H tv bv] wx fun e w'=>e = .returned (.tuple #[.pointer none,O ii 1])/\Below wx.heap.size wx w'):=zAc fun wx hx=>zX3 (hv.kept hx) hb (hl.kept hx) (by omega);have HR:Hid (∀wx,Below w.heap.size w wx->Calls pg 24 #[mp W H tv bv] wx fun e w'=>e = .returned (.tuple #[.pointer none,O ii 1])/\Below wx.heap.size wx w'):=zAc fun wx hx=>zOg W H tv bv tl L wx (hv.kept hx) hb (hl.kept hx) hc;have hvf:=hv;have hlf:=hl;obtain ⟨a1,cap1,rfl,-⟩:=hvf;obtain ⟨a2,cap2,rfl,-⟩:=hlf;clear hv hl hc hb;obtain ⟨m0,m1,m2,m3⟩:=MX.c;go_enter func8,ntmps8;go_wp2_with fail;refine (HN.out _ B0).mono ?_;rintro e w1 ⟨rfl,hb1⟩;have HB1:=zAc hb1;have M1:=MX.kept hb1;clear hX m0 m1 m2 m3 MX hb1;obtain ⟨m0,m1,m2,m3⟩:=M1.c;go_wp2_with fail;refine (HR.out _ (bt B0 HB1.out)).mono ?_;rintro e w2 ⟨rfl,hb2⟩;have HB2:=zAc hb2;clear m0 m1 m2 m3 M1 hb2;go_wp2_with fail;refine bodyPost_ret (v:=.tuple #[.pointer none,.pointer none,.bool false]) (by simp [results,Tryz.results8,go_sem]) rfl ?_;exact ⟨rfl,bt B0 (bt HB1.out HB2.out)⟩
theorem zZx (w:World):Calls pg 26 #[.pointer none] w fun e w'=>e = .returned (rct 0 0 0 0)/\Below w.heap.size w w':=by
 obtain ⟨⟨c0,c1,c2,c3⟩,⟨g0,g1,g2,g3⟩,zz⟩:Four (w.alloc (.cells #[O ii 0,O ii 0,O ii 0,O ii 0] 49)) w.heap.size 0 0 0 0:=zA2 (Below.refl _ _);go_enter func26,ntmps26;go_wp2_with (go_at_call 41;refine (zTp _).mono ?_;rintro e w' ⟨rfl,rfl⟩);refine bodyPost_ret (v:=rct 0 0 0 0) (by simp [results,Tryz.results26,go_sem,c0,c1,c2,c3]) rfl ⟨rfl,?_⟩;first|exact zAk _ _|exact ((((zAk w _).setCell (by simp) _).setCell (by simp) _).setCell (by simp) _).setCell (by simp) _
section
theorem zBe {P:Program} {ev:Operand->Value} {o:Oper} {w:World} {x:Operand} {v:Value} (ho:o.op = .move x) (hx:ev x=v):(execOp ev o).run P w = .ok (.value v) w:=by
 unfold execOp;rw [ho,<-hx];rfl
theorem zVf {P:Program} {ev:Operand->Value} {o:Oper} {w:World} {x:Operand} {v:Value} (ho:o.op = .assign x) (hx:ev x=v):(execOp ev o).run P w = .ok (.value v) w:=by
 unfold execOp;rw [ho,<-hx];rfl
theorem zCu {P:Program} {ev:Operand->Value} {o:Oper} {w:World} {x:Operand} {ad:Addr} (ho:o.op = .nilCheck x) (hx:ev x = .pointer (some ad)):(execOp ev o).run P w = .ok (.value (.pointer (some ad))) w:=by
 unfold execOp;rw [ho];simp only [hx];rfl
theorem zAp {c:Code} {Q:Exit->Act->World->Prop} {a:Act} {w:World} (h:Code.wp pg c (zA1 (fun a' w'=>Q .normal a' w')) a w):Code.wp pg c Q a w:=by
 refine Code.wp_mono ?_ h;rintro (_|_|_|_|_) a' w' hO;all_goals first|exact hO.elim|exact hO
section
variable {P:Program} {ops:Array Oper} {R:Act->World->Prop} {md:Region.Mode} {S:World->Prop} {zs:List Nat} {n:Nat} {L:Array Bool} {a:Act} {w:World} {oi:Oper}
theorem zt (i m:Nat) (v:Value) (hi:ops[i]? = some oi)
 (hb:(Region.noSelect ops&&Region.free md ops L i&&(Region.ready md ops L).contains i&&zs.all (fun z=>L.getD z false || zIp md ops z m i)&&zN5 md ops L)=true)
 (hg:Region.wanted oi (yielded ops a.tmps)=true) (hr:∀wx,S wx->(execOp a.eval oi).run P wx = .ok (.value v) wx) (hS:S w)
 (h:zEb P md ops (zA1 R) S zs n (L.setIfInBounds i true) (a.put oi.dst v) w):zEb P md ops (zA1 R) S zs (n+1) L a w:=
 zAa i m hi hb (fun _ _ _ h=>h.elim) (.inl ⟨hg,hr⟩) hS h
theorem zm (i m:Nat) (v:Value) {x:Operand} (hi:ops[i]? = some oi)
 (hb:(Region.noSelect ops&&Region.free md ops L i&&(Region.ready md ops L).contains i&&zs.all (fun z=>L.getD z false || zIp md ops z m i)&&zN5 md ops L)=true)
 (hg:Region.wanted oi (yielded ops a.tmps)=true) (ho:oi.op = .move x) (hx:a.eval x=v) (hS:S w)
 (h:zEb P md ops (zA1 R) S zs n (L.setIfInBounds i true) (a.put oi.dst v) w):zEb P md ops (zA1 R) S zs (n+1) L a w:=
 zt i m v hi hb hg (fun _ _=>zBe ho hx) hS h
theorem zu (i m:Nat) (hi:ops[i]? = some oi)
 (hb:(Region.noSelect ops&&Region.free md ops L i&&(Region.ready md ops L).contains i&&zs.all (fun z=>L.getD z false || zIp md ops z m i)&&zN5 md ops L)=true)
 (hg:Region.wanted oi (yielded ops a.tmps)=false) (hS:S w)
 (h:zEb P md ops (zA1 R) S zs n (L.setIfInBounds i true) (a.put oi.dst undef) w):zEb P md ops (zA1 R) S zs (n+1) L a w:=
 zAa i m hi hb (fun _ _ _ h=>h.elim) (.inr ⟨hg,rfl⟩) hS h
def Gz (P:Program) (ops:Array Oper) (S:World->Prop) (K:Act->Prop):Nat->List Value->Act->Prop
 |_,[],a=>K a
 |i,v::r,a=>∃oi,ops[i]? = some oi/\Region.wanted oi (yielded ops a.tmps)=true/\(∀wx,S wx->(execOp a.eval oi).run P wx = .ok (.value v) wx)/\Gz P ops S K (i+1) r (a.put oi.dst v)
theorem zn {i:Nat} {K:Act->Prop} (h:K a):Gz P ops S K i [] a:=h
theorem zc {i:Nat} {v:Value} {r:List Value} {K:Act->Prop} (hi:ops[i]? = some oi) (hg:Region.wanted oi (yielded ops a.tmps)=true) (hr:∀wx,S wx->(execOp a.eval oi).run P wx = .ok (.value v) wx) (h:Gz P ops S K (i+1) r (a.put oi.dst v)):Gz P ops S K i (v::r) a:=⟨oi,hi,hg,hr,h⟩
theorem zo {i:Nat} {v:Value} {r:List Value} {K:Act->Prop} {x:Operand} (hi:ops[i]? = some oi) (hg:Region.wanted oi (yielded ops a.tmps)=true) (ho:oi.op = .move x) (hx:a.eval x=v) (h:Gz P ops S K (i+1) r (a.put oi.dst v)):Gz P ops S K i (v::r) a:=⟨oi,hi,hg,fun _ _=>zBe ho hx,h⟩
def Lz:Nat->Nat->Array Bool->Array Bool
 |_,0,L=>L
 |i,k+1,L=>Lz (i+1) k (L.setIfInBounds i true)
def Bz (md:Region.Mode) (ops:Array Oper) (zs:List Nat) (m:Nat):Nat->Nat->Array Bool->Bool
 |_,0,_=>true
 |i,k+1,L=>(Region.noSelect ops&&Region.free md ops L i&&(Region.ready md ops L).contains i&&zs.all (fun z=>L.getD z false || zIp md ops z m i)&&zN5 md ops L)&&Bz md ops zs m (i+1) k (L.setIfInBounds i true)
theorem qAc (m:Nat) (hS:S w) {M:Array Bool}:∀(l:List Value) (i:Nat) (L:Array Bool) (a:Act),Bz md ops zs m i l.length L=true->Lz i l.length L=M->Gz P ops S (fun b=>zEb P md ops (zA1 R) S zs n M b w) i l a->zEb P md ops (zA1 R) S zs (n+l.length) L a w
 | [],i,L,a,_,hM,h=>by subst hM;exact h
 |v::r,i,L,a,hb,hM,⟨oi,hi,hw,hr,hg⟩=>by
  obtain ⟨h1,h2⟩:=(Bool.and_eq_true _ _).mp hb;exact zt i m v hi h1 hw hr hS (qAc m hS r (i+1) _ _ h2 hM hg)
theorem zv (i k m:Nat) (l:List Value) {N:Nat} (hN:N=n+k) (hk:k=l.length) (hb:Bz md ops zs m i k L=true) (hS:S w) (h:Gz P ops S (fun b=>zEb P md ops (zA1 R) S zs n (Lz i k L) b w) i l a):zEb P md ops (zA1 R) S zs N L a w:=by
 subst hN hk;exact qAc m hS l i L a hb rfl h
theorem zq {Q:Exit->Act->World->Prop} (i:Nat) (hr:Region.ready md ops L=[i]) (ho:ops[i]? = some oi) (hg:oi.guard=none) {v':Value} {w':World} (hx:(execOp a.eval oi).run P w = .ok (.value v') w') (hS:i ∉ zs->S w') (h:zEb P md ops Q S zs n (L.setIfInBounds i true) (a.put oi.dst v') w'):zEb P md ops Q S zs (n+1) L a w:=
 zAb hr (by simp) (readyZ.cons ho hg hx hS h readyZ.nil)
theorem zw {Q:Exit->Act->World->Prop} (r:Nat) (rs:List Nat) (hr:Region.ready md ops L=r::rs) (h:readyZ P md ops Q S zs n L a w (r::rs)):zEb P md ops Q S zs (n+1) L a w:=
 zAb hr (by simp) h
end
theorem zj:(∀(f:Operand->Value) (l:List Operand),l.toArray.map f=(l.map f).toArray)/\(∀(f:Operand->Value) (a:Operand) (l:List Operand),(a::l).map f=f a::l.map f)/\(∀(f:Operand->Value),([]:List Operand).map f=[]):=⟨fun _ _=>List.map_toArray ..,fun _ _ _=>rfl,fun _=>rfl⟩
def Rcl (f:FuncId):Prop:=∀{ev:Operand->Value} {o:Oper} {w:World} {ar:Array Operand} {ts:Array TypeId} {vs:Array Value},o.op = .call { callee:=.value (.func f),args:=ar,argTypes:=ts }->ev (.func f) = .func (.func f) #[] #[]->ar.map ev=vs->(execOp ev o).run pg w = .ok (.enter f vs) w
theorem zl {f:FuncId} (h:∀vs w,(callFunc f vs).run pg w = .ok (.enter f vs) w):Rcl f:=by
 intro ev o w ar ts vs hop hf hvs;unfold execOp;simp only [hop,resolve,hf,hvs];go_simp
theorem zp:(∀(a:Act) (d:Tmp) (v:Value),a.put (some d) v={ a with tmps:=a.tmps.setIfInBounds d v })/\(∀(a:Act) (v:Value),a.put none v=a)/\(∀(l:List Value) (i:Nat) (x:Value),l.toArray.setIfInBounds i x=(l.set i x).toArray)/\(∀(a:Value) (l:List Value) (b:Value),(a::l).set 0 b=b::l)/\(∀(a:Value) (l:List Value) (i:Nat) (b:Value),(a::l).set (i+1) b=a::l.set i b)/\(∀(l:List Oper) (i:Nat) (h:i<l.toArray.size),l.toArray[i]=l[i]'(by simpa using h))/\(∀(a:Oper) (l:List Oper) (h:0<(a::l).length),(a::l)[0]=a)/\(∀(a:Oper) (l:List Oper) (i:Nat) (h:i+1<(a::l).length),(a::l)[i+1]=l[i]'(Nat.lt_of_succ_lt_succ h)):=
 ⟨fun _ _ _=>rfl,fun _ _=>rfl,fun _ _ _=>List.setIfInBounds_toArray ..,fun _ _ _=>rfl,fun _ _ _ _=>rfl,fun _ _ _=>rfl,fun _ _ _=>rfl,fun _ _ _ _=>rfl⟩
theorem Four.turned {S:Nat->Prop} {W W':World} {k:Nat} {x y a b:Int} (h:Four W k x y a b) (ht:Turns S W W') (hs:¬S k):Four W' k x y a b:=by
 have hb:=ht.block k h.2.2 hs;have hc:=fun o=>World.cell?_of_block (a:=⟨k,o,none⟩) hb;have hf:=fun o=>World.frozen?_of_block (a:=⟨k,o,none⟩) hb;exact ⟨⟨(hc 0).trans h.1.1,(hc 1).trans h.1.2.1,(hc 2).trans h.1.2.2.1,(hc 3).trans h.1.2.2.2⟩,⟨(hf 0).trans h.2.1.1,(hf 1).trans h.2.1.2.1,(hf 2).trans h.2.1.2.2.1,(hf 3).trans h.2.1.2.2.2⟩,Nat.lt_of_lt_of_le h.2.2 ht.size⟩
structure It where
 x:Int
 y:Int
 c:Int
 f:Int
 p:Int
def It.cs (t:It):List Value:=[O ii t.x,O ii t.y,O ii t.c,O ii t.f,O ii t.p]
abbrev It.v (t:It):Value:=.agg #[O ii t.x,O ii t.y,O ii t.c,O ii t.f,O ii t.p]
abbrev rv (x y c f:Int):Value:=.agg #[O ii x,O ii y,O ii c,O ii f]
abbrev zIf:Value:=.func (.func 164) #[] #[]
def Hp (w:World) (b:Nat) (v:Value) (n:Int) (q:Bool):Prop:=w.heap[b]? = some (.cells #[zIf,v,O ii n,.bool q] 247 (0,0))
section
variable {w w':World} {b:Nat} {v:Value} {n:Int} {q:Bool}
theorem Hp.lt (h:Hp w b v n q):b<w.heap.size:=(gE.1 h).1
theorem Hp.kept {S:Nat->Prop} (h:Hp w b v n q) (ht:Turns S w w') (hs:¬S b):Hp w' b v n q:=ht.same hs h
theorem Hp.c (h:Hp w b v n q) (j:Nat):w.cell? ⟨b,j,none⟩=(#[zIf,v,O ii n,.bool q]:Array Value)[j]? := cell_of_row w b j _ _ _ h
theorem Hp.f (h:Hp w b v n q) (j:Nat):w.frozen? ⟨b,j,none⟩=false:=by
 have h':w.heap[b]? = _:=h;simp [World.frozen?,h']
theorem Hp.ne_row (h:Hp w b v n q) {u:Value} {e:TypeId} {k m:Nat} {xs:List Value} (hv:w.ownsRow 0 e k u m xs) (he:e≠247):u.ownBlock≠some b:=by
 intro hh;rcases hv.2 with ⟨rfl,_⟩|⟨g,cap,cur,rfl,hb,hg,_⟩
 ·simp [Value.ownBlock] at hh
 ·simp [Value.ownBlock] at hh;subst hh;rw [show w.heap[g]? = _ from h] at hg;simp at hg;exact he hg.2.symm
theorem Hp.set1 (h:Hp w b v n q) (u:Value):Hp (w.setCell ⟨b,1,none⟩ u) b u n q:=by
 have h':w.heap[b]? = _:=h;have hlt:=h.lt;unfold Hp;simp [World.setCell,Array.getElem?_modify,h']
theorem Hp.set2 (h:Hp w b v n q) (m:Int):Hp (w.setCell ⟨b,2,none⟩ (O ii m)) b v m q:=by
 have h':w.heap[b]? = _:=h;have hlt:=h.lt;unfold Hp;simp [World.setCell,Array.getElem?_modify,h']
theorem Hp.set3 (h:Hp w b v n q) (r:Bool):Hp (w.setCell ⟨b,3,none⟩ (.bool r)) b v n r:=by
 have h':w.heap[b]? = _:=h;have hlt:=h.lt;unfold Hp;simp [World.setCell,Array.getElem?_modify,h']
end
theorem zX5 (w:World):Sem.run pg (binOp .neq 214 zIf .nilFunc) w = .ok (.bool true) w:=by kernel_rfl
theorem zZb (w:World):Sem.run pg (binOp .eql 214 zIf .nilFunc) w = .ok (.bool false) w:=by kernel_rfl
theorem zR6 (x y c f x2 y2 c2 f2:Int) (w:World):Calls pg 164 #[rv x y c f,rv x2 y2 c2 f2] w fun e w'=>e = .returned (.bool (decide (f<f2)))/\w'=(w.alloc (.cells #[O ii x,O ii y,O ii c,O ii f] 184)).alloc (.cells #[O ii x2,O ii y2,O ii c2,O ii f2] 184):=by
 go_enter func164,ntmps164;go_wp2
 go_ret;exact ⟨rfl,rfl⟩
theorem zNz (b c:Nat) (v:Value) (n:Int) (q:Bool) (w:World) (h:Hp w b v n q) (hc:w.cell? ⟨c,0,none⟩=some (ptr b)) :
 CallsD pg 214 #[.pointer (some ⟨c,0,none⟩)] .returning w fun e u' w'=>e = .returned (.tuple #[])/\u' = .returning/\w'=w.setCell ⟨b,3,none⟩ (.bool false):=by
 have c3:w.cell? ⟨b,3,none⟩=some (.bool q):=h.c 3;have f3:=h.f 3;refine callsD_of_wpS func214 rfl fun c₀ cs hu=>?_;apply wpS_seq;apply wpS_region;simp [wpOpsS,go_sem,recoverD,hu,hc,c3,f3,ntmps214,Exit.thenS];apply wpS_region;cases c₀
 simp_all [wpOpsS,go_sem,recoverD,bodyPostS,results,Tryz.results214,ntmps214,Exit.thenS]
theorem zJt (b:Nat) (v:Value) (n:Int) (q:Bool) (w:World) (h:Hp w b v n q) :
 Calls pg 206 #[ptr b] w fun e w'=>e = .returned (.bool (!q))/\w'=w:=by
 have c0:w.cell? ⟨b,0,none⟩=some zIf:=h.c 0;have c3:w.cell? ⟨b,3,none⟩=some (.bool q):=h.c 3;have hq:=zX5;go_enter func206,ntmps206;go_wp2
 go_ret;exact ⟨rfl,rfl⟩
theorem zNi (b:Nat) (a:Option Addr) (m cap:Nat) (n:Int) (q:Bool) (w:World) (h:Hp w b (.slice a m cap) n q) :
 Calls pg 208 #[ptr b] w fun e w'=>e = .returned (O ii (m:Nat))/\w'=w:=by
 have c1:w.cell? ⟨b,1,none⟩=some (.slice a m cap):=h.c 1;go_enter func208,ntmps208;go_wp2
 go_ret;exact ⟨rfl,rfl⟩
theorem zGl (w:World):Calls pg 163 #[zIf] w fun e w'=>e = .returned (ptr w.heap.size)/\w'=w.alloc (.cells #[zIf,.slice none 0 0,O ii 0,.bool false] 247):=by
 have hq:=zZb;go_enter func163,ntmps163;go_wp2
 go_ret;exact ⟨rfl,rfl⟩
end
section
theorem zQ7 {w h x y:Nat} (hx:x<w) (hy:y<h):y*w+x<w*h:=by
 have h1:(y+1)*w<=h*w:=Nat.mul_le_mul_right w hy;rw [Nat.succ_mul,Nat.mul_comm h w] at h1;omega
theorem zDr {w x y:Nat} (hx:x<w):(y*w+x)%w=x/\(y*w+x)/w=y:=by
 rw [Nat.mul_comm y w,Nat.mul_add_mod,Nat.mod_eq_of_lt hx,Nat.mul_add_div (by omega),Nat.div_eq_of_lt hx];exact ⟨rfl,rfl⟩
section
variable {α:Type} {t k:Nat} {cs:α->List Value} {w w':World} {v:Value} {l:List α}
def Rw (t k:Nat) (cs:α->List Value) (w:World) (v:Value) (l:List α):Prop:=w.ownsRow 0 t k v l.length (l.flatMap cs)
theorem zJ1 (hk:∀a,(cs a).length=k):∀(l:List α) (i:Nat) (x:α) (j:Nat),l[i]? = some x->j<k->(l.flatMap cs)[i*k+j]? = (cs x)[j]?
 | [],i,x,j,h,_=>by simp at h
 |s::r,0,x,j,h,hj=>by
  simp at h;subst h;rw [List.flatMap_cons,Nat.zero_mul,Nat.zero_add,List.getElem?_append_left (by rw [hk];exact hj)]
 |s::r,i+1,x,j,h,hj=>by
  simp at h;have e:(i+1)*k=i*k+k:=Nat.succ_mul i k;rw [List.flatMap_cons,List.getElem?_append_right (by rw [hk];omega)];rw [<-zJ1 hk r i x j h hj,hk]
  congr 1
  omega
theorem Rw.kept {S:Nat->Prop} (h:Rw t k cs w v l) (ht:Turns S w w') (hs:∀g,v.ownBlock=some g->¬S g):Rw t k cs w' v l:=by
 refine ⟨h.1,?_⟩;rcases h.2 with h1|⟨g,cap,cur,e,hb,hg,r⟩
 ·exact .inl h1
 ·exact .inr ⟨g,cap,cur,e,hb,ht.same (hs g (by rw [e];rfl)) hg,r⟩
theorem Rw.upto (h:Rw t k cs w v l) (hb:Below w.heap.size w w'):Rw t k cs w' v l:=h.kept (Turns.of_below (S:=NoB) hb) (fun _ _ s=>s)
theorem Rw.blk (h:Rw t k cs w v l) {g:Nat} (hg:v.ownBlock=some g):∃cur,w.heap[g]? = some (.cells cur t (0,0)):=by
 rcases h.2 with ⟨e,-⟩|⟨g',cap,cur,e,-,hc,-⟩
 ·rw [e] at hg;cases hg
 ·rw [e] at hg;cases hg;exact ⟨cur,hc⟩
theorem Rw.ne (h:Rw t k cs w v l) {g:Nat} (hg:v.ownBlock=some g) {p t':Nat} {cur:Array Value} (hp:w.heap[p]? = some (.cells cur t' (0,0))) (hn:t'≠t):g≠p:=by
 rintro rfl;obtain ⟨c,hc⟩:=h.blk hg;rw [hc] at hp;injection hp with hp
 injection hp with _ hp
 exact hn hp.symm
theorem Rw.form (hk:∀a,(cs a).length=k) (h:Rw t k cs w v l):∃a cap,v = .slice a l.length cap/\l.length<=cap/\∀i x,l[i]? = some x->∃g,a=some ⟨g,0,none⟩/\g<w.heap.size/\∀j u,(cs x)[j]? = some u->w.cell? ⟨g,i*k+j,none⟩=some u:=by
 rcases h.2 with ⟨e,h0⟩|⟨g,cap,cur,e,hb,hg,hn,hm,hs,ht⟩
 ·exact ⟨none,0,by rw [h0];exact e,by omega,fun i x hi=>by
   have:=List.eq_nil_of_length_eq_zero h0;subst this;simp at hi⟩
 ·refine ⟨_,cap,e,hn,fun i x hi=>⟨g,rfl,(gE.1 hg).1,fun j u hu=>?_⟩⟩;have hj:j<k:=by rw [<-hk x];exact (List.getElem?_eq_some_iff.1 hu).1
  have:=h.cells (g:=g) (by rw [e];rfl) (i*k+j) u (by rw [zJ1 hk l i x j hi hj];exact hu);simpa [Addr.add_lit] using this
theorem Rw.nil (t k:Nat) (cs:α->List Value) (w:World):Rw t k cs w (.slice none 0 0) []:=World.ownsRow_nil _ _ _ _
end
theorem zDc {S:Nat->Prop} {W W':World} {k:Nat} {u v:Int} (h:Two W k u v) (ht:Turns S W W') (hs:¬S k):Two W' k u v:=by
 have hb:=ht.block k h.2.2 hs;have hf:∀o,W'.frozen? ⟨k,o,none⟩=W.frozen? ⟨k,o,none⟩:=fun o=>by simp [World.frozen?,hb]
 exact ⟨⟨ht.cell hs h.1.1,ht.cell hs h.1.2⟩,⟨(hf 0).trans h.2.1.1,(hf 1).trans h.2.1.2⟩,Nat.lt_of_lt_of_le h.2.2 ht.size⟩
theorem zDv {n:Nat} (h:n<=16384):IntKind.i64.wrap (n:Int)=(n:Int):=by rw [IntKind.wrap_i64];omega
end
section
structure Q4 where
 x:Int
 y:Int
 a:Int
 b:Int
def Q4.cs (t:Q4):List Value:=[O ii t.x,O ii t.y,O ii t.a,O ii t.b]
theorem Q4.cs_len (t:Q4):t.cs.length=4:=rfl
abbrev Q4.v (t:Q4):Value:=.agg #[O ii t.x,O ii t.y,O ii t.a,O ii t.b]
abbrev Rq (ty:Nat) (w:World) (v:Value) (L:List Q4):Prop:=Rw ty 4 Q4.cs w v L
theorem zMc:(pg.info? 49).map (fun i=>(i.zero,i.size,i.bytes))=some (some (.agg #[O ii 0,O ii 0,O ii 0,O ii 0]),4,32):=by kernel_rfl
theorem zFn:(pg.info? 122).map (fun i=>(i.zero,i.size,i.bytes))=some (some (.agg #[O ii 0,O ii 0,O ii 0,O ii 0]),4,32):=by kernel_rfl
theorem zAv {P:Program} {w:World} {ops:Array Oper} {rest:List Oper} {o:Oper} {a:Act} {Q:Exit->Act->World->Prop}
 (hgd:o.guard=none) (s x:Operand) (t:TypeId) (ho:o.op = .call { callee:=.builtin .append,args:=#[s,x],argTypes:=#[t,t] })
 (v xv:Value) (hs:a.eval s=v) (hx:a.eval x=xv) {v':Value} {w':World} (hr:(Builtin.append_ #[t,t] o.type #[v,xv]).run P w = .ok v' w') (h:wpList P ops Q rest (a.put o.dst v') w') :
 wpList P ops Q (o::rest) a w:=by
 refine wpList_plain hgd fun K hK=>?_;unfold Oper.wp;simp [execOp,ho,resolve,invoke,builtin,hs,hx,hr,Result.andThen];exact hK _ _ h
theorem zE4 (L:List Q4):(L.flatMap Q4.cs).length=L.length*4:=by
 induction L with
 |nil=>rfl
 |cons t r ih=>rw [List.flatMap_cons,List.length_append,ih,Q4.cs_len,List.length_cons];omega
theorem qB6 (L:List Q4):∀u∈L.flatMap Q4.cs,u.oneCell'=true:=by
 intro u hu;obtain ⟨t,-,h⟩:=List.mem_flatMap.1 hu;simp [Q4.cs] at h;rcases h with rfl|rfl|rfl|rfl<;>rfl
section
variable {ty st:Nat} {w:World} {v:Value} {L:List Q4}
theorem Rw.slice4 (h:Rq ty w v L):∃a c,v = .slice a L.length c:=by
 obtain ⟨a,cap,e,-⟩:=Rw.form Q4.cs_len h;exact ⟨a,cap,e⟩
theorem Rw.more (hu:pg.underlying st=some (.slice ty)) (hi:(pg.info? ty).map (fun i=>(i.zero,i.size,i.bytes))=some (some (.agg #[O ii 0,O ii 0,O ii 0,O ii 0]),4,32))
 (h:Rq ty w v L) {M:List Q4} {a:Addr} {c:Nat} (hM:∀j u,(M.flatMap Q4.cs)[j]? = some u->w.cell? (a.add j)=some u) (hlen:L.length+M.length<=1000000000) :
 ∃v' w',(Builtin.append_ #[st,st] st #[v,.slice (some a) M.length c]).run pg w = .ok v' w'/\Rq ty w' v' (L++M)/\(∀k,v'.ownBlock=some k->v.ownBlock=some k\/w.heap.size<=k)/\Turns (fun k=>v.ownBlock=some k) w w':=by
 obtain ⟨fi,hf,hz,h1,h8⟩:=info_parts hi;obtain ⟨v',w',q1,q2,q3,q4,q5⟩:=run_append_own_at (P:=pg) w 0 st st ty fi (.agg #[O ii 0,O ii 0,O ii 0,O ii 0]) 4 32 hu hf hz h1 h8 rfl (by decide) v L.length _ h a M.length c (M.flatMap Q4.cs) (zE4 M) hM (qB6 M) (by unfold maxLen;omega) (by omega) (Nat.zero_le _);refine ⟨v',w',q1,?_,fun k e=>?_,Turns.of_grown (S:=fun k=>v.ownBlock=some k) q3 (fun k e=>e)⟩
 ·unfold Rq Rw;rw [List.flatMap_append,List.length_append];exact q2
 ·rcases q5 with q|q
  ·exact .inl (q▸e)
  ·rw [q] at e;cases e;exact .inr (Nat.le_refl _)
theorem Rw.push4 (hu:pg.underlying st=some (.slice ty)) (hi:(pg.info? ty).map (fun i=>(i.zero,i.size,i.bytes))=some (some (.agg #[O ii 0,O ii 0,O ii 0,O ii 0]),4,32))
 (h:Rq ty w v L) (t:Q4) (hlen:L.length<=1000000) :
 ∃v' w',(Builtin.append_ #[st,st] st #[v,.slice (some ⟨w.heap.size,0,none⟩) 1 1]).run pg (w.alloc (.cells #[O ii t.x,O ii t.y,O ii t.a,O ii t.b] ty)) = .ok v' w'/\Rq ty w' v' (L++[t])/\(∀k,v'.ownBlock=some k->v.ownBlock=some k\/w.heap.size<k)/\Turns (fun k=>v.ownBlock=some k) w w':=by
 obtain ⟨v',w',q1,q2,q3,q4⟩:=Rw.more (c:=1) hu hi (h.upto (zAk w (.cells #[O ii t.x,O ii t.y,O ii t.a,O ii t.b] ty))) (M:=[t]) (a:=⟨w.heap.size,0,none⟩) (fun j u hu=>by
  rw [Addr.add_lit,Nat.zero_add,cell_of_row _ w.heap.size j _ _ _ (heap_alloc_new w _)]
  simpa [Q4.cs] using hu) (by simp;omega)
 refine ⟨v',w',q1,q2,fun k e=>?_,(Turns.of_below (zAk w _)).trans (q4.mono (fun k _ e => .inl e))⟩;rcases q3 k e with q|q
 ·exact .inl q
 ·simp at q;exact .inr (by omega)
theorem Rw.own_some {v:Value} {L:List Q4} {r:Q4} (h:Rq ty w v (L++[r])):∃g cap,v = .slice (some ⟨g,0,none⟩) (L.length+1) cap/\g<w.heap.size/\v.ownBlock=some g:=by
 rcases h.2 with ⟨_,e⟩|⟨g,cap,cur,e,hb,hg,r⟩
 ·simp at e
 ·exact ⟨g,cap,by simpa using e,(gE.1 hg).1,by rw [e];rfl⟩
theorem Rw.lastq {g cap:Nat} {r:Q4} (h:Rq ty w (.slice (some ⟨g,0,none⟩) (L.length+1) cap) (L++[r])) :
 (w.cell? ⟨g,L.length*4,none⟩=some (O ii r.x)/\w.cell? ⟨g,L.length*4+1,none⟩=some (O ii r.y)/\w.cell? ⟨g,L.length*4+2,none⟩=some (O ii r.a)/\w.cell? ⟨g,L.length*4+3,none⟩=some (O ii r.b))/\∀o,w.frozen? ⟨g,o,none⟩=false:=by
 have hc:∀o u,r.cs[o]? = some u->o<4->w.cell? ⟨g,L.length*4+o,none⟩=some u:=fun o u hu ho=>by
  have:=World.ownsRow.cells h (g:=g) rfl (L.length*4+o) u (by rw [zJ1 Q4.cs_len (L++[r]) L.length r o (by simp) ho];exact hu);simpa [Addr.add_lit] using this
 refine ⟨⟨hc 0 _ rfl (by omega),hc 1 _ rfl (by omega),hc 2 _ rfl (by omega),hc 3 _ rfl (by omega)⟩,fun o=>?_⟩;rcases h.2 with ⟨e,_⟩|⟨g',cap',cur,e,hb,hg,r⟩
 ·cases e
 ·simp only [Value.slice.injEq,Option.some.injEq,Addr.mk.injEq,and_true,true_and] at e;obtain ⟨rfl,-⟩:=e;simp [World.frozen?,hg]
theorem zUa (L:List Q4) (r:Q4) (j:Nat) (u:Value) (hj:j<4):((L++[r]).flatMap Q4.cs).set (L.length*4+j) u=L.flatMap Q4.cs++r.cs.set j u:=by
 rw [List.flatMap_append,List.set_append_right _ _ (by rw [zE4];omega),zE4];simp
theorem Rw.setq {g cap:Nat} {r r':Q4} (h:Rq ty w (.slice (some ⟨g,0,none⟩) (L.length+1) cap) (L++[r])) (j:Nat) (u:Value) (hj:j<4) (hr:r.cs.set j u=r'.cs) :
 Rq ty (w.setCell ⟨g,L.length*4+j,none⟩ u) (.slice (some ⟨g,0,none⟩) (L.length+1) cap) (L++[r']):=by
 have h':w.ownsRow 0 ty 4 (.slice (some ⟨g,0,none⟩) (L.length+1) cap) (L.length+1) ((L++[r]).flatMap Q4.cs):=by simpa [Rq,Rw] using h
 have q:=(World.ownsRow.stored h' (L.length*4+j) u).1;rw [zUa L r j u hj,hr] at q;simpa [Rq,Rw] using q
theorem Rw.set4q {g cap:Nat} {r:Q4} (h:Rq ty w (.slice (some ⟨g,0,none⟩) (L.length+1) cap) (L++[r])) (t:Q4) :
 Rq ty ((((w.setCell ⟨g,L.length*4,none⟩ (O ii t.x)).setCell ⟨g,L.length*4+1,none⟩ (O ii t.y)).setCell ⟨g,L.length*4+2,none⟩ (O ii t.a)).setCell ⟨g,L.length*4+3,none⟩ (O ii t.b)) (.slice (some ⟨g,0,none⟩) (L.length+1) cap) (L++[t])/\
 Turns (fun j=>j=g) w ((((w.setCell ⟨g,L.length*4,none⟩ (O ii t.x)).setCell ⟨g,L.length*4+1,none⟩ (O ii t.y)).setCell ⟨g,L.length*4+2,none⟩ (O ii t.a)).setCell ⟨g,L.length*4+3,none⟩ (O ii t.b)):=by
 constructor
 ·have q0:=h.setq (r':=⟨t.x,r.y,r.a,r.b⟩) 0 (O ii t.x) (by decide) rfl;have q1:=q0.setq (r':=⟨t.x,t.y,r.a,r.b⟩) 1 (O ii t.y) (by decide) rfl;have q2:=q1.setq (r':=⟨t.x,t.y,t.a,r.b⟩) 2 (O ii t.a) (by decide) rfl;exact q2.setq (r':=t) 3 (O ii t.b) (by decide) rfl
 ·exact (((Turns.set (S:=fun j=>j=g) w (p:=⟨g,L.length*4,none⟩) rfl _).trans ((Turns.set (S:=fun j=>j=g) _ (p:=⟨g,L.length*4+1,none⟩) rfl _).mono (fun _ _ h => .inl h))).trans ((Turns.set (S:=fun j=>j=g) _ (p:=⟨g,L.length*4+2,none⟩) rfl _).mono (fun _ _ h => .inl h))).trans ((Turns.set (S:=fun j=>j=g) _ (p:=⟨g,L.length*4+3,none⟩) rfl _).mono (fun _ _ h => .inl h))
end
end
end Go.Proofs.YthiafmlgialbnaaGreatDoor
