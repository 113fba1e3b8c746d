import Derived.Test.YtejjcenhjpjefaaGreatDoorMeet
import Derived.Test.YtejjcenhjpjefaaGreatDoorSpan
import Derived.Sort.QuietTacIn
import Derived.Test.YtejjcenhjpjefaaGreatDoorWho
import Derived.RangeFuncNested
import Derived.RangeFuncBound
import Derived.RangeFuncCalls
import Derived.RangeFuncLeaves
import Derived.Shelf.Abstract
import Derived.Shelf.RegionOpen
import Derived.WalkKit
import Derived.OwnWalkIn
import Derived.TacticsInMore
import Derived.LoopNIn
import Derived.LoopIn
set_option linter.all false
set_option maxRecDepth 1000000
set_option maxHeartbeats 64000000
open Go.Proofs.Tryz
open Go.Proofs.Tryz renaming prog->pg
open Array renaming getElem?_eq_some_iff->gE
open Go.Value renaming int->O
open Go.IntKind renaming i64->ii
namespace Go.Proofs.YtejjcenhjpjefaaGreatDoor
open Go.RowKit
theorem Four.lat {W:World} {k:Nat} {x y a b:Int} (h:Four W k x y a b):(∀n:Lat W,n.w.cell? ⟨k,0,none⟩=some (O ii x))/\(∀n:Lat W,n.w.cell? ⟨k,1,none⟩=some (O ii y))/\(∀n:Lat W,n.w.cell? ⟨k,2,none⟩=some (O ii a))/\(∀n:Lat W,n.w.cell? ⟨k,3,none⟩=some (O ii b)):=
 ⟨fun n=>(h.kept n.h).1.1,fun n=>(h.kept n.h).1.2.1,fun n=>(h.kept n.h).1.2.2.1,fun n=>(h.kept n.h).1.2.2.2⟩
theorem Two.lat {W:World} {k:Nat} {x y:Int} (h:Two W k x y):(∀n:Lat W,n.w.cell? ⟨k,0,none⟩=some (O ii x))/\(∀n:Lat W,n.w.cell? ⟨k,1,none⟩=some (O ii y)):=
 ⟨fun n=>(h.kept n.h).1.1,fun n=>(h.kept n.h).1.2⟩
section
section
variable {F:Fence} {n:Nat} {P:Program} {ops:Array Oper} {md:Region.Mode} {C:World->Prop}
def zKb (l:List Oper):Bool:=l.all fun o=>match o.op with
 |.defer _=>false
 |_=>true
theorem zHe {l:List Oper} (h:zKb l=true) {i:Nat} {o:Oper} (hi:l.toArray[i]? = some o):∀c,o.op≠.defer c:=by
 intro c hc
 have hm:o∈l:=by
  have:l[i]? = some o:=by simpa using hi
  exact List.mem_of_getElem? this
 have:=List.all_eq_true.1 h o hm;rw [hc] at this;cases this
theorem zFi {o:Oper} {a:Act} {K:Act->Prop} {K':Act->World->Prop} {Q':Exit->Act->World->Prop} {w:World} (hnd:∀c,o.op≠.defer c) (hw:C w) (h:∀a w',C w'->K a->K' a w')
 (ha:o.askedIn F P a C) (hh:o.quietIn F n P a C K):o.wpIn F n P a w K' Q':=by
 obtain ⟨v,h1,h2⟩:=hh;have h3:=h1 w hw;unfold Oper.quietAtIn at h3;unfold Oper.wpIn;refine ⟨ha w hw,?_⟩;rw [Oper.semAt_eq _ _ _ hnd];generalize (execOp a.eval o).run P w=r at *
 cases r with
 |ok x w' =>
  cases x<;>simp only [Oper.quietUponIn] at h3<;>simp only [Oper.uponIn]
  case value u =>
   obtain ⟨e1,e2⟩:=h3;rw [e1,e2];exact h _ _ hw h2
  case skip =>
   obtain ⟨e1,e2⟩:=h3;rw [e1,<-e2];exact h _ _ hw h2
  case enter f args =>
   obtain ⟨e1,hd,hc⟩:=h3;rw [e1];exact ⟨hd,hc.mono fun e w'' ⟨he,hw''⟩=>by subst he;exact h _ _ hw'' h2⟩
 |halt x w'=>simp only [Oper.quietUponIn] at h3
theorem zEb {i:Nat} {a:Act} {K:Act->Prop} {K':Act->World->Prop} {Q':Exit->Act->World->Prop} {w:World} (hnd:∀(i:Nat) (o:Oper),ops[i]? = some o->∀c,o.op≠.defer c) (hC:C w) (h:∀a w',C w'->K a->K' a w')
 (hh:qOpIn F n P ops C i K a):wpOpIn F n P ops Q' i K' a w:=by
 unfold qOpIn at hh;unfold wpOpIn
 split
 ·rename_i ho;simp only [ho] at hh;exact h _ _ hC hh
 ·rename_i o ho;simp only [ho] at hh;obtain ⟨ha,hh⟩:=hh
  split
  ·rename_i hw;simp only [hw,if_true] at hh;exact zFi (hnd i o ho) hC h ha hh
  ·rename_i hw;simp only [hw] at hh;exact ⟨ha w hC,h _ _ hC hh⟩
theorem zCg {Q:Act->Prop} {Q':Exit->Act->World->Prop} (hnd:∀(i:Nat) (o:Oper),ops[i]? = some o->∀c,o.op≠.defer c) (hQ:∀a w,C w->Q a->Q' .normal a w):∀(fuel:Nat) (listed:Array Bool) (a:Act) (w:World),C w->
 wpAnyQIn F n P md ops C Q fuel listed a->wpAnyIn F n P md ops Q' fuel listed a w
 |0,_,_,_,hw,h=>⟨h.1,hQ _ _ hw h.2⟩
 |fuel+1,_,_,_,hw,h=>⟨fun h0=>hQ _ _ hw (h.1 h0),fun i hi=>zEb hnd hw (fun a' w' hw'=>zCg hnd hQ fuel _ a' w' hw') (h.2 i hi)⟩
end
theorem zBw {F:Fence} {n:Nat} {P:Program} {id:Nat} {Q:Exit->Act->World->Prop} {a:Act} {w:World} {l:List Oper} (hm:P.follows .mixedOrders=true) (hB:Region.lexB .any l.toArray=true) (hnd:zKb l=true)
 (h:wpQuietIn F n P l.toArray (fun w'=>∃n:Lat w,w'=n.w) (fun a'=>∀w',(∃n:Lat w,w'=n.w)->Q .normal a' w') l a):(Code.region id l.toArray true).wpIn F n P Q a w:=by
 simp only [Region.lexB,Bool.and_eq_true] at hB;refine wpIn_region_any hm (zCg (C:=fun w'=>∃n:Lat w,w'=n.w) (Q:=fun a'=>∀w',(∃n:Lat w,w'=n.w)->Q .normal a' w') (fun i o ho=>zHe hnd ho) (fun _ w' hw' h=>h w' hw') _ _ _ _ ⟨⟨w.drew,(Below.refl _ _).drew⟩,rfl⟩ ?_);have:=wpAnyQIn_lex (F:=F) (n:=n) (C:=fun w'=>∃n:Lat w,w'=n.w) (md:=.any) hB.1 l.toArray.toList 0 (Array.replicate l.toArray.size false) a (by simp) (by simpa using hB.2) (by simpa using h);simpa using this
theorem zDd {F:Fence} {r:Nat} {P:Program} {f:FuncId} {args:Array Value} {W:World} {n:Lat W} {v:Value} (h:CallsIn F r P f args n.w fun e w'=>e = .returned v/\Below n.w.heap.size n.w w') :
 CallsIn F r P f args n.w fun e w''=>e = .returned v/\∃m:Lat W,w''=m.w:=
 h.mono fun _ w' ⟨he,hb⟩=>⟨he,⟨w',bt n.h hb⟩,rfl⟩
end
section
open Go.Shelf
attribute [local go_sem] Oper.semAt_some
abbrev Cel:={ p:Int×Int // W64 p.1/\W64 p.2 }
def mkC (p:Int×Int):Cel:=if h:W64 p.1/\W64 p.2 then ⟨p,h⟩ else ⟨(0,0),by decide,by decide⟩
theorem zOs {p:Int×Int} (h:W64 p.1/\W64 p.2):(mkC p).1=p:=by rw [mkC,dif_pos h]
def zDr (x y:Int) (A i:Nat):Int×Int:=(x+(i%A:Nat),y+(i/A:Nat))
def upto (x y:Int) (A k:Nat):List Cel:=(List.range k).map (fun i=>mkC (zDr x y A i))
theorem zIp (x y:Int) (A k:Nat):upto x y A (k+1)=upto x y A k++[mkC (zDr x y A k)]:=by simp [upto,List.range_succ]
theorem zC2 (x y:Int) (A k:Nat):(upto x y A k).length=k:=by simp [upto]
theorem zHk (x y:Int) (A k j:Nat) (hj:j<A):zDr x y A (k*A+j)=(x+(j:Nat),y+(k:Nat)):=by
 unfold zDr;rw [Nat.mul_comm k A,Nat.mul_add_mod,Nat.mod_eq_of_lt hj,Nat.mul_add_div (by omega),Nat.div_eq_of_lt hj,Nat.add_zero]
theorem zJm (x y:Int) (A:Nat) {k m:Nat} (h:k<=m):upto x y A k <+: upto x y A m:=by
 obtain ⟨d,rfl⟩:=Nat.le.dest h;exact ⟨(List.range d).map (fun i=>mkC (zDr x y A (k+i))),by simp [upto,List.range_add,Function.comp_def]⟩
abbrev zZf (p:Cel):Array Value:=#[.agg #[O ii p.1.1,O ii p.1.2]]
def zFg (x y a b:Int):List Cel:=if may x y a b=true then upto x y a.toNat (b.toNat*a.toNat) else []
theorem zDe {W W':World} (h:Below W.heap.size W W'):W.grownBy W' none:=⟨h.os,h.tape,h.output,h.size,fun k hk _=>h.block k hk⟩
theorem zBf {β:Type} {B:Nat} {J:β->World->Prop} (hJ:AbidesFrom B J) {s:β} {W W':World} (hs:J s W) (h:Below W.heap.size W W'):J s W':=hJ s W W' none hs (zDe h) (fun r e=>by cases e)
theorem zSi {k j A Bn N:Nat} (hk:k<Bn) (hj:j<A) (hN:Bn*A<=N):k*A+j<N:=by
 have h1:(k+1)*A<=Bn*A:=Nat.mul_le_mul_right A hk;rw [Nat.succ_mul] at h1;omega
theorem zXd {k j A Bn:Nat} (hk:k<Bn) (hj:j<A):k*A+j+1<=Bn*A:=zSi hk hj (Nat.le_refl _)
theorem zT4 (k A:Nat):k*A+A=(k+1)*A:=(Nat.succ_mul k A).symm
def KB (B:Nat) (W W':World):Prop:=W'.heap[B]? = W.heap[B]?
theorem zWl {B:Nat} {X Y Z:World} (h:KB B X Y) (k:KB B Y Z):KB B X Z:=Eq.trans k h
theorem zWm {B:Nat} {w:World} (hB:B<w.heap.size) (W:World) (l:Nat) (o o':Obj) (hl:w.heap.size<=l) (h:W.heap[l]? = some o) (_:o.isCells=false) (_:o.isWalk=false):KB B W (W.putObj l o'):=
 (grownBy_putObj' W l o').block B (by have:=(gE.1 h).1;omega) (fun e=>by cases e;omega)
theorem zIb {B n₀:Nat} {W W':World} (h:Below n₀ W W') (hB:B<n₀):KB B W W':=h.block B hB
theorem zE3 {B:Nat} {W W':World} (h:KB B W W') (o:Nat):W'.cell? ⟨B,o,none⟩=W.cell? ⟨B,o,none⟩:=World.cell?_of_block (a:=⟨B,o,none⟩) h
theorem zCm (n B N:Nat) (x y a b:Int) (w:World) (hF:Four w B x y a b) (hN:may x y a b=true->b.toNat*a.toNat<=N) :
 SeqStopsK Fence.wide n pg 54 #[.pointer (some ⟨B,0,none⟩)] zZf (KB B) (fun xs=>xs=zFg x y a b) (fun pre=>pre <+: zFg x y a b) N w:=fun l J Jx W hW hJ hJx hY h0=>by
 refine callsIn_of_wp func54 rfl trivial ?_ rfl;simp only [ntmps54,List.size_toArray,List.length_cons,List.length_nil,Nat.reduceAdd,Nat.reduceSub,Array.replicate_succ,Array.replicate_zero,List.push_toArray,List.append_toArray,List.nil_append,List.cons_append];obtain ⟨⟨c0,c1,c2,c3⟩,_,z0⟩:=hF.kept hW;cases hm:may x y a b
 ·gi_wp2_with fail;refine ⟨trivial,fun h=>(by cases h),?_⟩;refine (callsIn_wide.2 (zBy _ hm)).mono ?_;rintro e w1 ⟨rfl,hb1⟩;gi_wp2_with fail;refine bodyPost_ret (results_none rfl _ _ _) rfl ?_;exact ⟨⟨_,rfl⟩,.inl ⟨[],by simp [zFg,hm],zBf hJ h0 hb1⟩⟩
 ·have hall:zFg x y a b=upto x y a.toNat (b.toNat*a.toNat):=by simp [zFg,hm]
  obtain ⟨⟨⟨x0,x1⟩,y0,y1⟩,⟨a0,a1⟩,⟨b0,b1⟩,_⟩:=(zA5 _ _ _ _).1 hm;obtain ⟨A,hA⟩:=Int.eq_ofNat_of_zero_le (show 0<=a by omega);obtain ⟨Bn,hBn⟩:=Int.eq_ofNat_of_zero_le (show 0<=b by omega);subst hA;subst hBn;have hN':=hN hm;rw [Int.toNat_natCast,Int.toNat_natCast] at hall hN';have Hall:=zAb hall;have HN:=zAb hN';clear hall hN hN';gi_wp2_with fail;refine ⟨trivial,fun h=>(by cases h),?_⟩;refine (callsIn_wide.2 (zBy _ hm)).mono ?_;rintro e w1 ⟨rfl,hb1⟩;have F1:=(hF.kept hW).kept hb1;have j1:=zBf hJ h0 hb1;have HB1:=zAb (show KB B W w1 from zIb hb1 z0);clear hb1;obtain ⟨⟨c4,c5,c6,c7⟩,_,z1⟩:=id F1;gi_wp2_with fail;gi_loopw [10] (fun d wr=>∃k:Nat,k<=Bn/\d = O ii k/\J (upto x y A (k*A)) wr/\KB B W wr) (fun d _=>Bn-(intOf d).toNat)
  case atStart =>
   exact ⟨0,Nat.zero_le _,rfl,by rw [Nat.zero_mul];exact j1,HB1.out⟩
  case round =>
   obtain ⟨k,hk,rfl,hJk,hBk⟩:=hrel;rename World=>wo;have c8:=(zE3 hBk 0).trans c0;have c9:=(zE3 hBk 1).trans c1;have c10:=(zE3 hBk 2).trans c2;have c11:=(zE3 hBk 3).trans c3
   by_cases hlt:k<Bn
   ·gi_wp2_with fail;gi_loopw [15] (fun d wr=>∃j:Nat,j<=A/\d = O ii j/\J (upto x y A (k*A+j)) wr/\KB B W wr) (fun d _=>A-(intOf d).toNat)
    case atStart =>
     exact ⟨0,Nat.zero_le _,rfl,hJk,hBk⟩
    case round =>
     obtain ⟨j,hj,rfl,hJj,hBj⟩:=hrel;have d0:=(zE3 hBj 0).trans c0;have d1:=(zE3 hBj 1).trans c1
     by_cases hjt:j<A
     ·obtain ⟨fn,tmps,assign,body,hy,hR⟩:=hY (upto x y A (k*A+j)) (mkC (x+(j:Nat),y+(k:Nat))) wr hJj (by rw [zC2];exact zSi hlt hjt HN.out);have hmk:(mkC (x+(j:Nat),y+(k:Nat))).1=(x+(j:Nat),y+(k:Nat)):=zOs ⟨zBr (by dsimp only;omega),zBr (by dsimp only;omega)⟩;dsimp only [zZf] at hy;rw [hmk] at hy;dsimp only at hy;gi_wp2_with fail;refine ⟨fun h=>(by cases h),?_⟩;refine hR.mono ?_;rintro e W3 (⟨rfl,hJ3,hk3⟩|⟨rfl,hJx3⟩)
      ·gi_wp2_with fail;go_roundw
       case rel=>exact ⟨j+1,by omega,by go_num,by rw [<-Nat.add_assoc,zIp,zHk x y A k j hjt];exact hJ3,zWl hBj hk3⟩
       case measure=>simp [intOf];omega
      ·gi_wp2_with fail;refine bodyPost_ret (results_none rfl _ _ _) rfl ?_;refine ⟨⟨_,rfl⟩,.inr ⟨_,?_,hJx3⟩⟩;rw [<-zHk x y A k j hjt,<-zIp,Hall.out];exact zJm x y A (zXd hlt hjt)
     ·have hja:j=A:=by omega
      subst hja;gi_wp2_with fail;go_roundw
      case rel=>exact ⟨k+1,by omega,by go_num,by rw [<-zT4];exact hJj,hBj⟩
      case measure=>simp [intOf];omega
   ·have hkb:k=Bn:=by omega
    subst hkb;gi_wp2_with fail;go_end0
    exact ⟨⟨_,rfl⟩,.inl ⟨_,Hall.out.symm,hJk⟩⟩
end
end Go.Proofs.YtejjcenhjpjefaaGreatDoor
