import Derived.Test.YtejjcenhjpjefaaGreatDoorPRun
import Derived.Test.YtejjcenhjpjefaaGreatDoorPc
import Derived.Test.YtejjcenhjpjefaaGreatDoorCmp
import Derived.Test.YtejjcenhjpjefaaGreatDoorMapS
import Derived.Test.YtejjcenhjpjefaaGreatDoorHeldIn
import Derived.Test.YtejjcenhjpjefaaGreatDoorInOrd
import Derived.Test.YtejjcenhjpjefaaGreatDoorSown
set_option linter.all false
set_option maxRecDepth 1000000
set_option maxHeartbeats 64000000
open Go.Proofs.Tryz
open Go.Proofs.Tryz renaming prog->pg
open Array renaming getElem?_eq_some_iff->gE
open And renaming intro->ai
open Go.Value renaming int->O
open Go.IntKind renaming i64->ii
namespace Go.Proofs.YtejjcenhjpjefaaGreatDoor
open Go.RowKit Go.Shelf
attribute [local go_sem] Oper.semAt_some
def bX (W kx d:Int):Int:=if d=0 then kx*8+rS W kx-1 else kx*8
def bY (H ky d:Int):Int:=if d=0 then ky*8 else ky*8+rS H ky-1
theorem zN8 {S:Int->Int->Bool} {W H kx ky d:Int} (hW:1<=W/\W<=128) (hH:1<=H/\H<=128) (hS:∀u v,S u v=true->(0<=u/\u<W)/\0<=v/\v<H) (hr:rB W H kx ky=true) (hd:d=0\/d=1) {i:Nat} (hi:i<8) (ho:opB S d (bX W kx d) (bY H ky d) i=true) :
 (clx d (bX W kx d) i/8=kx/\cly d (bY H ky d) i/8=ky)/\¬(sX (clx d (bX W kx d) i) (cly d (bY H ky d) i) d/8=kx/\sY (clx d (bX W kx d) i) (cly d (bY H ky d) i) d/8=ky)/\(i:Int)<(if d=0 then rS H ky else rS W kx)/\
  (0<=clx d (bX W kx d) i/\clx d (bX W kx d) i<=128)/\(0<=cly d (bY H ky d) i/\cly d (bY H ky d) i<=128)/\(0<=sX (clx d (bX W kx d) i) (cly d (bY H ky d) i) d/\sX (clx d (bX W kx d) i) (cly d (bY H ky d) i) d<=128)/\0<=sY (clx d (bX W kx d) i) (cly d (bY H ky d) i) d/\sY (clx d (bX W kx d) i) (cly d (bY H ky d) i) d<=128:=by
 obtain ⟨hx,hy⟩:=(zDf hW hH).1 hr;unfold opB lg at ho;rw [Bool.and_eq_true,Bool.and_eq_true,Bool.and_eq_true] at ho;obtain ⟨h1,h2,h3,-⟩:=ho;have a1:=hS _ _ h2;have a2:=hS _ _ h3;rw [zG5 h1,zG4 h1] at a2 ⊢;rcases hd with rfl|rfl
 ·simp only [clx,cly,bX,bY,if_true,rS,dX,dY,Int.toNat_zero] at *;omega
 ·simp only [clx,cly,bX,bY,if_neg (show ¬(1:Int)=0 by decide),rS,dX,dY,show (1:Int).toNat=1 from rfl] at *;omega
def qB2 (S:Int->Int->Bool) (W H kx ky d:Int):List Q4:=if rB W H kx ky=true/\(d=0\/d=1) then (zC3 (opB S d (bX W kx d) (bY H ky d)) 8).1.map (rrq d (bX W kx d) (bY H ky d)) else []
attribute [local go_sem] Oper.semAt_some
def rnR (S:Int->Int->Bool) (W H kx ky d:Int):List (Nat×Nat):=if rB W H kx ky=true/\(d=0\/d=1) then (zC3 (opB S d (bX W kx d) (bY H ky d)) 8).1 else []
def rnQ (S:Int->Int->Bool) (W H kx ky d:Int):List Q4:=(rnR S W H kx ky d).map (rrq d (bX W kx d) (bY H ky d))
def ptQ (S:Int->Int->Bool) (W H kx ky d:Int):List Q4:=btL d (bX W kx d) (bY H ky d) (rnR S W H kx ky d)
theorem zN2 (S:Int->Int->Bool) (W H kx ky d:Int):(∀r∈rnR S W H kx ky d,1<=r.2/\r.1+r.2<=8)/\(rnR S W H kx ky d).length<=8:=by
 unfold rnR
 split
 ·exact (zD6 _ 8).2
 ·exact ⟨fun r h=>absurd h (by simp),by simp⟩
theorem zS8 {W H kx ky d:Int} (hW:1<=W/\W<=128) (hH:1<=H/\H<=128) (hr:rB W H kx ky=true):(0<=bX W kx d/\bX W kx d<=1000)/\0<=bY H ky d/\bY H ky d<=1000:=by
 obtain ⟨hx,hy⟩:=(zDf hW hH).1 hr;have h1:=zMt hW hx;have h2:=zMt hH hy;unfold bX bY;constructor<;>(split<;>omega)
theorem qBa:may 0 0 0 0=false:=by decide
theorem zLj {w:World} {p:Nat} {W H:Int} {tl:List Nat} {f:Int->Int->Option Int} (c s kx ky d:Int) (hw:Wl w p W H tl f) (hg:Grnd w) (ho:Offs w) (hS:∀u v,stB W H tl f c s u v=true->(0<=u/\u<W)/\0<=v/\v<H) :
 Calls pg 162 #[ptr p,shv c s,cel kx ky,O ii d] w fun e w'=>∃lv,e = .returned lv/\Rq 65 w' lv (rnQ (stB W H tl f c s) W H kx ky d)/\Below w.heap.size w w'/\∀g,lv.ownBlock=some g->w.heap.size<=g:=by
 obtain ⟨hW,hH⟩:=hw.sides
 by_cases hc:rB W H kx ky=true/\(d=0\/d=1)
 ·obtain ⟨hr,hd⟩:=hc;obtain ⟨hx,hy⟩:=(zDf hW hH).1 hr;have h1:=zMt hW hx;have h2:=zMt hH hy;obtain ⟨hX,hY⟩:=zS8 (d:=d) hW hH hr;have hop:=fun i (hi:i<8)=>zN8 (S:=stB W H tl f c s) (d:=d) hW hH hS hr hd (i:=i) hi
  have key:∀n:Nat,(n:Int)=(if d=0 then rS H ky else rS W kx)->n<=8->(zC3 (opB (stB W H tl f c s) d (bX W kx d) (bY H ky d)) n).1=(zC3 (opB (stB W H tl f c s) d (bX W kx d) (bY H ky d)) 8).1:=fun n hn h8=>by
   refine (zIx (fun j hj hj8=>?_) h8).symm;cases ho:opB (stB W H tl f c s) d (bX W kx d) (bY H ky d) j
   ·rfl
   ·have:=(hop j hj8 ho).2.2.1;rw [<-hn] at this;omega
  have hrn:rnQ (stB W H tl f c s) W H kx ky d=(zC3 (opB (stB W H tl f c s) d (bX W kx d) (bY H ky d)) 8).1.map (rrq d (bX W kx d) (bY H ky d)):=by rw [rnQ,rnR,if_pos ⟨hr,hd⟩]
  rw [hrn];rcases hd with rfl|rfl
  ·obtain ⟨n,hn⟩:=Int.eq_ofNat_of_zero_le (show 0<=rS H ky by omega);have hm:may (bX W kx 0) (bY H ky 0) 1 (n:Nat)=true:=(zA5 _ _ _ _).2 (by omega);have hb:bdV W H kx ky 0=rct (bX W kx 0) (bY H ky 0) 1 (n:Nat):=by rw [bdV,if_pos hr,if_pos rfl,hn];rfl
   have:=zJs c s kx ky 0 (bX W kx 0) (bY H ky 0) 1 (n:Nat) n hw hg ho hb (fun _=>⟨.inl ⟨rfl,rfl,rfl⟩,by omega,hX,hY⟩);rw [zT3,if_pos hm,key n (by rw [if_pos rfl,hn]) (by omega)] at this;exact this
  ·obtain ⟨n,hn⟩:=Int.eq_ofNat_of_zero_le (show 0<=rS W kx by omega);have hm:may (bX W kx 1) (bY H ky 1) (n:Nat) 1=true:=(zA5 _ _ _ _).2 (by omega);have hb:bdV W H kx ky 1=rct (bX W kx 1) (bY H ky 1) (n:Nat) 1:=by rw [bdV,if_pos hr,if_neg (by decide),if_pos rfl,hn];rfl
   have:=zJs c s kx ky 1 (bX W kx 1) (bY H ky 1) (n:Nat) 1 n hw hg ho hb (fun _=>⟨.inr ⟨rfl,rfl,rfl⟩,by omega,hX,hY⟩);rw [zT3,if_pos hm,key n (by rw [if_neg (by decide),hn]) (by omega)] at this;exact this
 ·have hb:bdV W H kx ky d=rct 0 0 0 0:=by
   unfold bdV
   split
   ·rename_i hr;have h0:¬d=0:=fun h=>hc ⟨hr,.inl h⟩;have h1:¬d=1:=fun h=>hc ⟨hr,.inr h⟩;rw [if_neg h0,if_neg h1]
   ·rfl
  have:=zJs c s kx ky d 0 0 0 0 0 hw hg ho hb (fun h=>by rw [qBa] at h;cases h);rw [zT3,if_neg (by rw [qBa];decide)] at this;rw [rnQ,rnR,if_neg hc];exact this
theorem zUb {w:World} {p:Nat} {W H:Int} {tl:List Nat} {f:Int->Int->Option Int} (c s kx ky d:Int) (hw:Wl w p W H tl f) (hg:Grnd w) (ho:Offs w) (hS:∀u v,stB W H tl f c s u v=true->(0<=u/\u<W)/\0<=v/\v<H) :
 Calls pg 137 #[ptr p,shv c s,cel kx ky,O ii d] w fun e w'=>∃lv,e = .returned lv/\Rq 178 w' lv (ptQ (stB W H tl f c s) W H kx ky d)/\Below w.heap.size w w'/\∀g,lv.ownBlock=some g->w.heap.size<=g:=by
 obtain ⟨hW,hH⟩:=hw.sides;obtain ⟨h1,h2⟩:=zN2 (stB W H tl f c s) W H kx ky d
 by_cases hc:rB W H kx ky=true/\(d=0\/d=1)
 ·obtain ⟨hX,hY⟩:=zS8 (d:=d) hW hH hc.1;exact zHm c s kx ky (by rcases hc.2 with h|h;exact .inl h;exact .inr (.inl h)) hX hY h1 h2 ho (fun wx q=>zLj c s kx ky d (hw.kept q) (hg.kept q) (ho.kept q) hS)
 ·have he:rnR (stB W H tl f c s) W H kx ky d=[]:=by rw [rnR,if_neg hc]
  have:=zHm (w:=w) (p:=p) (d:=d) (X:=0) (Y:=0) (R:=[]) c s kx ky (.inr (.inr rfl)) (by omega) (by omega) (fun r h=>by cases h) (by simp) ho (fun wx q=>by
   have:=zLj c s kx ky d (hw.kept q) (hg.kept q) (ho.kept q) hS;rw [rnQ,he] at this
   exact this)
  rw [ptQ,he];exact this
section
theorem zHz {op:Nat->Bool}:∀i,(∀r∈(zC3 op i).1,∀j,r.1<=j->j<r.1+r.2->op j=true)/\(zC3 op i).1.Pairwise (fun r r'=>r.1+r.2<r'.1+1)
 |0=>⟨fun r h=>absurd h List.not_mem_nil,List.Pairwise.nil⟩
 |i+1=>by
  obtain ⟨h1,h2⟩:=zHz (op:=op) i;obtain ⟨k1,k2,-⟩:=zD6 op i;cases ho:op i
  ·rw [zHx ho];exact ⟨h1,h2⟩
  ·cases hb:(zC3 op i).2
   ·rw [zHy ho hb];refine ⟨fun r hr j hj hj'=>?_,List.pairwise_append.2 ⟨h2,by simp,fun r hr r' hr'=>?_⟩⟩
    ·rcases List.mem_append.1 hr with hr|hr
     ·exact h1 r hr j hj hj'
     ·simp at hr;subst hr;simp only at hj hj';rw [show j=i by omega];exact ho
    ·simp at hr';subst hr';have:=(k2 r hr).2;simp only;omega
   ·obtain ⟨pre,a,n,hl,han⟩:=k1 hb;rw [zJr ho hb hl];rw [hl] at h1 h2 k2;refine ⟨fun r hr j hj hj'=>?_,?_⟩
    ·rcases List.mem_append.1 hr with hr|hr
     ·exact h1 r (List.mem_append_left _ hr) j hj hj'
     ·simp at hr;subst hr;simp only at hj hj'
      by_cases e:j=i
      ·rw [e];exact ho
      ·exact h1 (a,n) (by simp) j hj (by simp only;omega)
    ·obtain ⟨p1,-,p3⟩:=List.pairwise_append.1 h2;refine List.pairwise_append.2 ⟨p1,by simp,fun r hr r' hr'=>?_⟩;simp at hr';subst hr';have:=p3 r hr (a,n) (by simp);exact this
def Q4.swap (t:Q4):Q4:=⟨t.a,t.b,t.x,t.y⟩
abbrev Q4.A (t:Q4):Int×Int:=(t.x,t.y)
abbrev Q4.B (t:Q4):Int×Int:=(t.a,t.b)
def zFa (S:Int->Int->Bool) (W H kx ky:Int) (d:Nat):List Q4:=match d with
 |0=>ptQ S W H kx ky 0
 |1=>ptQ S W H kx ky 1
 |2=>(ptQ S W H (kx-1) ky 0).map Q4.swap
 |3=>(ptQ S W H kx (ky-1) 1).map Q4.swap
 |_=>[]
def acL (S:Int->Int->Bool) (W H kx ky:Int):List Q4:=[0,1,2,3].flatMap (zFa S W H kx ky)
section
variable {S:Int->Int->Bool} {W H kx ky:Int}
theorem zE1 (hW:1<=W/\W<=128) (hH:1<=H/\H<=128) (hS:∀u v,S u v=true->(0<=u/\u<W)/\0<=v/\v<H) {d:Int} (hd:d=0\/d=1) {t:Q4} (ht:t∈ptQ S W H kx ky d) :
 rB W H kx ky=true/\(t.x/8=kx/\t.y/8=ky)/\(t.a=t.x+dX d.toNat/\t.b=t.y+dY d.toNat)/\(t.a/8=kx+dX d.toNat/\t.b/8=ky+dY d.toNat)/\S t.x t.y=true/\S t.a t.b=true:=by
 unfold ptQ btL rnR at ht
 split at ht
 ·rename_i hr;obtain ⟨r,hr1,rfl⟩:=List.mem_map.1 ht;have hk:=(zD6 (opB S d (bX W kx d) (bY H ky d)) 8).2.1 r hr1;have hop:=(zHz (op:=opB S d (bX W kx d) (bY H ky d)) 8).1 r hr1 (r.1+(r.2-1)/2) (by omega) (by omega);have hi:r.1+(r.2-1)/2<8:=by omega
  have ho:=zN8 hW hH hS hr.1 hr.2 hi hop;unfold ptq;generalize r.1+(r.2-1)/2=i at *;obtain ⟨hx,hy⟩:=(zDf hW hH).1 hr.1;unfold opB lg at hop;rw [Bool.and_eq_true,Bool.and_eq_true,Bool.and_eq_true] at hop;obtain ⟨h1,h2,h3,-⟩:=hop;have a1:=hS _ _ h2;have a2:=hS _ _ h3;simp only;rw [zG5 h1,zG4 h1] at a2 h3 ⊢;refine ⟨hr.1,ho.1,⟨rfl,rfl⟩,?_,h2,h3⟩;clear ho h1 h2 h3 hk hr1;rcases hd with rfl|rfl
  ·simp only [clx,cly,bX,bY,if_true,rS,dX,dY,Int.toNat_zero] at *;omega
  ·simp only [clx,cly,bX,bY,if_neg (show ¬(1:Int)=0 by decide),rS,dX,dY,show (1:Int).toNat=1 from rfl] at *;omega
 ·simp at ht
theorem zGf {d:Int} (hd:d=0\/d=1):(ptQ S W H kx ky d).Pairwise (fun t t'=>t.A≠t'.A):=by
 unfold ptQ btL rnR
 split
 ·refine List.pairwise_map.2 ?_;have h1:=(zHz (op:=opB S d (bX W kx d) (bY H ky d)) 8).2;have h2:=(zD6 (opB S d (bX W kx d) (bY H ky d)) 8).2.1;refine (List.Pairwise.imp_of_mem ?_ h1);intro r r' hr hr' hlt;have k1:=h2 r hr;have k2:=h2 r' hr';simp only [ptq,Q4.A,ne_eq,Prod.mk.injEq];rcases hd with rfl|rfl
  ·simp only [clx,cly,if_true];omega
  ·simp only [clx,cly,if_neg (show ¬(1:Int)=0 by decide)];omega
 ·exact List.Pairwise.nil
theorem zHb (hW:1<=W/\W<=128) (hH:1<=H/\H<=128) (hS:∀u v,S u v=true->(0<=u/\u<W)/\0<=v/\v<H) {d:Int} (hd:d=0\/d=1):(ptQ S W H kx ky d).Pairwise (fun t t'=>t.B≠t'.B):=by
 refine (List.Pairwise.imp_of_mem ?_ (zGf hd));intro t t' ht ht' hne e;have h1:=(zE1 hW hH hS hd ht).2.2.1;have h2:=(zE1 hW hH hS hd ht').2.2.1;simp only [Q4.A,Q4.B,Prod.mk.injEq,ne_eq] at e hne;exact hne ⟨by omega,by omega⟩
theorem zC6 (hW:1<=W/\W<=128) (hH:1<=H/\H<=128) (hS:∀u v,S u v=true->(0<=u/\u<W)/\0<=v/\v<H) {d:Nat} (hd:d<4) {t:Q4} (ht:t∈zFa S W H kx ky d) :
 (t.x/8=kx/\t.y/8=ky)/\(t.a=t.x+dX d/\t.b=t.y+dY d)/\(t.a/8=kx+dX d/\t.b/8=ky+dY d)/\S t.x t.y=true/\S t.a t.b=true:=by
 match d,hd with
 |0,_=>exact (zE1 hW hH hS (d:=0) (.inl rfl) ht).2
 |1,_=>exact (zE1 hW hH hS (d:=1) (.inr rfl) ht).2
 |2,_ =>
  obtain ⟨u,hu,rfl⟩:=List.mem_map.1 ht;obtain ⟨-,h1,h2,h3,h4,h5⟩:=zE1 hW hH hS (d:=0) (.inl rfl) hu;simp only [Q4.swap,dX,dY,Int.toNat_zero,show (1:Int).toNat=1 from rfl] at *;exact ⟨⟨by omega,by omega⟩,⟨by omega,by omega⟩,⟨by omega,by omega⟩,h5,h4⟩
 |3,_ =>
  obtain ⟨u,hu,rfl⟩:=List.mem_map.1 ht;obtain ⟨-,h1,h2,h3,h4,h5⟩:=zE1 hW hH hS (d:=1) (.inr rfl) hu;simp only [Q4.swap,dX,dY,Int.toNat_zero,show (1:Int).toNat=1 from rfl] at *;exact ⟨⟨by omega,by omega⟩,⟨by omega,by omega⟩,⟨by omega,by omega⟩,h5,h4⟩
theorem zMv (hW:1<=W/\W<=128) (hH:1<=H/\H<=128) (hS:∀u v,S u v=true->(0<=u/\u<W)/\0<=v/\v<H) (d:Nat):(zFa S W H kx ky d).Pairwise (fun t t'=>t.A≠t'.A):=by
 match d with
 |0=>exact zGf (d:=0) (.inl rfl)
 |1=>exact zGf (d:=1) (.inr rfl)
 |2=>exact List.pairwise_map.2 (zHb hW hH hS (d:=0) (.inl rfl))
 |3=>exact List.pairwise_map.2 (zHb hW hH hS (d:=1) (.inr rfl))
 |_+4=>exact List.Pairwise.nil
theorem zH6 (d:Nat):(zFa S W H kx ky d).length<=8:=by
 have h:∀a b e,(ptQ S W H a b e).length<=8:=fun a b e=>by
  unfold ptQ btL;rw [List.length_map];exact (zN2 S W H a b e).2
 match d with
 |0=>exact h _ _ _
 |1=>exact h _ _ _
 |2=>show (List.map _ _).length<=8;rw [List.length_map];exact h _ _ _
 |3=>show (List.map _ _).length<=8;rw [List.length_map];exact h _ _ _
 |_+4=>exact Nat.zero_le _
theorem zKf {t:Q4}:t∈acL S W H kx ky↔∃d,d<4/\t∈zFa S W H kx ky d:=by
 unfold acL;simp only [List.mem_flatMap];constructor
 ·rintro ⟨d,hd,ht⟩;exact ⟨d,by simp at hd;omega,ht⟩
 ·rintro ⟨d,hd,ht⟩;exact ⟨d,by simp;omega,ht⟩
theorem zP6 (hW:1<=W/\W<=128) (hH:1<=H/\H<=128) (hS:∀u v,S u v=true->(0<=u/\u<W)/\0<=v/\v<H):(acL S W H kx ky).Pairwise (fun t t'=>t.A=t'.A->t.B≠t'.B):=by
 unfold acL;rw [List.pairwise_flatMap];refine ⟨fun d _=>(zMv hW hH hS d).imp (fun h e=>absurd e h),?_⟩
 have key:∀d d':Nat,d<4->d'<4->d≠d'->∀t∈zFa S W H kx ky d,∀t'∈zFa S W H kx ky d',t.A=t'.A->t.B≠t'.B:=fun d d' h h' hne t ht t' ht' e e'=>by
  have h1:=(zC6 hW hH hS h ht).2.1;have h2:=(zC6 hW hH hS h' ht').2.1;simp only [Q4.A,Q4.B,Prod.mk.injEq] at e e';have:dX d=dX d'/\dY d=dY d':=⟨by omega,by omega⟩
  have hall:∀d d':Fin 4,d≠d'->¬(dX d.val=dX d'.val/\dY d.val=dY d'.val):=by decide
  exact hall ⟨d,h⟩ ⟨d',h'⟩ (fun q=>hne (by simpa using q)) this
 refine List.Pairwise.imp_of_mem (R:=fun d d'=>d≠d') ?_ (by decide);intro d d' hd hd' hne t ht t' ht';exact key d d' (by simp at hd;omega) (by simp at hd';omega) hne t ht t' ht'
def Nd (S:Int->Int->Bool) (W H kx ky:Int) (q:Int×Int):Prop:=∃t∈acL S W H kx ky,t.A=q
theorem Nd.in (hW:1<=W/\W<=128) (hH:1<=H/\H<=128) (hS:∀u v,S u v=true->(0<=u/\u<W)/\0<=v/\v<H) {q:Int×Int} (h:Nd S W H kx ky q):(q.1/8=kx/\q.2/8=ky)/\S q.1 q.2=true:=by
 obtain ⟨t,ht,rfl⟩:=h;obtain ⟨d,hd,ht⟩:=zKf.1 ht;obtain ⟨h1,-,-,h2,-⟩:=zC6 hW hH hS hd ht;exact ⟨h1,h2⟩
end
def UpC (l:List (Int×Int)):Prop:=l.Pairwise clt
def UpE (l:List E3):Prop:=l.Pairwise (fun p q=>clt p.to q.to)
theorem zNh {α:Type} {R:α->α->Prop} (hi:∀a,¬R a a) (ht:∀a b c,R a b->R b c->R a c):∀{l m:List α},l.Pairwise R->m.Pairwise R->(∀a,a∈l↔a∈m)->l=m
 | [],[],_,_,_=>rfl
 | [],b::m,_,_,h=>absurd ((h b).2 (List.mem_cons_self ..)) List.not_mem_nil
 |a::l,[],_,_,h=>absurd ((h a).1 (List.mem_cons_self ..)) List.not_mem_nil
 |a::l,b::m,hl,hm,h=>by
  obtain ⟨l1,l2⟩:=List.pairwise_cons.1 hl;obtain ⟨m1,m2⟩:=List.pairwise_cons.1 hm
  have e:a=b:=by
   rcases List.mem_cons.1 ((h a).1 (List.mem_cons_self ..)) with e|ha
   ·exact e
   ·rcases List.mem_cons.1 ((h b).2 (List.mem_cons_self ..)) with e|hb
    ·exact e.symm
    ·exact absurd (ht _ _ _ (l1 b hb) (m1 a ha)) (hi a)
  subst e;rw [zNh hi ht l2 m2 (fun c=>?_)];have hc:=h c;rw [List.mem_cons,List.mem_cons] at hc;constructor
  ·intro q;rcases hc.1 (.inr q) with rfl|q'
   ·exact absurd (l1 _ q) (hi _)
   ·exact q'
  ·intro q;rcases hc.2 (.inr q) with rfl|q'
   ·exact absurd (m1 _ q) (hi _)
   ·exact q'
theorem zNj {l m:List (Int×Int)} (hl:UpC l) (hm:UpC m) (h:∀a,a∈l↔a∈m):l=m:=zNh zCf (fun _ _ _=>zEm) hl hm h
theorem zNi {l m:List E3} (hl:UpE l) (hm:UpE m) (h:∀a,a∈l↔a∈m):l=m:=zNh (R:=fun p q:E3=>clt p.to q.to) (fun a=>zCf a.to) (fun _ _ _=>zEm) hl hm h
theorem zWz {l:List (Int×Int)} (h:zTa l) (hn:l.Nodup):UpC l:=by
 refine List.Pairwise.imp ?_ (h.and hn);intro p q k;exact Classical.byContradiction fun c=>k.2 (zL8 c k.1)
theorem zWy {l:List E3} (h:zQd l) (hn:(l.map E3.to).Nodup):UpE l:=by
 refine List.Pairwise.imp ?_ (h.and (List.pairwise_map.1 hn));intro p q k;exact Classical.byContradiction fun c=>k.2 (zL8 c k.1)
theorem UpC.nodup {l:List (Int×Int)} (h:UpC l):l.Nodup:=by
 refine List.Pairwise.imp ?_ h;intro a b k e;subst e;exact zCf _ k
def Ed (W H:Int) (tl:List Nat) (f:Int->Int->Option Int) (c s:Int) (kx ky:Int) (q:Int×Int) (e:E3):Prop:=
 (∃t∈acL (stB W H tl f c s) W H kx ky,t.A=q/\e=⟨t.a,t.b,10⟩)\/
 (Nd (stB W H tl f c s) W H kx ky e.to/\e.to≠q/\∃n:Nat,e.c=(n:Int)/\Std W H tl f c s (kx*8) (ky*8) (rS W kx) (rS H ky) q/\Least (zAx W H tl f c s (kx*8) (ky*8) (rS W kx) (rS H ky)) q e.to n)
def IsN (S:Int->Int->Bool) (W H kx ky:Int) (l:List (Int×Int)):Prop:=UpC l/\∀q,q∈l↔Nd S W H kx ky q
def IsE (W H:Int) (tl:List Nat) (f:Int->Int->Option Int) (c s:Int) (kx ky:Int) (q:Int×Int) (l:List E3):Prop:=UpE l/\∀e,e∈l↔Ed W H tl f c s kx ky q e
end
section
def Gp (w:World) (gp p:Nat) (c s ep:Int) (wb eb:Nat):Prop:=w.heap[gp]? = some (.cells #[ptr p,O ii c,O ii s,O ii ep,.map (some wb),.map (some eb)] 33 (0,0))
section
variable {w w':World} {gp p:Nat} {c s ep:Int} {wb eb:Nat}
theorem Gp.lt (h:Gp w gp p c s ep wb eb):gp<w.heap.size:=(gE.1 h).1
theorem Gp.upto (h:Gp w gp p c s ep wb eb) (hb:Below w.heap.size w w'):Gp w' gp p c s ep wb eb:=(hb.block gp h.lt).trans h
theorem Gp.kept {S:Nat->Prop} (h:Gp w gp p c s ep wb eb) (ht:Turns S w w') (hs:¬S gp):Gp w' gp p c s ep wb eb:=ht.same hs h
theorem Gp.c0 (h:Gp w gp p c s ep wb eb):w.cell? ⟨gp,0,none⟩=some (ptr p):=by rw [cell_of_row w gp 0 _ _ _ h];rfl
theorem Gp.c1 (h:Gp w gp p c s ep wb eb):w.cell? ⟨gp,1,none⟩=some (O ii c):=by rw [cell_of_row w gp 1 _ _ _ h];rfl
theorem Gp.c2 (h:Gp w gp p c s ep wb eb):w.cell? ⟨gp,2,none⟩=some (O ii s):=by rw [cell_of_row w gp 2 _ _ _ h];rfl
theorem Gp.c4 (h:Gp w gp p c s ep wb eb):w.cell? ⟨gp,4,none⟩=some (.map (some wb)):=by rw [cell_of_row w gp 4 _ _ _ h];rfl
theorem Gp.c5 (h:Gp w gp p c s ep wb eb):w.cell? ⟨gp,5,none⟩=some (.map (some eb)):=by rw [cell_of_row w gp 5 _ _ _ h];rfl
end
def bkN (d:Fin 8):Fin 8:=match d with
 |0=>2|1=>3|2=>0|3=>1|4=>6|5=>7|6=>4|7=>5
theorem zV9 (d:Fin 8) (w:World):Calls pg 138 #[O ii ((d.val:Nat):Int)] w fun e w'=>e = .returned (O ii (((bkN d).val:Nat):Int))/\w'=w:=by
 have H1:=zAb (zB7 ((d.val:Nat):Int) w);rw [show isD ((d.val:Nat):Int)=true from (zD9 _).2 (by have:=d.isLt;omega)] at H1;obtain ⟨z,hz⟩:∃z:Int,(((bkN d).val:Nat):Int)=z:=⟨_,rfl⟩
 obtain ⟨a,ha⟩:∃a:Int,((d.val:Nat):Int)=a:=⟨_,rfl⟩
 rw [hz];rw [ha] at H1 ⊢
 have hc:(a=0/\z=2)\/(a=1/\z=3)\/(a=2/\z=0)\/(a=3/\z=1)\/(a=4/\z=6)\/(a=5/\z=7)\/(a=6/\z=4)\/(a=7/\z=5):=by
  rw [<-ha,<-hz];exact (show ∀d:Fin 8,((((d.val:Nat):Int)=0/\(((bkN d).val:Nat):Int)=2)\/(((d.val:Nat):Int)=1/\(((bkN d).val:Nat):Int)=3)\/(((d.val:Nat):Int)=2/\(((bkN d).val:Nat):Int)=0)\/(((d.val:Nat):Int)=3/\(((bkN d).val:Nat):Int)=1)\/(((d.val:Nat):Int)=4/\(((bkN d).val:Nat):Int)=6)\/(((d.val:Nat):Int)=5/\(((bkN d).val:Nat):Int)=7)\/(((d.val:Nat):Int)=6/\(((bkN d).val:Nat):Int)=4)\/(((d.val:Nat):Int)=7/\(((bkN d).val:Nat):Int)=5)) by decide) d
 clear ha hz;rcases hc with ⟨rfl,rfl⟩|⟨rfl,rfl⟩|⟨rfl,rfl⟩|⟨rfl,rfl⟩|⟨rfl,rfl⟩|⟨rfl,rfl⟩|⟨rfl,rfl⟩|⟨rfl,rfl⟩
 all_goals
  go_enter func138,ntmps138;go_wp2_with fail;refine H1.out.mono ?_;rintro e w1 ⟨rfl,rfl⟩;go_wp2_with fail;go_ret;exact ⟨rfl,rfl⟩
theorem zH1:Rcl 137:=zl fun _ _=>by go_simp
theorem zQu:Rcl 138:=zl fun _ _=>by go_simp
theorem zHi:∀(L:List Q4) (i j:Nat) (u:Value) (r r':Q4),L[i]? = some r->j<4->r.cs.set j u=r'.cs->(L.flatMap Q4.cs).set (i*4+j) u=(L.set i r').flatMap Q4.cs
 | [],i,j,u,r,r',h,_,_=>by simp at h
 |a::L,0,j,u,r,r',h,hj,e=>by
  simp at h;subst h;rw [List.flatMap_cons,List.set_cons_zero,List.flatMap_cons,Nat.zero_mul,Nat.zero_add,List.set_append_left _ _ (by rw [Q4.cs_len];exact hj),e]
 |a::L,i+1,j,u,r,r',h,hj,e=>by
  simp at h;rw [List.flatMap_cons,List.set_cons_succ,List.flatMap_cons,List.set_append_right _ _ (by rw [Q4.cs_len];omega),Q4.cs_len,show (i+1)*4+j-4=i*4+j by omega,zHi L i j u r r' h hj e]
theorem Rw.setAt1 {ty:Nat} {w:World} {g cap n:Nat} {L:List Q4} {r r':Q4} (hn:n=L.length) (h:Rq ty w (.slice (some ⟨g,0,none⟩) n cap) L) (i j:Nat) (u:Value) (hi:L[i]? = some r) (hj:j<4) (hr:r.cs.set j u=r'.cs) :
 Rq ty (w.setCell ⟨g,i*4+j,none⟩ u) (.slice (some ⟨g,0,none⟩) n cap) (L.set i r'):=by
 subst hn;have q:=(World.ownsRow.stored h (i*4+j) u).1;rw [zHi L i j u r r' hi hj hr] at q;have hl:(L.set i r').length=L.length:=by simp
 unfold Rq Rw;rw [hl];exact q
theorem Rw.setAt4 {ty:Nat} {w:World} {g cap n:Nat} {L:List Q4} {r:Q4} (hn:n=L.length) (h:Rq ty w (.slice (some ⟨g,0,none⟩) n cap) L) (i:Nat) (hi:L[i]? = some r) (t:Q4) :
 Rq ty ((((w.setCell ⟨g,i*4,none⟩ (O ii t.x)).setCell ⟨g,i*4+1,none⟩ (O ii t.y)).setCell ⟨g,i*4+2,none⟩ (O ii t.a)).setCell ⟨g,i*4+3,none⟩ (O ii t.b)) (.slice (some ⟨g,0,none⟩) n cap) (L.set i t)/\
 Turns (fun j=>j=g) w ((((w.setCell ⟨g,i*4,none⟩ (O ii t.x)).setCell ⟨g,i*4+1,none⟩ (O ii t.y)).setCell ⟨g,i*4+2,none⟩ (O ii t.a)).setCell ⟨g,i*4+3,none⟩ (O ii t.b)):=by
 have hlt:i<L.length:=(List.getElem?_eq_some_iff.1 hi).1;constructor
 ·have q0:=Rw.setAt1 (r':=⟨t.x,r.y,r.a,r.b⟩) hn h i 0 (O ii t.x) hi (by decide) rfl;have q1:=Rw.setAt1 (r:=⟨t.x,r.y,r.a,r.b⟩) (r':=⟨t.x,t.y,r.a,r.b⟩) (by simp [hn]) q0 i 1 (O ii t.y) (by simp [hlt]) (by decide) rfl;have q2:=Rw.setAt1 (r:=⟨t.x,t.y,r.a,r.b⟩) (r':=⟨t.x,t.y,t.a,r.b⟩) (by simp [hn]) q1 i 2 (O ii t.a) (by simp [hlt]) (by decide) rfl;have q3:=Rw.setAt1 (r:=⟨t.x,t.y,t.a,r.b⟩) (r':=t) (by simp [hn]) q2 i 3 (O ii t.b) (by simp [hlt]) (by decide) rfl;simpa [List.set_set] using q3
 ·exact (((Turns.set (S:=fun j=>j=g) w (p:=⟨g,i*4,none⟩) rfl _).trans ((Turns.set (S:=fun j=>j=g) _ (p:=⟨g,i*4+1,none⟩) rfl _).mono (fun _ _ h => .inl h))).trans ((Turns.set (S:=fun j=>j=g) _ (p:=⟨g,i*4+2,none⟩) rfl _).mono (fun _ _ h => .inl h))).trans ((Turns.set (S:=fun j=>j=g) _ (p:=⟨g,i*4+3,none⟩) rfl _).mono (fun _ _ h => .inl h))
theorem Rw.atq {ty:Nat} {w:World} {a:Option Addr} {m c:Nat} {L:List Q4} (h:Rq ty w (.slice a m c) L) {i:Nat} {t:Q4} (hi:L[i]? = some t) :
 ∃g,a=some ⟨g,0,none⟩/\g<w.heap.size/\(w.cell? ⟨g,i*4,none⟩=some (O ii t.x)/\w.cell? ⟨g,i*4+1,none⟩=some (O ii t.y)/\w.cell? ⟨g,i*4+2,none⟩=some (O ii t.a)/\w.cell? ⟨g,i*4+3,none⟩=some (O ii t.b))/\∀o,w.frozen? ⟨g,o,none⟩=false:=by
 obtain ⟨a',cap,e,hle,hc⟩:=Rw.form Q4.cs_len h;obtain ⟨g,rfl,hg,hcell⟩:=hc i t hi;cases e;refine ⟨g,rfl,hg,⟨hcell 0 _ rfl,hcell 1 _ rfl,hcell 2 _ rfl,hcell 3 _ rfl⟩,fun o=>?_⟩;obtain ⟨cur,hb⟩:=Rw.blk h (g:=g) rfl;simp [World.frozen?,hb]
def swq (L:List Q4) (i:Nat):List Q4:=(L.take i).map Q4.swap++L.drop i
theorem zTo (L:List Q4) (i:Nat):(swq L i).length=L.length:=by
 unfold swq;rw [List.length_append,List.length_map,List.length_take,List.length_drop];omega
theorem zNm {L:List Q4} {i:Nat} {t:Q4} (h:L[i]? = some t):(swq L i)[i]? = some t:=by
 have hlt:=(List.getElem?_eq_some_iff.1 h).1;unfold swq;rw [List.getElem?_append_right (by simp;omega),List.getElem?_drop,List.length_map,List.length_take,Nat.min_eq_left (by omega),show i+(i-i)=i by omega];exact h
theorem zTn {L:List Q4} {i:Nat} {t:Q4} (h:L[i]? = some t):(swq L i).set i t.swap=swq L (i+1):=by
 have hlt:=(List.getElem?_eq_some_iff.1 h).1;unfold swq
 have hd:L.drop i=t::L.drop (i+1):=by
  rw [List.drop_eq_getElem_cons hlt]
  congr 1
  exact (List.getElem?_eq_some_iff.1 h).2
 rw [hd,List.take_add_one,h,List.set_append_right _ _ (by simp;omega),List.map_append];simp [Nat.min_eq_left (Nat.le_of_lt hlt)]
theorem zTp (L:List Q4):swq L L.length=L.map Q4.swap:=by
 unfold swq;simp
theorem zT9 {S:Int->Int->Bool} {W H kx ky:Int} {d:Fin 8} (h:d.val=0\/d.val=1):zFa S W H kx ky d.val=ptQ S W H kx ky ((d.val:Nat):Int):=by
 rcases h with h|h<;>rw [h]<;>rfl
theorem zUa {S:Int->Int->Bool} {W H kx ky:Int} {d:Fin 8} (h:¬(d.val=0\/d.val=1)):zFa S W H kx ky d.val=(ptQ S W H (kx+dX d.val) (ky+dY d.val) (((bkN d).val:Nat):Int)).map Q4.swap:=by
 have hno:∀a b e,¬(e=0\/e=1)->ptQ S W H a b e=[]:=fun a b e he=>by
  unfold ptQ rnR;rw [if_neg (fun q=>he q.2)];rfl
 match d with
 |0=>exact absurd (.inl rfl) h
 |1=>exact absurd (.inr rfl) h
 |2=>show (ptQ S W H (kx-1) ky 0).map Q4.swap=(ptQ S W H (kx + -1) (ky+0) 0).map Q4.swap;rw [Int.add_zero,Int.sub_eq_add_neg]
 |3=>show (ptQ S W H kx (ky-1) 1).map Q4.swap=(ptQ S W H (kx+0) (ky + -1) 1).map Q4.swap;rw [Int.add_zero,Int.sub_eq_add_neg]
 |4=>rw [hno _ _ _ (by decide)];rfl
 |5=>rw [hno _ _ _ (by decide)];rfl
 |6=>rw [hno _ _ _ (by decide)];rfl
 |7=>rw [hno _ _ _ (by decide)];rfl
theorem zMw {w:World} {gp p:Nat} {c s ep:Int} {wb eb:Nat} {W H:Int} {tl:List Nat} {f:Int->Int->Option Int} (hG:Gp w gp p c s ep wb eb) (hw:Wl w p W H tl f) (hg:Grnd w) (ho:Offs w) (hS:∀u v,stB W H tl f c s u v=true->(0<=u/\u<W)/\0<=v/\v<H) (kx ky:Int) (d:Fin 8) :
 Calls pg 108 #[ptr gp,cel kx ky,O ii ((d.val:Nat):Int),cel (kx+dX d.val) (ky+dY d.val)] w fun e w'=>∃lv,e = .returned lv/\Rq 178 w' lv (zFa (stB W H tl f c s) W H kx ky d.val)/\Below w.heap.size w w'/\∀g,lv.ownBlock=some g->w.heap.size<=g:=by
 obtain ⟨X,hX⟩:=ex ((w.alloc (.cells #[O ii kx,O ii ky] 23)).alloc (.cells #[O ii (kx+dX d.val),O ii (ky+dY d.val)] 23));have B0:Below w.heap.size w X:=hX▸zBe _ _ _;have T0:Two X w.heap.size kx ky:=by rw [<-hX];exact (Two.newAt rfl).alloc
 have T1:Two X (w.heap.size+1) (kx+dX d.val) (ky+dY d.val):=by rw [<-hX];exact Two.newAt (by simp)
 have GX:=hG.upto B0
 have HBe:Hid (∀a b e,Calls pg 137 #[ptr p,shv c s,cel a b,O ii e] X.drew fun e' w'=>∃lv,e' = .returned lv/\Rq 178 w' lv (ptQ (stB W H tl f c s) W H a b e)/\Below X.drew.heap.size X.drew w'/\∀g,lv.ownBlock=some g->X.drew.heap.size<=g):=zAb fun a b e=>by
  have hd:Below X.heap.size X X.drew:=⟨rfl,rfl,rfl,Nat.le_refl _,fun _ _=>rfl⟩
  exact zUb c s a b e (hw.kept (bt B0 hd)) (hg.kept (bt B0 hd)) (ho.kept (bt B0 hd)) hS
 have h0:=GX.c0;have h1:=GX.c1;have h2:=GX.c2;obtain ⟨⟨c0,c1⟩,-,-⟩:=id T0;obtain ⟨⟨e0,e1⟩,-,-⟩:=id T1;have HX:=zAb hX;have HB:=zAb B0;have hdl:=d.isLt;generalize ha:kx+dX d.val=nx at *;generalize hb:ky+dY d.val=ny at *;have Hab:=zAb (ai ha hb);clear hX B0 T0 T1 GX hG hw hg ho hS ha hb
 by_cases hlo:d.val=0\/d.val=1
 ·rw [zT9 hlo];have HS:X.drew.cell? ⟨gp,0,none⟩=some (ptr p)/\X.drew.cell? ⟨gp,1,none⟩=some (O ii c)/\X.drew.cell? ⟨gp,2,none⟩=some (O ii s)/\X.drew.cell? ⟨w.heap.size,0,none⟩=some (O ii kx)/\X.drew.cell? ⟨w.heap.size,1,none⟩=some (O ii ky):=⟨h0,h1,h2,c0,c1⟩
  have HB1:=zAb (HBe.out kx ky ((d.val:Nat):Int));have hdd0:((d.val:Nat):Int)=0\/((d.val:Nat):Int)=1:=by omega
  obtain ⟨dd,hdd'⟩:∃dd:Int,((d.val:Nat):Int)=dd:=⟨_,rfl⟩
  rw [hdd'] at hdd0 HB1 ⊢;have hdd:=hdd0;clear h0 h1 h2 c0 c1 e0 e1 HBe hlo hdl Hab hdd' hdd0;rcases hdd with hdd|hdd
  ·subst hdd;go_enter func108,ntmps108;go_wp2_with (rw [HX.out]);refine zAj ?_;refine zAe (fun wx:World=>wx.cell? ⟨gp,0,none⟩=some (ptr p)/\wx.cell? ⟨gp,1,none⟩=some (O ii c)/\wx.cell? ⟨gp,2,none⟩=some (O ii s)/\wx.cell? ⟨w.heap.size,0,none⟩=some (O ii kx)/\wx.cell? ⟨w.heap.size,1,none⟩=some (O ii ky)) [10,11] (by kernel_rfl) ?_;refine zv 0 10 8 [ptr gp,ptr gp,.pointer (some ⟨gp,0,none⟩),ptr p,ptr gp,ptr gp,.pointer (some ⟨gp,1,none⟩),shv c s,cel kx ky,O ii 0] rfl rfl (by kernel_rfl) HS ?_;repeat (refine zc rfl (by rfl) (fun wx hx=>by go_simp) ?_;simp only [zp])
   refine zn ?_;refine zw 10 [] (by kernel_rfl) ?_;refine readyZ.call rfl rfl (zH1 (by rfl) (by rfl) (by simp only [zj];rfl)) (HB1.out) ?_ readyZ.nil;rintro e w1 ⟨lv,rfl,q1,q2,q3⟩;refine ⟨_,rfl,fun h=>absurd (by decide) h,?_⟩;try simp only [zp]
   refine zq 11 (by kernel_rfl) rfl rfl (zBb (v:=lv) (by rfl) (by rfl)) (fun h=>absurd (by decide) h) ?_;try simp only [zp]
   refine zAd (by kernel_rfl) ?_ _;dsimp only [zAv,Exit.then];obtain ⟨la,lc,hlv⟩:=Rw.slice4 q1;have HE:=zAb (ai q1 (ai (bt HB.out (show Below X.heap.size X w1 from ⟨q2.os,q2.tape,q2.output,q2.size,q2.block⟩)) (fun g e=>Nat.le_trans HB.out.size (q3 g e))));subst hlv;clear q1 q2 q3 HS HB1;go_wp2_with fail;refine bodyPost_ret (v:=.slice la (ptQ (stB W H tl f c s) W H kx ky 0).length lc) (by simp [results,Tryz.f108,go_sem]) rfl ?_;exact ⟨_,rfl,HE.out⟩
  ·subst hdd;go_enter func108,ntmps108;go_wp2_with (rw [HX.out]);refine zAj ?_;refine zAe (fun wx:World=>wx.cell? ⟨gp,0,none⟩=some (ptr p)/\wx.cell? ⟨gp,1,none⟩=some (O ii c)/\wx.cell? ⟨gp,2,none⟩=some (O ii s)/\wx.cell? ⟨w.heap.size,0,none⟩=some (O ii kx)/\wx.cell? ⟨w.heap.size,1,none⟩=some (O ii ky)) [10,11] (by kernel_rfl) ?_;refine zv 0 10 8 [ptr gp,ptr gp,.pointer (some ⟨gp,0,none⟩),ptr p,ptr gp,ptr gp,.pointer (some ⟨gp,1,none⟩),shv c s,cel kx ky,O ii 1] rfl rfl (by kernel_rfl) HS ?_;repeat (refine zc rfl (by rfl) (fun wx hx=>by go_simp) ?_;simp only [zp])
   refine zn ?_;refine zw 10 [] (by kernel_rfl) ?_;refine readyZ.call rfl rfl (zH1 (by rfl) (by rfl) (by simp only [zj];rfl)) (HB1.out) ?_ readyZ.nil;rintro e w1 ⟨lv,rfl,q1,q2,q3⟩;refine ⟨_,rfl,fun h=>absurd (by decide) h,?_⟩;try simp only [zp]
   refine zq 11 (by kernel_rfl) rfl rfl (zBb (v:=lv) (by rfl) (by rfl)) (fun h=>absurd (by decide) h) ?_;try simp only [zp]
   refine zAd (by kernel_rfl) ?_ _;dsimp only [zAv,Exit.then];obtain ⟨la,lc,hlv⟩:=Rw.slice4 q1;have HE:=zAb (ai q1 (ai (bt HB.out (show Below X.heap.size X w1 from ⟨q2.os,q2.tape,q2.output,q2.size,q2.block⟩)) (fun g e=>Nat.le_trans HB.out.size (q3 g e))));subst hlv;clear q1 q2 q3 HS HB1;go_wp2_with fail;refine bodyPost_ret (v:=.slice la (ptQ (stB W H tl f c s) W H kx ky 1).length lc) (by simp [results,Tryz.f108,go_sem]) rfl ?_;exact ⟨_,rfl,HE.out⟩
 ·rw [zUa hlo,Hab.out.1,Hab.out.2];have HS:X.drew.cell? ⟨gp,0,none⟩=some (ptr p)/\X.drew.cell? ⟨gp,1,none⟩=some (O ii c)/\X.drew.cell? ⟨gp,2,none⟩=some (O ii s)/\X.drew.cell? ⟨w.heap.size+1,0,none⟩=some (O ii nx)/\X.drew.cell? ⟨w.heap.size+1,1,none⟩=some (O ii ny):=⟨h0,h1,h2,e0,e1⟩
  have HBk:=zAb (zV9 d X.drew);have HB1:=zAb (HBe.out nx ny (((bkN d).val:Nat):Int));have hd0:¬((d.val:Nat):Int)=0:=by omega
  have hd1:¬((d.val:Nat):Int)=1:=by omega
  obtain ⟨dd,hdd'⟩:∃dd:Int,((d.val:Nat):Int)=dd:=⟨_,rfl⟩
  obtain ⟨bk,hbk⟩:∃bk:Int,(((bkN d).val:Nat):Int)=bk:=⟨_,rfl⟩
  rw [hdd',hbk] at HBk;rw [hbk] at HB1 ⊢;rw [hdd'] at hd0 hd1 ⊢
  have hlen:(ptQ (stB W H tl f c s) W H nx ny bk).length<=8:=by
   unfold ptQ btL;rw [List.length_map];exact (zN2 _ W H nx ny bk).2
  generalize ptQ (stB W H tl f c s) W H nx ny bk=L at HB1 hlen ⊢;clear h0 h1 h2 c0 c1 e0 e1 HBe hlo hdl Hab hdd' hbk;have hp0:decide (dd=0)=false:=decide_eq_false hd0;have hp1:decide (dd=1)=false:=decide_eq_false hd1;have hp2:(dd==0)=false:=by simpa using hd0
  have hp3:(dd==1)=false:=by simpa using hd1
  go_enter func108,ntmps108;go_wp2_with (rw [HX.out]);refine zAj ?_;refine zAe (fun wx:World=>wx.cell? ⟨gp,0,none⟩=some (ptr p)/\wx.cell? ⟨gp,1,none⟩=some (O ii c)/\wx.cell? ⟨gp,2,none⟩=some (O ii s)/\wx.cell? ⟨w.heap.size+1,0,none⟩=some (O ii nx)/\wx.cell? ⟨w.heap.size+1,1,none⟩=some (O ii ny)) [11,12] (by kernel_rfl) ?_;refine zv 0 10 8 [ptr gp,ptr gp,.pointer (some ⟨gp,0,none⟩),ptr p,ptr gp,ptr gp,.pointer (some ⟨gp,1,none⟩),shv c s,cel nx ny,O ii dd] rfl rfl (by kernel_rfl) HS ?_;repeat (refine zc rfl (by rfl) (fun wx hx=>by go_simp) ?_;simp only [zp])
  refine zn ?_;refine zw 10 [] (by kernel_rfl) ?_;refine readyZ.call rfl rfl (zQu (by rfl) (by rfl) (by simp only [zj];rfl)) (HBk.out) ?_ readyZ.nil;rintro e w1 ⟨rfl,rfl⟩;refine ⟨_,rfl,fun _=>HS,?_⟩;try simp only [zp]
  refine zw 11 [] (by kernel_rfl) ?_;refine readyZ.call rfl rfl (zH1 (by rfl) (by rfl) (by simp only [zj];rfl)) (HB1.out) ?_ readyZ.nil;rintro e w1 ⟨lv,rfl,q1,q2,q3⟩;refine ⟨_,rfl,fun h=>absurd (by decide) h,?_⟩;try simp only [zp]
  refine zq 12 (by kernel_rfl) rfl rfl (zBb (v:=lv) (by rfl) (by rfl)) (fun h=>absurd (by decide) h) ?_;try simp only [zp]
  refine zAd (by kernel_rfl) ?_ _;dsimp only [zAv,Exit.then];obtain ⟨la,lc,hlv⟩:=Rw.slice4 q1;subst hlv;have bX:Below X.heap.size X w1:=⟨q2.os,q2.tape,q2.output,q2.size,q2.block⟩
  have HE:=zAb (ai q1 (ai (bt HB.out bX) (show ∀g,(Value.slice la L.length lc).ownBlock=some g->w.heap.size<=g from fun g e=>Nat.le_trans HB.out.size (q3 g e))));clear q1 q2 q3 HS HB1 HBk bX;go_wp2_with fail;go_loopw [43] (fun v wr=>∃i:Nat,v = O ii (i:Nat)/\i<=L.length/\Rq 178 wr (.slice la L.length lc) (swq L i)/\Below w.heap.size w wr) (fun v _=>L.length-(intOf v).toNat)
  case atStart=>exact ⟨0,rfl,Nat.zero_le _,HE.out.1,HE.out.2.1⟩
  case round =>
   obtain ⟨i,rfl,hi,hR,hB⟩:=hrel
   by_cases hlt:i<L.length
   ·obtain ⟨t,ht⟩:∃t,L[i]? = some t:=⟨_,List.getElem?_eq_getElem hlt⟩
    obtain ⟨g,rfl,hgl,⟨a0,a1,a2,a3⟩,hfz⟩:=Rw.atq hR (zNm ht);obtain ⟨Y,hY⟩:=ex (wr.alloc (.cells #[O ii t.x,O ii t.y,O ii t.a,O ii t.b] 178));have bY:Below wr.heap.size wr Y:=hY▸zAh _ _;have F4:Four Y wr.heap.size t.x t.y t.a t.b:=by rw [<-hY];exact Four.new12 _ _ _ _ _ _
    have hRY:=Rw.upto hR bY;obtain ⟨g',eg,-,⟨b0,b1,b2,b3⟩,hfy⟩:=Rw.atq hRY (zNm ht);have eg':g'=g:=by injection eg with eg;injection eg with eg;exact eg.symm
    subst eg';obtain ⟨z1,z2⟩:=Rw.setAt4 (zTo L i).symm hRY i (zNm ht) t.swap;rw [zTn ht] at z1;simp only [Q4.swap] at z1 z2;obtain ⟨Z,hZ⟩:=ex ((((Y.setCell ⟨g',i*4,none⟩ (O ii t.a)).setCell ⟨g',i*4+1,none⟩ (O ii t.b)).setCell ⟨g',i*4+2,none⟩ (O ii t.x)).setCell ⟨g',i*4+3,none⟩ (O ii t.y));rw [hZ] at z1 z2;have hown:=HE.out.2.2 g' rfl;have HN:=zAb (show Rq 178 Z (.slice (some ⟨g',0,none⟩) L.length lc) (swq L (i+1))/\Below w.heap.size w Z from ⟨z1,hB.trans (((bY.mono hB.size)).trans (z2.below (fun k e=>by omega) (Nat.le_trans hB.size bY.size)))⟩);obtain ⟨⟨f0,f1,f2,f3⟩,-,-⟩:=id F4;have HY:=zAb hY;have HZ:=zAb hZ;have hki:(i:Int)<(L.length:Nat):=by omega
    have hf0:=hfy (i*4);have hf1:=hfy (i*4+1);have hf2:=hfy (i*4+2);have hf3:=hfy (i*4+3);have hne:g'≠wr.heap.size:=by omega
    clear hR hB hRY z1 z2 hY hZ bY F4 hfz hfy hown ht eg;obtain ⟨tx,htx⟩:∃z,t.x=z:=⟨_,rfl⟩
    obtain ⟨ty,hty⟩:∃z,t.y=z:=⟨_,rfl⟩
    obtain ⟨ta,hta⟩:∃z,t.a=z:=⟨_,rfl⟩
    obtain ⟨tb,htb⟩:∃z,t.b=z:=⟨_,rfl⟩
    rw [htx,hty,hta,htb] at HY HZ;rw [htx] at a0 f0 b0;rw [hty] at a1 f1 b1;rw [hta] at a2 f2 b2;rw [htb] at a3 f3 b3;clear htx hty hta htb t;go_wp2_with (first|rw [HY.out]|rw [HZ.out]);go_roundw
    case rel=>exact ⟨i+1,by go_num,by omega,HN.out.1,HN.out.2⟩
    case measure=>simp only [intOf];omega
   ·have hi':i=L.length:=by omega
    subst hi';have HF:=zAb (show Rq 178 wr (.slice la L.length lc) (L.map Q4.swap)/\Below w.heap.size w wr/\∀g,(Value.slice la L.length lc).ownBlock=some g->w.heap.size<=g from ⟨zTp L▸hR,hB,HE.out.2.2⟩);clear hR hB HE;go_wp2_with fail;refine bodyPost_ret (v:=.slice la L.length lc) (by simp [results,Tryz.f108,go_sem]) rfl ?_;exact ⟨_,rfl,HF.out⟩
end
theorem zN0:Rcl 17:=zl fun _ _=>by go_simp
theorem zTx:Rcl 92:=zl fun _ _=>by go_simp
theorem zV1 {F G:World->Nat->Prop} {C:Prop} (h1:(∀V q,F V q->G V q)->C) (h2:∀V q,F V q->G V q):C:=h1 h2
theorem zF7 {ev:Operand->Value} {o:Oper} {w:World} (ho:o.op = .alloc 65):(execOp ev o).run pg w = .ok (.value (ptr w.heap.size)) (w.alloc (.cells #[O ii 0,O ii 0,O ii 0,O ii 0] 65)):=by
 unfold execOp;simp only [ho];go_simp
theorem zNw {ev:Operand->Value} {o:Oper} {w:World} {x y:Operand} {k:Nat} {a b d e p q r t:Int} (ho:o.op = .store 65 x y) (hx:ev x=ptr k) (hy:ev y=rct p q r t) (hF:Four w k a b d e) :
 (execOp ev o).run pg w = .ok .skip ((((w.setCell ⟨k,0,none⟩ (O ii p)).setCell ⟨k,1,none⟩ (O ii q)).setCell ⟨k,2,none⟩ (O ii r)).setCell ⟨k,3,none⟩ (O ii t)):=by
 obtain ⟨⟨f0,f1,f2,f3⟩,⟨g0,g1,g2,g3⟩,hl⟩:=hF;unfold execOp;rw [ho];simp only [hx,hy];go_simp
def zO8 (C:List Int) (ix iy iw:Int) (q:Int×Int):List E3:=match C[ij ix iy iw q.1 q.2]? with
 |some m=>if 0<m then [⟨q.1,q.2,m⟩] else []
 |none=>[]
def zKn (C:List Int) (ix iy iw:Int) (l:List (Int×Int)):List E3:=l.flatMap (zO8 C ix iy iw)
theorem zLy (C:List Int) (ix iy iw:Int) (l:List (Int×Int)):(zKn C ix iy iw l).length<=l.length:=by
 unfold zKn
 induction l with
 |nil=>simp
 |cons q r ih =>
  rw [List.flatMap_cons,List.length_append,List.length_cons]
  have:(zO8 C ix iy iw q).length<=1:=by
   unfold zO8
   split
   ·split<;>simp
   ·simp
  omega
theorem zO7 {C:List Int} {ix iy iw:Int} {l:List (Int×Int)} {i:Nat} {q:Int×Int} (h:l[i]? = some q):zKn C ix iy iw (l.take (i+1))=zKn C ix iy iw (l.take i)++zO8 C ix iy iw q:=by
 unfold zKn;rw [List.take_add_one,h,List.flatMap_append];simp
theorem qAm {ix iy iw ih x y:Int} (hi:0<=ix/\0<=iy/\ix+iw<=128/\iy+ih<=128) (hq:inB ix iy iw ih (x,y)):∃zy z z':Int,IntKind.i64.wrap (y-iy)=zy/\IntKind.i64.wrap (zy*iw)=z/\IntKind.i64.wrap (z+x)=z'/\IntKind.i64.wrap (z'-ix)=((ij ix iy iw x y:Nat):Int):=by
 obtain ⟨⟨h1,h2⟩,h3,h4⟩:=hq;simp only at h1 h2 h3 h4;have hm:0<=(y-iy)*iw/\(y-iy)*iw<=128*128:=⟨Int.mul_nonneg h3 (by omega),Int.mul_le_mul (by omega) (by omega) (by omega) (by omega)⟩
 refine ⟨y-iy,(y-iy)*iw,(y-iy)*iw+x,IntWalk.i64_in _ (by omega),IntWalk.i64_in _ (by omega),IntWalk.i64_in _ (by omega),?_⟩;rw [IntWalk.i64_in _ (by omega)];unfold ij;omega
theorem zKw {W H kx ky:Int} (hW:1<=W/\W<=128) (hH:1<=H/\H<=128) (hr:rB W H kx ky=true):(0<=kx*8/\0<=ky*8/\kx*8+rS W kx<=W/\ky*8+rS H ky<=H)/\(1<=rS W kx/\rS W kx<=8)/\1<=rS H ky/\rS H ky<=8:=by
 obtain ⟨h1,h2⟩:=(zDf hW hH).1 hr;unfold rS;omega
theorem zZj {W H kx ky:Int} (hW:1<=W/\W<=128) (hH:1<=H/\H<=128) (hr:rB W H kx ky=true):wi (kx*8) (ky*8) (rS W kx) (rS H ky) 0 0 W H=true:=by
 obtain ⟨h1,h2,h3⟩:=zKw hW hH hr;unfold wi;rw [Bool.and_eq_true,Bool.and_eq_true];exact ⟨(zA5 _ _ _ _).2 (by omega),(zBz _ _ _ _ _ _).2 ⟨(zA5 _ _ _ _).2 (by omega),by omega⟩,(zBz _ _ _ _ _ _).2 ⟨(zA5 _ _ _ _).2 (by omega),by omega⟩⟩
theorem zWh {w:World} {a:Option Addr} {m c:Nat} {L:List (Int×Int)} (h:RC w (.slice a m c) L) {i:Nat} {q:Int×Int} (hi:L[i]? = some q) :
 ∃g,a=some ⟨g,0,none⟩/\g<w.heap.size/\w.cell? ⟨g,i*2,none⟩=some (O ii q.1)/\w.cell? ⟨g,i*2+1,none⟩=some (O ii q.2):=by
 obtain ⟨a',cap,e,hle,hc⟩:=Rw.form zK3 h;obtain ⟨g,rfl,hg,hcell⟩:=hc i q hi;cases e;exact ⟨g,rfl,hg,hcell 0 _ rfl,hcell 1 _ rfl⟩
theorem zO6 {w:World} {gp p:Nat} {c s ep:Int} {wb eb:Nat} {W H:Int} {tl:List Nat} {f:Int->Int->Option Int} (hG:Gp w gp p c s ep wb eb) (hw:Wl w p W H tl f) (hg:Grnd w) (ho:Offs w) (kx ky fx fy:Int) (hr:rB W H kx ky=true)
 (hf:has (kx*8) (ky*8) (rS W kx) (rS H ky) fx fy=true) {na:Option Addr} {nn nc:Nat} {NL:List (Int×Int)} (hN:RC w (.slice na nn nc) NL) (hNi:∀q∈NL,inB (kx*8) (ky*8) (rS W kx) (rS H ky) q) (hlen:NL.length<=100) :
 Calls pg 79 #[ptr gp,cel kx ky,cel fx fy,.slice na nn nc] w fun e w'=>∃lv C,e = .returned lv/\Tbl W H tl f c s (kx*8) (ky*8) (rS W kx) (rS H ky) (fx,fy) C/\RE w' lv (zKn C (kx*8) (ky*8) (rS W kx) NL)/\Below w.heap.size w w'/\∀g,lv.ownBlock=some g->w.heap.size<=g:=by
 obtain ⟨hW,hH⟩:=hw.sides;obtain ⟨hi,hi2,hi3⟩:=zKw hW hH hr;have hwi:=zZj hW hH hr
 have hnn:nn=NL.length:=by
  obtain ⟨a',c',e⟩:=zBk hN;cases e;rfl
 subst hnn;obtain ⟨X,hX⟩:=ex ((w.alloc (.cells #[O ii kx,O ii ky] 23)).alloc (.cells #[O ii fx,O ii fy] 23));have B0:Below w.heap.size w X:=hX▸zBe _ _ _;have T0:Two X w.heap.size kx ky:=by rw [<-hX];exact (Two.newAt rfl).alloc
 have T1:Two X (w.heap.size+1) fx fy:=by rw [<-hX];exact Two.newAt (by simp)
 have zX:X.heap.size=w.heap.size+2:=by rw [<-hX];simp
 have HRe:Hid (∀wx,Below X.heap.size X wx->Calls pg 17 #[ptr p,cel kx ky] wx fun e w'=>e = .returned (.tuple #[rct (kx*8) (ky*8) (rS W kx) (rS H ky),.bool true])/\Below wx.heap.size wx w'):=zAb fun wx q=>by
  have:=zFs kx ky (hw.kept (bt B0 q))
  rwa [rV,hr,if_pos rfl] at this
 have HCo:Hid (∀wx,Below X.heap.size X wx->Calls pg 92 #[ptr p,shv c s,cel fx fy,rct (kx*8) (ky*8) (rS W kx) (rS H ky)] wx (zFv W H tl f c s (kx*8) (ky*8) (rS W kx) (rS H ky) fx fy wx)):=zAb fun wx q =>
  zE2 p W H tl f c s fx fy (kx*8) (ky*8) (rS W kx) (rS H ky) wx (hw.kept (bt B0 q)) (hg.kept (bt B0 q)) (ho.kept (bt B0 q)) hW.2 hH.2 hwi hf
 have HK:Hid (∀wx,Below X.heap.size X wx->(wx.cell? ⟨gp,0,none⟩=some (ptr p)/\wx.cell? ⟨gp,1,none⟩=some (O ii c)/\wx.cell? ⟨gp,2,none⟩=some (O ii s))/\(wx.cell? ⟨w.heap.size,0,none⟩=some (O ii kx)/\wx.cell? ⟨w.heap.size,1,none⟩=some (O ii ky))/\wx.cell? ⟨w.heap.size+1,0,none⟩=some (O ii fx)/\wx.cell? ⟨w.heap.size+1,1,none⟩=some (O ii fy)):=zAb fun wx q =>
  ⟨⟨(hG.upto (bt B0 q)).c0,(hG.upto (bt B0 q)).c1,(hG.upto (bt B0 q)).c2⟩,⟨(T0.kept q).1.1,(T0.kept q).1.2⟩,(T1.kept q).1.1,(T1.kept q).1.2⟩
 have HN:Hid (∀wx,Below X.heap.size X wx->RC wx (.slice na NL.length nc) NL):=zAb fun wx q=>hN.upto (bt B0 q);have HX:=zAb hX;have HB:=zAb B0;have Hnum:=zAb (ai hi (ai hi2 (ai hi3 (ai hW hH))));have HNi:=zAb hNi;obtain ⟨ix,hix⟩:=ex (kx*8);obtain ⟨iy,hiy⟩:=ex (ky*8);obtain ⟨iw,hiw⟩:=ex (rS W kx);obtain ⟨ih,hih⟩:=ex (rS H ky);rw [hix,hiy,hiw,hih] at HRe HCo Hnum HNi ⊢;have hd:Below X.heap.size X X.drew:=⟨rfl,rfl,rfl,Nat.le_refl _,fun _ _=>rfl⟩
 have HS:=HK.out X.drew hd;have Hd:=zAb hd;clear hX B0 T0 T1 hG hw hg ho hr hf hN hNi hi hi2 hi3 hwi hW hH hix hiy hiw hih hd;go_enter func79,ntmps79;go_wp2_with (rw [HX.out]);refine zAj ?_;refine zAe (fun wx:World=>(wx.cell? ⟨gp,0,none⟩=some (ptr p)/\wx.cell? ⟨gp,1,none⟩=some (O ii c)/\wx.cell? ⟨gp,2,none⟩=some (O ii s))/\(wx.cell? ⟨w.heap.size,0,none⟩=some (O ii kx)/\wx.cell? ⟨w.heap.size,1,none⟩=some (O ii ky))/\wx.cell? ⟨w.heap.size+1,0,none⟩=some (O ii fx)/\wx.cell? ⟨w.heap.size+1,1,none⟩=some (O ii fy)) [11] (by kernel_rfl) ?_;refine zv 0 5 8 [ptr gp,ptr gp,.pointer (some ⟨gp,0,none⟩),ptr p,cel kx ky] rfl rfl (by kernel_rfl) HS ?_;repeat (refine zc rfl (by rfl) (fun wx hx=>by go_simp) ?_;simp only [zp])
 refine zn ?_;refine zV1 (F:=fun V q=>Below X.heap.size X V/\Four V q 0 0 0 0/\X.heap.size<=q) (G:=?G) ?ways ?then2
 case ways =>
  intro HG;refine zw 5 [9] (by kernel_rfl) ?_;refine readyZ.call rfl rfl (zN0 (by rfl) (by rfl) (by simp only [zj];rfl)) (HRe.out _ Hd.out) ?_ ?_
  ·rintro e Y1 ⟨rfl,hY1⟩;have b1:Below X.heap.size X Y1:=bt Hd.out hY1;have HS1:=HK.out Y1 b1;refine ⟨_,rfl,fun _=>HS1,?_⟩;try simp only [zp]
   refine zv 6 3 8 [.tuple #[rct ix iy iw ih,.bool true],rct ix iy iw ih,.bool true] rfl rfl (by kernel_rfl) HS1 ?_;repeat (refine zc rfl (by rfl) (fun wx hx=>by go_simp) ?_;simp only [zp])
   refine zn ?_;refine zq 9 (by kernel_rfl) rfl rfl (zF7 (by rfl)) (fun _=>HK.out _ (bt b1 (zAh _ _))) ?_;try simp only [zp]
   have hF:Below X.heap.size X (Y1.alloc (.cells #[O ii 0,O ii 0,O ii 0,O ii 0] 65))/\Four (Y1.alloc (.cells #[O ii 0,O ii 0,O ii 0,O ii 0] 65)) Y1.heap.size 0 0 0 0/\X.heap.size<=Y1.heap.size:=⟨bt b1 (zAh _ _),Four.new12 _ _ _ _ _ _,b1.size⟩
   generalize Y1.alloc (.cells #[O ii 0,O ii 0,O ii 0,O ii 0] 65)=V at hF ⊢;generalize Y1.heap.size=q at hF ⊢;exact HG V q hF
  ·refine readyZ.cons rfl rfl (zF7 (by rfl)) (fun _=>HK.out _ (bt Hd.out (zAh _ _))) ?_ readyZ.nil;try simp only [zp]
   have b2:Below X.heap.size X (X.drew.alloc (.cells #[O ii 0,O ii 0,O ii 0,O ii 0] 65)):=bt Hd.out (zAh _ _);have F2:Four (X.drew.alloc (.cells #[O ii 0,O ii 0,O ii 0,O ii 0] 65)) X.drew.heap.size 0 0 0 0:=Four.new12 _ _ _ _ _ _;have hq:X.heap.size<=X.drew.heap.size:=Nat.le_refl _;generalize X.drew.alloc (.cells #[O ii 0,O ii 0,O ii 0,O ii 0] 65)=V0 at b2 F2 ⊢;generalize X.drew.heap.size=q at F2 hq ⊢;refine zw 5 [] (by kernel_rfl) ?_;refine readyZ.call rfl rfl (zN0 (by rfl) (by rfl) (by simp only [zj];rfl)) (HRe.out _ b2) ?_ readyZ.nil;rintro e V ⟨rfl,hV⟩;have b3:Below X.heap.size X V:=bt b2 hV;have HS2:=HK.out V b3;refine ⟨_,rfl,fun _=>HS2,?_⟩;try simp only [zp]
   refine zv 6 3 8 [.tuple #[rct ix iy iw ih,.bool true],rct ix iy iw ih,.bool true] rfl rfl (by kernel_rfl) HS2 ?_;repeat (refine zc rfl (by rfl) (fun wx hx=>by go_simp) ?_;simp only [zp])
   refine zn ?_;exact HG V q ⟨b3,F2.kept hV,hq⟩
 case then2 =>
  rintro V q ⟨bV,FV,hq⟩;have HS3:=HK.out V bV;obtain ⟨Z,hZ⟩:=ex ((((V.setCell ⟨q,0,none⟩ (O ii ix)).setCell ⟨q,1,none⟩ (O ii iy)).setCell ⟨q,2,none⟩ (O ii iw)).setCell ⟨q,3,none⟩ (O ii ih));have FZ:Four Z q ix iy iw ih:=hZ▸FV.set ix iy iw ih;have TZ:Turns (fun j=>j=q) V Z:=hZ▸zB2 V q _ _ _ _;have bZ:Below X.heap.size X Z:=bV.trans (TZ.below (fun k e=>by omega) bV.size);have HS4:=HK.out Z bZ;refine zw 10 [] (by kernel_rfl) ?_;refine readyZ.skip rfl rfl (zNw (by rfl) (by rfl) (by rfl) FV) (fun _=>by rw [hZ];exact HS4) ?_ readyZ.nil;try simp only [zp]
  rw [hZ];refine zq 11 (by kernel_rfl) rfl rfl (zBb (v:=.bool true) (by rfl) (by rfl)) (fun h=>absurd (by decide) h) ?_;try simp only [zp]
  refine zAd (by kernel_rfl) ?_ _;dsimp only [zAv,Exit.then];have hd4:Below Z.heap.size Z Z.drew:=⟨rfl,rfl,rfl,Nat.le_refl _,fun _ _=>rfl⟩
  have HCo2:=zAb (HCo.out Z.drew (bt bZ hd4));obtain ⟨k1,-,k3⟩:=HK.out Z.drew (bt bZ hd4);obtain ⟨⟨z0,z1,z2,z3⟩,-,hqZ⟩:=id FZ;have HS5:(Z.drew.cell? ⟨gp,0,none⟩=some (ptr p)/\Z.drew.cell? ⟨gp,1,none⟩=some (O ii c)/\Z.drew.cell? ⟨gp,2,none⟩=some (O ii s))/\(Z.drew.cell? ⟨w.heap.size+1,0,none⟩=some (O ii fx)/\Z.drew.cell? ⟨w.heap.size+1,1,none⟩=some (O ii fy))/\Z.drew.cell? ⟨q,0,none⟩=some (O ii ix)/\Z.drew.cell? ⟨q,1,none⟩=some (O ii iy)/\Z.drew.cell? ⟨q,2,none⟩=some (O ii iw)/\Z.drew.cell? ⟨q,3,none⟩=some (O ii ih):=⟨k1,k3,z0,z1,z2,z3⟩
  have HbZ:=zAb (ai bZ (ai FZ (ai hq hqZ)));clear HS HS3 HS4 bV FV TZ bZ FZ hZ k1 k3 z0 z1 z2 z3 hd4 HCo HRe hq hqZ;go_wp2_with fail;refine zAj ?_;refine zAe (fun wx:World=>(wx.cell? ⟨gp,0,none⟩=some (ptr p)/\wx.cell? ⟨gp,1,none⟩=some (O ii c)/\wx.cell? ⟨gp,2,none⟩=some (O ii s))/\(wx.cell? ⟨w.heap.size+1,0,none⟩=some (O ii fx)/\wx.cell? ⟨w.heap.size+1,1,none⟩=some (O ii fy))/\wx.cell? ⟨q,0,none⟩=some (O ii ix)/\wx.cell? ⟨q,1,none⟩=some (O ii iy)/\wx.cell? ⟨q,2,none⟩=some (O ii iw)/\wx.cell? ⟨q,3,none⟩=some (O ii ih)) [15] (by kernel_rfl) ?_;refine zv 0 10 8 [ptr gp,ptr gp,.pointer (some ⟨gp,0,none⟩),ptr p,ptr gp,ptr gp,.pointer (some ⟨gp,1,none⟩),shv c s,cel fx fy,rct ix iy iw ih] rfl rfl (by kernel_rfl) HS5 ?_;repeat (refine zc rfl (by rfl) (fun wx hx=>by go_simp) ?_;simp only [zp])
  refine zn ?_;refine zw 10 [] (by kernel_rfl) ?_;refine readyZ.call rfl rfl (zTx (by rfl) (by rfl) (by simp only [zj];rfl)) (HCo2.out) ?_ readyZ.nil;rintro e w2 ⟨va,vn,vc,C,rfl,hb2,⟨hct,hown2⟩,hT⟩;have bw2:Below X.heap.size X w2:=bt HbZ.out.1 ⟨hb2.os,hb2.tape,hb2.output,hb2.size,hb2.block⟩;have F2:Four w2 q ix iy iw ih:=HbZ.out.2.1.kept ⟨hb2.os,hb2.tape,hb2.output,hb2.size,hb2.block⟩;obtain ⟨j1,-,j3⟩:=HK.out w2 bw2;obtain ⟨⟨z0,z1,z2,z3⟩,-,hqZ⟩:=id F2;have HS6:(w2.cell? ⟨gp,0,none⟩=some (ptr p)/\w2.cell? ⟨gp,1,none⟩=some (O ii c)/\w2.cell? ⟨gp,2,none⟩=some (O ii s))/\(w2.cell? ⟨w.heap.size+1,0,none⟩=some (O ii fx)/\w2.cell? ⟨w.heap.size+1,1,none⟩=some (O ii fy))/\w2.cell? ⟨q,0,none⟩=some (O ii ix)/\w2.cell? ⟨q,1,none⟩=some (O ii iy)/\w2.cell? ⟨q,2,none⟩=some (O ii iw)/\w2.cell? ⟨q,3,none⟩=some (O ii ih):=⟨j1,j3,z0,z1,z2,z3⟩
  refine ⟨_,rfl,fun _=>HS6,?_⟩;try simp only [zp]
  refine zv 11 3 8 [.tuple #[.slice va vn vc,O ii 0],.slice va vn vc,O ii 0] rfl rfl (by kernel_rfl) HS6 ?_;repeat (refine zc rfl (by rfl) (fun wx hx=>by go_simp) ?_;simp only [zp])
  refine zn ?_;refine zq 14 (by kernel_rfl) rfl rfl (zBb (v:=.slice va vn vc) (by rfl) (by rfl)) (fun _=>HS6) ?_;try simp only [zp]
  refine zq 15 (by kernel_rfl) rfl rfl (zBb (v:=O ii 0) (by rfl) (by rfl)) (fun h=>absurd (by decide) h) ?_;try simp only [zp]
  refine zAd (by kernel_rfl) ?_ _;dsimp only [zAv,Exit.then]
  have hCl:0<C.length:=by
   rw [hT.1];have h1:=Hnum.out;have:0<ih*iw:=Int.mul_pos (by omega) (by omega);omega
  obtain ⟨gc,cc,hcv,hgc⟩:=hct.form hCl;rw [hcv];rw [hcv] at hct hown2;have HC:=zAb (ai hct hT);have HE:=zAb (ai bw2 (ai F2 (ai HbZ.out.2.2.1 (show ∀j,(Value.slice (some ⟨gc,0,none⟩) C.length cc).ownBlock=some j->X.heap.size<=j from fun j e=>Nat.le_trans HbZ.out.1.size (hown2 j e)))));clear hct hT hown2 hcv hCl hb2 bw2 F2 j1 j3 z0 z1 z2 z3 hqZ HS5 HS6 HCo2 va vn vc;go_wp2_with fail;go_loopw [13,42] (fun l v wr=>∃(i:Nat) (la:Option Addr) (m lc:Nat),l = .slice la m lc/\v = O ii (i:Nat)/\i<=NL.length/\(RE wr (.slice la m lc) (zKn C ix iy iw (NL.take i))/\∀g,(Value.slice la m lc).ownBlock=some g->w2.heap.size<=g)/\Below w2.heap.size w2 wr) (fun _ v _=>NL.length-(intOf v).toNat)
  case atStart=>exact ⟨0,none,0,0,rfl,rfl,Nat.zero_le _,⟨Rw.nil _ _ _ _,fun g e=>by cases e⟩,Below.refl _ _⟩
  case round =>
   obtain ⟨i,la,m,lc,rfl,rfl,hi,⟨hR,hRo⟩,hB⟩:=hrel
   by_cases hlt:i<NL.length
   ·obtain ⟨t,ht⟩:∃t,NL[i]? = some t:=⟨_,List.getElem?_eq_getElem hlt⟩
    obtain ⟨tx,ty⟩:=t;have hBX:Below X.heap.size X wr:=bt HE.out.1 hB;obtain ⟨gn,rfl,hgn,n0,n1⟩:=zWh (HN.out wr hBX) ht;obtain ⟨Y,hY⟩:=ex (wr.alloc (.cells #[O ii tx,O ii ty] 23));have bY:Below wr.heap.size wr Y:=hY▸zAh _ _;have TY:Two Y wr.heap.size tx ty:=by rw [<-hY];exact Two.newAt rfl
    have FY:=HE.out.2.1.kept (bt hB bY);have hq2:=HE.out.2.1.2.2;have hin:=HNi.out (tx,ty) (List.mem_of_getElem? ht);obtain ⟨hi1,hi2,hi3,hW,hH⟩:=Hnum.out;obtain ⟨zy,z,z',hz0,hz1,hz2,hz3⟩:=qAm (ix:=ix) (iy:=iy) (iw:=iw) (ih:=ih) ⟨by omega,by omega,by omega,by omega⟩ hin;have hjl:=zGy hin;simp only at hjl;rw [<-HC.out.2.1] at hjl;obtain ⟨j,hj⟩:=ex (ij ix iy iw tx ty);rw [hj] at hz3 hjl;obtain ⟨mm,hmm⟩:∃mm,C[j]? = some mm:=⟨_,List.getElem?_eq_getElem hjl⟩
    obtain ⟨cj,fj⟩:=(HC.out.1.upto (bt hB bY)).got hmm;have htk:=zO7 (C:=C) (ix:=ix) (iy:=iy) (iw:=iw) ht
    have hF:zO8 C ix iy iw (tx,ty)=if 0<mm then [⟨tx,ty,mm⟩] else []:=by
     unfold zO8;simp only;rw [hj,hmm]
    rw [hF] at htk;obtain ⟨⟨f0,f1,f2,f3⟩,-,-⟩:=id FY;obtain ⟨⟨t0,t1⟩,-,-⟩:=id TY;have hRY:=hR.upto bY;have hml:=zLy C ix iy iw (NL.take i);have hml2:(NL.take i).length<=100:=by rw [List.length_take];omega
    have hki:(i:Int)<(NL.length:Nat):=by omega
    have hji:(j:Int)<(C.length:Nat):=by omega
    have HY:=zAb hY;have HBY:=zAb (bt hB bY);have Htk:=zAb htk;have hnew:wr.heap.size<Y.heap.size:=by rw [<-hY];simp
    by_cases h0:0<mm
    ·obtain ⟨v',w',q1,q2,q3,q4⟩:=zXi hRY ⟨tx,ty,mm⟩ (by omega);obtain ⟨a2,n2,c2,hv2⟩:∃a n c,v' = .slice a n c:=by obtain ⟨a,c,e⟩:=zB3 q2;exact ⟨_,_,_,e⟩
     simp only at q1;have HA:=zAb q1
     have HN2:Hid (RE w' v' (zKn C ix iy iw (NL.take (i+1)))/\(∀g,v'.ownBlock=some g->w2.heap.size<=g)/\Below w2.heap.size w2 w'):=zAb ⟨by rw [Htk.out,if_pos h0];exact q2,fun g e=>by
      have:=HBY.out.size;rcases q3 g e with q|q
      ·exact hRo g q
      ·omega,HBY.out.trans (q4.below (fun k e=>hRo k e) HBY.out.size)⟩
     subst hv2;clear hR hRo hB hBX bY TY FY hin hi1 hi2 hi3 hW hH hmm htk hF hRY hml hml2 q1 q2 q3 q4 ht hgn hjl hj;go_wp2_with (first|(rw [HY.out])|(at_builtin;refine zA0 rfl _ _ 85 rfl _ _ rfl rfl HA.out ?_));go_roundw
     case rel=>exact ⟨i+1,_,_,_,rfl,by go_num,by omega,⟨HN2.out.1,HN2.out.2.1⟩,HN2.out.2.2⟩
     case measure=>simp only [intOf];omega
    ·have HN2:Hid (RE Y (.slice la m lc) (zKn C ix iy iw (NL.take (i+1)))/\(∀g,(Value.slice la m lc).ownBlock=some g->w2.heap.size<=g)/\Below w2.heap.size w2 Y):=zAb ⟨by rw [Htk.out,if_neg h0,List.append_nil];exact hRY,hRo,HBY.out⟩;clear hR hRo hB hBX bY TY FY hin hi1 hi2 hi3 hW hH hmm htk hF hRY hml hml2 ht hgn hjl hj;go_wp2_with (rw [HY.out]);go_roundw
     case rel=>exact ⟨i+1,_,_,_,rfl,by go_num,by omega,⟨HN2.out.1,HN2.out.2.1⟩,HN2.out.2.2⟩
     case measure=>simp only [intOf];omega
   ·have hi':i=NL.length:=by omega
    subst hi';rw [List.take_length] at hR;have HF:=zAb (show ∃lv C,Ending.returned (.slice la m lc) = .returned lv/\Tbl W H tl f c s ix iy iw ih (fx,fy) C/\RE wr lv (zKn C ix iy iw NL)/\Below w.heap.size w wr/\∀g,lv.ownBlock=some g->w.heap.size<=g from ⟨_,C,rfl,HC.out.2,hR,bt HB.out (bt HE.out.1 hB),fun g e=>Nat.le_trans (bt HB.out HE.out.1).size (hRo g e)⟩);clear hR hB hRo HE HC;go_wp2_with fail;refine bodyPost_ret (v:=.slice la m lc) (by simp [results,Tryz.f79,go_sem]) rfl ?_;exact HF.out
attribute [local go_sem] Oper.semAt_some
def flt (l:List (Fin 8)):List (Fin 8):=l.filter (fun i=>decide (i.val<4))
theorem zS5 (l:List (Fin 8)) {k:Fin 8} (h:k.val<4):flt (l++[k])=flt l++[k]:=by simp [flt,List.filter_append,h]
theorem zYp (l:List (Fin 8)) {k:Fin 8} (h:¬k.val<4):flt (l++[k])=flt l:=by simp [flt,List.filter_append,h]
theorem zVp (l:List (Fin 8)):(flt l).length<=l.length:=List.length_filter_le _ _
theorem zVo {a b:List (Fin 8)} (h:a <+: b):flt a <+: flt b:=h.filter _
theorem zVq {p0 l:List (Fin 8)} {t:Fin 8} (hl:l.Pairwise (fun a b=>a.val<b.val)) (h:p0++[t] <+: l) (ht:¬t.val<4):flt (p0++[t])=flt l:=by
 obtain ⟨r,rfl⟩:=h;rw [flt,flt,List.filter_append (p0++[t]) r]
 have hr:r.filter (fun i=>decide (i.val<4))=[]:=by
  rw [List.filter_eq_nil_iff];intro a ha;have h1:=(List.pairwise_append.1 hl).2.2 t (by simp) a ha;rw [decide_eq_true_eq];omega
 rw [hr,List.append_nil]
theorem zQv (x y p q c d:Int):(zAq x y p q c d 8).Pairwise (fun a b=>a.val<b.val):=by
 have h:((List.finRange 8).take 8).Pairwise (fun a b:Fin 8=>a.val<b.val):=by decide
 exact h.filter _
def nbs (W H x y:Int):List (Fin 8):=if rB W H x y=true then flt (zAq x y 0 0 (clN W) (clN H) 8) else []
theorem zEn {β:Type} (B k:Nat) (cs:Array Value) (t:TypeId):OwnFrom B (fun (_:β) X=>X.heap[k]? = some (.cells cs t (0,0))):=fun _ X Y row hs hg hr =>
 (hg.block k (gE.1 hs).1 (fun e=>by
  obtain ⟨-,o,ho,hn⟩:=hr k e.symm;rw [hs] at ho;cases ho
  cases hn)).trans hs
theorem zR2 (n p hq:Nat) (W H x y:Int) (tl:List Nat) (f:Int->Int->Option Int) (w:World) (hn:1<=n) (hP:Boxed w hq 27 (ptr p)) (hC:Two w (hq+1) x y) (hw:Wl w p W H tl f) (ho:Offs w) :
 zGv 88 n 136 #[ptr hq,ptr (hq+1)] (zWn x y) (KB 1) (fun xs=>xs=nbs W H x y) (fun pre=>pre <+: nbs W H x y) 8 w:=fun l J Jx V hV hJ hJx hY h0=>by
 refine callsIn_of_wp_marks func136 rfl trivial ?_ rfl;simp only [ntmps136,List.size_toArray,List.length_cons,List.length_nil,Nat.reduceAdd,Nat.reduceSub,Array.replicate_succ,Array.replicate_zero,List.push_toArray,List.append_toArray,List.nil_append,List.cons_append];obtain ⟨L,hL⟩:=ex (nbs W H x y);rw [hL];unfold nbs rB at hL;obtain ⟨V0,hV0⟩:=ex (V.alloc (.cells #[.func (.yield l) #[] #[]] 206));have B0:Below V.heap.size V V0:=by rw [<-hV0];exact zAh _ _
 have Y0:Boxed V0 V.heap.size 206 (.func (.yield l) #[] #[]):=by rw [<-hV0];exact Boxed.new V 206 _
 have z0:V0.heap.size=V.heap.size+1:=by rw [<-hV0];simp
 have hW0:Below w.heap.size w V0:=bt hV B0;have P0:=zAi hP hW0 hP.lt;have c0:=P0.cell;have C0:=hC.kept hW0;have O0:=ho.kept hW0;have HC:=zAb (zIj (hw.kept hW0));generalize clN W=a at HC hL;generalize clN H=b at HC hL;have HL:=zAb hL;clear hw P0 hP hC ho hL;gi_wp2_with fail;refine ⟨trivial,?_⟩;refine (callsIn_wide.2 HC.out).mono ?_;rintro e w1 ⟨rfl,hb1⟩;clear hV0 HC c0;obtain ⟨w2,h2⟩:=ex (w1.alloc (.cells #[O ii 0,O ii 0,O ii a,O ii b] 65));have F2:Four w2 w1.heap.size 0 0 a b:=by rw [<-h2];exact Four.new12 _ _ _ _ _ _
 have B2:Below V0.heap.size V0 w2:=bt hb1 (by rw [<-h2];exact zAh _ _);have C2:=C0.kept B2;have O2:=O0.kept B2;have Y2:=zAi Y0 B2 Y0.lt;have hs1:=hb1.size;clear hb1 C0 O0 Y0;obtain ⟨⟨f0,f1,f2,f3⟩,-,-⟩:=id F2;obtain ⟨⟨t0,t1⟩,-,-⟩:=id C2;gi_wp2_with fail;clear h2;cases hr:has 0 0 a b x y
 ·have HI:=zAb hr;clear hr;refine ⟨trivial,?_⟩;refine (callsIn_wide.2 (zB5 w2 HI.out)).mono ?_;rintro e w3 ⟨rfl,hb3⟩;have HJ:=zAb (zCj hJ h0 (bt B0 (bt B2 hb3)));clear f0 f1 f2 f3 t0 t1 h0 hY;gi_wp2_with fail;exact ⟨.tuple #[],by simp [results,Tryz.f136,go_sem],⟨_,rfl⟩,.inl ⟨[],by rw [<-HL.out,HI.out];rfl,HJ.out⟩⟩
 ·have HI:=zAb hr;clear hr;refine ⟨trivial,?_⟩;refine (callsIn_wide.2 (zB5 w2 HI.out)).mono ?_;rintro e w3 ⟨rfl,hb3⟩;clear f0 f1 f2 f3 t0 t1;have C3:=C2.kept hb3;have F3:=F2.kept hb3;have O3:=O2.kept hb3;have Y3:=zAi Y2 hb3 Y2.lt;have B3:=bt B2 hb3;obtain ⟨⟨f0,f1,f2,f3⟩,-,-⟩:=id F3;obtain ⟨⟨t0,t1⟩,-,-⟩:=id C3;gi_wp2_with fail;refine ⟨trivial,?_⟩;refine (callsIn_wide.2 (zEa _ _ _ _ _ _ _)).mono ?_;rintro e X0 ⟨rfl,hX0⟩;have C4:Two X0 w3.heap.size x y:=by rw [hX0];exact (Two.newAt rfl).alloc
  have F4:Four X0 (w3.heap.size+1) 0 0 a b:=by rw [hX0];exact Four.newAt12 _ _ _ _ _ (by simp)
  have o4:X0.heap[w3.heap.size]? = some (.cells #[O ii x,O ii y] 23 (0,0)):=by rw [hX0];exact (Below.heap_alloc _ _ _ (by simp)).trans (World.alloc_heap_new w3 _)
  have o5:X0.heap[w3.heap.size+1]? = some (.cells #[O ii 0,O ii 0,O ii a,O ii b] 65 (0,0)):=by rw [hX0];have:=World.alloc_heap_new (w3.alloc (.cells #[O ii x,O ii y] 23)) (.cells #[O ii 0,O ii 0,O ii a,O ii b] 65);rwa [World.size_alloc] at this
  have B4':Below w3.heap.size w3 X0:=by rw [hX0];exact zBe _ _ _
  have z4:X0.heap.size=w3.heap.size+2:=by rw [hX0];simp
  have O4:=O3.kept B4';have Y4:=zAi Y3 B4' Y3.lt;have B4:=bt B3 B4';have hs3:=hb3.size;have hs4:=B4.size;clear f0 f1 f2 f3 t0 t1 hX0 B4' hb3;gi_wp2_with fail;have j1:J [] X0:=zCj hJ h0 (bt B0 B4);have hr0:=O4.1;have hw2:w2.heap.size<=w3.heap.size:=hs3;have hw1:V0.heap.size<=w2.heap.size:=B2.size
  refine wpIn_rangeFunc_ownH rfl hn (gf:=149) (lb:=#[ptr w3.heap.size,ptr (w3.heap.size+1)]) rfl trivial (enters_of func149 (by kernel_rfl) rfl)
   (zIm (n-1) w3.heap.size (w3.heap.size+1) x y 0 0 a b X0 O4 C4 F4) (fun h k=>h.trans k) (qAi (by omega) (by omega) (by omega)) (Below.refl _ _) (fun _=>rfl)
   (fun pre X=>(J (flt pre) X/\X0.heap.size<=X.heap.size)/\Boxed X V.heap.size 206 (.func (.yield l) #[] #[])/\(X.heap[w3.heap.size]? = some (.cells #[O ii x,O ii y] 23 (0,0))/\X.heap[w3.heap.size+1]? = some (.cells #[O ii 0,O ii 0,O ii a,O ii b] 65 (0,0))))
   (fun c pre X=>c = .ret/\(Jx (flt pre) X\/(J (flt pre) X/\∃p0 t,pre=p0++[t]/\¬(t:Fin 8).val<4)))
   (OwnFrom.and (OwnFrom.and (fun s X Y row hs hg hr=>zEh hJ (by omega) (flt s) X Y row hs hg hr) (zFb _ _)) (OwnFrom.and (Own.from (boxed_own _ _ _) _) (OwnFrom.and (zEn _ _ _ _) (zEn _ _ _ _))))
   (fun c s X Y row hs hg hr=>⟨hs.1,hs.2.imp (fun h=>zEh hJx (by omega) (flt s) X Y row h hg hr) (fun h=>⟨zEh hJ (by omega) (flt s) X Y row h.1 hg hr,h.2⟩)⟩)
   ⟨⟨j1,Nat.le_refl _⟩,Y4,o4,o5⟩
   (fun t a' X=>∃Bx,X0.heap.size<=Bx/\Two X Bx (x+dX t.val) (y+dY t.val)/\a'={ tmps:=#[.func (.yield l) #[] #[],ptr hq,ptr (hq+1),ptr V.heap.size,ptr w1.heap.size,O ii (t.val:Int),ptr Bx,ptr p,rct 0 0 a b,rct 0 0 a b,cel x y,.bool true,.bool false,cel x y,rct 0 0 a b,.func (.func 149) #[] #[ptr w3.heap.size,ptr (w3.heap.size+1)],O ii (t.val:Int),cel (x+dX t.val) (y+dY t.val),undef,undef,undef,undef,undef,undef,undef,undef,undef],defers:=[] })
   (fun q a' _ X Y row hs hg hr=>by obtain ⟨Bx,e1,e2,e3⟩:=hs;exact ⟨Bx,e1,e2.own hg (fun r e=>(hr r e).2),e3⟩)
   ?assign ?body ?done ?stop
  case assign =>
   rintro l' pre q X K ⟨⟨hJX,hzX⟩,bY,oX4,oX5⟩ hK;gi_wp2
   exact hK _ _ ((KeepsOthers.alloc _ _).from _) (KA.below (zAh _ _) (by omega) (by omega) (by omega)) ⟨⟨zCj hJ hJX (zAh _ _),by simp;omega⟩,bY.alloc _,(Below.heap_alloc _ _ _ (gE.1 oX4).1).trans oX4,(Below.heap_alloc _ _ _ (gE.1 oX5).1).trans oX5⟩ ⟨X.heap.size,by omega,Two.newAt rfl,rfl⟩
  case body =>
   rintro l' pre q a' X hl' ⟨r,hrr⟩ ⟨⟨hJX,hzX⟩,bY,oX4,oX5⟩ ⟨Bx,hBx,bX,rfl⟩ hlt;have cY:=bY.cell;obtain ⟨⟨d0,d1⟩,-,-⟩:=id bX
   by_cases h4:q.val<4
   ·obtain ⟨fn,tmps,asg,bd,hy,hR⟩:=hY (flt pre) q X hJX (Nat.lt_of_le_of_lt (zVp pre) hlt);have HJ:=zAb hJX;clear hJX;dsimp only [zWn] at hy;have h4i:¬(3:Int)<((q.val:Nat):Int):=by omega
    have h4b:decide ((3:Int)<((q.val:Nat):Int))=false:=decide_eq_false h4i;gi_wp2_with fail;refine ⟨fun h=>(by cases h),?_⟩;refine (zI1 _ hR).mono ?_;rintro e Y ⟨hk,(⟨rfl,hJ3,hk3⟩|⟨rfl,hJx3⟩)⟩
    ·have HJ3:=zAb hJ3;clear hJ3 hR hy;gi_wp2_with fail;exact ⟨(hk.mono (by omega)).from,⟨(hk.at (by omega) oX4 rfl).trans oX4.symm,(hk.at (by omega) oX5 rfl).trans oX5.symm,hk3⟩,⟨by rw [zS5 pre h4];exact HJ3.out,Nat.le_trans hzX hk.1⟩,hk.at (Nat.le_refl _) bY rfl,hk.at (by omega) oX4 rfl,hk.at (by omega) oX5 rfl⟩
    ·have HJ3:=zAb hJx3;clear hJx3 hR hy;gi_wp2_with fail;exact ⟨(hk.mono (by omega)).from,rfl,.inl (by rw [zS5 pre h4];exact HJ3.out)⟩
   ·have h4i:(3:Int)<((q.val:Nat):Int):=by omega
    have h4b:decide ((3:Int)<((q.val:Nat):Int))=true:=decide_eq_true h4i;have HJ:=zAb hJX;clear hJX;gi_wp2_with fail;refine ⟨fun f hf=>(by cases hf),?_⟩;gi_wp2_with fail;exact ⟨KeepsFrom.refl _ _,rfl,.inr ⟨by rw [zYp pre h4];exact HJ.out,pre,q,rfl,h4⟩⟩
  case done =>
   rintro D xs X hD rfl ⟨⟨hJX,hzX⟩,bY,oX4,oX5⟩ hK;have HE:=zAb (hJ _ _ _ (some D) hJX (grownBy_putObj' X D (.deferred none)) (fun r e=>by cases e;exact ⟨by omega,_,hK,rfl⟩));clear hJX;gi_wp2_with fail;refine ⟨by simp,.inl ⟨_,_,rfl,run_takeDeferred hK,?_⟩⟩;refine ⟨.tuple #[],by simp [results,Tryz.f136,go_sem],⟨_,rfl⟩,.inl ⟨flt (zAq x y 0 0 a b 8),by rw [<-HL.out,HI.out];rfl,HE.out⟩⟩
  case stop =>
   rintro D c pre X hD hpre ⟨rfl,hJX⟩ hK;rcases hJX with hJX|⟨hJX,p0,t,rfl,ht⟩
   ·have HE:=zAb (hJx _ _ _ (some D) hJX (grownBy_putObj' X D (.deferred none)) (fun r e=>by cases e;exact ⟨by omega,_,hK,rfl⟩));clear hJX;gi_wp2
    refine ⟨by simp,.inl ⟨_,_,rfl,run_takeDeferred hK,?_⟩⟩;exact ⟨.tuple #[],by simp [results,Tryz.f136,go_sem],⟨_,rfl⟩,.inr ⟨flt pre,by rw [<-HL.out,HI.out];exact zVo hpre,HE.out⟩⟩
   ·have HE:=zAb (hJ _ _ _ (some D) hJX (grownBy_putObj' X D (.deferred none)) (fun r e=>by cases e;exact ⟨by omega,_,hK,rfl⟩));clear hJX;gi_wp2
    refine ⟨by simp,.inl ⟨_,_,rfl,run_takeDeferred hK,?_⟩⟩;exact ⟨.tuple #[],by simp [results,Tryz.f136,go_sem],⟨_,rfl⟩,.inl ⟨flt (p0++[t]),by rw [<-HL.out,HI.out];exact zVq (zQv _ _ _ _ _ _) hpre ht,HE.out⟩⟩
section
attribute [local go_sem] Oper.semAt_some
theorem zTy:Rcl 107:=zl fun _ _=>by go_simp
abbrev zC8:Value:=.slice none 0 0
theorem zI9 {z:Value} {w:World} {b:Nat} {K:List (Int×Int)} {F:Int->Int->Value} (h:MapS z w b K F) {g t:Nat} {cur:Array Value} {fz:Nat×Nat} (hg:w.heap[g]? = some (.cells cur t fz)):g≠b:=by
 rintro rfl;obtain ⟨es,clock,hb⟩:=h.blk;rw [hg] at hb;cases hb
structure AcM (B:Nat) (Y:World) (mb:Nat) (K:List (Int×Int)) (F:Int->Int->Value) (E:Int×Int->List E3):Prop where
 mp:MapS zC8 Y mb K F
 rows:∀x y,RE Y (F x y) (E (x,y))
 apart:∀x y u v g,(F x y).ownBlock=some g->(F u v).ownBlock=some g->x=u/\y=v
 own:∀x y g,(F x y).ownBlock=some g->B<=g
section
variable {B:Nat} {Y Y':World} {mb:Nat} {K:List (Int×Int)} {F:Int->Int->Value} {E:Int×Int->List E3}
theorem AcM.ne (h:AcM B Y mb K F E) {x y:Int} {g:Nat} (hg:(F x y).ownBlock=some g):g≠mb:=by
 obtain ⟨cur,hc⟩:=(h.rows x y).blk hg;exact zI9 h.mp hc
theorem AcM.lt (h:AcM B Y mb K F E) {x y:Int} {g:Nat} (hg:(F x y).ownBlock=some g):g<Y.heap.size:=by
 obtain ⟨cur,hc⟩:=(h.rows x y).blk hg;exact (gE.1 hc).1
theorem AcM.kept {S:Nat->Prop} (h:AcM B Y mb K F E) (ht:Turns S Y Y') (hb:¬S mb) (ho:∀x y g,(F x y).ownBlock=some g->¬S g):AcM B Y' mb K F E:=
 ⟨h.mp.kept ht hb,fun x y=>(h.rows x y).kept ht (fun g e=>ho x y g e),h.apart,h.own⟩
theorem AcM.upto (h:AcM B Y mb K F E) (hb:Below Y.heap.size Y Y'):AcM B Y' mb K F E:=h.kept (S:=NoB) (Turns.of_below hb) id (fun _ _ _ _=>id)
def zHn (E:Int×Int->List E3) (q:Int×Int) (e:E3):Int×Int->List E3:=fun r=>if r=q then E q++[e] else E r
theorem AcM.add (h:AcM B Y mb K F E) {x y:Int} (tx ty:Int) (hx:W64 x) (hy:W64 y) (hlen:K.length<=1000) (hE:(E (x,y)).length<=1000) (hBY:B<=Y.heap.size) :
 ∃st w1 v2 w2 w3,(Instr.mapEntry 31 (.map (some mb)) (cel x y)).run pg (Y.alloc (.cells #[O ii tx,O ii ty,O ii 10] 88)) = .ok (.tuple #[F x y,O ii (st:Nat)]) w1/\
  (Builtin.append_ #[85,85] 85 #[F x y,.slice (some ⟨Y.heap.size,0,none⟩) 1 1]).run pg w1 = .ok v2 w2/\(Instr.entryStore 31 (.map (some mb)) (O ii (st:Nat)) v2).run pg w2 = .ok () w3/\
  AcM B w3 mb (zDh K (x,y)) (zC1 F x y v2) (zHn E (x,y) ⟨tx,ty,10⟩)/\Turns (fun k=>k=mb\/(F x y).ownBlock=some k) Y w3:=by
 have hmb:=h.mp.lt;have b1:=zAh Y (.cells #[O ii tx,O ii ty,O ii 10] 88);have zY1:(Y.alloc (.cells #[O ii tx,O ii ty,O ii 10] 88)).heap.size=Y.heap.size+1:=by simp
 have hnew:=heap_alloc_new Y (.cells #[O ii tx,O ii ty,O ii 10] 88);have h1:=h.upto b1;generalize Y.alloc (.cells #[O ii tx,O ii ty,O ii 10] 88)=Y1 at b1 zY1 hnew h1 ⊢;obtain ⟨st,w1,r1,T1,z1,back⟩:=h1.mp.entry Tryz.underlying31 (fun u=>by kernel_rfl) hx hy (by unfold maxLen;omega);have hF1:=(h1.rows x y).kept T1 (fun g e=>h1.ne e);have hn1:=T1.same (show ¬Y.heap.size=mb by omega) hnew
 obtain ⟨v2,w2,r2,q2,q3,q4⟩:=zLp (c:=1) hF1 (M:=[⟨tx,ty,10⟩]) (a:=⟨Y.heap.size,0,none⟩) (fun j u hu=>by
  rw [Addr.add_lit,Nat.zero_add,cell_of_row _ Y.heap.size j _ _ _ hn1]
  simpa [E3.cs] using hu) (by simp;omega)
 have hno:¬(F x y).ownBlock=some mb:=fun e=>h1.ne e rfl;obtain ⟨w3,r3,m3,T3⟩:=back w2 v2 (q4.block mb (by omega) hno) (zIc q2)
 have hv2:∀g,v2.ownBlock=some g->g≠mb:=fun g e=>by
  obtain ⟨cur,hc⟩:=q2.blk e;rintro rfl;obtain ⟨es,clock,hm⟩:=m3.blk;obtain ⟨es1,clock1,hm1⟩:=h1.mp.blk;rcases q3 g e with q|q
  ·exact h1.ne q rfl
  ·omega
 have TA:Turns (fun k=>k=mb\/(F x y).ownBlock=some k) Y w3:=(Turns.of_below b1).trans (((T1.mono (fun k _ e => .inl (.inl e))).trans (q4.mono (fun k _ e => .inl (.inl (.inr e))))).trans (T3.mono (fun k _ e => .inl (.inl (.inl e)))));have hown2:∀g,v2.ownBlock=some g->(F x y).ownBlock=some g\/Y.heap.size<=g:=fun g e=>(q3 g e).imp id (fun q=>by omega);refine ⟨st,w1,v2,w2,w3,r1,r2,r3,⟨m3,fun u v=>?_,fun a b u v g e1 e2=>?_,fun u v g e=>?_⟩,TA⟩
 ·unfold zC1 zHn
  by_cases e:u=x/\v=y
  ·rw [if_pos e,e.1,e.2,if_pos rfl];exact q2.kept T3 (fun g e=>hv2 g e)
  ·rw [if_neg e,if_neg (fun q=>e (by simpa using q))];exact (h.rows u v).kept TA (fun g e1 e2=>e2.elim (fun q=>h.ne e1 q) (fun q=>e (by obtain ⟨e3,e4⟩:=h.apart _ _ _ _ _ e1 q;exact ⟨e3,e4⟩)))
 ·unfold zC1 at e1 e2
  by_cases ha:a=x/\b=y<;>by_cases hu:u=x/\v=y
  ·exact ⟨ha.1.trans hu.1.symm,ha.2.trans hu.2.symm⟩
  ·rw [if_pos ha] at e1;rw [if_neg hu] at e2;rcases hown2 g e1 with q|q
   ·obtain ⟨e3,e4⟩:=h.apart _ _ _ _ _ e2 q;exact absurd ⟨e3,e4⟩ hu
   ·have:=h.lt e2;omega
  ·rw [if_neg ha] at e1;rw [if_pos hu] at e2;rcases hown2 g e2 with q|q
   ·obtain ⟨e3,e4⟩:=h.apart _ _ _ _ _ e1 q;exact absurd ⟨e3,e4⟩ ha
   ·have:=h.lt e1;omega
  ·rw [if_neg ha] at e1;rw [if_neg hu] at e2;exact h.apart _ _ _ _ _ e1 e2
 ·unfold zC1 at e
  by_cases hu:u=x/\v=y
  ·rw [if_pos hu] at e;rcases hown2 g e with q|q
   ·exact h.own _ _ _ q
   ·omega
  ·rw [if_neg hu] at e;exact h.own _ _ _ e
end
def acE (L:List Q4) (q:Int×Int):List E3:=(L.filter (fun t=>decide (t.A=q))).map (fun t=>⟨t.a,t.b,10⟩)
theorem zSb (L:List Q4) (t:Q4):acE (L++[t])=zHn (acE L) t.A ⟨t.a,t.b,10⟩:=by
 funext q
 unfold acE zHn;rw [List.filter_append,List.map_append,List.filter_cons]
 by_cases e:q=t.A
 ·subst e;simp
 ·rw [if_neg e];have:decide (t.A=q)=false:=decide_eq_false (fun h=>e h.symm);simp [this]
theorem zP7 (L:List Q4) (q:Int×Int):(acE L q).length<=L.length:=by
 unfold acE;rw [List.length_map];exact List.length_filter_le _ _
def AcS (B:Nat) (Y:World) (mb:Nat) (L:List Q4):Prop:=∃K F,AcM B Y mb K F (acE L)/\(∀q,q∈K↔∃t∈L,t.A=q)/\K.length<=L.length
theorem AcS.kept {B:Nat} {Y Y':World} {mb:Nat} {L:List Q4} {S:Nat->Prop} (h:AcS B Y mb L) (ht:Turns S Y Y') (hb:¬S mb) (ho:∀g cur,Y.heap[g]? = some (.cells cur 88 (0,0))->¬S g):AcS B Y' mb L:=by
 obtain ⟨K,F,h1,h2,h3⟩:=h;exact ⟨K,F,h1.kept ht hb (fun x y g e=>by obtain ⟨cur,hc⟩:=(h1.rows x y).blk e;exact ho g cur hc),h2,h3⟩
theorem AcS.add {B:Nat} {Y:World} {mb:Nat} {L:List Q4} (h:AcS B Y mb L) (t:Q4) (hx:W64 t.x) (hy:W64 t.y) (hlen:L.length<=500) (hBY:B<=Y.heap.size) :
 ∃fv st w1 v2 w2 w3,(∃a n c,fv = .slice a n c)/\(∃a n c,v2 = .slice a n c)/\(Instr.mapEntry 31 (.map (some mb)) (cel t.x t.y)).run pg (Y.alloc (.cells #[O ii t.a,O ii t.b,O ii 10] 88)) = .ok (.tuple #[fv,O ii (st:Nat)]) w1/\
  (Builtin.append_ #[85,85] 85 #[fv,.slice (some ⟨Y.heap.size,0,none⟩) 1 1]).run pg w1 = .ok v2 w2/\(Instr.entryStore 31 (.map (some mb)) (O ii (st:Nat)) v2).run pg w2 = .ok () w3/\
  AcS B w3 mb (L++[t])/\∃So:Nat->Prop,Turns So Y w3/\∀k,So k->k=mb\/(∃cur,Y.heap[k]? = some (.cells cur 88 (0,0))/\B<=k):=by
 obtain ⟨K,F,h1,h2,h3⟩:=h;obtain ⟨st,w1,v2,w2,w3,r1,r2,r3,m,T⟩:=h1.add t.a t.b hx hy (by omega) (by have:=zP7 L (t.x,t.y);omega) hBY;have hs:∀{w:World} {v:Value} {l:List E3},RE w v l->∃a n c,v = .slice a n c:=fun h=>by obtain ⟨a,c,e⟩:=zB3 h;exact ⟨_,_,_,e⟩
 have hv2:=hs (m.rows t.x t.y);rw [show zC1 F t.x t.y v2 t.x t.y=v2 by simp [zC1]] at hv2;refine ⟨F t.x t.y,st,w1,v2,w2,w3,hs (h1.rows _ _),hv2,r1,r2,r3,⟨zDh K (t.x,t.y),zC1 F t.x t.y v2,?_,fun q=>?_,?_⟩,_,T,fun k hk=>hk.imp id (fun e=>?_)⟩
 ·rw [zSb];exact m
 ·rw [zCq,h2];constructor
  ·rintro (⟨u,hu,e⟩|rfl)
   ·exact ⟨u,List.mem_append_left _ hu,e⟩
   ·exact ⟨t,by simp,rfl⟩
  ·rintro ⟨u,hu,e⟩;rcases List.mem_append.1 hu with hu|hu
   ·exact .inl ⟨u,hu,e⟩
   ·simp at hu;subst hu;exact .inr e.symm
 ·rw [List.length_append,List.length_singleton];unfold zDh
  split
  ·omega
  ·rw [List.length_append,List.length_singleton];omega
 ·obtain ⟨cur,hc⟩:=(h1.rows _ _).blk e;exact ⟨cur,hc,h1.own _ _ _ e⟩
theorem zVd {W H x y:Int} (hW:1<=W/\W<=128) (hH:1<=H/\H<=128) (h:(0<=x/\x<W)/\0<=y/\y<H):rB W H (x/8) (y/8)=true:=(zDf hW hH).2 (by omega)
theorem zY4 {S:Int->Int->Bool} {W H kx ky:Int} (hW:1<=W/\W<=128) (hH:1<=H/\H<=128) (hS:∀u v,S u v=true->(0<=u/\u<W)/\0<=v/\v<H) (hr:rB W H kx ky=false):acL S W H kx ky=[]:=by
 refine List.eq_nil_iff_forall_not_mem.2 (fun t ht=>?_);obtain ⟨d,hd,ht⟩:=zKf.1 ht;obtain ⟨h1,-,-,h4,-⟩:=zC6 hW hH hS hd ht;have:=zVd hW hH (hS _ _ h4);rw [h1.1,h1.2,hr] at this;cases this
theorem zUk {S:Int->Int->Bool} {W H kx ky:Int} (hW:1<=W/\W<=128) (hH:1<=H/\H<=128) (hS:∀u v,S u v=true->(0<=u/\u<W)/\0<=v/\v<H):(nbs W H kx ky).flatMap (fun d=>zFa S W H kx ky d.val)=acL S W H kx ky:=by
 cases hr:rB W H kx ky
 ·rw [zY4 hW hH hS hr];unfold nbs;rw [hr,if_neg (by decide)];rfl
 obtain ⟨hx,hy⟩:=(zDf hW hH).1 hr
 have hno:∀d:Fin 8,d.val<4->inn kx ky 0 0 (clN W) (clN H) d.val=false->zFa S W H kx ky d.val=[]:=fun d hd hf=>by
  refine List.eq_nil_iff_forall_not_mem.2 (fun t ht=>?_);obtain ⟨h1,h2,h3,h4,h5⟩:=zC6 hW hH hS hd ht;have h6:=hS _ _ h5;have dx:=zFu d.val;have dy:=zFt d.val
  have:inn kx ky 0 0 (clN W) (clN H) d.val=true:=by
   unfold inn;rw [Bool.and_eq_true];refine ⟨?_,(zBz _ _ _ _ _ _).2 ⟨(zA5 _ _ _ _).2 (by unfold clN;omega),by unfold clN;omega⟩⟩;unfold sB;rw [Bool.and_eq_true,Bool.and_eq_true,zBq,zBq,zD9];refine ⟨⟨⟨by omega,by omega⟩,by omega,by omega⟩,?_⟩;rw [Int.toNat_natCast];omega
  rw [hf] at this;cases this
 unfold nbs;rw [if_pos hr];unfold flt zAq acL;have hl:(List.finRange 8).take 8=[0,1,2,3,4,5,6,7]:=by decide
 rw [hl]
 have key:∀l:List (Fin 8),(∀d∈l,d.val<4)->∀r:List (Fin 8),((l.filter (fun i=>inn kx ky 0 0 (clN W) (clN H) i.val)).filter (fun i=>decide (i.val<4))).flatMap (fun d=>zFa S W H kx ky d.val)=l.flatMap (fun d=>zFa S W H kx ky d.val):=fun l hl r=>by
  induction l with
  |nil=>rfl
  |cons d l ih =>
   have hd:=hl d (List.mem_cons_self ..);have ih':=ih (fun e he=>hl e (List.mem_cons_of_mem _ he));rw [List.filter_cons];cases hi:inn kx ky 0 0 (clN W) (clN H) d.val
   ·simp only [Bool.false_eq_true,if_false];rw [ih',List.flatMap_cons,hno d hd hi,List.nil_append]
   ·simp only [if_true];rw [List.filter_cons];simp only [hd,decide_true,if_true];rw [List.flatMap_cons,List.flatMap_cons,ih']
 have h2:([0,1,2,3,4,5,6,7]:List (Fin 8))=[0,1,2,3]++[4,5,6,7]:=rfl;rw [h2,List.filter_append,List.filter_append,List.flatMap_append,key [0,1,2,3] (by decide) []]
 have h3:(([4,5,6,7]:List (Fin 8)).filter (fun i=>inn kx ky 0 0 (clN W) (clN H) i.val)).filter (fun i=>decide (i.val<4))=[]:=by
  rw [List.filter_filter];refine List.filter_eq_nil_iff.2 (fun d hd=>?_);have:¬d.val<4:=by simp at hd;rcases hd with rfl|rfl|rfl|rfl<;>decide
  simp [this]
 rw [h3];simp;rfl
theorem zR7 (p:Nat) (x y:Int) (w:World):Calls pg 107 #[ptr p,cel x y] w fun e w'=>e = .returned (.func (.func 136) #[] #[ptr w.heap.size,ptr (w.heap.size+1)])/\w'=(w.alloc (.cells #[ptr p] 27)).alloc (.cells #[O ii x,O ii y] 23):=by
 go_enter func107,ntmps107;go_wp2_with fail;go_ret;exact ⟨rfl,rfl⟩
end
end Go.Proofs.YtejjcenhjpjefaaGreatDoor
