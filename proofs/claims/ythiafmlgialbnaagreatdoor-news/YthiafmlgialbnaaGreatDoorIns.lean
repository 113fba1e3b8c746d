import Derived.Test.YthiafmlgialbnaaGreatDoorDRun
import Derived.Test.YthiafmlgialbnaaGreatDoorDCst
import Derived.Test.YthiafmlgialbnaaGreatDoorCmp
import Derived.Test.YthiafmlgialbnaaGreatDoorKeys
import Derived.Test.YthiafmlgialbnaaGreatDoorHeldIn
set_option linter.all false
set_option maxRecDepth 1000000
set_option maxHeartbeats 64000000
open Go.Proofs.Tryz
open Go.Proofs.Tryz renaming prog->pg
open Array renaming getElem?_eq_some_iff->gE
open And renaming intro->ai
open Go.Value renaming int->O
open Go.IntKind renaming i64->ii
namespace Go.Proofs.YthiafmlgialbnaaGreatDoor
open Go.RowKit Go.Shelf
section
theorem zIt {op:Nat->Bool}:∀i,(∀r∈(zBi op i).1,∀j,r.1<=j->j<r.1+r.2->op j=true)/\(zBi op i).1.Pairwise (fun r r'=>r.1+r.2<r'.1+1)
 |0=>⟨fun r h=>absurd h List.not_mem_nil,List.Pairwise.nil⟩
 |i+1=>by
  obtain ⟨h1,h2⟩:=zIt (op:=op) i;obtain ⟨k1,k2,-⟩:=zDd op i;cases ho:op i
  ·rw [zDn ho];exact ⟨h1,h2⟩
  ·cases hb:(zBi op i).2
   ·rw [zEs ho hb];refine ⟨fun r hr j hj hj'=>?_,List.pairwise_append.2 ⟨h2,by simp,fun r hr r' hr'=>?_⟩⟩
    ·rcases List.mem_append.1 hr with hr|hr
     ·exact h1 r hr j hj hj'
     ·simp at hr;subst hr;simp only at hj hj';rw [show j=i by omega];exact ho
    ·simp at hr';subst hr';have:=(k2 r hr).2;simp only;omega
   ·obtain ⟨pre,a,n,hl,han⟩:=k1 hb;rw [zGx ho hb hl];rw [hl] at h1 h2 k2;refine ⟨fun r hr j hj hj'=>?_,?_⟩
    ·rcases List.mem_append.1 hr with hr|hr
     ·exact h1 r (List.mem_append_left _ hr) j hj hj'
     ·simp at hr;subst hr;simp only at hj hj'
      by_cases e:j=i
      ·rw [e];exact ho
      ·exact h1 (a,n) (by simp) j hj (by simp only;omega)
    ·obtain ⟨p1,-,p3⟩:=List.pairwise_append.1 h2;refine List.pairwise_append.2 ⟨p1,by simp,fun r hr r' hr'=>?_⟩;simp at hr';subst hr';have:=p3 r hr (a,n) (by simp);exact this
def Q4.swap (t:Q4):Q4:=⟨t.a,t.b,t.x,t.y⟩
abbrev Q4.A (t:Q4):Int×Int:=(t.x,t.y)
abbrev Q4.B (t:Q4):Int×Int:=(t.a,t.b)
def zF0 (S:Int->Int->Bool) (W H kx ky:Int) (d:Nat):List Q4:=match d with
 |0=>ptQ S W H kx ky 0
 |1=>ptQ S W H kx ky 1
 |2=>(ptQ S W H (kx-1) ky 0).map Q4.swap
 |3=>(ptQ S W H kx (ky-1) 1).map Q4.swap
 |_=>[]
def acL (S:Int->Int->Bool) (W H kx ky:Int):List Q4:=[0,1,2,3].flatMap (zF0 S W H kx ky)
section
variable {S:Int->Int->Bool} {W H kx ky:Int}
theorem zBb (hW:1<=W/\W<=128) (hH:1<=H/\H<=128) (hS:∀u v,S u v=true->(0<=u/\u<W)/\0<=v/\v<H) {d:Int} (hd:d=0\/d=1) {t:Q4} (ht:t∈ptQ S W H kx ky d) :
 rB W H kx ky=true/\(t.x/8=kx/\t.y/8=ky)/\(t.a=t.x+dX d.toNat/\t.b=t.y+dY d.toNat)/\(t.a/8=kx+dX d.toNat/\t.b/8=ky+dY d.toNat)/\S t.x t.y=true/\S t.a t.b=true:=by
 unfold ptQ btL rnR at ht
 split at ht
 ·rename_i hr;obtain ⟨r,hr1,rfl⟩:=List.mem_map.1 ht;have hk:=(zDd (opB S d (bX W kx d) (bY H ky d)) 8).2.1 r hr1;have hop:=(zIt (op:=opB S d (bX W kx d) (bY H ky d)) 8).1 r hr1 (r.1+(r.2-1)/2) (by omega) (by omega);have hi:r.1+(r.2-1)/2<8:=by omega
  have ho:=zI5 hW hH hS hr.1 hr.2 hi hop;unfold ptq;generalize r.1+(r.2-1)/2=i at *;obtain ⟨hx,hy⟩:=(zBp hW hH).1 hr.1;unfold opB lg at hop;rw [Bool.and_eq_true,Bool.and_eq_true,Bool.and_eq_true] at hop;obtain ⟨h1,h2,h3,-⟩:=hop;have a1:=hS _ _ h2;have a2:=hS _ _ h3;simp only;rw [zEr h1,zEq h1] at a2 h3 ⊢;refine ⟨hr.1,ho.1,⟨rfl,rfl⟩,?_,h2,h3⟩;clear ho h1 h2 h3 hk hr1;rcases hd with rfl|rfl
  ·simp only [clx,cly,bX,bY,if_true,rS,dX,dY,Int.toNat_zero] at *;omega
  ·simp only [clx,cly,bX,bY,if_neg (show ¬(1:Int)=0 by decide),rS,dX,dY,show (1:Int).toNat=1 from rfl] at *;omega
 ·simp at ht
theorem zDp {d:Int} (hd:d=0\/d=1):(ptQ S W H kx ky d).Pairwise (fun t t'=>t.A≠t'.A):=by
 unfold ptQ btL rnR
 split
 ·refine List.pairwise_map.2 ?_;have h1:=(zIt (op:=opB S d (bX W kx d) (bY H ky d)) 8).2;have h2:=(zDd (opB S d (bX W kx d) (bY H ky d)) 8).2.1;refine (List.Pairwise.imp_of_mem ?_ h1);intro r r' hr hr' hlt;have k1:=h2 r hr;have k2:=h2 r' hr';simp only [ptq,Q4.A,ne_eq,Prod.mk.injEq];rcases hd with rfl|rfl
  ·simp only [clx,cly,if_true];omega
  ·simp only [clx,cly,if_neg (show ¬(1:Int)=0 by decide)];omega
 ·exact List.Pairwise.nil
theorem zIa (hW:1<=W/\W<=128) (hH:1<=H/\H<=128) (hS:∀u v,S u v=true->(0<=u/\u<W)/\0<=v/\v<H) {d:Int} (hd:d=0\/d=1):(ptQ S W H kx ky d).Pairwise (fun t t'=>t.B≠t'.B):=by
 refine (List.Pairwise.imp_of_mem ?_ (zDp hd));intro t t' ht ht' hne e;have h1:=(zBb hW hH hS hd ht).2.2.1;have h2:=(zBb hW hH hS hd ht').2.2.1;simp only [Q4.A,Q4.B,Prod.mk.injEq,ne_eq] at e hne;exact hne ⟨by omega,by omega⟩
theorem zCv (hW:1<=W/\W<=128) (hH:1<=H/\H<=128) (hS:∀u v,S u v=true->(0<=u/\u<W)/\0<=v/\v<H) {d:Nat} (hd:d<4) {t:Q4} (ht:t∈zF0 S W H kx ky d) :
 (t.x/8=kx/\t.y/8=ky)/\(t.a=t.x+dX d/\t.b=t.y+dY d)/\(t.a/8=kx+dX d/\t.b/8=ky+dY d)/\S t.x t.y=true/\S t.a t.b=true:=by
 match d,hd with
 |0,_=>exact (zBb hW hH hS (d:=0) (.inl rfl) ht).2
 |1,_=>exact (zBb hW hH hS (d:=1) (.inr rfl) ht).2
 |2,_ =>
  obtain ⟨u,hu,rfl⟩:=List.mem_map.1 ht;obtain ⟨-,h1,h2,h3,h4,h5⟩:=zBb hW hH hS (d:=0) (.inl rfl) hu;simp only [Q4.swap,dX,dY,Int.toNat_zero,show (1:Int).toNat=1 from rfl] at *;exact ⟨⟨by omega,by omega⟩,⟨by omega,by omega⟩,⟨by omega,by omega⟩,h5,h4⟩
 |3,_ =>
  obtain ⟨u,hu,rfl⟩:=List.mem_map.1 ht;obtain ⟨-,h1,h2,h3,h4,h5⟩:=zBb hW hH hS (d:=1) (.inr rfl) hu;simp only [Q4.swap,dX,dY,Int.toNat_zero,show (1:Int).toNat=1 from rfl] at *;exact ⟨⟨by omega,by omega⟩,⟨by omega,by omega⟩,⟨by omega,by omega⟩,h5,h4⟩
theorem zOo (hW:1<=W/\W<=128) (hH:1<=H/\H<=128) (hS:∀u v,S u v=true->(0<=u/\u<W)/\0<=v/\v<H) (d:Nat):(zF0 S W H kx ky d).Pairwise (fun t t'=>t.A≠t'.A):=by
 match d with
 |0=>exact zDp (d:=0) (.inl rfl)
 |1=>exact zDp (d:=1) (.inr rfl)
 |2=>exact List.pairwise_map.2 (zIa hW hH hS (d:=0) (.inl rfl))
 |3=>exact List.pairwise_map.2 (zIa hW hH hS (d:=1) (.inr rfl))
 |_+4=>exact List.Pairwise.nil
theorem zI3 (d:Nat):(zF0 S W H kx ky d).length<=8:=by
 have h:∀a b e,(ptQ S W H a b e).length<=8:=fun a b e=>by
  unfold ptQ btL;rw [List.length_map];exact (zJ7 S W H a b e).2
 match d with
 |0=>exact h _ _ _
 |1=>exact h _ _ _
 |2=>show (List.map _ _).length<=8;rw [List.length_map];exact h _ _ _
 |3=>show (List.map _ _).length<=8;rw [List.length_map];exact h _ _ _
 |_+4=>exact Nat.zero_le _
theorem zCq {t:Q4}:t∈acL S W H kx ky↔∃d,d<4/\t∈zF0 S W H kx ky d:=by
 unfold acL;simp only [List.mem_flatMap];constructor
 ·rintro ⟨d,hd,ht⟩;exact ⟨d,by simp at hd;omega,ht⟩
 ·rintro ⟨d,hd,ht⟩;exact ⟨d,by simp;omega,ht⟩
theorem zSa (hW:1<=W/\W<=128) (hH:1<=H/\H<=128) (hS:∀u v,S u v=true->(0<=u/\u<W)/\0<=v/\v<H):(acL S W H kx ky).Pairwise (fun t t'=>t.A=t'.A->t.B≠t'.B):=by
 unfold acL;rw [List.pairwise_flatMap];refine ⟨fun d _=>(zOo hW hH hS d).imp (fun h e=>absurd e h),?_⟩
 have key:∀d d':Nat,d<4->d'<4->d≠d'->∀t∈zF0 S W H kx ky d,∀t'∈zF0 S W H kx ky d',t.A=t'.A->t.B≠t'.B:=fun d d' h h' hne t ht t' ht' e e'=>by
  have h1:=(zCv hW hH hS h ht).2.1;have h2:=(zCv hW hH hS h' ht').2.1;simp only [Q4.A,Q4.B,Prod.mk.injEq] at e e';have:dX d=dX d'/\dY d=dY d':=⟨by omega,by omega⟩
  have hall:∀d d':Fin 4,d≠d'->¬(dX d.val=dX d'.val/\dY d.val=dY d'.val):=by decide
  exact hall ⟨d,h⟩ ⟨d',h'⟩ (fun q=>hne (by simpa using q)) this
 refine List.Pairwise.imp_of_mem (R:=fun d d'=>d≠d') ?_ (by decide);intro d d' hd hd' hne t ht t' ht';exact key d d' (by simp at hd;omega) (by simp at hd';omega) hne t ht t' ht'
def Nd (S:Int->Int->Bool) (W H kx ky:Int) (q:Int×Int):Prop:=∃t∈acL S W H kx ky,t.A=q
theorem Nd.in (hW:1<=W/\W<=128) (hH:1<=H/\H<=128) (hS:∀u v,S u v=true->(0<=u/\u<W)/\0<=v/\v<H) {q:Int×Int} (h:Nd S W H kx ky q):(q.1/8=kx/\q.2/8=ky)/\S q.1 q.2=true:=by
 obtain ⟨t,ht,rfl⟩:=h;obtain ⟨d,hd,ht⟩:=zCq.1 ht;obtain ⟨h1,-,-,h2,-⟩:=zCv hW hH hS hd ht;exact ⟨h1,h2⟩
end
def UpC (l:List (Int×Int)):Prop:=l.Pairwise clt
def UpE (l:List E3):Prop:=l.Pairwise (fun p q=>clt p.to q.to)
theorem zPb {α:Type} {R:α->α->Prop} (hi:∀a,¬R a a) (ht:∀a b c,R a b->R b c->R a c):∀{l m:List α},l.Pairwise R->m.Pairwise R->(∀a,a∈l↔a∈m)->l=m
 | [],[],_,_,_=>rfl
 | [],b::m,_,_,h=>absurd ((h b).2 (List.mem_cons_self ..)) List.not_mem_nil
 |a::l,[],_,_,h=>absurd ((h a).1 (List.mem_cons_self ..)) List.not_mem_nil
 |a::l,b::m,hl,hm,h=>by
  obtain ⟨l1,l2⟩:=List.pairwise_cons.1 hl;obtain ⟨m1,m2⟩:=List.pairwise_cons.1 hm
  have e:a=b:=by
   rcases List.mem_cons.1 ((h a).1 (List.mem_cons_self ..)) with e|ha
   ·exact e
   ·rcases List.mem_cons.1 ((h b).2 (List.mem_cons_self ..)) with e|hb
    ·exact e.symm
    ·exact absurd (ht _ _ _ (l1 b hb) (m1 a ha)) (hi a)
  subst e;rw [zPb hi ht l2 m2 (fun c=>?_)];have hc:=h c;rw [List.mem_cons,List.mem_cons] at hc;constructor
  ·intro q;rcases hc.1 (.inr q) with rfl|q'
   ·exact absurd (l1 _ q) (hi _)
   ·exact q'
  ·intro q;rcases hc.2 (.inr q) with rfl|q'
   ·exact absurd (m1 _ q) (hi _)
   ·exact q'
theorem zK5 {l m:List (Int×Int)} (hl:UpC l) (hm:UpC m) (h:∀a,a∈l↔a∈m):l=m:=zPb zCf (fun _ _ _=>zC8) hl hm h
theorem zPc {l m:List E3} (hl:UpE l) (hm:UpE m) (h:∀a,a∈l↔a∈m):l=m:=zPb (R:=fun p q:E3=>clt p.to q.to) (fun a=>zCf a.to) (fun _ _ _=>zC8) hl hm h
theorem zVa {l:List (Int×Int)} (h:zWf l) (hn:l.Nodup):UpC l:=by
 refine List.Pairwise.imp ?_ (h.and hn);intro p q k;exact Classical.byContradiction fun c=>k.2 (zGm c k.1)
theorem qAi {l:List E3} (h:qCk l) (hn:(l.map E3.to).Nodup):UpE l:=by
 refine List.Pairwise.imp ?_ (h.and (List.pairwise_map.1 hn));intro p q k;exact Classical.byContradiction fun c=>k.2 (zGm c k.1)
theorem UpC.nodup {l:List (Int×Int)} (h:UpC l):l.Nodup:=by
 refine List.Pairwise.imp ?_ h;intro a b k e;subst e;exact zCf _ k
def Ed (W H:Int) (tl:List Nat) (f:Int->Int->Option Int) (c s:Int) (kx ky:Int) (q:Int×Int) (e:E3):Prop:=
 (∃t∈acL (stB W H tl f c s) W H kx ky,t.A=q/\e=⟨t.a,t.b,10⟩)\/
 (Nd (stB W H tl f c s) W H kx ky e.to/\e.to≠q/\∃n:Nat,e.c=(n:Int)/\Std W H tl f c s (kx*8) (ky*8) (rS W kx) (rS H ky) q/\Least (zBh W H tl f c s (kx*8) (ky*8) (rS W kx) (rS H ky)) q e.to n)
def IsN (S:Int->Int->Bool) (W H kx ky:Int) (l:List (Int×Int)):Prop:=UpC l/\∀q,q∈l↔Nd S W H kx ky q
def IsE (W H:Int) (tl:List Nat) (f:Int->Int->Option Int) (c s:Int) (kx ky:Int) (q:Int×Int) (l:List E3):Prop:=UpE l/\∀e,e∈l↔Ed W H tl f c s kx ky q e
end
attribute [local go_sem] Oper.semAt_some
theorem zB8 {F:Fence} {nF:Nat} {P:Program} {w:World} {ops:Array Oper} {rest:List Oper} {o:Oper} {a:Act} {Q:Exit->Act->World->Prop}
 (hgd:o.guard=none) (s x:Operand) (t:TypeId) (ho:o.op = .call { callee:=.builtin .append,args:=#[s,x],argTypes:=#[t,t] })
 (v xv:Value) (hs:a.eval s=v) (hx:a.eval x=xv) {v':Value} {w':World} (hr:(Builtin.append_ #[t,t] o.type #[v,xv]).run P w = .ok v' w') (h:wpListIn F nF P ops Q rest (a.put o.dst v') w') :
 wpListIn F nF P ops Q (o::rest) a w:=by
 refine wpListIn_plain hgd fun K hK=>?_;unfold Oper.wpIn;refine ⟨by simp [Oper.about,ho,resolve,Target.leads,Sem.run_pure],?_⟩;rw [Oper.semAt_plain F _ _ (by rw [ho];intro c hc';cases hc')];simp [execOp,ho,resolve,invoke,builtin,hs,hx,hr,Result.andThen];exact hK _ _ h
theorem zE6 {S:Nat->Prop} (w:World) (k:Nat) (o:Obj) (hk:S k):Turns S w (w.putObj k o):=⟨rfl,rfl,rfl,by simp,fun j _ hj=>World.putObj_heap_other (fun e=>hj (e▸hk))⟩
structure GtC (w X:World) (v:Value) (pre:List (Int×Int)):Prop where
 nn:RC X v pre
 own:∀k,v.ownBlock=some k->w.heap.size<k
 bx:Boxed X w.heap.size 68 v
 below:Below w.heap.size w X
theorem GtC.own_from {w:World} {B:Nat} (hB:w.heap.size<=B):OwnFrom B (fun pre X=>∃v,GtC w X v pre):=by
 rintro pre X Y row ⟨v,h⟩ hg hr;have hc:∀k,row=some k->∃o:Obj,X.heap[k]? = some o/\o.isCells=false:=fun k e=>(hr k e).2;have T:Turns (fun k=>row=some k) X Y:=Turns.of_grown hg (fun k e=>e)
 have hb:row≠some w.heap.size:=fun e=>by
  obtain ⟨o,ho,hn⟩:=hc _ e;rw [show X.heap[w.heap.size]? = _ from h.bx] at ho;cases ho;cases hn
 refine ⟨v,h.nn.kept T (fun k e q=>?_),h.own,zAl h.bx T hb,?_⟩
 ·obtain ⟨cur,hk⟩:=h.nn.blk e;obtain ⟨o,ho,hn⟩:=hc k q;rw [hk] at ho;cases ho;cases hn
 ·exact ownFrom_below (β:=Unit) (Nat.le_refl _) hB () X Y row h.below hg hr
theorem GtC.push {w X:World} {v:Value} {pre:List (Int×Int)} (h:GtC w X v pre) (t:Int×Int) (hlen:pre.length<=100000) {B:Nat} (hB:w.heap.size<B) :
 ∃v' Y,(Builtin.append_ #[68,68] 68 #[v,.slice (some ⟨X.heap.size,0,none⟩) 1 1]).run pg (X.alloc (.cells #[O ii t.1,O ii t.2] 47)) = .ok v' Y/\(∃a n c,v' = .slice a n c)/\Y.cell? ⟨w.heap.size,0,none⟩=some v/\Y.frozen? ⟨w.heap.size,0,none⟩=false/\
  KeepT 47 B X (Y.setCell ⟨w.heap.size,0,none⟩ v')/\Below w.heap.size X (Y.setCell ⟨w.heap.size,0,none⟩ v')/\GtC w (Y.setCell ⟨w.heap.size,0,none⟩ v') v' (pre++[t]):=by
 obtain ⟨v',Y,r1,n1,o1,T1⟩:=qAt h.nn t (by omega);have hsz:=h.below.size;have hlt:=h.bx.lt;have hb:v.ownBlock≠some w.heap.size:=fun e=>by have:=h.own _ e;omega
 have bY:=zAl h.bx T1 hb;have T2:Turns (fun k=>k=w.heap.size) Y (Y.setCell ⟨w.heap.size,0,none⟩ v'):=Turns.set (S:=fun k=>k=w.heap.size) _ rfl _
 have own':∀k,v'.ownBlock=some k->w.heap.size<k:=fun k e=>by
  rcases o1 k e with q|q
  ·exact h.own k q
  ·omega
 have bl:Below w.heap.size X (Y.setCell ⟨w.heap.size,0,none⟩ v'):=(T1.below (fun k e=>Nat.le_of_lt (h.own k e)) hsz).trans (T2.below (fun k e=>by omega) (by have:=T1.size;omega));obtain ⟨a2,c2,e2⟩:=zBf n1;refine ⟨v',Y,r1,⟨_,_,_,e2⟩,bY.cell,bY.frozen,⟨Nat.le_trans T1.size T2.size,fun k o hk ho hn=>?_⟩,bl,⟨n1.kept T2 (fun k e q=>by have:=own' k e;omega),own',bY.set _,h.below.trans bl⟩⟩
 have hv:v.ownBlock≠some k:=fun e=>by
  obtain ⟨cur,hk2⟩:=h.nn.blk e;rw [ho] at hk2;cases hk2;cases hn
 exact T2.same (by omega) (T1.same hv ho)
theorem zT2 {g:Nat} {lb:Array Value} {S Sp:List (Int×Int)->Prop} {N:Nat} {w:World} (eg:∀args w,(callFunc g args).run pg w = .ok (.enter g args) w) (hseq:zHs 47 (10-1) g lb qCp (Below w.heap.size) S Sp N w) (hN:N<=100000) :
 Calls pg 151 #[.slice none 0 0,.func (.func g) #[] lb] w fun e w'=>∃v xs,e = .returned v/\S xs/\RC w' v xs/\(∀k,v.ownBlock=some k->w.heap.size<=k)/\Below w.heap.size w w':=by
 refine (callsIn_wide (n:=10)).1 ?_;refine callsIn_of_wp_marks func151 rfl trivial ?_ rfl;simp only [ntmps151,List.size_toArray,List.length_cons,List.length_nil,Nat.reduceAdd,Nat.reduceSub,Array.replicate_succ,Array.replicate_zero,List.push_toArray,List.append_toArray,List.nil_append,List.cons_append];obtain ⟨X,hX⟩:=ex (w.alloc (.cells #[.slice none 0 0] 68));have bX:Below w.heap.size w X:=hX▸zAk _ _;have zX:X.heap.size=w.heap.size+1:=by rw [<-hX];simp
 have mX:Boxed X w.heap.size 68 (.slice none 0 0):=hX▸Boxed.new w 68 _;gi_wp2_with (rw [hX]);clear hX
 refine zHa (n:=10) (by omega) (gf:=g) (lb:=lb) rfl eg hseq (fun h k=>h.trans k) (belowK_b (by omega)) bX (fun _=>rfl)
  (fun pre Y=>∃v,GtC w Y v pre) (fun _ _=>False) (GtC.own_from (by omega)) (fun _ _ _ _ h _ _=>h.elim)
  ⟨_,Rw.nil _ _ _ _,fun k e=>by simp [Value.ownBlock] at e,mX,bX⟩
  (fun q a' Y=>∃B,X.heap.size<=B/\Y.heap[B]? = some (.cells #[O ii q.1,O ii q.2] 47 (0,0))/\a'={ tmps:=#[.slice none 0 0,.func (.func g) #[] lb,ptr w.heap.size,undef,.slice none 0 0,ptr B,.func (.func g) #[] lb,cel q.1 q.2,undef,undef,undef,undef,undef],defers:=[] })
  (fun q a' _ Y Z row hs hg hr=>by
   obtain ⟨B,h1,h2,h3⟩:=hs;refine ⟨B,h1,(hg.block B (gE.1 h2).1 (fun e=>?_)).trans h2,h3⟩;obtain ⟨-,o,ho,hn⟩:=hr B e.symm;rw [h2] at ho;cases ho
   cases hn)
  ?assign ?body ?done ?stop
 case assign =>
  rintro lo pre q Y K hI hK;obtain ⟨v,hG⟩:=hI;gi_wp2
  refine hK _ _ (KeepT.of_below (zAk _ _)) ((zAk Y _).mono (by have:=hG.below.size;omega)) ?_ ⟨Y.heap.size,by have:=hG.bx.lt;omega,heap_alloc_new Y _,rfl⟩;exact ⟨v,hG.nn.upto (zAk _ _),hG.own,zAn hG.bx (zAk _ _) hG.bx.lt,hG.below.trans ((zAk Y _).mono hG.below.size)⟩
 case body =>
  rintro lo pre q a' Y hlo ⟨v,hG⟩ ⟨B,hB,hBc,rfl⟩ hlt;obtain ⟨v2,Z,rA,⟨a2,n2,c2,rfl⟩,c1,f1,hk,hb,hG2⟩:=hG.push q (by omega) (B:=X.heap.size) (by omega);have cv:=hG.bx.cell;have HA:=zAc rA;have HE:=zAc (show KeepT 47 X.heap.size Y (Z.setCell ⟨w.heap.size,0,none⟩ (.slice a2 n2 c2))/\Below w.heap.size Y (Z.setCell ⟨w.heap.size,0,none⟩ (.slice a2 n2 c2))/\∃v,GtC w (Z.setCell ⟨w.heap.size,0,none⟩ (.slice a2 n2 c2)) v (pre++[q]) from ⟨hk,hb,_,hG2⟩);obtain ⟨a1,c3,hv1⟩:=zBf hG.nn;subst hv1;have d1:(Y.alloc (.cells #[O ii q.1,O ii q.2] 47)).cell? ⟨w.heap.size,0,none⟩=some (.slice a1 pre.length c3):=((zAk Y _).cell (p:=⟨w.heap.size,0,none⟩) hG.bx.lt).trans cv;have b0:Y.cell? ⟨B,0,none⟩=some (O ii q.1):=by rw [cell_of_row Y B 0 _ _ _ hBc];rfl
  have b1:Y.cell? ⟨B,1,none⟩=some (O ii q.2):=by rw [cell_of_row Y B 1 _ _ _ hBc];rfl
  clear rA hk hb hG2 hG hBc;gi_wp2_with (gi_at_builtin;refine zB8 rfl _ _ 68 rfl _ _ rfl rfl HA.out ?_);exact HE.out
 case done =>
  rintro D xs Y hD hS ⟨v,hG⟩ hK;have cv:=hG.bx.cell;obtain ⟨a1,c3,hv1⟩:=zBf hG.nn;subst hv1;have HG:=zAc hG;clear hG;gi_wp2_with fail;refine ⟨by simp,.inl ⟨_,_,rfl,run_takeDeferred hK,?_⟩⟩;have tp:Turns (fun k=>k=D) Y (Y.putObj D (.deferred none)):=zE6 _ _ _ rfl;refine ⟨.slice a1 xs.length c3,by simp [results,Tryz.f151,go_sem],_,xs,rfl,hS,HG.out.nn.kept tp (fun k e q=>?_),fun k e=>Nat.le_of_lt (HG.out.own k e),HG.out.below.trans (tp.below (fun k e=>by omega) HG.out.below.size)⟩;obtain ⟨cur,hk⟩:=HG.out.nn.blk e;subst q;rw [hK] at hk;cases hk
 case stop=>exact fun D pre Y hD hp h hK=>h.elim
theorem zSw {g:Nat} {lb:Array Value} {S Sp:List (Int×Int)->Prop} {N:Nat} {w:World} (eg:∀args w,(callFunc g args).run pg w = .ok (.enter g args) w) (hseq:zHs 47 (10-1) g lb qCp (Below w.heap.size) S Sp N w) (hN:N<=100000) (hS:∀xs,S xs->xs.length<=1000000) :
 Calls pg 72 #[.func (.func g) #[] lb,.func (.func 74) #[] #[]] w fun e w'=>∃v xs L,e = .returned v/\S xs/\L.Perm xs/\zWf L/\RC w' v L/\(∀k,v.ownBlock=some k->w.heap.size<=k)/\Below w.heap.size w w':=by
 have HC:Hid (Calls pg 108 #[.func (.func g) #[] lb] w fun e w'=>∃v xs,e = .returned v/\S xs/\RC w' v xs/\(∀k,v.ownBlock=some k->w.heap.size<=k)/\Below w.heap.size w w'):=zAc (by
  have HG:=zAc (zT2 eg hseq hN);clear hseq eg;go_enter func108,ntmps108;go_wp2_with fail;refine HG.out.mono ?_;rintro e w1 ⟨v,xs,rfl,h1,h2,h3,h4⟩;obtain ⟨a1,c3,hv1⟩:=zBf h2;subst hv1;have HE:=zAc (ai h1 (ai h2 (ai h3 h4)));clear h1 h2 h3 h4;go_wp2_with fail;go_ret
  exact ⟨_,xs,rfl,HE.out⟩)
 clear hseq eg;have HS:=zAc hS;clear hS;go_enter func72,ntmps72;go_wp2_with fail;refine HC.out.mono ?_;rintro e w1 ⟨v,xs,rfl,h1,h2,h3,h4⟩;have Hs:=zAc (qAl (HS.out xs h1) h2);obtain ⟨a1,c3,hv1⟩:=zBf h2;subst hv1;have HE:=zAc (ai h1 (ai h3 h4));clear h1 h2 h3 h4;go_wp2_with fail;refine Hs.out.mono ?_;rintro e w2 ⟨rfl,M,m1,m2,m3,m4⟩;have HM:=zAc (show ∃v ys L,Ending.returned (.slice a1 xs.length c3) = .returned v/\S ys/\L.Perm ys/\zWf L/\RC w2 v L/\(∀k,v.ownBlock=some k->w.heap.size<=k)/\Below w.heap.size w w2 from ⟨_,xs,M,rfl,HE.out.1,m1,m2,m3,HE.out.2.1,HE.out.2.2.trans (m4.below (fun k e=>HE.out.2.1 k e) HE.out.2.2.size)⟩);clear m1 m2 m3 m4 Hs;go_wp2_with fail;go_ret;exact HM.out
theorem zQ5 {z:Value} {w:World} {b:Nat} {K:List (Int×Int)} {F:Int->Int->Value} (h:MapS z w b K F) (hlen:K.length<=100000) :
 Calls pg 43 #[.map (some b)] w fun e w'=>∃v L,e = .returned v/\L.Perm K/\zWf L/\RC w' v L/\(∀k,v.ownBlock=some k->w.heap.size<=k)/\Below w.heap.size w w':=by
 have HK:Hid (Calls pg 77 #[.map (some b)] w fun e w'=>e = .returned (.func (.func 117) #[] #[ptr w.heap.size])/\w'=w.alloc (.cells #[.map (some b)] 65)):=zAc (by
  go_enter func77,ntmps77;go_wp2_with fail;go_ret
  exact ⟨rfl,rfl⟩)
 obtain ⟨X,hX⟩:=ex (w.alloc (.cells #[.map (some b)] 65));have bX:Below w.heap.size w X:=hX▸zAk _ _;have P1:Boxed X w.heap.size 65 (.map (some b)):=hX▸Boxed.new w 65 _;have HS:=zAc (zSw (enters_of func117 (by kernel_rfl) rfl) (zL5 (10-1) w.heap.size b z K F X P1 (h.upto bX) K.length (Nat.le_refl _)) hlen (fun xs e=>by rw [e.length_eq];omega));rw [hX] at HK;have HB:=zAc bX;clear hX bX P1 h;go_enter func43,ntmps43;go_wp2_with fail;refine HK.out.mono ?_;rintro e w1 ⟨rfl,rfl⟩;go_wp2_with fail;refine HS.out.mono ?_;rintro e w2 ⟨v,xs,L,rfl,h1,h2,h3,h4,h5,h6⟩;obtain ⟨a1,c3,hv1⟩:=zBf h4;subst hv1;have HE:=zAc (show ∃v L',Ending.returned (.slice a1 L.length c3) = .returned v/\L'.Perm K/\zWf L'/\RC w2 v L'/\(∀k,v.ownBlock=some k->w.heap.size<=k)/\Below w.heap.size w w2 from ⟨_,L,rfl,h2.trans h1,h3,h4,fun k e=>Nat.le_trans HB.out.size (h5 k e),bt HB.out h6⟩);clear h1 h2 h3 h4 h5 h6;go_wp2_with fail;go_ret;exact HE.out
section
def Gp (w:World) (gp p:Nat) (c s ep:Int) (wb eb:Nat):Prop:=w.heap[gp]? = some (.cells #[ptr p,O ii c,O ii s,O ii ep,.map (some wb),.map (some eb)] 67 (0,0))
section
variable {w w':World} {gp p:Nat} {c s ep:Int} {wb eb:Nat}
theorem Gp.lt (h:Gp w gp p c s ep wb eb):gp<w.heap.size:=(gE.1 h).1
theorem Gp.upto (h:Gp w gp p c s ep wb eb) (hb:Below w.heap.size w w'):Gp w' gp p c s ep wb eb:=(hb.block gp h.lt).trans h
theorem Gp.kept {S:Nat->Prop} (h:Gp w gp p c s ep wb eb) (ht:Turns S w w') (hs:¬S gp):Gp w' gp p c s ep wb eb:=ht.same hs h
theorem Gp.c0 (h:Gp w gp p c s ep wb eb):w.cell? ⟨gp,0,none⟩=some (ptr p):=by rw [cell_of_row w gp 0 _ _ _ h];rfl
theorem Gp.c1 (h:Gp w gp p c s ep wb eb):w.cell? ⟨gp,1,none⟩=some (O ii c):=by rw [cell_of_row w gp 1 _ _ _ h];rfl
theorem Gp.c2 (h:Gp w gp p c s ep wb eb):w.cell? ⟨gp,2,none⟩=some (O ii s):=by rw [cell_of_row w gp 2 _ _ _ h];rfl
theorem Gp.c3 (h:Gp w gp p c s ep wb eb):w.cell? ⟨gp,3,none⟩=some (O ii ep):=by rw [cell_of_row w gp 3 _ _ _ h];rfl
theorem Gp.c4 (h:Gp w gp p c s ep wb eb):w.cell? ⟨gp,4,none⟩=some (.map (some wb)):=by rw [cell_of_row w gp 4 _ _ _ h];rfl
theorem Gp.c5 (h:Gp w gp p c s ep wb eb):w.cell? ⟨gp,5,none⟩=some (.map (some eb)):=by rw [cell_of_row w gp 5 _ _ _ h];rfl
end
def bkN (d:Fin 8):Fin 8:=match d with
 |0=>2|1=>3|2=>0|3=>1|4=>6|5=>7|6=>4|7=>5
theorem zZt (d:Fin 8) (w:World):Calls pg 125 #[O ii ((d.val:Nat):Int)] w fun e w'=>e = .returned (O ii (((bkN d).val:Nat):Int))/\w'=w:=by
 have H1:=zAc (zB3 ((d.val:Nat):Int) w);rw [show isD ((d.val:Nat):Int)=true from (zB7 _).2 (by have:=d.isLt;omega)] at H1;obtain ⟨z,hz⟩:∃z:Int,(((bkN d).val:Nat):Int)=z:=⟨_,rfl⟩
 obtain ⟨a,ha⟩:∃a:Int,((d.val:Nat):Int)=a:=⟨_,rfl⟩
 rw [hz];rw [ha] at H1 ⊢
 have hc:(a=0/\z=2)\/(a=1/\z=3)\/(a=2/\z=0)\/(a=3/\z=1)\/(a=4/\z=6)\/(a=5/\z=7)\/(a=6/\z=4)\/(a=7/\z=5):=by
  rw [<-ha,<-hz];exact (show ∀d:Fin 8,((((d.val:Nat):Int)=0/\(((bkN d).val:Nat):Int)=2)\/(((d.val:Nat):Int)=1/\(((bkN d).val:Nat):Int)=3)\/(((d.val:Nat):Int)=2/\(((bkN d).val:Nat):Int)=0)\/(((d.val:Nat):Int)=3/\(((bkN d).val:Nat):Int)=1)\/(((d.val:Nat):Int)=4/\(((bkN d).val:Nat):Int)=6)\/(((d.val:Nat):Int)=5/\(((bkN d).val:Nat):Int)=7)\/(((d.val:Nat):Int)=6/\(((bkN d).val:Nat):Int)=4)\/(((d.val:Nat):Int)=7/\(((bkN d).val:Nat):Int)=5)) by decide) d
 clear ha hz;rcases hc with ⟨rfl,rfl⟩|⟨rfl,rfl⟩|⟨rfl,rfl⟩|⟨rfl,rfl⟩|⟨rfl,rfl⟩|⟨rfl,rfl⟩|⟨rfl,rfl⟩|⟨rfl,rfl⟩
 all_goals
  go_enter func125,ntmps125;go_wp2_with fail;refine H1.out.mono ?_;rintro e w1 ⟨rfl,rfl⟩;go_wp2_with fail;go_ret;exact ⟨rfl,rfl⟩
theorem zIv:Rcl 124:=zl fun _ _=>by go_simp
theorem zS6:Rcl 125:=zl fun _ _=>by go_simp
theorem zIg:∀(L:List Q4) (i j:Nat) (u:Value) (r r':Q4),L[i]? = some r->j<4->r.cs.set j u=r'.cs->(L.flatMap Q4.cs).set (i*4+j) u=(L.set i r').flatMap Q4.cs
 | [],i,j,u,r,r',h,_,_=>by simp at h
 |a::L,0,j,u,r,r',h,hj,e=>by
  simp at h;subst h;rw [List.flatMap_cons,List.set_cons_zero,List.flatMap_cons,Nat.zero_mul,Nat.zero_add,List.set_append_left _ _ (by rw [Q4.cs_len];exact hj),e]
 |a::L,i+1,j,u,r,r',h,hj,e=>by
  simp at h;rw [List.flatMap_cons,List.set_cons_succ,List.flatMap_cons,List.set_append_right _ _ (by rw [Q4.cs_len];omega),Q4.cs_len,show (i+1)*4+j-4=i*4+j by omega,zIg L i j u r r' h hj e]
theorem Rw.setAt1 {ty:Nat} {w:World} {g cap n:Nat} {L:List Q4} {r r':Q4} (hn:n=L.length) (h:Rq ty w (.slice (some ⟨g,0,none⟩) n cap) L) (i j:Nat) (u:Value) (hi:L[i]? = some r) (hj:j<4) (hr:r.cs.set j u=r'.cs) :
 Rq ty (w.setCell ⟨g,i*4+j,none⟩ u) (.slice (some ⟨g,0,none⟩) n cap) (L.set i r'):=by
 subst hn;have q:=(World.ownsRow.stored h (i*4+j) u).1;rw [zIg L i j u r r' hi hj hr] at q;have hl:(L.set i r').length=L.length:=by simp
 unfold Rq Rw;rw [hl];exact q
theorem Rw.setAt4 {ty:Nat} {w:World} {g cap n:Nat} {L:List Q4} {r:Q4} (hn:n=L.length) (h:Rq ty w (.slice (some ⟨g,0,none⟩) n cap) L) (i:Nat) (hi:L[i]? = some r) (t:Q4) :
 Rq ty ((((w.setCell ⟨g,i*4,none⟩ (O ii t.x)).setCell ⟨g,i*4+1,none⟩ (O ii t.y)).setCell ⟨g,i*4+2,none⟩ (O ii t.a)).setCell ⟨g,i*4+3,none⟩ (O ii t.b)) (.slice (some ⟨g,0,none⟩) n cap) (L.set i t)/\
 Turns (fun j=>j=g) w ((((w.setCell ⟨g,i*4,none⟩ (O ii t.x)).setCell ⟨g,i*4+1,none⟩ (O ii t.y)).setCell ⟨g,i*4+2,none⟩ (O ii t.a)).setCell ⟨g,i*4+3,none⟩ (O ii t.b)):=by
 have hlt:i<L.length:=(List.getElem?_eq_some_iff.1 hi).1;constructor
 ·have q0:=Rw.setAt1 (r':=⟨t.x,r.y,r.a,r.b⟩) hn h i 0 (O ii t.x) hi (by decide) rfl;have q1:=Rw.setAt1 (r:=⟨t.x,r.y,r.a,r.b⟩) (r':=⟨t.x,t.y,r.a,r.b⟩) (by simp [hn]) q0 i 1 (O ii t.y) (by simp [hlt]) (by decide) rfl;have q2:=Rw.setAt1 (r:=⟨t.x,t.y,r.a,r.b⟩) (r':=⟨t.x,t.y,t.a,r.b⟩) (by simp [hn]) q1 i 2 (O ii t.a) (by simp [hlt]) (by decide) rfl;have q3:=Rw.setAt1 (r:=⟨t.x,t.y,t.a,r.b⟩) (r':=t) (by simp [hn]) q2 i 3 (O ii t.b) (by simp [hlt]) (by decide) rfl;simpa [List.set_set] using q3
 ·exact (((Turns.set (S:=fun j=>j=g) w (p:=⟨g,i*4,none⟩) rfl _).trans ((Turns.set (S:=fun j=>j=g) _ (p:=⟨g,i*4+1,none⟩) rfl _).mono (fun _ _ h => .inl h))).trans ((Turns.set (S:=fun j=>j=g) _ (p:=⟨g,i*4+2,none⟩) rfl _).mono (fun _ _ h => .inl h))).trans ((Turns.set (S:=fun j=>j=g) _ (p:=⟨g,i*4+3,none⟩) rfl _).mono (fun _ _ h => .inl h))
theorem Rw.atq {ty:Nat} {w:World} {a:Option Addr} {m c:Nat} {L:List Q4} (h:Rq ty w (.slice a m c) L) {i:Nat} {t:Q4} (hi:L[i]? = some t) :
 ∃g,a=some ⟨g,0,none⟩/\g<w.heap.size/\(w.cell? ⟨g,i*4,none⟩=some (O ii t.x)/\w.cell? ⟨g,i*4+1,none⟩=some (O ii t.y)/\w.cell? ⟨g,i*4+2,none⟩=some (O ii t.a)/\w.cell? ⟨g,i*4+3,none⟩=some (O ii t.b))/\∀o,w.frozen? ⟨g,o,none⟩=false:=by
 obtain ⟨a',cap,e,hle,hc⟩:=Rw.form Q4.cs_len h;obtain ⟨g,rfl,hg,hcell⟩:=hc i t hi;cases e;refine ⟨g,rfl,hg,⟨hcell 0 _ rfl,hcell 1 _ rfl,hcell 2 _ rfl,hcell 3 _ rfl⟩,fun o=>?_⟩;obtain ⟨cur,hb⟩:=Rw.blk h (g:=g) rfl;simp [World.frozen?,hb]
def swq (L:List Q4) (i:Nat):List Q4:=(L.take i).map Q4.swap++L.drop i
theorem zWr (L:List Q4) (i:Nat):(swq L i).length=L.length:=by
 unfold swq;rw [List.length_append,List.length_map,List.length_take,List.length_drop];omega
theorem zPg {L:List Q4} {i:Nat} {t:Q4} (h:L[i]? = some t):(swq L i)[i]? = some t:=by
 have hlt:=(List.getElem?_eq_some_iff.1 h).1;unfold swq;rw [List.getElem?_append_right (by simp;omega),List.getElem?_drop,List.length_map,List.length_take,Nat.min_eq_left (by omega),show i+(i-i)=i by omega];exact h
theorem zWq {L:List Q4} {i:Nat} {t:Q4} (h:L[i]? = some t):(swq L i).set i t.swap=swq L (i+1):=by
 have hlt:=(List.getElem?_eq_some_iff.1 h).1;unfold swq
 have hd:L.drop i=t::L.drop (i+1):=by
  rw [List.drop_eq_getElem_cons hlt]
  congr 1
  exact (List.getElem?_eq_some_iff.1 h).2
 rw [hd,List.take_add_one,h,List.set_append_right _ _ (by simp;omega),List.map_append];simp [Nat.min_eq_left (Nat.le_of_lt hlt)]
theorem zWs (L:List Q4):swq L L.length=L.map Q4.swap:=by
 unfold swq;simp
theorem zXq {S:Int->Int->Bool} {W H kx ky:Int} {d:Fin 8} (h:d.val=0\/d.val=1):zF0 S W H kx ky d.val=ptQ S W H kx ky ((d.val:Nat):Int):=by
 rcases h with h|h<;>rw [h]<;>rfl
theorem zXr {S:Int->Int->Bool} {W H kx ky:Int} {d:Fin 8} (h:¬(d.val=0\/d.val=1)):zF0 S W H kx ky d.val=(ptQ S W H (kx+dX d.val) (ky+dY d.val) (((bkN d).val:Nat):Int)).map Q4.swap:=by
 have hno:∀a b e,¬(e=0\/e=1)->ptQ S W H a b e=[]:=fun a b e he=>by
  unfold ptQ rnR;rw [if_neg (fun q=>he q.2)];rfl
 match d with
 |0=>exact absurd (.inl rfl) h
 |1=>exact absurd (.inr rfl) h
 |2=>show (ptQ S W H (kx-1) ky 0).map Q4.swap=(ptQ S W H (kx + -1) (ky+0) 0).map Q4.swap;rw [Int.add_zero,Int.sub_eq_add_neg]
 |3=>show (ptQ S W H kx (ky-1) 1).map Q4.swap=(ptQ S W H (kx+0) (ky + -1) 1).map Q4.swap;rw [Int.add_zero,Int.sub_eq_add_neg]
 |4=>rw [hno _ _ _ (by decide)];rfl
 |5=>rw [hno _ _ _ (by decide)];rfl
 |6=>rw [hno _ _ _ (by decide)];rfl
 |7=>rw [hno _ _ _ (by decide)];rfl
theorem zOp {w:World} {gp p:Nat} {c s ep:Int} {wb eb:Nat} {W H:Int} {tl:List Nat} {f:Int->Int->Option Int} (hG:Gp w gp p c s ep wb eb) (hw:Wl w p W H tl f) (hg:Grnd w) (ho:Offs w) (hS:∀u v,stB W H tl f c s u v=true->(0<=u/\u<W)/\0<=v/\v<H) (kx ky:Int) (d:Fin 8) :
 Calls pg 89 #[ptr gp,cel kx ky,O ii ((d.val:Nat):Int),cel (kx+dX d.val) (ky+dY d.val)] w fun e w'=>∃lv,e = .returned lv/\Rq 122 w' lv (zF0 (stB W H tl f c s) W H kx ky d.val)/\Below w.heap.size w w'/\∀g,lv.ownBlock=some g->w.heap.size<=g:=by
 obtain ⟨X,hX⟩:=ex ((w.alloc (.cells #[O ii kx,O ii ky] 47)).alloc (.cells #[O ii (kx+dX d.val),O ii (ky+dY d.val)] 47));have B0:Below w.heap.size w X:=hX▸zA5 _ _ _;have T0:Two X w.heap.size kx ky:=by rw [<-hX];exact (Two.newAt rfl).alloc
 have T1:Two X (w.heap.size+1) (kx+dX d.val) (ky+dY d.val):=by rw [<-hX];exact Two.newAt (by simp)
 have GX:=hG.upto B0
 have HBe:Hid (∀a b e,Calls pg 124 #[ptr p,shv c s,cel a b,O ii e] X.drew fun e' w'=>∃lv,e' = .returned lv/\Rq 122 w' lv (ptQ (stB W H tl f c s) W H a b e)/\Below X.drew.heap.size X.drew w'/\∀g,lv.ownBlock=some g->X.drew.heap.size<=g):=zAc fun a b e=>by
  have hd:Below X.heap.size X X.drew:=⟨rfl,rfl,rfl,Nat.le_refl _,fun _ _=>rfl⟩
  exact zXw c s a b e (hw.kept (bt B0 hd)) (hg.kept (bt B0 hd)) (ho.kept (bt B0 hd)) hS
 have h0:=GX.c0;have h1:=GX.c1;have h2:=GX.c2;obtain ⟨⟨c0,c1⟩,-,-⟩:=id T0;obtain ⟨⟨e0,e1⟩,-,-⟩:=id T1;have HX:=zAc hX;have HB:=zAc B0;have hdl:=d.isLt;generalize ha:kx+dX d.val=nx at *;generalize hb:ky+dY d.val=ny at *;have Hab:=zAc (ai ha hb);clear hX B0 T0 T1 GX hG hw hg ho hS ha hb
 by_cases hlo:d.val=0\/d.val=1
 ·rw [zXq hlo];have HS:X.drew.cell? ⟨gp,0,none⟩=some (ptr p)/\X.drew.cell? ⟨gp,1,none⟩=some (O ii c)/\X.drew.cell? ⟨gp,2,none⟩=some (O ii s)/\X.drew.cell? ⟨w.heap.size,0,none⟩=some (O ii kx)/\X.drew.cell? ⟨w.heap.size,1,none⟩=some (O ii ky):=⟨h0,h1,h2,c0,c1⟩
  have HB1:=zAc (HBe.out kx ky ((d.val:Nat):Int));have hdd0:((d.val:Nat):Int)=0\/((d.val:Nat):Int)=1:=by omega
  obtain ⟨dd,hdd'⟩:∃dd:Int,((d.val:Nat):Int)=dd:=⟨_,rfl⟩
  rw [hdd'] at hdd0 HB1 ⊢;have hdd:=hdd0;clear h0 h1 h2 c0 c1 e0 e1 HBe hlo hdl Hab hdd' hdd0;rcases hdd with hdd|hdd
  ·subst hdd;go_enter func89,ntmps89;go_wp2_with (rw [HX.out]);refine zAp ?_;refine zAg (fun wx:World=>wx.cell? ⟨gp,0,none⟩=some (ptr p)/\wx.cell? ⟨gp,1,none⟩=some (O ii c)/\wx.cell? ⟨gp,2,none⟩=some (O ii s)/\wx.cell? ⟨w.heap.size,0,none⟩=some (O ii kx)/\wx.cell? ⟨w.heap.size,1,none⟩=some (O ii ky)) [10,11] (by kernel_rfl) ?_;refine zv 0 10 8 [ptr gp,ptr gp,.pointer (some ⟨gp,0,none⟩),ptr p,ptr gp,ptr gp,.pointer (some ⟨gp,1,none⟩),shv c s,cel kx ky,O ii 0] rfl rfl (by kernel_rfl) HS ?_;repeat (refine zc rfl (by rfl) (fun wx hx=>by go_simp) ?_;simp only [zp])
   refine zn ?_;refine zw 10 [] (by kernel_rfl) ?_;refine readyZ.call rfl rfl (zIv (by rfl) (by rfl) (by simp only [zj];rfl)) (HB1.out) ?_ readyZ.nil;rintro e w1 ⟨lv,rfl,q1,q2,q3⟩;refine ⟨_,rfl,fun h=>absurd (by decide) h,?_⟩;try simp only [zp]
   refine zq 11 (by kernel_rfl) rfl rfl (zAo (v:=lv) (by rfl) (by rfl)) (fun h=>absurd (by decide) h) ?_;try simp only [zp]
   refine zAf (by kernel_rfl) ?_ _;dsimp only [zA1,Exit.then];obtain ⟨la,lc,hlv⟩:=Rw.slice4 q1;have HE:=zAc (ai q1 (ai (bt HB.out (show Below X.heap.size X w1 from ⟨q2.os,q2.tape,q2.output,q2.size,q2.block⟩)) (fun g e=>Nat.le_trans HB.out.size (q3 g e))));subst hlv;clear q1 q2 q3 HS HB1;go_wp2_with fail;refine bodyPost_ret (v:=.slice la (ptQ (stB W H tl f c s) W H kx ky 0).length lc) (by simp [results,Tryz.f89,go_sem]) rfl ?_;exact ⟨_,rfl,HE.out⟩
  ·subst hdd;go_enter func89,ntmps89;go_wp2_with (rw [HX.out]);refine zAp ?_;refine zAg (fun wx:World=>wx.cell? ⟨gp,0,none⟩=some (ptr p)/\wx.cell? ⟨gp,1,none⟩=some (O ii c)/\wx.cell? ⟨gp,2,none⟩=some (O ii s)/\wx.cell? ⟨w.heap.size,0,none⟩=some (O ii kx)/\wx.cell? ⟨w.heap.size,1,none⟩=some (O ii ky)) [10,11] (by kernel_rfl) ?_;refine zv 0 10 8 [ptr gp,ptr gp,.pointer (some ⟨gp,0,none⟩),ptr p,ptr gp,ptr gp,.pointer (some ⟨gp,1,none⟩),shv c s,cel kx ky,O ii 1] rfl rfl (by kernel_rfl) HS ?_;repeat (refine zc rfl (by rfl) (fun wx hx=>by go_simp) ?_;simp only [zp])
   refine zn ?_;refine zw 10 [] (by kernel_rfl) ?_;refine readyZ.call rfl rfl (zIv (by rfl) (by rfl) (by simp only [zj];rfl)) (HB1.out) ?_ readyZ.nil;rintro e w1 ⟨lv,rfl,q1,q2,q3⟩;refine ⟨_,rfl,fun h=>absurd (by decide) h,?_⟩;try simp only [zp]
   refine zq 11 (by kernel_rfl) rfl rfl (zAo (v:=lv) (by rfl) (by rfl)) (fun h=>absurd (by decide) h) ?_;try simp only [zp]
   refine zAf (by kernel_rfl) ?_ _;dsimp only [zA1,Exit.then];obtain ⟨la,lc,hlv⟩:=Rw.slice4 q1;have HE:=zAc (ai q1 (ai (bt HB.out (show Below X.heap.size X w1 from ⟨q2.os,q2.tape,q2.output,q2.size,q2.block⟩)) (fun g e=>Nat.le_trans HB.out.size (q3 g e))));subst hlv;clear q1 q2 q3 HS HB1;go_wp2_with fail;refine bodyPost_ret (v:=.slice la (ptQ (stB W H tl f c s) W H kx ky 1).length lc) (by simp [results,Tryz.f89,go_sem]) rfl ?_;exact ⟨_,rfl,HE.out⟩
 ·rw [zXr hlo,Hab.out.1,Hab.out.2];have HS:X.drew.cell? ⟨gp,0,none⟩=some (ptr p)/\X.drew.cell? ⟨gp,1,none⟩=some (O ii c)/\X.drew.cell? ⟨gp,2,none⟩=some (O ii s)/\X.drew.cell? ⟨w.heap.size+1,0,none⟩=some (O ii nx)/\X.drew.cell? ⟨w.heap.size+1,1,none⟩=some (O ii ny):=⟨h0,h1,h2,e0,e1⟩
  have HBk:=zAc (zZt d X.drew);have HB1:=zAc (HBe.out nx ny (((bkN d).val:Nat):Int));have hd0:¬((d.val:Nat):Int)=0:=by omega
  have hd1:¬((d.val:Nat):Int)=1:=by omega
  obtain ⟨dd,hdd'⟩:∃dd:Int,((d.val:Nat):Int)=dd:=⟨_,rfl⟩
  obtain ⟨bk,hbk⟩:∃bk:Int,(((bkN d).val:Nat):Int)=bk:=⟨_,rfl⟩
  rw [hdd',hbk] at HBk;rw [hbk] at HB1 ⊢;rw [hdd'] at hd0 hd1 ⊢
  have hlen:(ptQ (stB W H tl f c s) W H nx ny bk).length<=8:=by
   unfold ptQ btL;rw [List.length_map];exact (zJ7 _ W H nx ny bk).2
  generalize ptQ (stB W H tl f c s) W H nx ny bk=L at HB1 hlen ⊢;clear h0 h1 h2 c0 c1 e0 e1 HBe hlo hdl Hab hdd' hbk;have hp0:decide (dd=0)=false:=decide_eq_false hd0;have hp1:decide (dd=1)=false:=decide_eq_false hd1;have hp2:(dd==0)=false:=by simpa using hd0
  have hp3:(dd==1)=false:=by simpa using hd1
  go_enter func89,ntmps89;go_wp2_with (rw [HX.out]);refine zAp ?_;refine zAg (fun wx:World=>wx.cell? ⟨gp,0,none⟩=some (ptr p)/\wx.cell? ⟨gp,1,none⟩=some (O ii c)/\wx.cell? ⟨gp,2,none⟩=some (O ii s)/\wx.cell? ⟨w.heap.size+1,0,none⟩=some (O ii nx)/\wx.cell? ⟨w.heap.size+1,1,none⟩=some (O ii ny)) [11,12] (by kernel_rfl) ?_;refine zv 0 10 8 [ptr gp,ptr gp,.pointer (some ⟨gp,0,none⟩),ptr p,ptr gp,ptr gp,.pointer (some ⟨gp,1,none⟩),shv c s,cel nx ny,O ii dd] rfl rfl (by kernel_rfl) HS ?_;repeat (refine zc rfl (by rfl) (fun wx hx=>by go_simp) ?_;simp only [zp])
  refine zn ?_;refine zw 10 [] (by kernel_rfl) ?_;refine readyZ.call rfl rfl (zS6 (by rfl) (by rfl) (by simp only [zj];rfl)) (HBk.out) ?_ readyZ.nil;rintro e w1 ⟨rfl,rfl⟩;refine ⟨_,rfl,fun _=>HS,?_⟩;try simp only [zp]
  refine zw 11 [] (by kernel_rfl) ?_;refine readyZ.call rfl rfl (zIv (by rfl) (by rfl) (by simp only [zj];rfl)) (HB1.out) ?_ readyZ.nil;rintro e w1 ⟨lv,rfl,q1,q2,q3⟩;refine ⟨_,rfl,fun h=>absurd (by decide) h,?_⟩;try simp only [zp]
  refine zq 12 (by kernel_rfl) rfl rfl (zAo (v:=lv) (by rfl) (by rfl)) (fun h=>absurd (by decide) h) ?_;try simp only [zp]
  refine zAf (by kernel_rfl) ?_ _;dsimp only [zA1,Exit.then];obtain ⟨la,lc,hlv⟩:=Rw.slice4 q1;subst hlv;have bX:Below X.heap.size X w1:=⟨q2.os,q2.tape,q2.output,q2.size,q2.block⟩
  have HE:=zAc (ai q1 (ai (bt HB.out bX) (show ∀g,(Value.slice la L.length lc).ownBlock=some g->w.heap.size<=g from fun g e=>Nat.le_trans HB.out.size (q3 g e))));clear q1 q2 q3 HS HB1 HBk bX;go_wp2_with fail;go_loopw [43] (fun v wr=>∃i:Nat,v = O ii (i:Nat)/\i<=L.length/\Rq 122 wr (.slice la L.length lc) (swq L i)/\Below w.heap.size w wr) (fun v _=>L.length-(intOf v).toNat)
  case atStart=>exact ⟨0,rfl,Nat.zero_le _,HE.out.1,HE.out.2.1⟩
  case round =>
   obtain ⟨i,rfl,hi,hR,hB⟩:=hrel
   by_cases hlt:i<L.length
   ·obtain ⟨t,ht⟩:∃t,L[i]? = some t:=⟨_,List.getElem?_eq_getElem hlt⟩
    obtain ⟨g,rfl,hgl,⟨a0,a1,a2,a3⟩,hfz⟩:=Rw.atq hR (zPg ht);obtain ⟨Y,hY⟩:=ex (wr.alloc (.cells #[O ii t.x,O ii t.y,O ii t.a,O ii t.b] 122));have bY:Below wr.heap.size wr Y:=hY▸zAk _ _;have F4:Four Y wr.heap.size t.x t.y t.a t.b:=by rw [<-hY];exact Four.new12 _ _ _ _ _ _
    have hRY:=Rw.upto hR bY;obtain ⟨g',eg,-,⟨b0,b1,b2,b3⟩,hfy⟩:=Rw.atq hRY (zPg ht);have eg':g'=g:=by injection eg with eg;injection eg with eg;exact eg.symm
    subst eg';obtain ⟨z1,z2⟩:=Rw.setAt4 (zWr L i).symm hRY i (zPg ht) t.swap;rw [zWq ht] at z1;simp only [Q4.swap] at z1 z2;obtain ⟨Z,hZ⟩:=ex ((((Y.setCell ⟨g',i*4,none⟩ (O ii t.a)).setCell ⟨g',i*4+1,none⟩ (O ii t.b)).setCell ⟨g',i*4+2,none⟩ (O ii t.x)).setCell ⟨g',i*4+3,none⟩ (O ii t.y));rw [hZ] at z1 z2;have hown:=HE.out.2.2 g' rfl;have HN:=zAc (show Rq 122 Z (.slice (some ⟨g',0,none⟩) L.length lc) (swq L (i+1))/\Below w.heap.size w Z from ⟨z1,hB.trans (((bY.mono hB.size)).trans (z2.below (fun k e=>by omega) (Nat.le_trans hB.size bY.size)))⟩);obtain ⟨⟨f0,f1,f2,f3⟩,-,-⟩:=id F4;have HY:=zAc hY;have HZ:=zAc hZ;have hki:(i:Int)<(L.length:Nat):=by omega
    have hf0:=hfy (i*4);have hf1:=hfy (i*4+1);have hf2:=hfy (i*4+2);have hf3:=hfy (i*4+3);have hne:g'≠wr.heap.size:=by omega
    clear hR hB hRY z1 z2 hY hZ bY F4 hfz hfy hown ht eg;obtain ⟨tx,htx⟩:∃z,t.x=z:=⟨_,rfl⟩
    obtain ⟨ty,hty⟩:∃z,t.y=z:=⟨_,rfl⟩
    obtain ⟨ta,hta⟩:∃z,t.a=z:=⟨_,rfl⟩
    obtain ⟨tb,htb⟩:∃z,t.b=z:=⟨_,rfl⟩
    rw [htx,hty,hta,htb] at HY HZ;rw [htx] at a0 f0 b0;rw [hty] at a1 f1 b1;rw [hta] at a2 f2 b2;rw [htb] at a3 f3 b3;clear htx hty hta htb t;go_wp2_with (first|rw [HY.out]|rw [HZ.out]);go_roundw
    case rel=>exact ⟨i+1,by go_num,by omega,HN.out.1,HN.out.2⟩
    case measure=>simp only [intOf];omega
   ·have hi':i=L.length:=by omega
    subst hi';have HF:=zAc (show Rq 122 wr (.slice la L.length lc) (L.map Q4.swap)/\Below w.heap.size w wr/\∀g,(Value.slice la L.length lc).ownBlock=some g->w.heap.size<=g from ⟨zWs L▸hR,hB,HE.out.2.2⟩);clear hR hB HE;go_wp2_with fail;refine bodyPost_ret (v:=.slice la L.length lc) (by simp [results,Tryz.f89,go_sem]) rfl ?_;exact ⟨_,rfl,HF.out⟩
end
theorem zP1:Rcl 90:=zl fun _ _=>by go_simp
theorem zXa:Rcl 91:=zl fun _ _=>by go_simp
theorem zRy {F G:World->Nat->Prop} {C:Prop} (h1:(∀V q,F V q->G V q)->C) (h2:∀V q,F V q->G V q):C:=h1 h2
theorem zCl {ev:Operand->Value} {o:Oper} {w:World} (ho:o.op = .alloc 49):(execOp ev o).run pg w = .ok (.value (ptr w.heap.size)) (w.alloc (.cells #[O ii 0,O ii 0,O ii 0,O ii 0] 49)):=by
 unfold execOp;simp only [ho];go_simp
theorem zJ3 {ev:Operand->Value} {o:Oper} {w:World} {x y:Operand} {k:Nat} {a b d e p q r t:Int} (ho:o.op = .store 49 x y) (hx:ev x=ptr k) (hy:ev y=rct p q r t) (hF:Four w k a b d e) :
 (execOp ev o).run pg w = .ok .skip ((((w.setCell ⟨k,0,none⟩ (O ii p)).setCell ⟨k,1,none⟩ (O ii q)).setCell ⟨k,2,none⟩ (O ii r)).setCell ⟨k,3,none⟩ (O ii t)):=by
 obtain ⟨⟨f0,f1,f2,f3⟩,⟨g0,g1,g2,g3⟩,hl⟩:=hF;unfold execOp;rw [ho];simp only [hx,hy];go_simp
def zQ4 (C:List Int) (ix iy iw:Int) (q:Int×Int):List E3:=match C[ij ix iy iw q.1 q.2]? with
 |some m=>if 0<m then [⟨q.1,q.2,m⟩] else []
 |none=>[]
def zMb (C:List Int) (ix iy iw:Int) (l:List (Int×Int)):List E3:=l.flatMap (zQ4 C ix iy iw)
theorem zNf (C:List Int) (ix iy iw:Int) (l:List (Int×Int)):(zMb C ix iy iw l).length<=l.length:=by
 unfold zMb
 induction l with
 |nil=>simp
 |cons q r ih =>
  rw [List.flatMap_cons,List.length_append,List.length_cons]
  have:(zQ4 C ix iy iw q).length<=1:=by
   unfold zQ4
   split
   ·split<;>simp
   ·simp
  omega
theorem zQ3 {C:List Int} {ix iy iw:Int} {l:List (Int×Int)} {i:Nat} {q:Int×Int} (h:l[i]? = some q):zMb C ix iy iw (l.take (i+1))=zMb C ix iy iw (l.take i)++zQ4 C ix iy iw q:=by
 unfold zMb;rw [List.take_add_one,h,List.flatMap_append];simp
theorem qBs {ix iy iw ih x y:Int} (hi:0<=ix/\0<=iy/\ix+iw<=128/\iy+ih<=128) (hq:inB ix iy iw ih (x,y)):∃zy z z':Int,IntKind.i64.wrap (y-iy)=zy/\IntKind.i64.wrap (zy*iw)=z/\IntKind.i64.wrap (z+x)=z'/\IntKind.i64.wrap (z'-ix)=((ij ix iy iw x y:Nat):Int):=by
 obtain ⟨⟨h1,h2⟩,h3,h4⟩:=hq;simp only at h1 h2 h3 h4;have hm:0<=(y-iy)*iw/\(y-iy)*iw<=128*128:=⟨Int.mul_nonneg h3 (by omega),Int.mul_le_mul (by omega) (by omega) (by omega) (by omega)⟩
 refine ⟨y-iy,(y-iy)*iw,(y-iy)*iw+x,IntWalk.i64_in _ (by omega),IntWalk.i64_in _ (by omega),IntWalk.i64_in _ (by omega),?_⟩;rw [IntWalk.i64_in _ (by omega)];unfold ij;omega
theorem zMm {W H kx ky:Int} (hW:1<=W/\W<=128) (hH:1<=H/\H<=128) (hr:rB W H kx ky=true):(0<=kx*8/\0<=ky*8/\kx*8+rS W kx<=W/\ky*8+rS H ky<=H)/\(1<=rS W kx/\rS W kx<=8)/\1<=rS H ky/\rS H ky<=8:=by
 obtain ⟨h1,h2⟩:=(zBp hW hH).1 hr;unfold rS;omega
theorem qCt {W H kx ky:Int} (hW:1<=W/\W<=128) (hH:1<=H/\H<=128) (hr:rB W H kx ky=true):wi (kx*8) (ky*8) (rS W kx) (rS H ky) 0 0 W H=true:=by
 obtain ⟨h1,h2,h3⟩:=zMm hW hH hr;unfold wi;rw [Bool.and_eq_true,Bool.and_eq_true];exact ⟨(zA0 _ _ _ _).2 (by omega),(zAy _ _ _ _ _ _).2 ⟨(zA0 _ _ _ _).2 (by omega),by omega⟩,(zAy _ _ _ _ _ _).2 ⟨(zA0 _ _ _ _).2 (by omega),by omega⟩⟩
theorem zFu {w:World} {a:Option Addr} {m c:Nat} {L:List (Int×Int)} (h:RC w (.slice a m c) L) {i:Nat} {q:Int×Int} (hi:L[i]? = some q) :
 ∃g,a=some ⟨g,0,none⟩/\g<w.heap.size/\w.cell? ⟨g,i*2,none⟩=some (O ii q.1)/\w.cell? ⟨g,i*2+1,none⟩=some (O ii q.2):=by
 obtain ⟨a',cap,e,hle,hc⟩:=Rw.form zO8 h;obtain ⟨g,rfl,hg,hcell⟩:=hc i q hi;cases e;exact ⟨g,rfl,hg,hcell 0 _ rfl,hcell 1 _ rfl⟩
theorem zQ1 {w:World} {gp p:Nat} {c s ep:Int} {wb eb:Nat} {W H:Int} {tl:List Nat} {f:Int->Int->Option Int} (hG:Gp w gp p c s ep wb eb) (hw:Wl w p W H tl f) (hg:Grnd w) (ho:Offs w) (kx ky fx fy:Int) (hr:rB W H kx ky=true)
 (hf:has (kx*8) (ky*8) (rS W kx) (rS H ky) fx fy=true) {na:Option Addr} {nn nc:Nat} {NL:List (Int×Int)} (hN:RC w (.slice na nn nc) NL) (hNi:∀q∈NL,inB (kx*8) (ky*8) (rS W kx) (rS H ky) q) (hlen:NL.length<=100) :
 Calls pg 59 #[ptr gp,cel kx ky,cel fx fy,.slice na nn nc] w fun e w'=>∃lv C,e = .returned lv/\Tbl W H tl f c s (kx*8) (ky*8) (rS W kx) (rS H ky) (fx,fy) C/\RE w' lv (zMb C (kx*8) (ky*8) (rS W kx) NL)/\Below w.heap.size w w'/\∀g,lv.ownBlock=some g->w.heap.size<=g:=by
 obtain ⟨hW,hH⟩:=hw.sides;obtain ⟨hi,hi2,hi3⟩:=zMm hW hH hr;have hwi:=qCt hW hH hr
 have hnn:nn=NL.length:=by
  obtain ⟨a',c',e⟩:=zBf hN;cases e;rfl
 subst hnn;obtain ⟨X,hX⟩:=ex ((w.alloc (.cells #[O ii kx,O ii ky] 47)).alloc (.cells #[O ii fx,O ii fy] 47));have B0:Below w.heap.size w X:=hX▸zA5 _ _ _;have T0:Two X w.heap.size kx ky:=by rw [<-hX];exact (Two.newAt rfl).alloc
 have T1:Two X (w.heap.size+1) fx fy:=by rw [<-hX];exact Two.newAt (by simp)
 have zX:X.heap.size=w.heap.size+2:=by rw [<-hX];simp
 have HRe:Hid (∀wx,Below X.heap.size X wx->Calls pg 90 #[ptr p,cel kx ky] wx fun e w'=>e = .returned (.tuple #[rct (kx*8) (ky*8) (rS W kx) (rS H ky),.bool true])/\Below wx.heap.size wx w'):=zAc fun wx q=>by
  have:=zM2 kx ky (hw.kept (bt B0 q))
  rwa [rV,hr,if_pos rfl] at this
 have HCo:Hid (∀wx,Below X.heap.size X wx->Calls pg 91 #[ptr p,shv c s,cel fx fy,rct (kx*8) (ky*8) (rS W kx) (rS H ky)] wx (zGn W H tl f c s (kx*8) (ky*8) (rS W kx) (rS H ky) fx fy wx)):=zAc fun wx q =>
  zOq p W H tl f c s fx fy (kx*8) (ky*8) (rS W kx) (rS H ky) wx (hw.kept (bt B0 q)) (hg.kept (bt B0 q)) (ho.kept (bt B0 q)) hW.2 hH.2 hwi hf
 have HK:Hid (∀wx,Below X.heap.size X wx->(wx.cell? ⟨gp,0,none⟩=some (ptr p)/\wx.cell? ⟨gp,1,none⟩=some (O ii c)/\wx.cell? ⟨gp,2,none⟩=some (O ii s))/\(wx.cell? ⟨w.heap.size,0,none⟩=some (O ii kx)/\wx.cell? ⟨w.heap.size,1,none⟩=some (O ii ky))/\wx.cell? ⟨w.heap.size+1,0,none⟩=some (O ii fx)/\wx.cell? ⟨w.heap.size+1,1,none⟩=some (O ii fy)):=zAc fun wx q =>
  ⟨⟨(hG.upto (bt B0 q)).c0,(hG.upto (bt B0 q)).c1,(hG.upto (bt B0 q)).c2⟩,⟨(T0.kept q).1.1,(T0.kept q).1.2⟩,(T1.kept q).1.1,(T1.kept q).1.2⟩
 have HN:Hid (∀wx,Below X.heap.size X wx->RC wx (.slice na NL.length nc) NL):=zAc fun wx q=>hN.upto (bt B0 q);have HX:=zAc hX;have HB:=zAc B0;have Hnum:=zAc (ai hi (ai hi2 (ai hi3 (ai hW hH))));have HNi:=zAc hNi;obtain ⟨ix,hix⟩:=ex (kx*8);obtain ⟨iy,hiy⟩:=ex (ky*8);obtain ⟨iw,hiw⟩:=ex (rS W kx);obtain ⟨ih,hih⟩:=ex (rS H ky);rw [hix,hiy,hiw,hih] at HRe HCo Hnum HNi ⊢;have hd:Below X.heap.size X X.drew:=⟨rfl,rfl,rfl,Nat.le_refl _,fun _ _=>rfl⟩
 have HS:=HK.out X.drew hd;have Hd:=zAc hd;clear hX B0 T0 T1 hG hw hg ho hr hf hN hNi hi hi2 hi3 hwi hW hH hix hiy hiw hih hd;go_enter func59,ntmps59;go_wp2_with (rw [HX.out]);refine zAp ?_;refine zAg (fun wx:World=>(wx.cell? ⟨gp,0,none⟩=some (ptr p)/\wx.cell? ⟨gp,1,none⟩=some (O ii c)/\wx.cell? ⟨gp,2,none⟩=some (O ii s))/\(wx.cell? ⟨w.heap.size,0,none⟩=some (O ii kx)/\wx.cell? ⟨w.heap.size,1,none⟩=some (O ii ky))/\wx.cell? ⟨w.heap.size+1,0,none⟩=some (O ii fx)/\wx.cell? ⟨w.heap.size+1,1,none⟩=some (O ii fy)) [11] (by kernel_rfl) ?_;refine zv 0 5 8 [ptr gp,ptr gp,.pointer (some ⟨gp,0,none⟩),ptr p,cel kx ky] rfl rfl (by kernel_rfl) HS ?_;repeat (refine zc rfl (by rfl) (fun wx hx=>by go_simp) ?_;simp only [zp])
 refine zn ?_;refine zRy (F:=fun V q=>Below X.heap.size X V/\Four V q 0 0 0 0/\X.heap.size<=q) (G:=?G) ?ways ?then2
 case ways =>
  intro HG;refine zw 5 [9] (by kernel_rfl) ?_;refine readyZ.call rfl rfl (zP1 (by rfl) (by rfl) (by simp only [zj];rfl)) (HRe.out _ Hd.out) ?_ ?_
  ·rintro e Y1 ⟨rfl,hY1⟩;have b1:Below X.heap.size X Y1:=bt Hd.out hY1;have HS1:=HK.out Y1 b1;refine ⟨_,rfl,fun _=>HS1,?_⟩;try simp only [zp]
   refine zv 6 3 8 [.tuple #[rct ix iy iw ih,.bool true],rct ix iy iw ih,.bool true] rfl rfl (by kernel_rfl) HS1 ?_;repeat (refine zc rfl (by rfl) (fun wx hx=>by go_simp) ?_;simp only [zp])
   refine zn ?_;refine zq 9 (by kernel_rfl) rfl rfl (zCl (by rfl)) (fun _=>HK.out _ (bt b1 (zAk _ _))) ?_;try simp only [zp]
   have hF:Below X.heap.size X (Y1.alloc (.cells #[O ii 0,O ii 0,O ii 0,O ii 0] 49))/\Four (Y1.alloc (.cells #[O ii 0,O ii 0,O ii 0,O ii 0] 49)) Y1.heap.size 0 0 0 0/\X.heap.size<=Y1.heap.size:=⟨bt b1 (zAk _ _),Four.new12 _ _ _ _ _ _,b1.size⟩
   generalize Y1.alloc (.cells #[O ii 0,O ii 0,O ii 0,O ii 0] 49)=V at hF ⊢;generalize Y1.heap.size=q at hF ⊢;exact HG V q hF
  ·refine readyZ.cons rfl rfl (zCl (by rfl)) (fun _=>HK.out _ (bt Hd.out (zAk _ _))) ?_ readyZ.nil;try simp only [zp]
   have b2:Below X.heap.size X (X.drew.alloc (.cells #[O ii 0,O ii 0,O ii 0,O ii 0] 49)):=bt Hd.out (zAk _ _);have F2:Four (X.drew.alloc (.cells #[O ii 0,O ii 0,O ii 0,O ii 0] 49)) X.drew.heap.size 0 0 0 0:=Four.new12 _ _ _ _ _ _;have hq:X.heap.size<=X.drew.heap.size:=Nat.le_refl _;generalize X.drew.alloc (.cells #[O ii 0,O ii 0,O ii 0,O ii 0] 49)=V0 at b2 F2 ⊢;generalize X.drew.heap.size=q at F2 hq ⊢;refine zw 5 [] (by kernel_rfl) ?_;refine readyZ.call rfl rfl (zP1 (by rfl) (by rfl) (by simp only [zj];rfl)) (HRe.out _ b2) ?_ readyZ.nil;rintro e V ⟨rfl,hV⟩;have b3:Below X.heap.size X V:=bt b2 hV;have HS2:=HK.out V b3;refine ⟨_,rfl,fun _=>HS2,?_⟩;try simp only [zp]
   refine zv 6 3 8 [.tuple #[rct ix iy iw ih,.bool true],rct ix iy iw ih,.bool true] rfl rfl (by kernel_rfl) HS2 ?_;repeat (refine zc rfl (by rfl) (fun wx hx=>by go_simp) ?_;simp only [zp])
   refine zn ?_;exact HG V q ⟨b3,F2.kept hV,hq⟩
 case then2 =>
  rintro V q ⟨bV,FV,hq⟩;have HS3:=HK.out V bV;obtain ⟨Z,hZ⟩:=ex ((((V.setCell ⟨q,0,none⟩ (O ii ix)).setCell ⟨q,1,none⟩ (O ii iy)).setCell ⟨q,2,none⟩ (O ii iw)).setCell ⟨q,3,none⟩ (O ii ih));have FZ:Four Z q ix iy iw ih:=hZ▸FV.set ix iy iw ih;have TZ:Turns (fun j=>j=q) V Z:=hZ▸zC2 V q _ _ _ _;have bZ:Below X.heap.size X Z:=bV.trans (TZ.below (fun k e=>by omega) bV.size);have HS4:=HK.out Z bZ;refine zw 10 [] (by kernel_rfl) ?_;refine readyZ.skip rfl rfl (zJ3 (by rfl) (by rfl) (by rfl) FV) (fun _=>by rw [hZ];exact HS4) ?_ readyZ.nil;try simp only [zp]
  rw [hZ];refine zq 11 (by kernel_rfl) rfl rfl (zAo (v:=.bool true) (by rfl) (by rfl)) (fun h=>absurd (by decide) h) ?_;try simp only [zp]
  refine zAf (by kernel_rfl) ?_ _;dsimp only [zA1,Exit.then];have hd4:Below Z.heap.size Z Z.drew:=⟨rfl,rfl,rfl,Nat.le_refl _,fun _ _=>rfl⟩
  have HCo2:=zAc (HCo.out Z.drew (bt bZ hd4));obtain ⟨k1,-,k3⟩:=HK.out Z.drew (bt bZ hd4);obtain ⟨⟨z0,z1,z2,z3⟩,-,hqZ⟩:=id FZ;have HS5:(Z.drew.cell? ⟨gp,0,none⟩=some (ptr p)/\Z.drew.cell? ⟨gp,1,none⟩=some (O ii c)/\Z.drew.cell? ⟨gp,2,none⟩=some (O ii s))/\(Z.drew.cell? ⟨w.heap.size+1,0,none⟩=some (O ii fx)/\Z.drew.cell? ⟨w.heap.size+1,1,none⟩=some (O ii fy))/\Z.drew.cell? ⟨q,0,none⟩=some (O ii ix)/\Z.drew.cell? ⟨q,1,none⟩=some (O ii iy)/\Z.drew.cell? ⟨q,2,none⟩=some (O ii iw)/\Z.drew.cell? ⟨q,3,none⟩=some (O ii ih):=⟨k1,k3,z0,z1,z2,z3⟩
  have HbZ:=zAc (ai bZ (ai FZ (ai hq hqZ)));clear HS HS3 HS4 bV FV TZ bZ FZ hZ k1 k3 z0 z1 z2 z3 hd4 HCo HRe hq hqZ;go_wp2_with fail;refine zAp ?_;refine zAg (fun wx:World=>(wx.cell? ⟨gp,0,none⟩=some (ptr p)/\wx.cell? ⟨gp,1,none⟩=some (O ii c)/\wx.cell? ⟨gp,2,none⟩=some (O ii s))/\(wx.cell? ⟨w.heap.size+1,0,none⟩=some (O ii fx)/\wx.cell? ⟨w.heap.size+1,1,none⟩=some (O ii fy))/\wx.cell? ⟨q,0,none⟩=some (O ii ix)/\wx.cell? ⟨q,1,none⟩=some (O ii iy)/\wx.cell? ⟨q,2,none⟩=some (O ii iw)/\wx.cell? ⟨q,3,none⟩=some (O ii ih)) [15] (by kernel_rfl) ?_;refine zv 0 10 8 [ptr gp,ptr gp,.pointer (some ⟨gp,0,none⟩),ptr p,ptr gp,ptr gp,.pointer (some ⟨gp,1,none⟩),shv c s,cel fx fy,rct ix iy iw ih] rfl rfl (by kernel_rfl) HS5 ?_;repeat (refine zc rfl (by rfl) (fun wx hx=>by go_simp) ?_;simp only [zp])
  refine zn ?_;refine zw 10 [] (by kernel_rfl) ?_;refine readyZ.call rfl rfl (zXa (by rfl) (by rfl) (by simp only [zj];rfl)) (HCo2.out) ?_ readyZ.nil;rintro e w2 ⟨va,vn,vc,C,rfl,hb2,⟨hct,hown2⟩,hT⟩;have bw2:Below X.heap.size X w2:=bt HbZ.out.1 ⟨hb2.os,hb2.tape,hb2.output,hb2.size,hb2.block⟩;have F2:Four w2 q ix iy iw ih:=HbZ.out.2.1.kept ⟨hb2.os,hb2.tape,hb2.output,hb2.size,hb2.block⟩;obtain ⟨j1,-,j3⟩:=HK.out w2 bw2;obtain ⟨⟨z0,z1,z2,z3⟩,-,hqZ⟩:=id F2;have HS6:(w2.cell? ⟨gp,0,none⟩=some (ptr p)/\w2.cell? ⟨gp,1,none⟩=some (O ii c)/\w2.cell? ⟨gp,2,none⟩=some (O ii s))/\(w2.cell? ⟨w.heap.size+1,0,none⟩=some (O ii fx)/\w2.cell? ⟨w.heap.size+1,1,none⟩=some (O ii fy))/\w2.cell? ⟨q,0,none⟩=some (O ii ix)/\w2.cell? ⟨q,1,none⟩=some (O ii iy)/\w2.cell? ⟨q,2,none⟩=some (O ii iw)/\w2.cell? ⟨q,3,none⟩=some (O ii ih):=⟨j1,j3,z0,z1,z2,z3⟩
  refine ⟨_,rfl,fun _=>HS6,?_⟩;try simp only [zp]
  refine zv 11 3 8 [.tuple #[.slice va vn vc,O ii 0],.slice va vn vc,O ii 0] rfl rfl (by kernel_rfl) HS6 ?_;repeat (refine zc rfl (by rfl) (fun wx hx=>by go_simp) ?_;simp only [zp])
  refine zn ?_;refine zq 14 (by kernel_rfl) rfl rfl (zAo (v:=.slice va vn vc) (by rfl) (by rfl)) (fun _=>HS6) ?_;try simp only [zp]
  refine zq 15 (by kernel_rfl) rfl rfl (zAo (v:=O ii 0) (by rfl) (by rfl)) (fun h=>absurd (by decide) h) ?_;try simp only [zp]
  refine zAf (by kernel_rfl) ?_ _;dsimp only [zA1,Exit.then]
  have hCl:0<C.length:=by
   rw [hT.1];have h1:=Hnum.out;have:0<ih*iw:=Int.mul_pos (by omega) (by omega);omega
  obtain ⟨gc,cc,hcv,hgc⟩:=hct.form hCl;rw [hcv];rw [hcv] at hct hown2;have HC:=zAc (ai hct hT);have HE:=zAc (ai bw2 (ai F2 (ai HbZ.out.2.2.1 (show ∀j,(Value.slice (some ⟨gc,0,none⟩) C.length cc).ownBlock=some j->X.heap.size<=j from fun j e=>Nat.le_trans HbZ.out.1.size (hown2 j e)))));clear hct hT hown2 hcv hCl hb2 bw2 F2 j1 j3 z0 z1 z2 z3 hqZ HS5 HS6 HCo2 va vn vc;go_wp2_with fail;go_loopw [13,42] (fun l v wr=>∃(i:Nat) (la:Option Addr) (m lc:Nat),l = .slice la m lc/\v = O ii (i:Nat)/\i<=NL.length/\(RE wr (.slice la m lc) (zMb C ix iy iw (NL.take i))/\∀g,(Value.slice la m lc).ownBlock=some g->w2.heap.size<=g)/\Below w2.heap.size w2 wr) (fun _ v _=>NL.length-(intOf v).toNat)
  case atStart=>exact ⟨0,none,0,0,rfl,rfl,Nat.zero_le _,⟨Rw.nil _ _ _ _,fun g e=>by cases e⟩,Below.refl _ _⟩
  case round =>
   obtain ⟨i,la,m,lc,rfl,rfl,hi,⟨hR,hRo⟩,hB⟩:=hrel
   by_cases hlt:i<NL.length
   ·obtain ⟨t,ht⟩:∃t,NL[i]? = some t:=⟨_,List.getElem?_eq_getElem hlt⟩
    obtain ⟨tx,ty⟩:=t;have hBX:Below X.heap.size X wr:=bt HE.out.1 hB;obtain ⟨gn,rfl,hgn,n0,n1⟩:=zFu (HN.out wr hBX) ht;obtain ⟨Y,hY⟩:=ex (wr.alloc (.cells #[O ii tx,O ii ty] 47));have bY:Below wr.heap.size wr Y:=hY▸zAk _ _;have TY:Two Y wr.heap.size tx ty:=by rw [<-hY];exact Two.newAt rfl
    have FY:=HE.out.2.1.kept (bt hB bY);have hq2:=HE.out.2.1.2.2;have hin:=HNi.out (tx,ty) (List.mem_of_getElem? ht);obtain ⟨hi1,hi2,hi3,hW,hH⟩:=Hnum.out;obtain ⟨zy,z,z',hz0,hz1,hz2,hz3⟩:=qBs (ix:=ix) (iy:=iy) (iw:=iw) (ih:=ih) ⟨by omega,by omega,by omega,by omega⟩ hin;have hjl:=zHg hin;simp only at hjl;rw [<-HC.out.2.1] at hjl;obtain ⟨j,hj⟩:=ex (ij ix iy iw tx ty);rw [hj] at hz3 hjl;obtain ⟨mm,hmm⟩:∃mm,C[j]? = some mm:=⟨_,List.getElem?_eq_getElem hjl⟩
    obtain ⟨cj,fj⟩:=(HC.out.1.upto (bt hB bY)).got hmm;have htk:=zQ3 (C:=C) (ix:=ix) (iy:=iy) (iw:=iw) ht
    have hF:zQ4 C ix iy iw (tx,ty)=if 0<mm then [⟨tx,ty,mm⟩] else []:=by
     unfold zQ4;simp only;rw [hj,hmm]
    rw [hF] at htk;obtain ⟨⟨f0,f1,f2,f3⟩,-,-⟩:=id FY;obtain ⟨⟨t0,t1⟩,-,-⟩:=id TY;have hRY:=hR.upto bY;have hml:=zNf C ix iy iw (NL.take i);have hml2:(NL.take i).length<=100:=by rw [List.length_take];omega
    have hki:(i:Int)<(NL.length:Nat):=by omega
    have hji:(j:Int)<(C.length:Nat):=by omega
    have HY:=zAc hY;have HBY:=zAc (bt hB bY);have Htk:=zAc htk;have hnew:wr.heap.size<Y.heap.size:=by rw [<-hY];simp
    by_cases h0:0<mm
    ·obtain ⟨v',w',q1,q2,q3,q4⟩:=qAs hRY ⟨tx,ty,mm⟩ (by omega);obtain ⟨a2,n2,c2,hv2⟩:∃a n c,v' = .slice a n c:=by obtain ⟨a,c,e⟩:=zCz q2;exact ⟨_,_,_,e⟩
     simp only at q1;have HA:=zAc q1
     have HN2:Hid (RE w' v' (zMb C ix iy iw (NL.take (i+1)))/\(∀g,v'.ownBlock=some g->w2.heap.size<=g)/\Below w2.heap.size w2 w'):=zAc ⟨by rw [Htk.out,if_pos h0];exact q2,fun g e=>by
      have:=HBY.out.size;rcases q3 g e with q|q
      ·exact hRo g q
      ·omega,HBY.out.trans (q4.below (fun k e=>hRo k e) HBY.out.size)⟩
     subst hv2;clear hR hRo hB hBX bY TY FY hin hi1 hi2 hi3 hW hH hmm htk hF hRY hml hml2 q1 q2 q3 q4 ht hgn hjl hj;go_wp2_with (first|(rw [HY.out])|(at_builtin;refine zAv rfl _ _ 60 rfl _ _ rfl rfl HA.out ?_));go_roundw
     case rel=>exact ⟨i+1,_,_,_,rfl,by go_num,by omega,⟨HN2.out.1,HN2.out.2.1⟩,HN2.out.2.2⟩
     case measure=>simp only [intOf];omega
    ·have HN2:Hid (RE Y (.slice la m lc) (zMb C ix iy iw (NL.take (i+1)))/\(∀g,(Value.slice la m lc).ownBlock=some g->w2.heap.size<=g)/\Below w2.heap.size w2 Y):=zAc ⟨by rw [Htk.out,if_neg h0,List.append_nil];exact hRY,hRo,HBY.out⟩;clear hR hRo hB hBX bY TY FY hin hi1 hi2 hi3 hW hH hmm htk hF hRY hml hml2 ht hgn hjl hj;go_wp2_with (rw [HY.out]);go_roundw
     case rel=>exact ⟨i+1,_,_,_,rfl,by go_num,by omega,⟨HN2.out.1,HN2.out.2.1⟩,HN2.out.2.2⟩
     case measure=>simp only [intOf];omega
   ·have hi':i=NL.length:=by omega
    subst hi';rw [List.take_length] at hR;have HF:=zAc (show ∃lv C,Ending.returned (.slice la m lc) = .returned lv/\Tbl W H tl f c s ix iy iw ih (fx,fy) C/\RE wr lv (zMb C ix iy iw NL)/\Below w.heap.size w wr/\∀g,lv.ownBlock=some g->w.heap.size<=g from ⟨_,C,rfl,HC.out.2,hR,bt HB.out (bt HE.out.1 hB),fun g e=>Nat.le_trans (bt HB.out HE.out.1).size (hRo g e)⟩);clear hR hB hRo HE HC;go_wp2_with fail;refine bodyPost_ret (v:=.slice la m lc) (by simp [results,Tryz.f59,go_sem]) rfl ?_;exact HF.out
end Go.Proofs.YthiafmlgialbnaaGreatDoor
