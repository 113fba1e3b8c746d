import Derived.Test.YtejjcenhjpjefaaGreatDoorSown
import Derived.Test.YtejjcenhjpjefaaGreatDoorHpo
set_option linter.all false
set_option maxRecDepth 1000000
set_option maxHeartbeats 64000000
open Go.Proofs.Tryz
open Go.Proofs.Tryz renaming prog->pg
open Array renaming getElem?_eq_some_iff->gE
open And renaming intro->ai
open Go.Value renaming int->O
open Go.IntKind renaming i64->ii
namespace Go.Proofs.YtejjcenhjpjefaaGreatDoor
open Go.RowKit Go.Shelf
attribute [local go_sem] Oper.semAt_some
theorem Hs.len {w:World} {b:Nat} {v:Value} {n:Int} {S:List It} (h:Hs w b v n S):∃a cap,v = .slice a S.length cap/\S.length<=maxLen/\Hp w b (.slice a S.length cap) n false:=by
 obtain ⟨l,h1,h2,h3,h4⟩:=h;obtain ⟨a,cap,rfl,hm⟩:=h2.slice;rw [h4.length_eq] at h1 hm ⊢;exact ⟨a,cap,rfl,hm,h1⟩
theorem Hs.own {w:World} {b:Nat} {v:Value} {n:Int} {S:List It} (h:Hs w b v n S):b<w.heap.size/\(∀k,v.ownBlock=some k->k<w.heap.size)/\v.ownBlock≠some b:=by
 obtain ⟨l,h1,h2,h3,h4⟩:=h;refine ⟨h1.lt,fun k e=>?_,h1.ne_row h2 (by decide)⟩;rcases h2.2 with ⟨rfl,_⟩|⟨g,cap,cur,rfl,_,hg,_⟩
 ·simp [Value.ownBlock] at e
 ·simp [Value.ownBlock] at e;subst e;exact (gE.1 hg).1
def Drn (S xs R:List It):Prop:=∀M:List It->List It->Prop,M [] S->(∀xs R R' t,M xs R->R.Perm (t::R')->(∀u∈R,lt u t=false)->M (xs++[t]) R')->M xs R
theorem Drn.start {S:List It}:Drn S [] S:=fun _ h _=>h
theorem Drn.next {S xs R R':List It} {t:It} (h:Drn S xs R) (h1:R.Perm (t::R')) (h2:∀u∈R,lt u t=false):Drn S (xs++[t]) R':=fun M m1 m2=>m2 _ _ _ _ (h M m1 m2) h1 h2
theorem Drn.ind {S:List It} {motive:(xs R:List It)->Drn S xs R->Prop} (start:motive [] S Drn.start) (next:∀{xs R R':List It} {t:It} (h:Drn S xs R) (h1:R.Perm (t::R')) (h2:∀u∈R,lt u t=false),motive xs R h->motive (xs++[t]) R' (Drn.next h h1 h2)) {xs R:List It} (h:Drn S xs R):motive xs R h:=by
 obtain ⟨h',hm⟩:∃h':Drn S xs R,motive xs R h':=h (fun xs R=>∃h':Drn S xs R,motive xs R h') ⟨_,start⟩ (fun xs R R' t ⟨h',hm⟩ h1 h2=>⟨_,next h' h1 h2 hm⟩);exact hm
theorem Drn.cs {S:List It} {motive:(xs R:List It)->Drn S xs R->Prop} (start:motive [] S Drn.start) (next:∀{xs R R':List It} {t:It} (h:Drn S xs R) (h1:R.Perm (t::R')) (h2:∀u∈R,lt u t=false),motive (xs++[t]) R' (Drn.next h h1 h2)) {xs R:List It} (h:Drn S xs R):motive xs R h:=Drn.ind start (fun h h1 h2 _=>next h h1 h2) h
def Nxt (S xs:List It) (t:It):Prop:=∃R,Drn S (xs++[t]) R
def Hb (b:Nat) (v:Value) (k:Nat):Prop:=k=b\/v.ownBlock=some k
theorem Hs.same {X Y:World} {b:Nat} {v:Value} {n:Int} {S:List It} (h:Hs X b v n S) (hk:∀k,Hb b v k->Y.heap[k]? = X.heap[k]?):Hs Y b v n S:=by
 obtain ⟨l,h1,h2,h3,h4⟩:=h;refine ⟨l,(hk b (.inl rfl)).trans h1,⟨h2.1,?_⟩,h3,h4⟩;rcases h2.2 with h5|⟨g,cap,cur,e,hb,hg,r⟩
 ·exact .inl h5
 ·exact .inr ⟨g,cap,cur,e,hb,(hk g (.inr (by rw [e];rfl))).trans hg,r⟩
def lenOf:Option Value->Nat
 |some (.slice _ n _)=>n
 |_=>0
def lenAt (b:Nat) (w:World):Nat:=lenOf (w.cell? ⟨b,1,none⟩)
theorem Hs.lenAt {w:World} {b:Nat} {v:Value} {n:Int} {S:List It} (h:Hs w b v n S):lenAt b w=S.length:=by
 obtain ⟨a,cap,rfl,hm,hp⟩:=h.len;have h1:w.cell? ⟨b,1,none⟩=some (.slice a S.length cap):=hp.c 1;simp [YtejjcenhjpjefaaGreatDoor.lenAt,h1,lenOf]
def zY7 {α:Type} (M:Nat->Prop) (J:α->World->Prop):Prop:=∀s X Y,J s X->Turns M X Y->J s Y
theorem zPq (n c b l:Nat) (v:Value) (cnt:Int) (S:List It) (J Jx:List It->World->Prop) (W:World) (hc:Boxed W c 114 (ptr b)) (hs:Hs W b v cnt S) (hlen:S.length<=1152921504606846976)
 (hJ:zY7 (Hb b v) J) (hcb:¬Hb b v c)
 (hY:∀pre x X,J pre X->Nxt S pre x->YieldAt Fence.wide (n-1) pg l #[rv x.x x.y x.c x.f] X fun e Y=>((∀k,(Hb b v k\/k=c)->k<X.heap.size->Y.heap[k]? = X.heap[k]?)/\X.heap.size<=Y.heap.size)/\((e = .returned (.bool true)/\J (pre++[x]) Y)\/(e = .returned (.bool false)/\Jx (pre++[x]) Y)))
 (h0:J [] W) :
 CallsIn Fence.wide n pg 147 #[.func (.yield l) #[] #[],ptr c] W fun e Y=>(∃z,e = .returned z)/\∃xs R v',Drn S xs R/\Hs Y b v' cnt R/\(∀k,v'.ownBlock=some k->v.ownBlock=some k)/\((R=[]/\J xs Y)\/Jx xs Y):=by
 have HJ:=zAb hJ;have HY:=zAb hY;have HS:=zAb hs;have HCB:=zAb hcb;have HC:=zAb hc;clear hJ hY hs hcb hc;refine callsIn_of_wp func147 rfl trivial ?_ rfl;simp only [ntmps147,List.size_toArray,List.length_cons,List.length_nil,Nat.reduceAdd,Nat.reduceSub,Array.replicate_succ,Array.replicate_zero,List.push_toArray,List.append_toArray,List.nil_append,List.cons_append];gi_wp2_with fail;gi_loopw [] (fun wr=>∃xs R v',Drn S xs R/\R.length<=1152921504606846976/\Hs wr b v' cnt R/\(∀k,v'.ownBlock=some k->v.ownBlock=some k)/\J xs wr/\Boxed wr c 114 (ptr b)) (fun wr=>lenAt b wr)
 case atStart=>exact ⟨[],S,v,.start,hlen,HS.out,fun _ e=>e,h0,HC.out⟩
 case round =>
  obtain ⟨xs,R,v',hd,hR,hh,ho,hj,hcc⟩:=hrel;rename World=>wo;have cc:=hcc.cell;have HH:=zAb hh;have HD:=zAb hd;have HO:=zAb ho;have HJj:=zAb hj;have HCC:=zAb hcc;have HRl:=zAb hR;clear hh hd ho hj hcc hR;have hsub:Hid (∀k,Hb b v' k->Hb b v k):=zAb fun k e=>e.imp id (HO.out k);rcases Nat.eq_zero_or_pos R.length with hl0|hl0
  ·have hle:R=[]:=List.eq_nil_of_length_eq_zero hl0;subst hle;obtain ⟨a,cap,hve,hm,hp⟩:=HH.out.len;gi_wp2_with fail;refine ⟨trivial,fun h=>(by cases h),?_⟩;refine (callsIn_wide.2 (zSm b a cap cnt false wo hp)).mono ?_;rintro e w1 ⟨rfl,hb1⟩;have HB1:=zAb (bt hb1 (zAh w1 (.cells #[O ii 0,O ii 0,O ii 0,O ii 0] 146)));clear hb1;gi_wp2_with fail;refine ⟨fun f h=>(by cases h),?_⟩;gi_wp2_with fail;refine bodyPost_ret (results_none rfl _ _ _) rfl ?_;exact ⟨⟨_,rfl⟩,xs,[],v',HD.out,HH.out.upto HB1.out,HO.out,.inl ⟨rfl,HJ.out _ _ _ HJj.out (Turns.of_below HB1.out)⟩⟩
  ·gi_wp2_with fail;refine ⟨trivial,fun h=>(by cases h),?_⟩;refine (callsIn_wide.2 (pop_yes b v' cnt R wo HH.out hl0 HRl.out)).mono ?_;rintro e w1 ⟨t,rfl,v1,R1,p1,p2,p3,p4,p5⟩;have hl1:R1.length+1=R.length:=by have:=p1.length_eq;simp at this;omega
   have hT:Turns (Hb b v) wo (w1.alloc (.cells #[O ii t.x,O ii t.y,O ii t.c,O ii t.f] 146)):=(p4.mono (fun k _ e=>hsub.out k e)).trans (Turns.of_below (zAh _ _));have hj2:=HJ.out _ _ _ HJj.out hT;have hd2:Drn S (xs++[t]) R1:=.next HD.out p1 p2;have h2:Hs (w1.alloc (.cells #[O ii t.x,O ii t.y,O ii t.c,O ii t.f] 146)) b v1 cnt R1:=p3.upto (zAh _ _);have hc2:Boxed (w1.alloc (.cells #[O ii t.x,O ii t.y,O ii t.c,O ii t.f] 146)) c 114 (ptr b):=(hT.block c (gE.1 HCC.out).1 HCB.out).trans HCC.out;have hx:=Four.new w1 146 t.x t.y t.c t.f;obtain ⟨W2,hW2⟩:=ex (w1.alloc (.cells #[O ii t.x,O ii t.y,O ii t.c,O ii t.f] 146));rw [hW2] at hj2 h2 hc2 hx;have HW2:=zAb hW2;have hsub1:∀k,Hb b v1 k->Hb b v k:=fun k e=>e.imp id (fun q=>HO.out k (p5 k q));have HS1:=zAb hsub1;have H2:=zAb h2;have HD2:=zAb hd2;have HC2:=zAb hc2;have HL1:=zAb hl1;have HP5:Hid (∀k,v1.ownBlock=some k->v.ownBlock=some k):=zAb fun k e=>HO.out k (p5 k e);obtain ⟨fn,tmps,assign,body,hy,hRd⟩:=HY.out xs t W2 hj2 ⟨R1,hd2⟩;obtain ⟨⟨x0,x1,x2,x3⟩,-,-⟩:=hx;clear hT p1 p2 p3 p4 p5 hW2 hd2 h2 hc2 hsub1 hj2 hl1;gi_wp2_with (rw [HW2.out]);refine ⟨fun h=>(by cases h),?_⟩;refine hRd.mono ?_;rintro e W3 ⟨⟨hk3,hz3⟩,(⟨rfl,hJ3⟩|⟨rfl,hJx3⟩)⟩
   ·have h3:Hs W3 b v1 cnt R1:=H2.out.same (fun k e=>hk3 k (.inl (HS1.out k e)) (by obtain ⟨o1,o2,o3⟩:=H2.out.own;rcases e with e|e;omega;exact o2 k e));have hc3:Boxed W3 c 114 (ptr b):=(hk3 c (.inr rfl) HC2.out.lt).trans HC2.out;have H3:=zAb h3;have HC3:=zAb hc3;clear h3 hc3 hk3;gi_wp2_with fail;go_roundw
    case rel=>exact ⟨xs++[t],R1,v1,HD2.out,by have:=HL1.out;have:=HRl.out;omega,H3.out,HP5.out,hJ3,HC3.out⟩
    case measure=>rw [H3.out.lenAt,HH.out.lenAt];have:=HL1.out;omega
   ·have h3:Hs W3 b v1 cnt R1:=H2.out.same (fun k e=>hk3 k (.inl (HS1.out k e)) (by obtain ⟨o1,o2,o3⟩:=H2.out.own;rcases e with e|e;omega;exact o2 k e));have H3:=zAb h3;clear h3 hk3;gi_wp2_with fail;refine bodyPost_ret (results_none rfl _ _ _) rfl ?_;exact ⟨⟨_,rfl⟩,_,R1,v1,HD2.out,H3.out,HP5.out,.inr hJx3⟩
def Kq (B:Nat) (M:Nat->Prop) (X Y:World):Prop:=X.heap.size<=Y.heap.size/\∀k,(B<=k\/M k)->k<X.heap.size->Y.heap[k]? = X.heap[k]?
theorem Kq.trans {B:Nat} {M:Nat->Prop} {X Y Z:World} (h:Kq B M X Y) (k:Kq B M Y Z):Kq B M X Z:=⟨Nat.le_trans h.1 k.1,fun i hi hl=>(k.2 i hi (Nat.lt_of_lt_of_le hl h.1)).trans (h.2 i hi hl)⟩
theorem Kq.of_turns {B:Nat} {M T:Nat->Prop} {X Y:World} (h:Turns T X Y) (hT:∀k,k<X.heap.size->(B<=k\/M k)->¬T k):Kq B M X Y:=⟨h.size,fun k hk hl=>h.block k hl (hT k hl hk)⟩
theorem Kq.of_below {B:Nat} {M:Nat->Prop} {X Y:World} (h:Below X.heap.size X Y):Kq B M X Y:=⟨h.size,fun k _ hl=>h.block k hl⟩
def zYt (B:Nat) (M:Nat->Prop) (I:List It->World->Prop) (Ix:Code->List It->World->Prop) (xs:List It) (X:World):Exit->Act->World->Prop
 |.normal,_,Y=>Kq B M X Y/\I xs Y
 |.ret,_,Y=>Kq B M X Y/\Ix .ret xs Y
 |.exit id,_,Y=>Kq B M X Y/\Ix (.exit id) xs Y
 |_,_,_=>False
theorem zCh (X:World) {l:Nat} (o:Obj) (S:Nat->Prop) (hl:S l):Turns S X (X.putObj l o):=by
 have h:=grownBy_putObj' X l o;exact ⟨h.os,h.tape,h.output,h.size,fun k hk hn=>h.block k hk (fun e=>hn (by cases e;exact hl))⟩
theorem zJ1 {n:Nat} {g:Operand} {ps:Array Tmp} {assign body:Code} {Q:Exit->Act->World->Prop} {a:Act} {w:World} (h1:1<=n) {c b:Nat} {v:Value} {cnt:Int} {S:List It}
 (hg:a.eval g = .func (.func 147) #[] #[ptr c]) (hc:Boxed w c 114 (ptr b)) (hs:Hs w b v cnt S) (hlen:S.length<=1152921504606846976) (hcb:¬Hb b v c) (hps:ps.size=1)
 (I:List It->World->Prop) (Ix:Code->List It->World->Prop) (hI:zY7 (fun k=>Hb b v k\/w.heap.size<=k) I) (hIx:∀c,zY7 (fun k=>Hb b v k\/w.heap.size<=k) (Ix c)) (h0:I [] w)
 (Ax:It->Act->World->Prop) (hAx:∀x a',zY7 (fun k=>k<w.heap.size+2/\w.heap.size<=k) (fun (_:Unit) W=>Ax x a' W))
 (hassign:∀(l:Nat) (pre:List It) (x:It) (W:World) (K:Act->World->Prop),I pre W->w.heap.size+2<=W.heap.size->(∀a' W',Kq w.heap.size (fun k=>Hb b v k\/k=c) W W'->I pre W'->Ax x a' W'->K a' W')->
  assign.wpIn (Fence.wide.inRound l) (n-1-1) pg (Exit.then K (fun _ _ _=>False)) { tmps:=(ps.zip #[rv x.x x.y x.c x.f]).foldl (fun t (p,v)=>t.setIfInBounds p v) a.tmps,defers:=[] } W)
 (hbody:∀(l:Nat) (pre:List It) (x:It) (a':Act) (W:World),w.heap.size<=l->I pre W->Ax x a' W->Nxt S pre x->w.heap.size+2<=W.heap.size->body.wpIn (Fence.wide.inRound l) (n-1-1) pg (zYt w.heap.size (fun k=>Hb b v k\/k=c) I Ix (pre++[x]) W) a' W)
 (hdone:∀(D:Nat) (xs:List It) (v':Value) (W:World),w.heap.size<=D->Drn S xs []->I xs W->Hs W b v' cnt []->(∀k,v'.ownBlock=some k->v.ownBlock=some k)->W.heap[D]? = some (.deferred (some []))->Q .normal { a with defers:={ target:=.collected D,args:=#[] } :: a.defers } W)
 (hstop:∀(D:Nat) (cd:Code) (xs R:List It) (v':Value) (W:World),w.heap.size<=D->Drn S xs R->Ix cd xs W->Hs W b v' cnt R->(∀k,v'.ownBlock=some k->v.ownBlock=some k)->W.heap[D]? = some (.deferred (some []))->cd.wpIn Fence.wide n pg Q { a with defers:={ target:=.collected D,args:=#[] } :: a.defers } W) :
 (Code.rangeFunc g ps assign body).wpIn Fence.wide n pg Q a w:=by
 obtain ⟨ob,ov,onb⟩:=hs.own;have hM:∀k,Hb b v k->k<w.heap.size:=fun k e=>by rcases e with e|e;omega;exact ov k e
 have hcl:=hc.lt;refine wpIn_rangeFunc (fun fn hfn=>?_);generalize hrc:(fun st pe=>({ state:=st,pending:=pe,fn:=fn,tmps:=a.tmps,params:=ps,assign:=assign,body:=body,defers:=w.heap.size }:Loop))=rc;generalize hV:(w.alloc (.deferred (some []))).alloc (.loop (rc .ready none))=V;have zV:V.heap.size=w.heap.size+2:=by rw [<-hV];simp
 have bV:Below w.heap.size w V:=by rw [<-hV];exact zBe _ _ _
 have lV:V.heap[w.heap.size+1]? = some (.loop (rc .ready none)):=by rw [<-hV];have:=World.alloc_heap_new (w.alloc (.deferred (some []))) (.loop (rc .ready none));rwa [World.size_alloc] at this
 have dV:V.heap[w.heap.size]? = some (.deferred (some [])):=by rw [<-hV];exact (Below.heap_alloc _ _ _ (by simp)).trans (World.alloc_heap_new w _)
 have iV:I [] V:=hI _ _ _ h0 (Turns.of_below bV)
 let Bk:LoopState->Option Code->World->Prop:=fun st pe X=>X.heap[w.heap.size+1]? = some (.loop (rc st pe))/\X.heap[w.heap.size]? = some (.deferred (some []))
 have stB:∀st pe {X Y:World},Bk st pe X->Turns (Hb b v) X Y->Bk st pe Y:=fun st pe X Y h t =>
  ⟨t.same (fun e=>by have:=hM _ e;omega) h.1,t.same (fun e=>by have:=hM _ e;omega) h.2⟩
 have kpB:∀{st pe} {X Y:World},Bk st pe X->Kq w.heap.size (fun k=>Hb b v k\/k=c) X Y->Bk st pe Y:=fun h k =>
  ⟨(k.2 _ (.inl (by omega)) (gE.1 h.1).1).trans h.1,(k.2 _ (.inl (Nat.le_refl _)) (gE.1 h.2).1).trans h.2⟩
 have turn:∀{X:World} {st pe} (st':LoopState) (pe':Option Code),Bk st pe X->Bk st' pe' (X.putObj (w.heap.size+1) (.loop (rc st' pe'))):=fun st' pe' h =>
  ⟨World.putObj_heap_same (gE.1 h.1).1,(World.putObj_heap_other (by omega)).trans h.2⟩
 have putI:∀{α:Type} {J:α->World->Prop} {s:α} {X:World} (o:Obj),zY7 (fun k=>Hb b v k\/w.heap.size<=k) J->J s X->J s (X.putObj (w.heap.size+1) o):=fun o hJ h=>hJ _ _ _ h (zCh _ o _ (.inr (by omega)));refine ⟨w.heap.size+1,[{ target:=.collected w.heap.size,args:=#[] }],V,{ target:=.fn (.func 147) #[ptr c],args:=#[.func (.yield (w.heap.size+1)) #[] #[]] },V,147,#[.func (.yield (w.heap.size+1)) #[] #[],ptr c],V,?_,?_,fun _ _=>trivial,?_,fun _=>h1,?_⟩
 ·rw [<-hV,<-hrc];exact run_enterLoop_outer _ _ _ _ _
 ·simp only [resolve,hg];simp [go_sem]
 ·have eg:=enters_of func147 (by kernel_rfl) rfl;simp [invoke,go_sem,eg]
 refine (zPq (n-1) c b (w.heap.size+1) v cnt S (fun pre X=>I pre X/\Bk .ready none X/\w.heap.size+2<=X.heap.size) (fun pre X=>∃cd,Ix cd pre X/\Bk .done (some cd) X) V ((bV.block c hcl).trans hc) (hs.upto bV) hlen
  (fun s X Y h t=>⟨hI _ _ _ h.1 (t.mono (fun k _ e => .inl e)),stB _ _ h.2.1 t,Nat.le_trans h.2.2 t.size⟩) hcb ?_ ⟨iV,⟨lV,dV⟩,by omega⟩).mono ?_
 ·rintro pre x X ⟨iX,bX,zX⟩ hnx;have hy:=run_yield (P:=pg) (args:=#[rv x.x x.y x.c x.f]) bX.1 (by rw [<-hrc];exact hps.symm);rw [<-hrc] at hy;refine ⟨fn,_,assign,body,hy,roundIn_of_wpIn trivial (hassign _ pre x X _ iX zX ?_)⟩;intro a' Y kY iY axY;have bY:=kpB bX kY;refine ⟨_,run_beginRound bY.1 (by rw [<-hrc]),?_⟩;rw [show (Obj.loop { rc .ready none with state:=.busy }) = .loop (rc .busy none) by rw [<-hrc]];have bZ:=turn .busy none bY;refine wpIn_mono (hbody _ pre x a' _ (by omega) (putI _ hI iY) (hAx x a' () _ _ axY (zCh _ _ _ ⟨by omega,by omega⟩)) hnx (by have:=kY.1;simp;omega)) ?_
  have fin:∀(j:Option Code) (U:World),Kq w.heap.size (fun k=>Hb b v k\/k=c) (Y.putObj (w.heap.size+1) (.loop (rc .busy none))) U->
   (Instr.endRound (w.heap.size+1) j).run pg U = .ok (.bool j.isNone) (U.putObj (w.heap.size+1) (.loop (rc (if j.isNone then .ready else .done) j)))/\Bk .busy none U:=fun j U kU=>by
   have bU:Bk .busy none U:=kpB bZ kU;refine ⟨?_,bU⟩;have:=run_endRound (P:=pg) j bU.1;rw [<-hrc] at this ⊢;exact this
  have kept:∀{U:World} (o:Obj),Kq w.heap.size (fun k=>Hb b v k\/k=c) (Y.putObj (w.heap.size+1) (.loop (rc .busy none))) U->(∀k,(Hb b v k\/k=c)->k<X.heap.size->(U.putObj (w.heap.size+1) o).heap[k]? = X.heap[k]?)/\X.heap.size<=(U.putObj (w.heap.size+1) o).heap.size:=fun {U} o kU=>by
   refine ⟨fun k e hl=>?_,by have h1:=kY.1;have h2:=kU.1;simp at h2 ⊢;omega⟩;have hkw:k<w.heap.size:=by rcases e with e|e;exact hM k e;omega
   have hY:=kY.1;rw [World.putObj_heap_other (by omega),kU.2 k (.inr e) (by simp;omega),World.putObj_heap_other (by omega),kY.2 k (.inr e) hl]
  rintro e a3 U hp
  cases e with
  |normal =>
   obtain ⟨kU,iU⟩:=hp;obtain ⟨hr,bU⟩:=fin none U kU;exact ⟨_,_,hr,kept _ kU,.inl ⟨rfl,putI _ hI iU,turn _ _ bU,by have h1:=kY.1;have h2:=kU.1;simp at h2 ⊢;omega⟩⟩
  |ret =>
   obtain ⟨kU,iU⟩:=hp;obtain ⟨hr,bU⟩:=fin (some .ret) U kU;exact ⟨_,_,hr,kept _ kU,.inr ⟨rfl,.ret,putI _ (hIx _) iU,turn _ _ bU⟩⟩
  |exit id =>
   obtain ⟨kU,iU⟩:=hp;obtain ⟨hr,bU⟩:=fin (some (.exit id)) U kU;exact ⟨_,_,hr,kept _ kU,.inr ⟨rfl,.exit id,putI _ (hIx _) iU,turn _ _ bU⟩⟩
  |goto t=>exact hp.elim
  |panic ch=>exact hp.elim
  |outgrown=>exact hp.elim
 ·rintro e U ⟨⟨z,rfl⟩,xs,R,v',hd,hh,ho,(⟨rfl,iU,bU,-⟩|⟨cd,iU,bU⟩)⟩
  ·refine ⟨none,_,?_,hdone _ xs v' _ (Nat.le_refl _) hd (putI _ hI iU) (hh.same (fun k e=>World.putObj_heap_other (by have:=hM k (e.imp id (ho k));omega))) ho (turn .exhausted none bU).2⟩;have:=run_endLoop (P:=pg) bU.1 (by rw [<-hrc];simp);rw [<-hrc] at this ⊢;exact this
  ·refine ⟨some cd,_,?_,hstop _ cd xs R v' _ (Nat.le_refl _) hd (putI _ (hIx _) iU) (hh.same (fun k e=>World.putObj_heap_other (by have:=hM k (e.imp id (ho k));omega))) ho (turn .exhausted (some cd) bU).2⟩;have:=run_endLoop (P:=pg) bU.1 (by rw [<-hrc];simp);rw [<-hrc] at this ⊢;exact this
attribute [local go_sem] Oper.semAt_some
theorem zG7:Rcl 118:=zl fun _ _=>by go_simp
theorem zEw:Rcl 120:=zl fun _ _=>by go_simp
theorem zMo:Rcl 85:=zl fun _ _=>by go_simp
theorem zF1 (w0:World) (k p:Nat) (c s ix iy iw ih:Int) (gv cv:Value) (b:Nat) (lf:Value) (G:List Nat) (C:List Int) (hv:Value) (n:Int) (S:List It) (W H:Int) (tl:List Nat) (f:Int->Int->Option Int) (L:Int->Int->Int) (x y cost fw:Int) (w:World)
 (h:Sch w0 w k p c s ix iy iw ih gv cv b lf G C hv n S) (hw:Wl w0 p W H tl f) (hg:Grnd w0) (ho:Offs w0) (hok:Gok W H tl f c s ix iy iw ih G) (hlf:Lfo w0 lf L) (hC:C.length=(ih*iw).toNat)
 (hx:0<=x-ix/\x-ix<iw) (hy:0<=y-iy/\y-iy<ih) (hi:0<=ix/\0<=iy/\ix+iw<=1048576/\iy+ih<=1048576)
 (hc:0<=cost/\cost<=1099511627776) (hL:∀u v,0<=L u v/\L u v<=1099511627776) (hn:0<=n/\n+8<=1099511627776) (hlen:S.length+8<=1099511627776) :
 Calls pg 88 #[ptr k,rv x y cost fw] w fun e w'=>e = .returned (.tuple #[])/\∃G' C' hv' n' S',Sch w0 w' k p c s ix iy iw ih gv cv b lf G' C' hv' n' S'/\Gok W H tl f c s ix iy iw ih G'/\(C',n',S')=zBj (fun d=>stp W H tl f c s x y (d:Int)) ix iy iw L x y cost (C,n,S) (zAq x y ix iy iw ih 8)/\
  Turns (Own gv cv b hv) w w'/\∀j,hv'.ownBlock=some j->hv.ownBlock=some j\/w.heap.size<=j:=by
 refine (callsIn_wide (n:=10)).1 ?_;refine callsIn_of_wp_marks func88 rfl trivial ?_ rfl;simp only [ntmps88,List.size_toArray,List.length_cons,List.length_nil,Nat.reduceAdd,Nat.reduceSub,Array.replicate_succ,Array.replicate_zero,List.push_toArray,List.append_toArray,List.nil_append,List.cons_append];obtain ⟨X,hX⟩:=ex ((w.alloc (.cells #[ptr k] 108)).alloc (.cells #[O ii x,O ii y,O ii cost,O ii fw] 146));have B0:Below w.heap.size w X:=hX▸zBe _ _ _;have K0:Boxed X w.heap.size 108 (ptr k):=by rw [<-hX];exact (Boxed.new w 108 _).alloc _
 have R0:Four X (w.heap.size+1) x y cost fw:=by rw [<-hX];exact Four.newAt _ _ _ _ _ (by simp)
 have z0:X.heap.size=w.heap.size+2:=by rw [<-hX];simp
 have h0:=h.upto B0;have HS:(fun wx:World=>(wx.cell? ⟨w.heap.size,0,none⟩=some (ptr k)/\wx.cell? ⟨w.heap.size+1,0,none⟩=some (O ii x)/\wx.cell? ⟨w.heap.size+1,1,none⟩=some (O ii y))/\wx.cell? ⟨k,3,none⟩=some (O ii ix)/\wx.cell? ⟨k,4,none⟩=some (O ii iy)/\wx.cell? ⟨k,5,none⟩=some (O ii iw)/\wx.cell? ⟨k,6,none⟩=some (O ii ih)) X.drew:=⟨⟨K0.cell,R0.1.1,R0.1.2.1⟩,h0.sr.cl 3,h0.sr.cl 4,h0.sr.cl 5,h0.sr.cl 6⟩
 have HX:=zAb hX;have Hh:=zAb h;have Hh0:=zAb h0;have HR0:=zAb R0;have HK0:=zAb K0;have HB0:=zAb B0;clear h h0 R0 K0 B0 hX;gi_wp2_with (rw [HX.out]);refine zA1 ?_;refine zBi (fun wx:World=>(wx.cell? ⟨w.heap.size,0,none⟩=some (ptr k)/\wx.cell? ⟨w.heap.size+1,0,none⟩=some (O ii x)/\wx.cell? ⟨w.heap.size+1,1,none⟩=some (O ii y))/\wx.cell? ⟨k,3,none⟩=some (O ii ix)/\wx.cell? ⟨k,4,none⟩=some (O ii iy)/\wx.cell? ⟨k,5,none⟩=some (O ii iw)/\wx.cell? ⟨k,6,none⟩=some (O ii ih)) [6] (by kernel_rfl) ?_;refine zv 0 6 8 [.pointer (some ⟨w.heap.size+1,0,none⟩),cel x y,ptr k,ptr k,.pointer (some ⟨k,3,none⟩),rct ix iy iw ih] rfl rfl (by kernel_rfl) HS ?_;repeat (refine zc rfl (by rfl) (fun wx hx=>by go_simp) ?_;simp only [zp])
 refine zn ?_;refine zw 6 [] (by kernel_rfl) ?_;have HCa:Hid (Calls pg 118 #[cel x y,rct ix iy iw ih] X.drew fun e w'=>e = .returned (.func (.func 149) #[] #[ptr (w.heap.size+2),ptr (w.heap.size+2+1)])/\w'=(X.drew.alloc (.cells #[O ii x,O ii y] 23)).alloc (.cells #[O ii ix,O ii iy,O ii iw,O ii ih] 65)):=zAb (by have:=zEa x y ix iy iw ih X.drew;rwa [show X.drew.heap.size=w.heap.size+2 from z0] at this);refine readyZ.call rfl rfl (zG7 (by rfl) (by rfl) (by simp only [zj];rfl)) HCa.out ?_ readyZ.nil;rintro e X0 ⟨rfl,hX0⟩;refine ⟨_,rfl,fun h=>absurd (by decide) h,?_⟩;try simp only [zp]
 refine zAd (by kernel_rfl) ?_ _;dsimp only [zAv,Exit.then];have zD:X.drew.heap.size=w.heap.size+2:=z0;have C0:Two X0 (w.heap.size+2) x y:=by rw [hX0];exact (Two.newAt zD.symm).alloc
 have F0:Four X0 (w.heap.size+2+1) ix iy iw ih:=by rw [hX0];exact Four.newAt _ _ _ _ _ (by simp [zD])
 have B1:Below X.heap.size X X0:=by rw [hX0];exact Below.trans (Below.drew (Below.refl X.heap.size X)) (zBe X.drew _ _)
 have zX:X0.heap.size=w.heap.size+4:=by rw [hX0];simp [zD]
 have B2:=bt HB0.out B1;have h1:=Hh0.out.upto B1;have K1:=zAi HK0.out B1 HK0.out.lt;have R1:=HR0.out.kept B1;have O1:=ho.kept h1.bel;have hbw:=Hh.out.bel.size;have ho1:=ho.1
 have Hno:Hid (∀hv':Value,(∀j,hv'.ownBlock=some j->hv.ownBlock=some j\/X0.heap.size<=j)->∀j,(j=1\/(w.heap.size<=j/\j<X0.heap.size))->¬Own gv cv b hv' j):=zAb fun hv' hf j hj e=>by
  have key:Own gv cv b hv j->False:=fun q=>by
   have q1:=Hh.out.own_lt q;have q2:=Hh.out.own_ge q;omega
  rcases e with e|e|e|e
  ·exact key (.inl e)
  ·exact key (.inr (.inl e))
  ·exact key (.inr (.inr (.inl e)))
  ·rcases hf j e with q|q
   ·exact key (.inr (.inr (.inr q)))
   ·omega
 clear HS hX0 HCa HX HB0 HK0 HR0 Hh0;gi_wp2_with fail
 refine wpIn_rangeFunc_ownH rfl (n:=10) (by omega) (gf:=149) (lb:=#[ptr (w.heap.size+2),ptr (w.heap.size+2+1)]) rfl trivial (enters_of func149 (by kernel_rfl) rfl)
  (zJg (10-1) (w.heap.size+2) (w.heap.size+2+1) x y ix iy iw ih X0 O1 C0 F0) (fun h k=>h.trans k) (qAi (by omega) (by omega) (by omega)) (Below.refl _ _) (fun _=>rfl)
  (fun pre Z=>∃G' C' hv' n' S',(Sch w0 Z k p c s ix iy iw ih gv cv b lf G' C' hv' n' S'/\Gok W H tl f c s ix iy iw ih G'/\(C',n',S')=zBj (fun d=>stp W H tl f c s x y (d:Int)) ix iy iw L x y cost (C,n,S) (pre.map (·.1)))/\(Turns (Own gv cv b hv) w Z/\X0.heap.size<=Z.heap.size/\∀j,hv'.ownBlock=some j->hv.ownBlock=some j\/X0.heap.size<=j)/\Boxed Z w.heap.size 108 (ptr k)/\Four Z (w.heap.size+1) x y cost fw)
  (fun _ _ _=>False) ?own (fun _ _ _ _ _ h _ _=>h.elim)
  ⟨G,C,hv,n,S,⟨h1,hok,rfl⟩,⟨Turns.of_below B2,Nat.le_refl _,fun j e => .inl e⟩,K1,R1⟩
  (fun t a' Z=>∃Bx,X0.heap.size<=Bx/\Two Z Bx (x+dX t.1.val) (y+dY t.1.val)/\a'={ tmps:=#[ptr k,rv x y cost fw,ptr w.heap.size,ptr (w.heap.size+1),O ii (t.1.val:Int),ptr Bx,ptr (w.heap.size+1),cel x y,ptr k,ptr k,.pointer (some ⟨k,3,none⟩),rct ix iy iw ih,.func (.func 149) #[] #[ptr (w.heap.size+2),ptr (w.heap.size+2+1)],O ii (t.1.val:Int),cel (x+dX t.1.val) (y+dY t.1.val),undef,undef,undef,undef,undef,undef,undef,undef,undef,undef,undef,undef,undef,undef],defers:=[] })
  (fun q a' _ X Y row hs hg hr=>by obtain ⟨Bx,e1,e2,e3⟩:=hs;exact ⟨Bx,e1,e2.own hg (fun r e=>(hr r e).2),e3⟩)
  ?assign ?body ?done ?stop
 case own =>
  rintro pre Z Y row ⟨G',C',hv',n',S',⟨a1,a2,a3⟩,⟨a4,a5,a6⟩,a7,a8⟩ hg hr;have T:Turns (fun j=>row=some j) Z Y:=Turns.of_grown hg (fun j e=>e);have hz:=a4.size;refine ⟨G',C',hv',n',S',⟨a1.own_from (by omega) hg hr,a2,a3⟩,⟨a4.trans (T.mono (fun j _ e => .inr (by have:=(hr j e).1;omega))),Nat.le_trans a5 hg.size,a6⟩,zAg a7 T (fun e=>by have:=(hr _ e).1;omega),a8.turned T (fun e=>by have:=(hr _ e).1;omega)⟩
 case assign =>
  rintro l pre t Z K ⟨G',C',hv',n',S',⟨a1,a2,a3⟩,⟨a4,a5,a6⟩,a7,a8⟩ hK;have hz:=a4.size;gi_wp2
  exact hK _ _ ((KeepsOthers.alloc _ _).from _) (KA.below (zAh _ _) (by omega) (by omega) (by omega)) ⟨G',C',hv',n',S',⟨a1.upto (zAh _ _),a2,a3⟩,⟨a4.trans (Turns.of_below (zAh _ _)),by simp;omega,a6⟩,a7.alloc _,a8.kept (zAh _ _)⟩ ⟨Z.heap.size,by omega,Two.newAt rfl,rfl⟩
 case body =>
  rintro l pre t a' Z hl hlr ⟨G',C',hv',n',S',⟨a1,a2,a3⟩,⟨a4,a5,a6⟩,a7,a8⟩ ⟨Bx,hBx,bX,rfl⟩ hlt;obtain ⟨⟨d,hd8⟩,hin⟩:=t;simp only at bX;have hin':inn x y ix iy iw ih d=true:=hin;rw [inn,Bool.and_eq_true] at hin';have hbox:=(zBz _ _ _ _ _ _).1 hin'.2;have hub:0<=x+dX d-ix/\x+dX d-ix<iw:=by omega
  have hvb:0<=y+dY d-iy/\y+dY d-iy<ih:=by omega
  have hspr:=zEt (fun d=>stp W H tl f c s x y (d:Int)) ix iy iw L x y cost (pre.map (·.1)) (C,n,S);rw [<-a3] at hspr;simp only [List.length_map] at hspr;have Hsn:Hid (∀r:inn x y ix iy iw ih d=true,zBj (fun d=>stp W H tl f c s x y (d:Int)) ix iy iw L x y cost (C,n,S) ((pre++[(⟨⟨d,hd8⟩,r⟩:Nb x y ix iy iw ih)]).map (·.1))=goF (fun d=>stp W H tl f c s x y (d:Int)) ix iy iw L x y cost (C',n',S') ⟨d,hd8⟩):=zAb fun r=>by rw [List.map_append,List.map_cons,List.map_nil,zIr,<-a3]
  have hz:=a4.size;have HSt:=zAb (zK9 w0 k p c s ix iy iw ih gv cv b lf G' C' hv' n' S' W H tl f x y (d:Int) (x+dX d) (y+dY d) Z a1 hw hg ho a2 hi hx hy (by omega) (by rw [Int.toNat_natCast]) (by rw [Int.toNat_natCast]) hub hvb);have hnX:=Hno.out hv' a6
  have hJ:∃m,C'[ij ix iy iw (x+dX d) (y+dY d)]? = some m:=by
   have hI:=zCr (c:=0) (d:=0) hvb.1 hvb.2 hub.1 hub.2;refine ⟨_,List.getElem?_eq_getElem ?_⟩;unfold ij;have:=hspr.1;try simp only at this
   rw [this,hC];omega
  have hco:0<=co (d:Int)/\co (d:Int)<=14:=by unfold co;split<;>(try split)<;>omega
  have HLb:=zAb (hL (x+dX d) (y+dY d));generalize hu:x+dX d=u at *;generalize hv2:y+dY d=v at *;have cK:=a7.cell;obtain ⟨⟨r0,r1,r2,r3⟩,-,-⟩:=id a8;obtain ⟨⟨q0,q1⟩,-,-⟩:=id bX;have Hbd:=zAb (ai hub (ai hvb (ai hspr hco)));have Huv:=zAb (ai hu hv2);have Hlt:=zAb hlt;clear hin' hbox hub hvb hspr hco hu hv2 hlt;gi_wp2_with fail;refine ⟨trivial,?_⟩;refine (CallsIn.inRound l (callsIn_wide.2 HSt.out)).mono ?_;rintro e Z1 ⟨rfl,G2,hk2,h2,T2⟩;have Tg:Turns (Own gv cv b hv') Z Z1:=T2.mono (fun j _ e => .inl e);have ng:∀j,Own gv cv b hv' j->¬(w.heap.size<=j/\j<X0.heap.size):=fun j e q=>hnX j (.inr q) e;have bX1:Two Z1 Bx u v:=bX.turned T2 (fun e=>by have:=Hh.out.own_lt (.inl e);omega);have a71:=zAg a7 T2 (fun e=>hnX _ (.inr ⟨by omega,by omega⟩) (.inl e));have a81:=a8.turned T2 (fun e=>hnX _ (.inr ⟨by omega,by omega⟩) (.inl e));have hz1:=T2.size
  have Ht1:=zAb (a4.trans (Tg.mono (fun j _ e=>by
   rcases e with e|e|e|e
   ·exact .inl (.inl e)
   ·exact .inl (.inr (.inl e))
   ·exact .inl (.inr (.inr (.inl e)))
   ·rcases a6 j e with q|q
    ·exact .inl (.inr (.inr (.inr q)))
    ·exact .inr (by omega))))
  have HKF:=zAb (a1.keeps Tg X0.heap.size);have HKA:Hid (KA (w.heap.size+2) (w.heap.size+2+1) Z Z1):=zAb ⟨T2.block _ (by omega) (fun e=>hnX _ (.inr ⟨by omega,by omega⟩) (.inl e)),T2.block _ (by omega) (fun e=>hnX _ (.inr ⟨by omega,by omega⟩) (.inl e)),T2.block _ (by omega) (fun e=>hnX _ (.inl rfl) (.inl e))⟩;have Hh2:=zAb h2;have Hk2:=zAb hk2;have Ha5:=zAb (Nat.le_trans a5 hz1);have Ha6:=zAb a6;have Hbx:=zAb (ai bX1 (ai a71 a81));clear cK r0 r1 r2 r3 q0 q1 a1 a2 a4 a5 a7 a8 bX bX1 a71 a81 h2 hk2 T2 Tg HSt ng;cases hst:stp W H tl f c s x y (d:Int)
  ·have Hst:=zAb hst;clear hst;gi_wp2_with fail;refine ⟨HKF.out,HKA.out,G2,C',hv',n',S',⟨Hh2.out,Hk2.out,?_⟩,⟨Ht1.out,Ha5.out,Ha6.out⟩,Hbx.out.2.1,Hbx.out.2.2⟩;rw [Hsn.out,goF,if_neg (by rw [Hst.out];decide)]
  ·have Hst:=zAb hst;clear hst;obtain ⟨m,hm⟩:=hJ;obtain ⟨b1,b2,b3⟩:=Hbx.out;have hbd:=Hbd.out;have hlt:=Hlt.out;have hLb:=HLb.out;have HMe:=zAb (fun wx (q:Below Z1.heap.size Z1 wx)=>zOu w0 k p c s ix iy iw ih gv cv b lf G2 C' hv' n' S' L u v (cost+co (d:Int)) m wx (Hh2.out.upto q) hlf hm hbd.1 hbd.2.1 hi (by omega) (by omega) (by omega));have HS2:(fun wx:World=>wx.cell? ⟨w.heap.size,0,none⟩=some (ptr k)/\wx.cell? ⟨Bx,0,none⟩=some (O ii u)/\wx.cell? ⟨Bx,1,none⟩=some (O ii v)/\wx.cell? ⟨w.heap.size+1,2,none⟩=some (O ii cost)) Z1.drew:=⟨b2.cell,b1.1.1,b1.1.2,b3.1.2.2.1⟩
   have hwr:IntKind.i64.wrap (cost+co (d:Int))=cost+co (d:Int):=IntWalk.i64_in _ (by omega);clear hbd hlt hLb b1 b2 b3;gi_wp2_with fail;refine zA1 ?_;refine zAw (fun wx:World=>wx.cell? ⟨w.heap.size,0,none⟩=some (ptr k)/\wx.cell? ⟨Bx,0,none⟩=some (O ii u)/\wx.cell? ⟨Bx,1,none⟩=some (O ii v)/\wx.cell? ⟨w.heap.size+1,2,none⟩=some (O ii cost)) [7] zC7 (by kernel_rfl) (by kernel_rfl) ?_;refine zv 0 5 8 [ptr k,cel u v,.pointer (some ⟨w.heap.size+1,2,none⟩),O ii cost,O ii (d:Int)] rfl rfl (by kernel_rfl) HS2 ?_;repeat (refine zc rfl (by rfl) (fun wx hx=>by go_simp) ?_;simp only [zp])
   refine zn ?_;refine zw 5 [] (by kernel_rfl) ?_;refine readyZ.call rfl rfl (zEw (by rfl) (by rfl) (by simp only [zj];rfl)) (zIi (d:Int) _) ?_ readyZ.nil;rintro e w' ⟨rfl,rfl⟩;refine ⟨_,rfl,fun _=>HS2,?_⟩;try simp only [zp]
   refine zt 6 8 (O ii (cost+co (d:Int))) rfl (by kernel_rfl) (by rfl) (fun wx hx=>by go_simp) HS2 ?_;try simp only [zp]
   refine zw 7 [] (by kernel_rfl) ?_;refine readyZ.call rfl rfl (zMo (by rfl) (by rfl) (by simp only [zj];rfl)) (HMe.out _ (Below.refl _ _).drew) ?_ readyZ.nil;rintro e Z2 ⟨rfl,C3,hv3,n3,S3,h3,hcase,T3',f3⟩;have T3:Turns (Own gv cv b hv') Z1 Z2:=T3'.undrew;have hz2:=T3.size;refine ⟨_,rfl,fun h=>absurd (by decide) h,?_⟩;try simp only [zp]
   refine zAd (by kernel_rfl) ?_ _;have ha5:=Ha5.out;have nX:=Hno.out hv' Ha6.out
   have Hfin:Hid (KeepsFrom X0.heap.size Z Z2/\KA (w.heap.size+2) (w.heap.size+2+1) Z Z2/\∃G' C' hv' n' S',(Sch w0 Z2 k p c s ix iy iw ih gv cv b lf G' C' hv' n' S'/\Gok W H tl f c s ix iy iw ih G'/\(C',n',S')=zBj (fun d=>stp W H tl f c s x y (d:Int)) ix iy iw L x y cost (C,n,S) ((pre++[(⟨⟨d,hd8⟩,hin⟩:Nb x y ix iy iw ih)]).map (·.1)))/\(Turns (Own gv cv b hv) w Z2/\X0.heap.size<=Z2.heap.size/\∀j,hv'.ownBlock=some j->hv.ownBlock=some j\/X0.heap.size<=j)/\Boxed Z2 w.heap.size 108 (ptr k)/\Four Z2 (w.heap.size+1) x y cost fw):=zAb ⟨HKF.out.trans (Hh2.out.keeps T3 _),HKA.out.trans ⟨T3.block _ (by omega) (nX _ (.inr ⟨by omega,by omega⟩)),T3.block _ (by omega) (nX _ (.inr ⟨by omega,by omega⟩)),T3.block _ (by omega) (nX _ (.inl rfl))⟩,G2,C3,hv3,n3,S3,⟨h3,Hk2.out,by
    rw [Hsn.out hin,goF,if_pos Hst.out,zH9,Huv.out.1,Huv.out.2,hm];rcases hcase with ⟨q,rfl,rfl,rfl⟩|⟨q,rfl,rfl,rfl⟩
    ·rw [if_pos (by simpa using q)]
    ·rw [if_neg (by simpa using q)]⟩,⟨Ht1.out.trans (T3.mono (fun j _ e=>by
     rcases e with e|e|e|e
     ·exact .inl (.inl e)
     ·exact .inl (.inr (.inl e))
     ·exact .inl (.inr (.inr (.inl e)))
     ·rcases Ha6.out j e with q|q
      ·exact .inl (.inr (.inr (.inr q)))
      ·exact .inr (by omega))),by omega,fun j e=>by
     rcases f3 j e with q|q
     ·exact Ha6.out j q
     ·exact .inr (Nat.le_trans ha5 q)⟩,zAg Hbx.out.2.1 T3 (nX _ (.inr ⟨by omega,by omega⟩)),Hbx.out.2.2.turned T3 (nX _ (.inr ⟨by omega,by omega⟩))⟩
   clear h3 hcase T3 T3' f3;dsimp only [zAv,Exit.then];first|exact Hfin.out|(gi_wp2_with fail;exact Hfin.out)
 case done =>
  rintro D xs Z hD rfl ⟨G',C',hv',n',S',⟨a1,a2,a3⟩,⟨a4,a5,a6⟩,a7,a8⟩ hK;have T:Turns (fun j=>j=D) Z (Z.putObj D (.deferred none)):=Turns.of_grown (grownBy_putObj' Z D (.deferred none)) (fun k e=>by cases e;rfl);have hz:=a4.size;have HE:Hid (∃G' C' hv' n' S',Sch w0 (Z.putObj D (.deferred none)) k p c s ix iy iw ih gv cv b lf G' C' hv' n' S'/\Gok W H tl f c s ix iy iw ih G'/\(C',n',S')=zBj (fun d=>stp W H tl f c s x y (d:Int)) ix iy iw L x y cost (C,n,S) (zAq x y ix iy iw ih 8)/\Turns (Own gv cv b hv) w (Z.putObj D (.deferred none))/\∀j,hv'.ownBlock=some j->hv.ownBlock=some j\/w.heap.size<=j):=zAb ⟨G',C',hv',n',S',a1.past T (fun j e=>by omega) (fun j e cs t q=>by subst e;rw [hK] at q;cases q),a2,by rw [a3,zCw x y ix iy iw ih 8 (Nat.le_refl _)],a4.trans (T.mono (fun j _ e => .inr (by omega))),fun j e=>(a6 j e).imp id (fun q=>by omega)⟩;clear a1 a2 a3 a4 a5 a6 a7 a8;gi_wp2_with fail;refine ⟨by simp,.inl ⟨_,_,rfl,run_takeDeferred hK,?_⟩⟩;exact ⟨.tuple #[],by simp [results,Tryz.f88,go_sem],rfl,HE.out⟩
 case stop=>exact fun D c pre Z hD hp h hK=>h.elim
attribute [local go_sem] Oper.semAt_some
theorem Drn.mem {S xs R:List It} (h:Drn S xs R):∀t,t∈xs\/t∈R->t∈S:=by
 induction h using Drn.ind with
 |start=>exact fun t h=>h.elim (fun q=>by cases q) id
 | @next xs R R' u h1 h2 h3 ih =>
  intro t q;rcases q with q|q
  ·rcases List.mem_append.1 q with q|q
   ·exact ih t (.inl q)
   ·simp at q;subst q;exact ih _ (.inr (h2.mem_iff.2 List.mem_cons_self))
  ·exact ih t (.inr (h2.mem_iff.2 (List.mem_cons_of_mem _ q)))
theorem Drn.len {S xs R:List It} (h:Drn S xs R):xs.length+R.length=S.length:=by
 induction h using Drn.ind with
 |start=>simp
 | @next xs R R' u h1 h2 h3 ih=>have:=h2.length_eq;simp at this ⊢;omega
def InR (ix iy iw ih:Int) (S:List It):Prop:=∀t∈S,(0<=t.x-ix/\t.x-ix<iw)/\0<=t.y-iy/\t.y-iy<ih
def hit (ix iy iw:Int) (C:List Int) (t:It):Bool:=decide (C[ij ix iy iw t.x t.y]? = some t.c)
theorem Sch.leave {w0 w w':World} {k p:Nat} {c s ix iy iw ih:Int} {gv cv:Value} {b:Nat} {lf:Value} {G:List Nat} {C:List Int} {hv:Value} {n:Int} {S:List It} {Sx:Nat->Prop} (h:Sch w0 w k p c s ix iy iw ih gv cv b lf G C hv n S) (T:Turns Sx w w') (h0:∀j,Sx j->w0.heap.size<=j) (hk:¬Sx k) (hno:∀j,Own gv cv b hv j->¬Sx j):Sch w0 w' k p c s ix iy iw ih gv cv b lf G C hv n S:=
 ⟨h.bel.trans (T.below h0 h.bel.size),h.sr.kept T hk,h.gr.kept T (fun j e=>hno j (.inl e)),h.ct.kept T (fun j e=>hno j (.inr (.inl e))),h.hs.kept T (hno b (.inr (.inr (.inl rfl)))) (fun j e=>hno j (.inr (.inr (.inr e)))),h.kn,h.bn,h.gn,h.cn,h.hn⟩
theorem zB2 (Z:World) (b:Nat) (v0 v1 v2 v3:Value):Turns (fun j=>j=b) Z ((((Z.setCell ⟨b,0,none⟩ v0).setCell ⟨b,1,none⟩ v1).setCell ⟨b,2,none⟩ v2).setCell ⟨b,3,none⟩ v3):=by
 have t:∀(X:World) (o:Nat) (v:Value),Turns (fun j=>j=b) X (X.setCell ⟨b,o,none⟩ v):=fun X o v=>Turns.set (S:=fun j=>j=b) X (p:=⟨b,o,none⟩) rfl v;exact (((t Z 0 v0).trans ((t _ 1 v1).mono (fun j _ e => .inl e))).trans ((t _ 2 v2).mono (fun j _ e => .inl e))).trans ((t _ 3 v3).mono (fun j _ e => .inl e))
theorem zPr (b:Nat) (w:World):Calls pg 117 #[ptr b] w fun e w'=>e = .returned (.func (.func 147) #[] #[ptr w.heap.size])/\w'=w.alloc (.cells #[ptr b] 114):=by
 go_enter func117,ntmps117;go_wp2_with fail;go_ret;exact ⟨rfl,rfl⟩
theorem zMy (w0:World) (k p:Nat) (c s ix iy iw ih:Int) (gv cv:Value) (b:Nat) (lf:Value) (G:List Nat) (C:List Int) (hv:Value) (n:Int) (S:List It) (w:World) (h:Sch w0 w k p c s ix iy iw ih gv cv b lf G C hv n S) (hC:C.length=(ih*iw).toNat) (hS:InR ix iy iw ih S) (hi:0<=ix/\0<=iy/\ix+iw<=1048576/\iy+ih<=1048576) (hpos:0<iw/\0<ih) (hlen:S.length<=1152921504606846976) :
 Calls pg 87 #[ptr k] w fun e w'=>∃xs R hv',Drn S xs R/\Sch w0 w' k p c s ix iy iw ih gv cv b lf G C hv' n R/\(∀j,hv'.ownBlock=some j->hv.ownBlock=some j)/\Turns (Own gv cv b hv) w w'/\
  ((e = .returned (.tuple #[rv 0 0 0 0,.bool false])/\R=[]/\∀u∈xs,hit ix iy iw C u=false)\/
   ∃pre t,e = .returned (.tuple #[rv t.x t.y t.c t.f,.bool true])/\xs=pre++[t]/\(∀u∈pre,hit ix iy iw C u=false)/\hit ix iy iw C t=true):=by
 have hCp:0<C.length:=by
  have h1:0<ih*iw:=Int.mul_pos hpos.2 hpos.1;omega
 obtain ⟨g,cap,hcv,hgl⟩:=h.ct.form hCp;refine (callsIn_wide (n:=10)).1 ?_;refine callsIn_of_wp_marks func87 rfl trivial ?_ rfl;simp only [ntmps87,List.size_toArray,List.length_cons,List.length_nil,Nat.reduceAdd,Nat.reduceSub,Array.replicate_succ,Array.replicate_zero,List.push_toArray,List.append_toArray,List.nil_append,List.cons_append];obtain ⟨X,hX⟩:=ex (((w.alloc (.cells #[ptr k] 108)).alloc (.cells #[O ii 0,O ii 0,O ii 0,O ii 0] 146)).alloc (.cells #[.bool false] 4));have B0:Below w.heap.size w X:=hX▸bt (zBe _ _ _) (zAh _ _);have K0:Boxed X w.heap.size 108 (ptr k):=by rw [<-hX];exact ((Boxed.new w 108 _).alloc _).alloc _
 have R0:Four X (w.heap.size+1) 0 0 0 0:=by rw [<-hX];exact (Four.newAt _ _ _ _ _ (by simp)).kept (zAh _ _)
 have A0:Boxed X (w.heap.size+2) 4 (.bool false):=by rw [<-hX];have:=Boxed.new ((w.alloc (.cells #[ptr k] 108)).alloc (.cells #[O ii 0,O ii 0,O ii 0,O ii 0] 146)) 4 (.bool false);simpa using this
 have z0:X.heap.size=w.heap.size+3:=by rw [<-hX];simp
 have h0:=h.upto B0;have c9:X.cell? ⟨k,9,none⟩=some (ptr b):=h0.sr.cl 9;have cK:=K0.cell;have HX:=zAb hX;clear hX;gi_wp2_with (rw [HX.out]);refine ⟨trivial,?_⟩;refine (callsIn_wide.2 (zPr b X)).mono ?_;rintro e X1 ⟨rfl,h1X⟩;have B1:Below X.heap.size X X1:=by rw [h1X];exact zAh _ _
 have D1:Boxed X1 X.heap.size 114 (ptr b):=by rw [h1X];exact Boxed.new X 114 _
 have z1:X1.heap.size=w.heap.size+4:=by rw [h1X];simp [z0]
 have h1:=h0.upto B1;have K1:=zAi K0 B1 K0.lt;have R1:=R0.kept B1;have A1:=zAi A0 B1 A0.lt;have B2:=bt B0 B1;rw [z0] at D1;have hol:∀j,Hb b hv j->j<w.heap.size:=fun j e=>h.own_lt (e.elim (fun q => .inr (.inr (.inl q))) (fun q => .inr (.inr (.inr q))));have HB:=zAb hol;have Hh:=zAb h;have Hh1:=zAb h1;have HS':=zAb hS;have hk1:k<w.heap.size:=(gE.1 (show w.heap[k]? = _ from h.sr)).1;obtain ⟨l0,hl0,hp0⟩:=h.hs.row
 have nk:¬Hb b hv k:=fun e=>by
  rcases e with e|e
  ·have a1:w.heap[k]? = _:=h.sr;have a2:w.heap[b]? = _:=hp0;rw [<-e,a1] at a2;simp at a2
  ·exact h.sr.ne_row hl0 (by decide) e
 have ng:∀j,gv.ownBlock=some j->¬Hb b hv j:=fun j e q=>by
  rcases q with q|q
  ·exact hp0.ne_row h.gr (by decide) (q▸e)
  ·exact zC5 h.gr hl0 (by decide) e q
 have nc:∀j,cv.ownBlock=some j->¬Hb b hv j:=fun j e q=>by
  rcases q with q|q
  ·exact hp0.ne_row h.ct (by decide) (q▸e)
  ·exact zC5 h.ct hl0 (by decide) e q
 have lg:∀j,gv.ownBlock=some j->j<w.heap.size:=fun j e=>h.own_lt (.inl e);have lc:∀j,cv.ownBlock=some j->j<w.heap.size:=fun j e=>h.own_lt (.inr (.inl e));have hbb:=h.bel.size
 have HM:Hid (∀(Z Y:World),(((Below w0.heap.size w0 Z/\Sr Z k p c s ix iy iw ih gv cv b lf)/\Tls Z gv G/\Cts Z cv C)/\Turns (Own gv cv b hv) w Z/\Boxed Z w.heap.size 108 (ptr k))->Turns (fun j=>Hb b hv j\/w.heap.size+4<=j) Z Y->(((Below w0.heap.size w0 Y/\Sr Y k p c s ix iy iw ih gv cv b lf)/\Tls Y gv G/\Cts Y cv C)/\Turns (Own gv cv b hv) w Y/\Boxed Y w.heap.size 108 (ptr k))):=zAb fun Z Y q T=>by
  obtain ⟨⟨⟨q1,q2⟩,q3,q4⟩,q5,q6⟩:=q
  refine ⟨⟨⟨q1.trans (T.below (fun j e=>by
   rcases e with e|e
   ·exact h.own_ge (e.elim (fun q => .inr (.inr (.inl q))) (fun q => .inr (.inr (.inr q))))
   ·omega) q1.size),q2.kept T (fun e=>e.elim nk (fun e=>by omega))⟩,q3.kept T (fun j e q=>q.elim (ng j e) (fun q=>by have:=lg j e;omega)),q4.kept T (fun j e q=>q.elim (nc j e) (fun q=>by have:=lc j e;omega))⟩,q5.trans (T.mono (fun j _ e=>?_)),zAg q6 T (fun e=>e.elim (fun e=>by have:=hol _ e;omega) (fun e=>by omega))⟩
  rcases e with e|e
  ·exact .inl (e.elim (fun q => .inr (.inr (.inl q))) (fun q => .inr (.inr (.inr q))))
  ·exact .inr (by omega)
 have HM2:Hid (∀(Z Y:World),(((Below w0.heap.size w0 Z/\Sr Z k p c s ix iy iw ih gv cv b lf)/\Tls Z gv G/\Cts Z cv C)/\Turns (Own gv cv b hv) w Z/\Boxed Z w.heap.size 108 (ptr k))->Turns (fun j=>j=w.heap.size+1\/j=w.heap.size+2) Z Y->(((Below w0.heap.size w0 Y/\Sr Y k p c s ix iy iw ih gv cv b lf)/\Tls Y gv G/\Cts Y cv C)/\Turns (Own gv cv b hv) w Y/\Boxed Y w.heap.size 108 (ptr k))):=zAb fun Z Y q T=>by
  obtain ⟨⟨⟨q1,q2⟩,q3,q4⟩,q5,q6⟩:=q;exact ⟨⟨⟨q1.trans (T.below (fun j e=>by omega) q1.size),q2.kept T (fun e=>by omega)⟩,q3.kept T (fun j e q=>by have:=lg j e;omega),q4.kept T (fun j e q=>by have:=lc j e;omega)⟩,q5.trans (T.mono (fun j _ e => .inr (by omega))),zAg q6 T (fun e=>by omega)⟩
 have HLM:Hid ((((Below w0.heap.size w0 X1/\Sr X1 k p c s ix iy iw ih gv cv b lf)/\Tls X1 gv G/\Cts X1 cv C)/\Turns (Own gv cv b hv) w X1/\Boxed X1 w.heap.size 108 (ptr k))):=zAb ⟨⟨⟨h1.bel,h1.sr⟩,h1.gr,h1.ct⟩,Turns.of_below B2,K1⟩;have Hdf:=zAb (ai h.kn (ai h.bn (ai h.gn (ai h.cn h.hn))));have HCV:=zAb hcv;clear hcv;clear h h0 h1 c9 cK h1X K0 R0 A0 B0 B1 hS K1 HX nk ng nc;gi_wp2_with fail
 refine zJ1 (n:=10) (c:=w.heap.size+3) (b:=b) (v:=hv) (cnt:=n) (S:=S) (by omega) rfl D1 Hh1.out.hs hlen (fun e=>by have:=HB.out _ e;omega) rfl
  (fun pre Z=>((((Below w0.heap.size w0 Z/\Sr Z k p c s ix iy iw ih gv cv b lf)/\Tls Z gv G/\Cts Z cv C)/\Turns (Own gv cv b hv) w Z/\Boxed Z w.heap.size 108 (ptr k))/\Four Z (w.heap.size+1) 0 0 0 0/\Boxed Z (w.heap.size+2) 4 (.bool false))/\∀u∈pre,hit ix iy iw C u=false)
  (fun cd xs Z=>∃pre t,(cd = .ret/\xs=pre++[t]/\(∀u∈pre,hit ix iy iw C u=false)/\hit ix iy iw C t=true)/\(((Below w0.heap.size w0 Z/\Sr Z k p c s ix iy iw ih gv cv b lf)/\Tls Z gv G/\Cts Z cv C)/\Turns (Own gv cv b hv) w Z/\Boxed Z w.heap.size 108 (ptr k))/\Four Z (w.heap.size+1) t.x t.y t.c t.f/\Boxed Z (w.heap.size+2) 4 (.bool true))
  (fun s Z Y q T=>⟨⟨HM.out Z Y q.1.1 (z1▸T),q.1.2.1.turned T (fun e=>e.elim (fun e=>by have:=HB.out _ e;omega) (fun e=>by omega)),zAg q.1.2.2 T (fun e=>e.elim (fun e=>by have:=HB.out _ e;omega) (fun e=>by omega))⟩,q.2⟩)
  (fun cd s Z Y q T=>by
   obtain ⟨pre,t,q1,q2,q3,q4⟩:=q
   exact ⟨pre,t,q1,HM.out Z Y q2 (z1▸T),q3.turned T (fun e=>e.elim (fun e=>by have:=HB.out _ e;omega) (fun e=>by omega)),zAg q4 T (fun e=>e.elim (fun e=>by have:=HB.out _ e;omega) (fun e=>by omega))⟩)
  ⟨⟨HLM.out,R1,A1⟩,fun u q=>by cases q⟩
  (fun t a' Z=>∃Bx,X1.heap.size+2<=Bx/\Four Z Bx t.x t.y t.c t.f/\a'={ tmps:=#[ptr k,ptr w.heap.size,ptr (w.heap.size+1),ptr (w.heap.size+2),ptr Bx,ptr k,ptr k,.pointer (some ⟨k,9,none⟩),ptr b,.func (.func 147) #[] #[ptr (w.heap.size+3)],rv t.x t.y t.c t.f,undef,undef,undef,undef,undef,undef,undef,undef,undef,undef,undef,undef,undef,undef,undef],defers:=[] })
  (fun t a' _ Z Y q T=>by obtain ⟨Bx,e1,e2,e3⟩:=q;exact ⟨Bx,e1,e2.turned T (fun e=>by omega),e3⟩)
  ?assign ?body ?done ?stop
 case assign =>
  rintro l pre t Z K ⟨⟨q1,q2,q3⟩,q4⟩ hz hK;gi_wp2
  exact hK _ _ (Kq.of_below (zAh _ _)) ⟨⟨HM.out _ _ q1 (Turns.of_below (zAh _ _)),q2.kept (zAh _ _),q3.alloc _⟩,q4⟩ ⟨Z.heap.size,by omega,Four.new _ _ _ _ _ _,rfl⟩
 case body =>
  rintro l pre t a' Z hl ⟨⟨q1,q2,q3⟩,q4⟩ ⟨Bx,hBx,bX,rfl⟩ hnx hz;have htS:t∈S:=by obtain ⟨R,hR⟩:=hnx;exact hR.mem t (.inl (by simp))
  obtain ⟨hbx,hby⟩:=HS'.out t htS;obtain ⟨tx,ty,tc,tf,tp⟩:=t;simp only at bX hbx hby;have hI:=zCr (c:=0) (d:=0) hby.1 hby.2 hbx.1 hbx.2;obtain ⟨J,hJ⟩:∃J:Nat,(ty-iy)*iw+(tx-ix)=(J:Int):=⟨((ty-iy)*iw+(tx-ix)).toNat,by omega⟩
  have hJi:ij ix iy iw tx ty=J:=by unfold ij;omega
  have hJl:J<C.length:=by rw [hC];omega
  obtain ⟨m,hm⟩:∃m,C[J]? = some m:=⟨_,List.getElem?_eq_getElem hJl⟩
  have hhit:hit ix iy iw C ⟨tx,ty,tc,tf,tp⟩=(tc==m):=by
   unfold hit;simp only;rw [hJi,hm,Bool.eq_iff_iff,decide_eq_true_eq,beq_iff_eq,Option.some.injEq];exact eq_comm
  have HCg:Hid (∀wx,Cts wx cv C->wx.cell? ⟨g,J,none⟩=some (O ii m)):=zAb fun wx q=>by rw [HCV.out] at q;exact (Cts.got q hm).1
  have HC8:Hid (∀wx,Sr wx k p c s ix iy iw ih gv cv b lf->wx.cell? ⟨k,8,none⟩=some (.slice (some ⟨g,0,none⟩) C.length cap)):=zAb fun wx q=>by rw [<-HCV.out];exact q.cl 8
  have HIx:=zAb (fun wx (q:Below Z.heap.size Z wx)=>zCt k p c s ix iy iw ih gv _ b lf tx ty wx (q1.1.1.2.upto q) hbx hby hi);rw [hJ] at HIx;have HS3:(fun wx:World=>(wx.cell? ⟨w.heap.size,0,none⟩=some (ptr k)/\wx.cell? ⟨k,8,none⟩=some (.slice (some ⟨g,0,none⟩) C.length cap))/\wx.cell? ⟨Bx,0,none⟩=some (O ii tx)/\wx.cell? ⟨Bx,1,none⟩=some (O ii ty)/\wx.cell? ⟨Bx,2,none⟩=some (O ii tc)/\wx.cell? ⟨g,J,none⟩=some (O ii m)) Z.drew:=⟨⟨q1.2.2.cell,HC8.out _ q1.1.1.2⟩,bX.1.1,bX.1.2.1,bX.1.2.2.1,HCg.out _ q1.1.2.2⟩
  have HK3:Hid (∀wx,Below Z.drew.heap.size Z.drew wx->(fun wx:World=>(wx.cell? ⟨w.heap.size,0,none⟩=some (ptr k)/\wx.cell? ⟨k,8,none⟩=some (.slice (some ⟨g,0,none⟩) C.length cap))/\wx.cell? ⟨Bx,0,none⟩=some (O ii tx)/\wx.cell? ⟨Bx,1,none⟩=some (O ii ty)/\wx.cell? ⟨Bx,2,none⟩=some (O ii tc)/\wx.cell? ⟨g,J,none⟩=some (O ii m)) wx):=zAb fun wx q=>by
   have q':Below Z.heap.size Z wx:=(Below.refl _ Z).drew.trans q;have e1:=zAi q1.2.2 q' q1.2.2.lt;have e2:=bX.kept q';exact ⟨⟨e1.cell,HC8.out _ (q1.1.1.2.upto q')⟩,e2.1.1,e2.1.2.1,e2.1.2.2.1,HCg.out _ (q1.1.2.2.upto q')⟩
  have hJli:(0:Int)<=(J:Nat)/\((J:Nat):Int)<(C.length:Nat):=by omega
  have Hq:=zAb (ai q1 (ai q2 (ai q3 q4)));have Hb':=zAb bX;have Hhit:=zAb hhit;clear q1 q2 q3 q4 bX hbx hby hI hJ hJi hm hhit hnx htS hC hCp;gi_wp2_with fail;refine zA1 ?_;refine zAw (fun wx:World=>(wx.cell? ⟨w.heap.size,0,none⟩=some (ptr k)/\wx.cell? ⟨k,8,none⟩=some (.slice (some ⟨g,0,none⟩) C.length cap))/\wx.cell? ⟨Bx,0,none⟩=some (O ii tx)/\wx.cell? ⟨Bx,1,none⟩=some (O ii ty)/\wx.cell? ⟨Bx,2,none⟩=some (O ii tc)/\wx.cell? ⟨g,J,none⟩=some (O ii m)) [] zC7 (by kernel_rfl) (by kernel_rfl) ?_;refine zv 0 9 8 [.pointer (some ⟨Bx,2,none⟩),O ii tc,ptr k,ptr k,.pointer (some ⟨k,8,none⟩),.slice (some ⟨g,0,none⟩) C.length cap,ptr k,.pointer (some ⟨Bx,0,none⟩),cel tx ty] rfl rfl (by kernel_rfl) HS3 ?_;repeat (refine zc rfl (by rfl) (fun wx hx=>by go_simp) ?_;simp only [zp])
  refine zn ?_;refine zw 9 [] (by kernel_rfl) ?_;refine readyZ.call rfl rfl (zCd (by rfl) (by rfl) (by simp only [zj];rfl)) (HIx.out _ (Below.refl _ _).drew) ?_ readyZ.nil;rintro e Z1 ⟨rfl,hb1⟩;have HS3':=HK3.out _ hb1;refine ⟨_,rfl,fun _=>HS3',?_⟩;clear HS3;have HS3:=HS3';clear HS3';try simp only [zp]
  refine zv 10 3 8 [.pointer (some ⟨g,J,none⟩),O ii m,.bool (tc==m)] rfl rfl (by kernel_rfl) HS3 ?_;repeat (refine zc rfl (by rfl) (fun wx hx=>by go_simp) ?_;simp only [zp])
  refine zn ?_;refine zAd (by kernel_rfl) ?_ _;dsimp only [zAv,Exit.then];have hb1':Below Z.heap.size Z Z1:=(Below.refl _ Z).drew.trans hb1;obtain ⟨q1,q2,q3,q4⟩:=Hq.out;have e1:=HM.out Z Z1 q1 (Turns.of_below hb1');have e2:=q2.kept hb1';have e3:=zAi q3 hb1' q3.lt;have e4:=Hb'.out.kept hb1';have K1:Kq X1.heap.size (fun j=>Hb b hv j\/j=w.heap.size+3) Z Z1:=Kq.of_below hb1';have hz1:=hb1'.size;generalize (tc==m)=eb at Hhit ⊢;clear HS3 HIx HK3 hb1 hb1' q1 q2 q3 hJli Hb' Hq;cases eb
  ·have HE:Hid (Kq X1.heap.size (fun j=>Hb b hv j\/j=w.heap.size+3) Z Z1/\((((Below w0.heap.size w0 Z1/\Sr Z1 k p c s ix iy iw ih gv cv b lf)/\Tls Z1 gv G/\Cts Z1 cv C)/\Turns (Own gv cv b hv) w Z1/\Boxed Z1 w.heap.size 108 (ptr k))/\Four Z1 (w.heap.size+1) 0 0 0 0/\Boxed Z1 (w.heap.size+2) 4 (.bool false))/\∀u∈pre++[(⟨tx,ty,tc,tf,tp⟩:It)],hit ix iy iw C u=false):=zAb ⟨K1,⟨e1,e2,e3⟩,fun u hu=>by
    rcases List.mem_append.1 hu with q|q
    ·exact q4 u q
    ·simp at q;subst q;exact Hhit.out⟩
   clear e1 e2 e3 e4 K1;gi_wp2_with fail;exact HE.out
  ·obtain ⟨⟨f0,f1,f2,f3⟩,⟨g0,g1,g2,g3⟩,fz⟩:=id e2;obtain ⟨⟨v0,v1,v2,v3⟩,-,-⟩:=id e4;have cA:=e3.cell;have fA:=e3.frozen;have hne1:¬w.heap.size+1=w.heap.size+2:=by omega
   have hne2:¬w.heap.size+2=w.heap.size+1:=by omega
   obtain ⟨Y,hY⟩:=ex ((((Z1.setCell ⟨w.heap.size+1,0,none⟩ (O ii tx)).setCell ⟨w.heap.size+1,1,none⟩ (O ii ty)).setCell ⟨w.heap.size+1,2,none⟩ (O ii tc)).setCell ⟨w.heap.size+1,3,none⟩ (O ii tf));have FY:Four Y (w.heap.size+1) tx ty tc tf:=by rw [<-hY];exact e2.set tx ty tc tf
   have TY:Turns (fun j=>j=w.heap.size+1) Z1 Y:=by rw [<-hY];exact zB2 _ _ _ _ _ _
   have AY:=zAg e3 TY (fun e=>hne2 e);have cA2:=AY.cell;have fA2:=AY.frozen;have TY2:Turns (fun j=>j=w.heap.size+1\/j=w.heap.size+2) Z1 (Y.setCell ⟨w.heap.size+2,0,none⟩ (.bool true)):=(TY.mono (fun j _ e => .inl e)).trans (Turns.set Y (p:=⟨w.heap.size+2,0,none⟩) (.inl (.inr rfl)) _)
   have HE:Hid (Kq X1.heap.size (fun j=>Hb b hv j\/j=w.heap.size+3) Z (Y.setCell ⟨w.heap.size+2,0,none⟩ (.bool true))/\∃pre' t',(pre++[(⟨tx,ty,tc,tf,tp⟩:It)]=pre' ++ [t']/\(∀u∈pre',hit ix iy iw C u=false)/\hit ix iy iw C t'=true)/\(((Below w0.heap.size w0 (Y.setCell ⟨w.heap.size+2,0,none⟩ (.bool true))/\Sr (Y.setCell ⟨w.heap.size+2,0,none⟩ (.bool true)) k p c s ix iy iw ih gv cv b lf)/\Tls (Y.setCell ⟨w.heap.size+2,0,none⟩ (.bool true)) gv G/\Cts (Y.setCell ⟨w.heap.size+2,0,none⟩ (.bool true)) cv C)/\Turns (Own gv cv b hv) w (Y.setCell ⟨w.heap.size+2,0,none⟩ (.bool true))/\Boxed (Y.setCell ⟨w.heap.size+2,0,none⟩ (.bool true)) w.heap.size 108 (ptr k))/\Four (Y.setCell ⟨w.heap.size+2,0,none⟩ (.bool true)) (w.heap.size+1) t'.x t'.y t'.c t'.f/\Boxed (Y.setCell ⟨w.heap.size+2,0,none⟩ (.bool true)) (w.heap.size+2) 4 (.bool true)):=zAb ⟨K1.trans (Kq.of_turns TY2 (fun j _ e q=>by
    rcases e with e|e|e
    ·omega
    ·have:=HB.out j e;omega
    ·omega)),pre,⟨tx,ty,tc,tf,tp⟩,⟨rfl,q4,Hhit.out⟩,HM2.out Z1 _ e1 TY2,FY.turned (Turns.set Y (S:=fun j=>j=w.heap.size+2) (p:=⟨w.heap.size+2,0,none⟩) rfl _) (fun e=>hne1 e),AY.set _⟩
   clear e1 e2 e3 e4 K1 FY AY TY TY2;gi_wp2_with (first|rw [hY]|fail);obtain ⟨x1,pre',t',⟨x2,x3,x4⟩,x5,x6,x7⟩:=HE.out;exact ⟨x1,pre',t',⟨rfl,x2,x3,x4⟩,x5,x6,x7⟩
 case done =>
  rintro D xs v' Z hD hd ⟨⟨q1,q2,q3⟩,q4⟩ hh ho hK;have hKl:=(gE.1 hK).1;have hZ:Sch w0 Z k p c s ix iy iw ih gv cv b lf G C v' n []:=⟨q1.1.1.1,q1.1.1.2,q1.1.2.1,q1.1.2.2,hh,Hdf.out.1,Hdf.out.2.1,Hdf.out.2.2.1,Hdf.out.2.2.2.1,fun j e=>Hdf.out.2.2.2.2 j (ho j e)⟩
  obtain ⟨Y,hY⟩:=ex ((((Z.setCell ⟨w.heap.size+1,0,none⟩ (O ii 0)).setCell ⟨w.heap.size+1,1,none⟩ (O ii 0)).setCell ⟨w.heap.size+1,2,none⟩ (O ii 0)).setCell ⟨w.heap.size+1,3,none⟩ (O ii 0));have FY:Four Y (w.heap.size+1) 0 0 0 0:=by rw [<-hY];exact q2.set 0 0 0 0
  have TY:Turns (fun j=>j=w.heap.size+1) Z Y:=by rw [<-hY];exact zB2 _ _ _ _ _ _
  have AY:=zAg q3 TY (fun e=>by omega);have TY2:Turns (fun j=>j=w.heap.size+2) Y (Y.setCell ⟨w.heap.size+2,0,none⟩ (.bool false)):=Turns.set (S:=fun j=>j=w.heap.size+2) Y (p:=⟨w.heap.size+2,0,none⟩) rfl _;have FY2:=FY.turned TY2 (fun e=>by omega);have AY2:=AY.set (.bool false);have hK2:(Y.setCell ⟨w.heap.size+2,0,none⟩ (.bool false)).heap[D]? = some (.deferred (some [])):=TY2.same (fun e=>by omega) (TY.same (fun e=>by omega) hK);have TD:Turns (fun j=>j=D) (Y.setCell ⟨w.heap.size+2,0,none⟩ (.bool false)) ((Y.setCell ⟨w.heap.size+2,0,none⟩ (.bool false)).putObj D (.deferred none)):=zCh _ _ _ rfl;have FY3:=FY2.turned TD (fun e=>by omega);have AY3:=zAg AY2 TD (fun e=>by omega);have TA:Turns (fun j=>j=w.heap.size+1\/j=w.heap.size+2\/j=D) Z ((Y.setCell ⟨w.heap.size+2,0,none⟩ (.bool false)).putObj D (.deferred none)):=((TY.mono (fun j _ e => .inl e)).trans (TY2.mono (fun j _ e => .inl (.inr (.inl e))))).trans (TD.mono (fun j _ e => .inl (.inr (.inr e))))
  have hZf:=hZ.leave TA (fun j e=>by omega) (fun e=>by omega) (fun j e q=>by
   have hj:j<w.heap.size:=Hh.out.own_lt (e.imp id (fun e=>e.imp id (fun e=>e.imp id (ho j))))
   omega)
  have HE:Hid (∃xs R hv',Drn S xs R/\Sch w0 ((Y.setCell ⟨w.heap.size+2,0,none⟩ (.bool false)).putObj D (.deferred none)) k p c s ix iy iw ih gv cv b lf G C hv' n R/\(∀j,hv'.ownBlock=some j->hv.ownBlock=some j)/\Turns (Own gv cv b hv) w ((Y.setCell ⟨w.heap.size+2,0,none⟩ (.bool false)).putObj D (.deferred none))/\R=[]/\∀u∈xs,hit ix iy iw C u=false):=zAb ⟨xs,[],v',hd,hZf,ho,q1.2.1.trans (TA.mono (fun j _ e => .inr (by omega))),rfl,q4⟩;obtain ⟨⟨f0,f1,f2,f3⟩,⟨g0,g1,g2,g3⟩,fz⟩:=id q2;have cA:=AY.cell;have fA:=AY.frozen;have r0:=FY3.1;have rA:=AY3.cell;clear q1 q2 q3 q4 hh hZ hZf FY FY2 FY3 TY TY2 TD TA AY AY2 AY3;gi_wp2_with (first|rw [hY]|fail);refine ⟨by simp,.inl ⟨_,_,rfl,run_takeDeferred hK2,?_⟩⟩;obtain ⟨xs,R,hv',x1,x2,x3,x4,x5,x6⟩:=HE.out;exact ⟨.tuple #[rv 0 0 0 0,.bool false],by simp [results,Tryz.f87,go_sem,r0.1,r0.2.1,r0.2.2.1,r0.2.2.2,rA],xs,R,hv',x1,x2,x3,x4,.inl ⟨rfl,x5,x6⟩⟩
 case stop =>
  rintro D cd xs R v' Z hD hd ⟨pre,t,⟨rfl,rfl,q4,q5⟩,q1,q2,q3⟩ hh ho hK;have hKl:=(gE.1 hK).1;have hZ:Sch w0 Z k p c s ix iy iw ih gv cv b lf G C v' n R:=⟨q1.1.1.1,q1.1.1.2,q1.1.2.1,q1.1.2.2,hh,Hdf.out.1,Hdf.out.2.1,Hdf.out.2.2.1,Hdf.out.2.2.2.1,fun j e=>Hdf.out.2.2.2.2 j (ho j e)⟩
  have TD:Turns (fun j=>j=D) Z (Z.putObj D (.deferred none)):=zCh _ _ _ rfl;have FY3:=q2.turned TD (fun e=>by omega);have AY3:=zAg q3 TD (fun e=>by omega)
  have hZf:=hZ.leave TD (fun j e=>by omega) (fun e=>by omega) (fun j e q=>by
   have hj:j<w.heap.size:=Hh.out.own_lt (e.imp id (fun e=>e.imp id (fun e=>e.imp id (ho j))))
   omega)
  have r0:=FY3.1;have rA:=AY3.cell;have HE:=zAb (ai hZf (q1.2.1.trans (TD.mono (fun j _ e => .inr (by omega)))));clear q1 q2 q3 hh hZ hZf FY3 AY3 TD;gi_wp2
  refine ⟨by simp,.inl ⟨_,_,rfl,run_takeDeferred hK,?_⟩⟩;exact ⟨.tuple #[rv t.x t.y t.c t.f,.bool true],by simp [results,Tryz.f87,go_sem,r0.1,r0.2.1,r0.2.2.1,r0.2.2.2,rA],pre++[t],R,v',hd,HE.out.1,ho,HE.out.2,.inr ⟨pre,t,rfl,rfl,q4,q5⟩⟩
end Go.Proofs.YtejjcenhjpjefaaGreatDoor
