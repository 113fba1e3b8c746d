import Derived.Test.YtejjcenhjpjefaaGreatDoorMeet
import Derived.Test.YtejjcenhjpjefaaGreatDoorWho
import Derived.Test.YtejjcenhjpjefaaGreatDoorCellsSeq
import Derived.Test.YtejjcenhjpjefaaGreatDoorAwake
set_option linter.all false
set_option maxRecDepth 1000000
set_option maxHeartbeats 64000000
open Go.Proofs.Tryz
open Go.Proofs.Tryz renaming prog->pg
open Array renaming getElem?_eq_some_iff->gE
open Go.Value renaming int->O
open Go.IntKind renaming i64->ii
namespace Go.Proofs.YtejjcenhjpjefaaGreatDoor
open Go.RowKit Go.Shelf
attribute [local go_sem] Oper.semAt_some
theorem zLb (n:Int) (h:W64 n) (w:World):Calls pg 41 #[O ii n] w fun e w'=>e = .returned (O ii (n/8))/\w'=w:=by
 obtain ⟨h1,h2⟩:=zNg h;clear h
 by_cases h0:0<=n
 ·have e1:n.tdiv 8=n/8:=Int.tdiv_eq_ediv_of_nonneg h0;have e2:n.tmod 8=n%8:=Int.tmod_eq_emod_of_nonneg h0;go_enter func41,ntmps41;go_wp2
  go_ret;exact ⟨rfl,rfl⟩
 ·obtain ⟨q,hq⟩:=ex (n.tdiv 8);obtain ⟨r,hr⟩:=ex (n.tmod 8);have e1:n.tdiv 8 = -((-n)/8):=by rw [show n = -(-n) by omega,Int.neg_tdiv,Int.tdiv_eq_ediv_of_nonneg (by omega)];simp
  have e2:n.tmod 8 = -((-n)%8):=by rw [show n = -(-n) by omega,Int.neg_tmod,Int.tmod_eq_emod_of_nonneg (by omega)];simp
  have f1:-1152921504606846976<=q/\q<=0:=by omega
  have f2:-8<r/\r<=0:=by omega
  have f3:r=0->q=n/8:=by omega
  have f4:r<0->q-1=n/8:=by omega
  clear e1 e2;have F3:=zAb f3;have F4:=zAb f4;clear f3 f4
  by_cases hz:r=0
  ·go_enter func41,ntmps41;go_wp2
   go_ret;exact ⟨zH4 (F3.out hz),rfl⟩
  ·have hz':r<0:=by omega
   go_enter func41,ntmps41;go_wp2
   go_ret;exact ⟨zH4 (F4.out hz'),rfl⟩
def Keep (B:Nat) (W W':World):Prop:=W.heap.size<=W'.heap.size/\∀k,B<=k->k<W.heap.size->W'.heap[k]? = W.heap[k]?
theorem Keep.trans {B:Nat} {X Y Z:World} (h:Keep B X Y) (k:Keep B Y Z):Keep B X Z:=⟨Nat.le_trans h.1 k.1,fun i hi hl=>(k.2 i hi (Nat.lt_of_lt_of_le hl h.1)).trans (h.2 i hi hl)⟩
theorem Keep.mono {B C:Nat} {X Y:World} (h:Keep B X Y) (hB:B<=C):Keep C X Y:=⟨h.1,fun i hi=>h.2 i (Nat.le_trans hB hi)⟩
theorem Keep.at {B:Nat} {X Y:World} (h:Keep B X Y) {k:Nat} {o:Obj} (hB:B<=k) (hk:X.heap[k]? = some o):Y.heap[k]? = some o:=(h.2 k hB (gE.1 hk).1).trans hk
theorem Keep.from {B:Nat} {X Y:World} (h:Keep B X Y):KeepsFrom B X Y:=⟨h.1,fun k o hB hk _=>h.at hB hk⟩
theorem Keep.of_below {B:Nat} {X Y:World} (h:Below X.heap.size X Y):Keep B X Y:=⟨h.size,fun k _ hk=>h.block k hk⟩
theorem Keep.put {B:Nat} (X:World) {l:Nat} (o:Obj) (hl:l<B):Keep B X (X.putObj l o):=⟨by simp,fun k hB _=>World.putObj_heap_other (by omega)⟩
def zTb {α:Type} (n:Nat) (g:Nat) (lb:Array Value) (encs:α->Array Value) (Kp:World->World->Prop) (S Sp:List α->Prop) (N:Nat) (w:World):Prop:=
 ∀(l:Nat) (J Jx:List α->World->Prop) (W:World),Below w.heap.size w W->OwnFrom W.heap.size J->OwnFrom W.heap.size Jx->
  (∀pre x X,J pre X->pre.length<N->YieldAt Fence.wide (n-1) pg l (encs x) X fun e Y =>
   Keep W.heap.size X Y/\((e = .returned (.bool true)/\J (pre++[x]) Y/\Kp X Y)\/(e = .returned (.bool false)/\Jx (pre++[x]) Y)))->
  J [] W->
  CallsIn Fence.wide n pg g (#[.func (.yield l) #[] #[]]++lb) W fun e Y=>(∃v,e = .returned v)/\((∃xs,S xs/\J xs Y)\/(∃pre,Sp pre/\Jx pre Y))
def zQ1 {α:Type} (B:Nat) (Kp:World->World->Prop) (I Ix:List α->World->Prop) (xs:List α) (X:World):Exit->Act->World->Prop
 |.normal,_,Y=>Keep B X Y/\Kp X Y/\I xs Y
 |.ret,_,Y=>Keep B X Y/\Ix xs Y
 |_,_,_=>False
theorem zMs {α:Type} {n:Nat} {g:Operand} {ps:Array Tmp} {assign body:Code} {Q:Exit->Act->World->Prop} {a:Act} {w w0:World} (h1:1<=n) {gf:Nat} {lb:Array Value}
 (hg:a.eval g = .func (.func gf) #[] lb) (eg:∀args w,(callFunc gf args).run pg w = .ok (.enter gf args) w)
 {encs:α->Array Value} {Kp:World->World->Prop} {S Sp:List α->Prop} {N:Nat} (hseq:zTb (n-1) gf lb encs Kp S Sp N w0)
 (hKt:∀{A B C:World},Kp A B->Kp B C->Kp A C) (hKb:∀(W:World) (l:Nat) (o o':Obj),w.heap.size<=l->W.heap[l]? = some o->o.isCells=false->o.isWalk=false->Kp W (W.putObj l o'))
 (hb0:Below w0.heap.size w0 w) (hps:∀x,(encs x).size=ps.size)
 (I Ix:List α->World->Prop) (hI:OwnFrom w.heap.size I) (hIx:OwnFrom w.heap.size Ix) (h0:I [] w) (Ax:α->Act->World->Prop) (hAx:∀x a',OwnFrom w.heap.size (fun (_:Unit) W=>Ax x a' W))
 (hassign:∀(l:Nat) (pre:List α) (x:α) (W:World) (K:Act->World->Prop),I pre W->(∀a' W',Keep w.heap.size W W'->Kp W W'->I pre W'->Ax x a' W'->K a' W')->
  assign.wpIn (Fence.wide.inRound l) (n-1-1) pg (Exit.then K (fun _ _ _=>False)) { tmps:=(ps.zip (encs x)).foldl (fun t (p,v)=>t.setIfInBounds p v) a.tmps,defers:=[] } W)
 (hbody:∀(l:Nat) (pre:List α) (x:α) (a':Act) (W:World),w.heap.size<=l->I pre W->Ax x a' W->pre.length<N->body.wpIn (Fence.wide.inRound l) (n-1-1) pg (zQ1 w.heap.size Kp I Ix (pre++[x]) W) a' W)
 (hdone:∀(D:Nat) (xs:List α) (W:World),w.heap.size<=D->S xs->I xs W->W.heap[D]? = some (.deferred (some []))->Q .normal { a with defers:={ target:=.collected D,args:=#[] } :: a.defers } W)
 (hstop:∀(D:Nat) (pre:List α) (W:World),w.heap.size<=D->Sp pre->Ix pre W->W.heap[D]? = some (.deferred (some []))->Code.ret.wpIn Fence.wide n pg Q { a with defers:={ target:=.collected D,args:=#[] } :: a.defers } W) :
 (Code.rangeFunc g ps assign body).wpIn Fence.wide n pg Q a w:=by
 refine wpIn_rangeFunc (fun fn hfn=>?_);generalize hrc:(fun st pe=>({ state:=st,pending:=pe,fn:=fn,tmps:=a.tmps,params:=ps,assign:=assign,body:=body,defers:=w.heap.size }:Loop))=rc;generalize hV:(w.alloc (.deferred (some []))).alloc (.loop (rc .ready none))=V;have zV:V.heap.size=w.heap.size+1+1:=by rw [<-hV];simp
 have bV:Below w.heap.size w V:=by rw [<-hV];exact zBe _ _ _
 have lV:V.heap[w.heap.size+1]? = some (.loop (rc .ready none)):=by rw [<-hV];have:=World.alloc_heap_new (w.alloc (.deferred (some []))) (.loop (rc .ready none));rwa [World.size_alloc] at this
 have dV:V.heap[w.heap.size]? = some (.deferred (some [])):=by rw [<-hV];exact (Below.heap_alloc _ _ _ (by simp)).trans (World.alloc_heap_new w _)
 have iV:I [] V:=hI _ _ _ none h0 (zDe bV) (fun r e=>by cases e)
 let Bk:LoopState->Option Code->World->Prop:=fun st pe X=>X.heap[w.heap.size+1]? = some (.loop (rc st pe))/\X.heap[w.heap.size]? = some (.deferred (some []))
 have ownB:∀st pe,OwnFrom V.heap.size (fun (_:List α) X=>Bk st pe X):=fun st pe s X Y row hs hgr hr =>
  ⟨(hgr.block _ (gE.1 hs.1).1 (fun e=>by have:=(hr _ e.symm).1;omega)).trans hs.1,(hgr.block _ (gE.1 hs.2).1 (fun e=>by have:=(hr _ e.symm).1;omega)).trans hs.2⟩
 have wide:∀{J:List α->World->Prop},OwnFrom w.heap.size J->OwnFrom V.heap.size J:=fun h s X Y row hs hgr hr=>h s X Y row hs hgr (fun r e=>⟨by have:=(hr r e).1;omega,(hr r e).2⟩)
 have turn:∀{X:World} {st pe} (st':LoopState) (pe':Option Code),Bk st pe X->Bk st' pe' (X.putObj (w.heap.size+1) (.loop (rc st' pe'))):=fun st' pe' h =>
  ⟨World.putObj_heap_same (gE.1 h.1).1,(World.putObj_heap_other (by omega)).trans h.2⟩
 refine ⟨w.heap.size+1,[{ target:=.collected w.heap.size,args:=#[] }],V,{ target:=.fn (.func gf) lb,args:=#[.func (.yield (w.heap.size+1)) #[] #[]] },V,gf,#[.func (.yield (w.heap.size+1)) #[] #[]]++lb,V,?_,?_,fun _ _=>trivial,?_,fun _=>h1,?_⟩
 ·rw [<-hV,<-hrc];exact run_enterLoop_outer _ _ _ _ _
 ·simp only [resolve,hg];simp [go_sem]
 ·simp [invoke,go_sem,eg]
 refine (hseq (w.heap.size+1) (fun pre X=>I pre X/\Bk .ready none X) (fun pre X=>Ix pre X/\Bk .done (some .ret) X) V (hb0.trans (bV.mono hb0.size))
  (OwnFrom.and (wide hI) (ownB _ _)) (OwnFrom.and (wide hIx) (ownB _ _)) ?_ ⟨iV,lV,dV⟩).mono ?_
 ·rintro pre x X ⟨iX,bX⟩ hlen;have hy:=run_yield (P:=pg) (args:=encs x) bX.1 (by rw [<-hrc];exact hps x);rw [<-hrc] at hy;refine ⟨fn,_,assign,body,hy,roundIn_of_wpIn trivial (hassign _ pre x X _ iX ?_)⟩;intro a' Y kY kpY iY axY;have bY:Bk .ready none Y:=⟨kY.at (by omega) bX.1,kY.at (Nat.le_refl _) bX.2⟩
  refine ⟨_,run_beginRound bY.1 (by rw [<-hrc]),?_⟩;rw [show (Obj.loop { rc .ready none with state:=.busy }) = .loop (rc .busy none) by rw [<-hrc]];have bZ:=turn .busy none bY;refine wpIn_mono (hbody _ pre x a' _ (by omega) (hI.putObj _ iY (by omega) bY.1 rfl) ((hAx x a').putObj (s:=()) _ axY (by omega) bY.1 rfl) hlen) ?_
  have fin:∀(j:Option Code) (U:World),Keep w.heap.size (Y.putObj (w.heap.size+1) (.loop (rc .busy none))) U->
   (Instr.endRound (w.heap.size+1) j).run pg U = .ok (.bool j.isNone) (U.putObj (w.heap.size+1) (.loop (rc (if j.isNone then .ready else .done) j)))/\Bk .busy none U:=fun j U kU=>by
   have bU:Bk .busy none U:=⟨kU.at (by omega) bZ.1,kU.at (Nat.le_refl _) bZ.2⟩
   refine ⟨?_,bU⟩;have:=run_endRound (P:=pg) j bU.1;rw [<-hrc] at this ⊢;exact this
  have kept:∀{U:World} (o:Obj),Keep w.heap.size (Y.putObj (w.heap.size+1) (.loop (rc .busy none))) U->Keep V.heap.size X (U.putObj (w.heap.size+1) o):=fun o kU =>
   ((kY.mono (by omega)).trans (Keep.put _ _ (by omega))).trans ((kU.mono (by omega)).trans (Keep.put _ _ (by omega)))
  rintro e a3 U hp
  cases e with
  |normal =>
   obtain ⟨kU,kpU,iU⟩:=hp;obtain ⟨hr,bU⟩:=fin none U kU;exact ⟨_,_,hr,kept _ kU,.inl ⟨rfl,⟨hI.putObj _ iU (by omega) bU.1 rfl,turn _ _ bU⟩,hKt kpY (hKt (hKt (hKb _ _ _ _ (by omega) bY.1 rfl rfl) kpU) (hKb _ _ _ _ (by omega) bU.1 rfl rfl))⟩⟩
  |ret =>
   obtain ⟨kU,iU⟩:=hp;obtain ⟨hr,bU⟩:=fin (some .ret) U kU;exact ⟨_,_,hr,kept _ kU,.inr ⟨rfl,hIx.putObj _ iU (by omega) bU.1 rfl,turn _ _ bU⟩⟩
  |exit id=>exact hp.elim
  |goto t=>exact hp.elim
  |panic ch=>exact hp.elim
  |outgrown=>exact hp.elim
 ·rintro e U ⟨⟨v,rfl⟩,(⟨xs,hS,iU,bU⟩|⟨pre,hS,iU,bU⟩)⟩
  ·refine ⟨none,_,?_,hdone _ xs _ (Nat.le_refl _) hS (hI.putObj (.loop (rc .exhausted none)) iU (by omega) bU.1 rfl) (turn .exhausted none bU).2⟩;have:=run_endLoop (P:=pg) bU.1 (by rw [<-hrc];simp);rw [<-hrc] at this ⊢;exact this
  ·refine ⟨some .ret,_,?_,hstop _ pre _ (Nat.le_refl _) hS (hIx.putObj (.loop (rc .exhausted (some .ret))) iU (by omega) bU.1 rfl) (turn .exhausted (some .ret) bU).2⟩;have:=run_endLoop (P:=pg) bU.1 (by rw [<-hrc];simp);rw [<-hrc] at this ⊢;exact this
attribute [local go_sem] Oper.semAt_some
theorem Wl.sides {w:World} {p:Nat} {W H:Int} {tl:List Nat} {f:Int->Int->Option Int} (h:Wl w p W H tl f):(1<=W/\W<=128)/\1<=H/\H<=128:=by
 have hm:=h.1.1;simp only [mt,gs,Bool.and_eq_true,decide_eq_true_eq] at hm;omega
abbrev clN (n:Int):Int:=(n+7)/8
theorem zIj {w:World} {p:Nat} {W H:Int} {tl:List Nat} {f:Int->Int->Option Int} (h:Wl w p W H tl f) :
 Calls pg 43 #[ptr p] w fun e w'=>e = .returned (rct 0 0 (clN W) (clN H))/\Below w.heap.size w w':=by
 obtain ⟨hW,hH⟩:=h.sides;show Calls pg 43 #[ptr p] w fun e w'=>e = .returned (rct 0 0 ((W+7)/8) ((H+7)/8))/\Below w.heap.size w w';have HX:=zAb (zLb (W+7) (zBr (by omega)));have HY:=zAb (zLb (H+7) (zBr (by omega)));obtain ⟨a,ha⟩:=ex ((W+7)/8);obtain ⟨b,hb⟩:∃a,(H+7)/8=a:=⟨_,rfl⟩
 rw [ha] at HX ⊢;rw [hb] at HY ⊢;clear ha hb;have B1:Below w.heap.size w (w.alloc (.cells #[O ii 0,O ii 0,O ii 0,O ii 0] 65)):=zAh _ _;obtain ⟨X,hX⟩:=ex (w.alloc (.cells #[O ii 0,O ii 0,O ii 0,O ii 0] 65));have F0:Four X w.heap.size 0 0 0 0:=by rw [<-hX];exact zBo (Below.refl _ _)
 rw [hX] at B1;have HA:=zAb (zGt (h.kept B1));clear h;have HB:=zAb B1;clear B1;go_enter func43,ntmps43;go_wp2_with fail;clear hX;refine HA.out.mono ?_;rintro e w1 ⟨rfl,hb1⟩;have F1:=F0.kept hb1;have HB1:=zAb (bt HB.out hb1);clear F0 hb1 HA;obtain ⟨Y,hY⟩:=ex (w1.alloc (.cells #[O ii 0,O ii 0,O ii W,O ii H] 65));have B2:Below w1.heap.size w1 Y:=by rw [<-hY];exact zAh _ _
 have F2:=F1.kept B2;have G2:Four Y w1.heap.size 0 0 W H:=by rw [<-hY];exact zBo (Below.refl _ _)
 have HB2:=zAb (bt HB1.out B2);have hne:¬w.heap.size=w1.heap.size:=by have:=HB1.out.size;have:=F1.2.2;omega
 clear B2 F1 HB1;go_wp2_with fail;clear hY;obtain ⟨⟨-,-,c2,c3⟩,-,-⟩:=G2;obtain ⟨⟨d0,d1,d2,d3⟩,⟨g0,g1,g2,g3⟩,z1⟩:=F2;have hne':¬w1.heap.size=w.heap.size:=fun e=>hne e.symm;have e1:IntKind.i64.wrap (W+7)=W+7:=by rw [IntKind.wrap_i64];omega
 have e2:IntKind.i64.wrap (H+7)=H+7:=by rw [IntKind.wrap_i64];omega
 clear hW hH
 go_region_held3 (fun w'=>w'.cell? ⟨w1.heap.size,2,none⟩=some (O ii W)/\w'.cell? ⟨w1.heap.size,3,none⟩=some (O ii H)) (go_keep)
  (first|(go_at_call_of 41 W;refine (HX.out _).mono ?_;rintro e w' ⟨rfl,rfl⟩)|(go_at_call_of 41 H;refine (HY.out _).mono ?_;rintro e w' ⟨rfl,rfl⟩))
 go_wp2_with fail;refine bodyPost_ret (v:=rct 0 0 a b) (by simp [results,Tryz.results43,go_sem, *]) rfl ⟨rfl,?_⟩;exact (zJl HB2.out (by simp)).drew
theorem zR4 (p:Nat) (w:World):Calls pg 39 #[ptr p] w fun e w'=>e = .returned (.func (.func 76) #[] #[ptr w.heap.size])/\w'=w.alloc (.cells #[ptr p] 27):=by
 go_enter func39,ntmps39;go_wp2_with fail;go_ret;exact ⟨rfl,rfl⟩
end Go.Proofs.YtejjcenhjpjefaaGreatDoor
