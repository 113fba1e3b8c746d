import Derived.Test.YthiafmlgialbnaaGreatDoorMeet
import Derived.Test.YthiafmlgialbnaaGreatDoorWho
import Derived.Test.YthiafmlgialbnaaGreatDoorCellsSeq
import Derived.Test.YthiafmlgialbnaaGreatDoorAwake
set_option linter.all false
set_option maxRecDepth 1000000
set_option maxHeartbeats 64000000
open Go.Proofs.Tryz
open Go.Proofs.Tryz renaming prog->pg
open Array renaming getElem?_eq_some_iff->gE
open Go.Value renaming int->O
open Go.IntKind renaming i64->ii
namespace Go.Proofs.YthiafmlgialbnaaGreatDoor
open Go.RowKit Go.Shelf
attribute [local go_sem] Oper.semAt_some
theorem zVd (n:Int) (h:W64 n) (w:World):Calls pg 87 #[O ii n] w fun e w'=>e = .returned (O ii (n/8))/\w'=w:=by
 obtain ⟨h1,h2⟩:=zJr h;clear h
 by_cases h0:0<=n
 ·have e1:n.tdiv 8=n/8:=Int.tdiv_eq_ediv_of_nonneg h0;have e2:n.tmod 8=n%8:=Int.tmod_eq_emod_of_nonneg h0;go_enter func87,ntmps87;go_wp2
  go_ret;exact ⟨rfl,rfl⟩
 ·obtain ⟨q,hq⟩:=ex (n.tdiv 8);obtain ⟨r,hr⟩:=ex (n.tmod 8);have e1:n.tdiv 8 = -((-n)/8):=by rw [show n = -(-n) by omega,Int.neg_tdiv,Int.tdiv_eq_ediv_of_nonneg (by omega)];simp
  have e2:n.tmod 8 = -((-n)%8):=by rw [show n = -(-n) by omega,Int.neg_tmod,Int.tmod_eq_emod_of_nonneg (by omega)];simp
  have f1:-1152921504606846976<=q/\q<=0:=by omega
  have f2:-8<r/\r<=0:=by omega
  have f3:r=0->q=n/8:=by omega
  have f4:r<0->q-1=n/8:=by omega
  clear e1 e2;have F3:=zAc f3;have F4:=zAc f4;clear f3 f4
  by_cases hz:r=0
  ·go_enter func87,ntmps87;go_wp2
   go_ret;exact ⟨zDo (F3.out hz),rfl⟩
  ·have hz':r<0:=by omega
   go_enter func87,ntmps87;go_wp2
   go_ret;exact ⟨zDo (F4.out hz'),rfl⟩
theorem zD4 (n:Int) (h:W64 n) (w:World):Calls pg 67 #[O ii n] w fun e w'=>e = .returned (O ii (n/8))/\w'=w:=by
 obtain ⟨h1,h2⟩:=zJr h;clear h
 by_cases h0:n<0
 ·obtain ⟨q,hq⟩:=ex ((-(n+1)).tdiv 8);have e1:(-(n+1)).tdiv 8=(-(n+1))/8:=Int.tdiv_eq_ediv_of_nonneg (by omega);have f1:0<=q/\q<=1152921504606846976:=by omega
  have F3:=zAc (show -(q+1)=n/8 by omega);clear e1;go_enter func67,ntmps67;go_wp2
  go_ret;exact ⟨zDo F3.out,rfl⟩
 ·have e1:n.tdiv 8=n/8:=Int.tdiv_eq_ediv_of_nonneg (by omega);go_enter func67,ntmps67;go_wp2
  go_ret;exact ⟨rfl,rfl⟩
theorem zCo (x y:Int) (hx:W64 x) (hy:W64 y) (w:World):Calls pg 33 #[cel x y] w fun e w'=>e = .returned (cel (x/8) (y/8))/\Below w.heap.size w w':=by
 have HX:=zAc (zD4 x hx);have HY:=zAc (zD4 y hy);clear hx hy;have B2:Below w.heap.size w ((w.alloc (.cells #[O ii x,O ii y] 47)).alloc (.cells #[O ii 0,O ii 0] 47)):=zA5 _ _ _;obtain ⟨X,hX⟩:=ex ((w.alloc (.cells #[O ii x,O ii y] 47)).alloc (.cells #[O ii 0,O ii 0] 47));rw [hX] at B2;have T0:Two X w.heap.size x y:=by rw [<-hX];exact (Two.newAt rfl).alloc
 have T1:Two X (w.heap.size+1) 0 0:=by rw [<-hX];exact Two.newAt (by simp)
 go_enter func33,ntmps33;go_wp2_with fail;clear hX;have HB:=zAc B2;clear B2;obtain ⟨⟨c0,c1⟩,⟨f0,f1⟩,z0⟩:=T0;obtain ⟨⟨d0,d1⟩,⟨g0,g1⟩,z1⟩:=T1
 go_region_held3 (fun w'=>w'.cell? ⟨w.heap.size,0,none⟩=some (O ii x)/\w'.cell? ⟨w.heap.size,1,none⟩=some (O ii y)) (go_keep)
  (first|(go_at_call_of 67 x;refine (HX.out _).mono ?_;rintro e w' ⟨rfl,rfl⟩)|(go_at_call_of 67 y;refine (HY.out _).mono ?_;rintro e w' ⟨rfl,rfl⟩))
 go_wp2_with fail;refine bodyPost_ret (v:=cel (x/8) (y/8)) (by simp [results,Tryz.results33,go_sem, *]) rfl ⟨rfl,?_⟩;exact (set2 HB.out (by simp) (by simp)).drew
def Keep (B:Nat) (W W':World):Prop:=W.heap.size<=W'.heap.size/\∀k,B<=k->k<W.heap.size->W'.heap[k]? = W.heap[k]?
theorem Keep.trans {B:Nat} {X Y Z:World} (h:Keep B X Y) (k:Keep B Y Z):Keep B X Z:=⟨Nat.le_trans h.1 k.1,fun i hi hl=>(k.2 i hi (Nat.lt_of_lt_of_le hl h.1)).trans (h.2 i hi hl)⟩
theorem Keep.mono {B C:Nat} {X Y:World} (h:Keep B X Y) (hB:B<=C):Keep C X Y:=⟨h.1,fun i hi=>h.2 i (Nat.le_trans hB hi)⟩
theorem Keep.at {B:Nat} {X Y:World} (h:Keep B X Y) {k:Nat} {o:Obj} (hB:B<=k) (hk:X.heap[k]? = some o):Y.heap[k]? = some o:=(h.2 k hB (gE.1 hk).1).trans hk
theorem Keep.from {B:Nat} {X Y:World} (h:Keep B X Y):KeepsFrom B X Y:=⟨h.1,fun k o hB hk _=>h.at hB hk⟩
theorem Keep.of_below {B:Nat} {X Y:World} (h:Below X.heap.size X Y):Keep B X Y:=⟨h.size,fun k _ hk=>h.block k hk⟩
theorem Keep.put {B:Nat} (X:World) {l:Nat} (o:Obj) (hl:l<B):Keep B X (X.putObj l o):=⟨by simp,fun k hB _=>World.putObj_heap_other (by omega)⟩
def zSc {α:Type} (n:Nat) (g:Nat) (lb:Array Value) (encs:α->Array Value) (Kp:World->World->Prop) (S Sp:List α->Prop) (N:Nat) (w:World):Prop:=
 ∀(l:Nat) (J Jx:List α->World->Prop) (W:World),Below w.heap.size w W->OwnFrom W.heap.size J->OwnFrom W.heap.size Jx->
  (∀pre x X,J pre X->pre.length<N->YieldAt Fence.wide (n-1) pg l (encs x) X fun e Y =>
   Keep W.heap.size X Y/\((e = .returned (.bool true)/\J (pre++[x]) Y/\Kp X Y)\/(e = .returned (.bool false)/\Jx (pre++[x]) Y)))->
  J [] W->
  CallsIn Fence.wide n pg g (#[.func (.yield l) #[] #[]]++lb) W fun e Y=>(∃v,e = .returned v)/\((∃xs,S xs/\J xs Y)\/(∃pre,Sp pre/\Jx pre Y))
def zTh {α:Type} (B:Nat) (Kp:World->World->Prop) (I Ix:List α->World->Prop) (xs:List α) (X:World):Exit->Act->World->Prop
 |.normal,_,Y=>Keep B X Y/\Kp X Y/\I xs Y
 |.ret,_,Y=>Keep B X Y/\Ix xs Y
 |_,_,_=>False
theorem zH9 {α:Type} {n:Nat} {g:Operand} {ps:Array Tmp} {assign body:Code} {Q:Exit->Act->World->Prop} {a:Act} {w w0:World} (h1:1<=n) {gf:Nat} {lb:Array Value}
 (hg:a.eval g = .func (.func gf) #[] lb) (eg:∀args w,(callFunc gf args).run pg w = .ok (.enter gf args) w)
 {encs:α->Array Value} {Kp:World->World->Prop} {S Sp:List α->Prop} {N:Nat} (hseq:zSc (n-1) gf lb encs Kp S Sp N w0)
 (hKt:∀{A B C:World},Kp A B->Kp B C->Kp A C) (hKb:∀(W:World) (l:Nat) (o o':Obj),w.heap.size<=l->W.heap[l]? = some o->o.isCells=false->o.isWalk=false->Kp W (W.putObj l o'))
 (hb0:Below w0.heap.size w0 w) (hps:∀x,(encs x).size=ps.size)
 (I Ix:List α->World->Prop) (hI:OwnFrom w.heap.size I) (hIx:OwnFrom w.heap.size Ix) (h0:I [] w) (Ax:α->Act->World->Prop) (hAx:∀x a',OwnFrom w.heap.size (fun (_:Unit) W=>Ax x a' W))
 (hassign:∀(l:Nat) (pre:List α) (x:α) (W:World) (K:Act->World->Prop),I pre W->(∀a' W',Keep w.heap.size W W'->Kp W W'->I pre W'->Ax x a' W'->K a' W')->
  assign.wpIn (Fence.wide.inRound l) (n-1-1) pg (Exit.then K (fun _ _ _=>False)) { tmps:=(ps.zip (encs x)).foldl (fun t (p,v)=>t.setIfInBounds p v) a.tmps,defers:=[] } W)
 (hbody:∀(l:Nat) (pre:List α) (x:α) (a':Act) (W:World),w.heap.size<=l->I pre W->Ax x a' W->pre.length<N->body.wpIn (Fence.wide.inRound l) (n-1-1) pg (zTh w.heap.size Kp I Ix (pre++[x]) W) a' W)
 (hdone:∀(D:Nat) (xs:List α) (W:World),w.heap.size<=D->S xs->I xs W->W.heap[D]? = some (.deferred (some []))->Q .normal { a with defers:={ target:=.collected D,args:=#[] } :: a.defers } W)
 (hstop:∀(D:Nat) (pre:List α) (W:World),w.heap.size<=D->Sp pre->Ix pre W->W.heap[D]? = some (.deferred (some []))->Code.ret.wpIn Fence.wide n pg Q { a with defers:={ target:=.collected D,args:=#[] } :: a.defers } W) :
 (Code.rangeFunc g ps assign body).wpIn Fence.wide n pg Q a w:=by
 refine wpIn_rangeFunc (fun fn hfn=>?_);generalize hrc:(fun st pe=>({ state:=st,pending:=pe,fn:=fn,tmps:=a.tmps,params:=ps,assign:=assign,body:=body,defers:=w.heap.size }:Loop))=rc;generalize hV:(w.alloc (.deferred (some []))).alloc (.loop (rc .ready none))=V;have zV:V.heap.size=w.heap.size+1+1:=by rw [<-hV];simp
 have bV:Below w.heap.size w V:=by rw [<-hV];exact zA5 _ _ _
 have lV:V.heap[w.heap.size+1]? = some (.loop (rc .ready none)):=by rw [<-hV];have:=World.alloc_heap_new (w.alloc (.deferred (some []))) (.loop (rc .ready none));rwa [World.size_alloc] at this
 have dV:V.heap[w.heap.size]? = some (.deferred (some [])):=by rw [<-hV];exact (Below.heap_alloc _ _ _ (by simp)).trans (World.alloc_heap_new w _)
 have iV:I [] V:=hI _ _ _ none h0 (zDk bV) (fun r e=>by cases e)
 let Bk:LoopState->Option Code->World->Prop:=fun st pe X=>X.heap[w.heap.size+1]? = some (.loop (rc st pe))/\X.heap[w.heap.size]? = some (.deferred (some []))
 have ownB:∀st pe,OwnFrom V.heap.size (fun (_:List α) X=>Bk st pe X):=fun st pe s X Y row hs hgr hr =>
  ⟨(hgr.block _ (gE.1 hs.1).1 (fun e=>by have:=(hr _ e.symm).1;omega)).trans hs.1,(hgr.block _ (gE.1 hs.2).1 (fun e=>by have:=(hr _ e.symm).1;omega)).trans hs.2⟩
 have wide:∀{J:List α->World->Prop},OwnFrom w.heap.size J->OwnFrom V.heap.size J:=fun h s X Y row hs hgr hr=>h s X Y row hs hgr (fun r e=>⟨by have:=(hr r e).1;omega,(hr r e).2⟩)
 have turn:∀{X:World} {st pe} (st':LoopState) (pe':Option Code),Bk st pe X->Bk st' pe' (X.putObj (w.heap.size+1) (.loop (rc st' pe'))):=fun st' pe' h =>
  ⟨World.putObj_heap_same (gE.1 h.1).1,(World.putObj_heap_other (by omega)).trans h.2⟩
 refine ⟨w.heap.size+1,[{ target:=.collected w.heap.size,args:=#[] }],V,{ target:=.fn (.func gf) lb,args:=#[.func (.yield (w.heap.size+1)) #[] #[]] },V,gf,#[.func (.yield (w.heap.size+1)) #[] #[]]++lb,V,?_,?_,fun _ _=>trivial,?_,fun _=>h1,?_⟩
 ·rw [<-hV,<-hrc];exact run_enterLoop_outer _ _ _ _ _
 ·simp only [resolve,hg];simp [go_sem]
 ·simp [invoke,go_sem,eg]
 refine (hseq (w.heap.size+1) (fun pre X=>I pre X/\Bk .ready none X) (fun pre X=>Ix pre X/\Bk .done (some .ret) X) V (hb0.trans (bV.mono hb0.size))
  (OwnFrom.and (wide hI) (ownB _ _)) (OwnFrom.and (wide hIx) (ownB _ _)) ?_ ⟨iV,lV,dV⟩).mono ?_
 ·rintro pre x X ⟨iX,bX⟩ hlen;have hy:=run_yield (P:=pg) (args:=encs x) bX.1 (by rw [<-hrc];exact hps x);rw [<-hrc] at hy;refine ⟨fn,_,assign,body,hy,roundIn_of_wpIn trivial (hassign _ pre x X _ iX ?_)⟩;intro a' Y kY kpY iY axY;have bY:Bk .ready none Y:=⟨kY.at (by omega) bX.1,kY.at (Nat.le_refl _) bX.2⟩
  refine ⟨_,run_beginRound bY.1 (by rw [<-hrc]),?_⟩;rw [show (Obj.loop { rc .ready none with state:=.busy }) = .loop (rc .busy none) by rw [<-hrc]];have bZ:=turn .busy none bY;refine wpIn_mono (hbody _ pre x a' _ (by omega) (hI.putObj _ iY (by omega) bY.1 rfl) ((hAx x a').putObj (s:=()) _ axY (by omega) bY.1 rfl) hlen) ?_
  have fin:∀(j:Option Code) (U:World),Keep w.heap.size (Y.putObj (w.heap.size+1) (.loop (rc .busy none))) U->
   (Instr.endRound (w.heap.size+1) j).run pg U = .ok (.bool j.isNone) (U.putObj (w.heap.size+1) (.loop (rc (if j.isNone then .ready else .done) j)))/\Bk .busy none U:=fun j U kU=>by
   have bU:Bk .busy none U:=⟨kU.at (by omega) bZ.1,kU.at (Nat.le_refl _) bZ.2⟩
   refine ⟨?_,bU⟩;have:=run_endRound (P:=pg) j bU.1;rw [<-hrc] at this ⊢;exact this
  have kept:∀{U:World} (o:Obj),Keep w.heap.size (Y.putObj (w.heap.size+1) (.loop (rc .busy none))) U->Keep V.heap.size X (U.putObj (w.heap.size+1) o):=fun o kU =>
   ((kY.mono (by omega)).trans (Keep.put _ _ (by omega))).trans ((kU.mono (by omega)).trans (Keep.put _ _ (by omega)))
  rintro e a3 U hp
  cases e with
  |normal =>
   obtain ⟨kU,kpU,iU⟩:=hp;obtain ⟨hr,bU⟩:=fin none U kU;exact ⟨_,_,hr,kept _ kU,.inl ⟨rfl,⟨hI.putObj _ iU (by omega) bU.1 rfl,turn _ _ bU⟩,hKt kpY (hKt (hKt (hKb _ _ _ _ (by omega) bY.1 rfl rfl) kpU) (hKb _ _ _ _ (by omega) bU.1 rfl rfl))⟩⟩
  |ret =>
   obtain ⟨kU,iU⟩:=hp;obtain ⟨hr,bU⟩:=fin (some .ret) U kU;exact ⟨_,_,hr,kept _ kU,.inr ⟨rfl,hIx.putObj _ iU (by omega) bU.1 rfl,turn _ _ bU⟩⟩
  |exit id=>exact hp.elim
  |goto t=>exact hp.elim
  |panic ch=>exact hp.elim
  |outgrown=>exact hp.elim
 ·rintro e U ⟨⟨v,rfl⟩,(⟨xs,hS,iU,bU⟩|⟨pre,hS,iU,bU⟩)⟩
  ·refine ⟨none,_,?_,hdone _ xs _ (Nat.le_refl _) hS (hI.putObj (.loop (rc .exhausted none)) iU (by omega) bU.1 rfl) (turn .exhausted none bU).2⟩;have:=run_endLoop (P:=pg) bU.1 (by rw [<-hrc];simp);rw [<-hrc] at this ⊢;exact this
  ·refine ⟨some .ret,_,?_,hstop _ pre _ (Nat.le_refl _) hS (hIx.putObj (.loop (rc .exhausted (some .ret))) iU (by omega) bU.1 rfl) (turn .exhausted (some .ret) bU).2⟩;have:=run_endLoop (P:=pg) bU.1 (by rw [<-hrc];simp);rw [<-hrc] at this ⊢;exact this
attribute [local go_sem] Oper.semAt_some
theorem Wl.sides {w:World} {p:Nat} {W H:Int} {tl:List Nat} {f:Int->Int->Option Int} (h:Wl w p W H tl f):(1<=W/\W<=128)/\1<=H/\H<=128:=by
 have hm:=h.1.1;simp only [mt,gs,Bool.and_eq_true,decide_eq_true_eq] at hm;omega
abbrev clN (n:Int):Int:=(n+7)/8
theorem zJl {w:World} {p:Nat} {W H:Int} {tl:List Nat} {f:Int->Int->Option Int} (h:Wl w p W H tl f) :
 Calls pg 57 #[ptr p] w fun e w'=>e = .returned (rct 0 0 (clN W) (clN H))/\Below w.heap.size w w':=by
 obtain ⟨hW,hH⟩:=h.sides;show Calls pg 57 #[ptr p] w fun e w'=>e = .returned (rct 0 0 ((W+7)/8) ((H+7)/8))/\Below w.heap.size w w';have HX:=zAc (zVd (W+7) (zAx (by omega)));have HY:=zAc (zVd (H+7) (zAx (by omega)));obtain ⟨a,ha⟩:=ex ((W+7)/8);obtain ⟨b,hb⟩:∃a,(H+7)/8=a:=⟨_,rfl⟩
 rw [ha] at HX ⊢;rw [hb] at HY ⊢;clear ha hb;have B1:Below w.heap.size w (w.alloc (.cells #[O ii 0,O ii 0,O ii 0,O ii 0] 49)):=zAk _ _;obtain ⟨X,hX⟩:=ex (w.alloc (.cells #[O ii 0,O ii 0,O ii 0,O ii 0] 49));have F0:Four X w.heap.size 0 0 0 0:=by rw [<-hX];exact zA2 (Below.refl _ _)
 rw [hX] at B1;have HA:=zAc (zHr (h.kept B1));clear h;have HB:=zAc B1;clear B1;go_enter func57,ntmps57;go_wp2_with fail;clear hX;refine HA.out.mono ?_;rintro e w1 ⟨rfl,hb1⟩;have F1:=F0.kept hb1;have HB1:=zAc (bt HB.out hb1);clear F0 hb1 HA;obtain ⟨Y,hY⟩:=ex (w1.alloc (.cells #[O ii 0,O ii 0,O ii W,O ii H] 49));have B2:Below w1.heap.size w1 Y:=by rw [<-hY];exact zAk _ _
 have F2:=F1.kept B2;have G2:Four Y w1.heap.size 0 0 W H:=by rw [<-hY];exact zA2 (Below.refl _ _)
 have HB2:=zAc (bt HB1.out B2);have hne:¬w.heap.size=w1.heap.size:=by have:=HB1.out.size;have:=F1.2.2;omega
 clear B2 F1 HB1;go_wp2_with fail;clear hY;obtain ⟨⟨-,-,c2,c3⟩,-,-⟩:=G2;obtain ⟨⟨d0,d1,d2,d3⟩,⟨g0,g1,g2,g3⟩,z1⟩:=F2;have hne':¬w1.heap.size=w.heap.size:=fun e=>hne e.symm;have e1:IntKind.i64.wrap (W+7)=W+7:=by rw [IntKind.wrap_i64];omega
 have e2:IntKind.i64.wrap (H+7)=H+7:=by rw [IntKind.wrap_i64];omega
 clear hW hH
 go_region_held3 (fun w'=>w'.cell? ⟨w1.heap.size,2,none⟩=some (O ii W)/\w'.cell? ⟨w1.heap.size,3,none⟩=some (O ii H)) (go_keep)
  (first|(go_at_call_of 87 W;refine (HX.out _).mono ?_;rintro e w' ⟨rfl,rfl⟩)|(go_at_call_of 87 H;refine (HY.out _).mono ?_;rintro e w' ⟨rfl,rfl⟩))
 go_wp2_with fail;refine bodyPost_ret (v:=rct 0 0 a b) (by simp [results,Tryz.results57,go_sem, *]) rfl ⟨rfl,?_⟩;exact (zFw HB2.out (by simp)).drew
theorem zUw (p:Nat) (w:World):Calls pg 28 #[ptr p] w fun e w'=>e = .returned (.func (.func 55) #[] #[ptr w.heap.size])/\w'=w.alloc (.cells #[ptr p] 29):=by
 go_enter func28,ntmps28;go_wp2_with fail;go_ret;exact ⟨rfl,rfl⟩
attribute [local go_sem] Oper.semAt_some
theorem zJ5 {m m' l:Nat} {f:FuncId} {tmps:Array Value} {assign body:Code} {w:World} {R:Ending->World->Prop} (l':Nat) (h:RoundIn Fence.wide m pg l f tmps assign body w R) :
 RoundIn (Fence.wide.inRound l') m' pg l f tmps assign body w R:=⟨h.1,fun c cs _=>h.2 c cs (fun d hd=>by cases hd)⟩
theorem zBq {β:Type} {B:Nat} {J:β->World->Prop} (hJ:OwnFrom B J) {s:β} {W W':World} (hs:J s W) (h:Below W.heap.size W W'):J s W':=hJ s W W' none hs (zDk h) (fun r e=>by cases e)
theorem zE2 {β:Type} {B C:Nat} {J:β->World->Prop} (h:OwnFrom B J) (hB:B<=C):OwnFrom C J:=fun s X Y row hs hgr hr=>h s X Y row hs hgr (fun r e=>⟨by have:=(hr r e).1;omega,(hr r e).2⟩)
theorem zF1 {β:Type} (B N:Nat):OwnFrom B (fun (_:β) W=>N<=W.heap.size):=fun _ _ _ _ hs hg _=>Nat.le_trans hs hg.size
abbrev zWe (W H:Int):List Cel:=zEe 0 0 (clN W) (clN H)
theorem zUv (n p h:Nat) (W H:Int) (tl:List Nat) (f:Int->Int->Option Int) (w:World) (hn:1<=n) (hP:Boxed w h 29 (ptr p)) (hw:Wl w p W H tl f) :
 zSc n 55 #[ptr h] qAa (fun _ _=>True) (fun xs=>xs=zWe W H) (fun pre=>pre <+: zWe W H) 256 w:=fun l J Jx V hV hJ hJx hY h0=>by
 refine callsIn_of_wp_marks func55 rfl trivial ?_ rfl;simp only [ntmps55,List.size_toArray,List.length_cons,List.length_nil,Nat.reduceAdd,Nat.reduceSub,Array.replicate_succ,Array.replicate_zero,List.push_toArray,List.append_toArray,List.nil_append,List.cons_append];have hs:=hw.sides
 have hN:may 0 0 (clN W) (clN H)=true->(clN H).toNat*(clN W).toNat<=256:=fun _=>by
  have:=Nat.mul_le_mul (show (clN H).toNat<=16 by unfold clN;omega) (show (clN W).toNat<=16 by unfold clN;omega);omega
 unfold zWe;obtain ⟨V0,hV0⟩:=ex (V.alloc (.cells #[.func (.yield l) #[] #[]] 70));have B0:Below V.heap.size V V0:=by rw [<-hV0];exact zAk _ _
 have Y0:Boxed V0 V.heap.size 70 (.func (.yield l) #[] #[]):=by rw [<-hV0];exact Boxed.new V 70 _
 have z0:V0.heap.size=V.heap.size+1:=by rw [<-hV0];simp
 have hW0:Below w.heap.size w V0:=bt hV B0;have P0:=zAn hP hW0 hP.lt;have c0:=P0.cell;have HC:=zAc (zJl (hw.kept hW0));generalize clN W=a at HC hN ⊢;generalize clN H=b at HC hN ⊢;clear hs hw P0;gi_wp2_with fail;refine ⟨trivial,?_⟩;refine (callsIn_wide.2 HC.out).mono ?_;rintro e w1 ⟨rfl,hb1⟩;clear hV0 HC c0;gi_wp2_with fail;refine ⟨trivial,?_⟩;refine (callsIn_wide.2 (zDu _ _ _ _ _)).mono ?_;rintro e w2 ⟨rfl,rfl⟩;have F1:Four (w1.alloc (.cells #[O ii 0,O ii 0,O ii a,O ii b] 49)) w1.heap.size 0 0 a b:=zA2 (Below.refl _ _);have B1:=bt hb1 (zAk w1 (.cells #[O ii 0,O ii 0,O ii a,O ii b] 49));have z1:(w1.alloc (.cells #[O ii 0,O ii 0,O ii a,O ii b] 49)).heap.size=w1.heap.size+1:=by simp
 have hs1:=hb1.size;clear hb1;gi_wp2_with fail;obtain ⟨X0,hX0⟩:∃V,w1.alloc (.cells #[O ii 0,O ii 0,O ii a,O ii b] 49)=V:=⟨_,rfl⟩
 rw [hX0] at F1 B1 z1 ⊢;clear hX0;have Y1:Boxed X0 V.heap.size 70 (.func (.yield l) #[] #[]):=zAn Y0 B1 (by omega);have j1:J [] X0:=zBq hJ h0 (bt B0 B1)
 refine wpIn_rangeFunc_ownH rfl hn (gf:=86) (lb:=#[ptr w1.heap.size]) rfl trivial (enters_of func86 (by kernel_rfl) rfl)
  (zCs (n-1) w1.heap.size 256 0 0 a b X0 F1 hN) zZ8 (zZ9 (by omega)) (Below.refl _ _) (fun _=>rfl)
  (fun pre X=>(J pre X/\X0.heap.size<=X.heap.size)/\Boxed X V.heap.size 70 (.func (.yield l) #[] #[]))
  (fun c pre X=>c = .ret/\Jx pre X)
  (OwnFrom.and (OwnFrom.and (zE2 hJ (by omega)) (zF1 _ _)) (Own.from (boxed_own _ _ _) _))
  (fun c=>OwnFrom.and (ownFrom_pure _ _) (zE2 hJx (by omega)))
  ⟨⟨j1,Nat.le_refl _⟩,Y1⟩
  (fun q a' X=>∃Bx,X0.heap.size<=Bx/\Two X Bx q.1.1 q.1.2/\a'={ tmps:=#[.func (.yield l) #[] #[],ptr h,ptr V.heap.size,ptr Bx,ptr p,rct 0 0 a b,.func (.func 86) #[] #[ptr w1.heap.size],cel q.1.1 q.1.2,undef,undef,undef,undef],defers:=[] })
  (fun q a' _ X Y row hs hg hr=>by obtain ⟨Bx,e1,e2,e3⟩:=hs;exact ⟨Bx,e1,e2.own hg (fun r e=>(hr r e).2),e3⟩)
  ?assign ?body ?done ?stop
 case assign =>
  rintro l' pre q X K ⟨⟨hJX,hzX⟩,bY⟩ hK;gi_wp2
  exact hK _ _ ((KeepsOthers.alloc _ _).from _) (Below.heap_alloc _ _ _ (by omega)) ⟨⟨zBq hJ hJX (zAk _ _),by simp;omega⟩,bY.alloc _⟩ ⟨X.heap.size,by omega,Two.newAt rfl,rfl⟩
 case body =>
  rintro l' pre q a' X hl' ⟨r,hr⟩ ⟨⟨hJX,hzX⟩,bY⟩ ⟨Bx,hBx,bX,rfl⟩ hlt;have cY:=bY.cell;obtain ⟨⟨d0,d1⟩,-,-⟩:=id bX;obtain ⟨fn,tmps,asg,bd,hy,hR⟩:=hY pre q X hJX hlt;have HJ:=zAc hJX;clear hJX;dsimp only [qAa] at hy;gi_wp2_with fail;refine ⟨fun h=>(by cases h),?_⟩;refine (zJ5 _ hR).mono ?_;rintro e Y ⟨hk,(⟨rfl,hJ3,hk3⟩|⟨rfl,hJx3⟩)⟩
  ·have HJ3:=zAc hJ3;clear hJ3 hR hy;gi_wp2_with fail;exact ⟨(hk.mono (by omega)).from,hk.2 _ (by omega) (by omega),⟨HJ3.out,Nat.le_trans hzX hk.1⟩,hk.at (Nat.le_refl _) bY⟩
  ·have HJ3:=zAc hJx3;clear hJx3 hR hy;gi_wp2_with fail;exact ⟨(hk.mono (by omega)).from,rfl,HJ3.out⟩
 case done =>
  rintro D xs X hD rfl ⟨⟨hJX,hzX⟩,bY⟩ hK;have HE:=zAc (hJ _ _ _ (some D) hJX (grownBy_putObj' X D (.deferred none)) (fun r e=>by cases e;exact ⟨by omega,_,hK,rfl⟩));clear hJX;gi_wp2_with fail;refine ⟨by simp,.inl ⟨_,_,rfl,run_takeDeferred hK,?_⟩⟩;exact ⟨.tuple #[],by simp [results,Tryz.f55,go_sem],⟨_,rfl⟩,.inl ⟨_,rfl,HE.out⟩⟩
 case stop =>
  rintro D c pre X hD hpre ⟨rfl,hJX⟩ hK;have HE:=zAc (hJx _ _ _ (some D) hJX (grownBy_putObj' X D (.deferred none)) (fun r e=>by cases e;exact ⟨by omega,_,hK,rfl⟩));clear hJX;gi_wp2
  refine ⟨by simp,.inl ⟨_,_,rfl,run_takeDeferred hK,?_⟩⟩;exact ⟨.tuple #[],by simp [results,Tryz.f55,go_sem],⟨_,rfl⟩,.inr ⟨_,hpre,HE.out⟩⟩
def qDu:Obj->Bool
 |.cells _ t _=>t==122
 |_=>false
def zZ4 (B:Nat) (W W':World):Prop:=W.heap.size<=W'.heap.size/\∀k o,B<=k->W.heap[k]? = some o->qDu o=false->W'.heap[k]? = some o
def qDh {α:Type} (n:Nat) (g:Nat) (lb:Array Value) (encs:α->Array Value) (Kp:World->World->Prop) (S Sp:List α->Prop) (N:Nat) (w:World):Prop:=
 ∀(l:Nat) (J Jx:List α->World->Prop) (W:World),Below w.heap.size w W->OwnFrom W.heap.size J->OwnFrom W.heap.size Jx->
  (∀pre x X,J pre X->pre.length<N->YieldAt Fence.wide (n-1) pg l (encs x) X fun e Y =>
   zZ4 W.heap.size X Y/\((e = .returned (.bool true)/\J (pre++[x]) Y/\Kp X Y)\/(e = .returned (.bool false)/\Jx (pre++[x]) Y)))->
  J [] W->
  CallsIn Fence.wide n pg g (#[.func (.yield l) #[] #[]]++lb) W fun e Y=>(∃v,e = .returned v)/\((∃xs,S xs/\J xs Y)\/(∃pre,Sp pre/\Jx pre Y))
def qA8 {α:Type} (B:Nat) (Kp:World->World->Prop) (I Ix:List α->World->Prop) (xs:List α) (X:World):Exit->Act->World->Prop
 |.normal,_,Y=>zZ4 B X Y/\Kp X Y/\I xs Y
 |.ret,_,Y=>zZ4 B X Y/\Ix xs Y
 |_,_,_=>False
attribute [local go_sem] Oper.semAt_some
section
attribute [local go_sem] Oper.semAt_some
section
variable {ty:TypeId}
def ofT (ty:TypeId):Obj->Bool
 |.cells _ t _=>t==ty
 |_=>false
def KeepT (ty:TypeId) (B:Nat) (W W':World):Prop:=W.heap.size<=W'.heap.size/\∀k o,B<=k->W.heap[k]? = some o->ofT ty o=false->W'.heap[k]? = some o
theorem KeepT.trans {B:Nat} {X Y Z:World} (h:KeepT ty B X Y) (k:KeepT ty B Y Z):KeepT ty B X Z:=⟨Nat.le_trans h.1 k.1,fun i o hi ho hn=>k.2 i o hi (h.2 i o hi ho hn) hn⟩
theorem KeepT.mono {B C:Nat} {X Y:World} (h:KeepT ty B X Y) (hB:B<=C):KeepT ty C X Y:=⟨h.1,fun i o hi=>h.2 i o (Nat.le_trans hB hi)⟩
theorem KeepT.at {B:Nat} {X Y:World} (h:KeepT ty B X Y) {k:Nat} {o:Obj} (hB:B<=k) (hk:X.heap[k]? = some o) (hn:ofT ty o=false):Y.heap[k]? = some o:=h.2 k o hB hk hn
theorem KeepT.from {B:Nat} {X Y:World} (h:KeepT ty B X Y):KeepsFrom B X Y:=⟨h.1,fun k o hB hk hc=>h.at hB hk (by cases o<;>first|rfl|(simp [Obj.isCells] at hc))⟩
theorem KeepT.of_below {B:Nat} {X Y:World} (h:Below X.heap.size X Y):KeepT ty B X Y:=⟨h.size,fun k o _ hk _=>(h.block k (gE.1 hk).1).trans hk⟩
theorem KeepT.put {B:Nat} (X:World) {l:Nat} (o:Obj) (hl:l<B):KeepT ty B X (X.putObj l o):=⟨by simp,fun k o' hB hk _=>(World.putObj_heap_other (by omega)).trans hk⟩
def zHs (ty:TypeId) {α:Type} (n:Nat) (g:Nat) (lb:Array Value) (encs:α->Array Value) (Kp:World->World->Prop) (S Sp:List α->Prop) (N:Nat) (w:World):Prop:=
 ∀(l:Nat) (J Jx:List α->World->Prop) (W:World),Below w.heap.size w W->OwnFrom W.heap.size J->OwnFrom W.heap.size Jx->
  (∀pre x X,J pre X->pre.length<N->YieldAt Fence.wide (n-1) pg l (encs x) X fun e Y =>
   KeepT ty W.heap.size X Y/\((e = .returned (.bool true)/\J (pre++[x]) Y/\Kp X Y)\/(e = .returned (.bool false)/\Jx (pre++[x]) Y)))->
  J [] W->
  CallsIn Fence.wide n pg g (#[.func (.yield l) #[] #[]]++lb) W fun e Y=>(∃v,e = .returned v)/\((∃xs,S xs/\J xs Y)\/(∃pre,Sp pre/\Jx pre Y))
def zQk (ty:TypeId) {α:Type} (B:Nat) (Kp:World->World->Prop) (I Ix:List α->World->Prop) (xs:List α) (X:World):Exit->Act->World->Prop
 |.normal,_,Y=>KeepT ty B X Y/\Kp X Y/\I xs Y
 |.ret,_,Y=>KeepT ty B X Y/\Ix xs Y
 |_,_,_=>False
theorem zHa {α:Type} {n:Nat} {g:Operand} {ps:Array Tmp} {assign body:Code} {Q:Exit->Act->World->Prop} {a:Act} {w w0:World} (h1:1<=n) {gf:Nat} {lb:Array Value}
 (hg:a.eval g = .func (.func gf) #[] lb) (eg:∀args w,(callFunc gf args).run pg w = .ok (.enter gf args) w)
 {encs:α->Array Value} {Kp:World->World->Prop} {S Sp:List α->Prop} {N:Nat} (hseq:zHs ty (n-1) gf lb encs Kp S Sp N w0)
 (hKt:∀{A B C:World},Kp A B->Kp B C->Kp A C) (hKb:∀(W:World) (l:Nat) (o o':Obj),w.heap.size<=l->W.heap[l]? = some o->o.isCells=false->o.isWalk=false->Kp W (W.putObj l o'))
 (hb0:Below w0.heap.size w0 w) (hps:∀x,(encs x).size=ps.size)
 (I Ix:List α->World->Prop) (hI:OwnFrom w.heap.size I) (hIx:OwnFrom w.heap.size Ix) (h0:I [] w) (Ax:α->Act->World->Prop) (hAx:∀x a',OwnFrom w.heap.size (fun (_:Unit) W=>Ax x a' W))
 (hassign:∀(l:Nat) (pre:List α) (x:α) (W:World) (K:Act->World->Prop),I pre W->(∀a' W',KeepT ty w.heap.size W W'->Kp W W'->I pre W'->Ax x a' W'->K a' W')->
  assign.wpIn (Fence.wide.inRound l) (n-1-1) pg (Exit.then K (fun _ _ _=>False)) { tmps:=(ps.zip (encs x)).foldl (fun t (p,v)=>t.setIfInBounds p v) a.tmps,defers:=[] } W)
 (hbody:∀(l:Nat) (pre:List α) (x:α) (a':Act) (W:World),w.heap.size<=l->I pre W->Ax x a' W->pre.length<N->body.wpIn (Fence.wide.inRound l) (n-1-1) pg (zQk ty w.heap.size Kp I Ix (pre++[x]) W) a' W)
 (hdone:∀(D:Nat) (xs:List α) (W:World),w.heap.size<=D->S xs->I xs W->W.heap[D]? = some (.deferred (some []))->Q .normal { a with defers:={ target:=.collected D,args:=#[] } :: a.defers } W)
 (hstop:∀(D:Nat) (pre:List α) (W:World),w.heap.size<=D->Sp pre->Ix pre W->W.heap[D]? = some (.deferred (some []))->Code.ret.wpIn Fence.wide n pg Q { a with defers:={ target:=.collected D,args:=#[] } :: a.defers } W) :
 (Code.rangeFunc g ps assign body).wpIn Fence.wide n pg Q a w:=by
 refine wpIn_rangeFunc (fun fn hfn=>?_);generalize hrc:(fun st pe=>({ state:=st,pending:=pe,fn:=fn,tmps:=a.tmps,params:=ps,assign:=assign,body:=body,defers:=w.heap.size }:Loop))=rc;generalize hV:(w.alloc (.deferred (some []))).alloc (.loop (rc .ready none))=V;have zV:V.heap.size=w.heap.size+1+1:=by rw [<-hV];simp
 have bV:Below w.heap.size w V:=by rw [<-hV];exact zA5 _ _ _
 have lV:V.heap[w.heap.size+1]? = some (.loop (rc .ready none)):=by rw [<-hV];have:=World.alloc_heap_new (w.alloc (.deferred (some []))) (.loop (rc .ready none));rwa [World.size_alloc] at this
 have dV:V.heap[w.heap.size]? = some (.deferred (some [])):=by rw [<-hV];exact (Below.heap_alloc _ _ _ (by simp)).trans (World.alloc_heap_new w _)
 have iV:I [] V:=hI _ _ _ none h0 (zDk bV) (fun r e=>by cases e)
 let Bk:LoopState->Option Code->World->Prop:=fun st pe X=>X.heap[w.heap.size+1]? = some (.loop (rc st pe))/\X.heap[w.heap.size]? = some (.deferred (some []))
 have ownB:∀st pe,OwnFrom V.heap.size (fun (_:List α) X=>Bk st pe X):=fun st pe s X Y row hs hgr hr =>
  ⟨(hgr.block _ (gE.1 hs.1).1 (fun e=>by have:=(hr _ e.symm).1;omega)).trans hs.1,(hgr.block _ (gE.1 hs.2).1 (fun e=>by have:=(hr _ e.symm).1;omega)).trans hs.2⟩
 have wide:∀{J:List α->World->Prop},OwnFrom w.heap.size J->OwnFrom V.heap.size J:=fun h s X Y row hs hgr hr=>h s X Y row hs hgr (fun r e=>⟨by have:=(hr r e).1;omega,(hr r e).2⟩)
 have turn:∀{X:World} {st pe} (st':LoopState) (pe':Option Code),Bk st pe X->Bk st' pe' (X.putObj (w.heap.size+1) (.loop (rc st' pe'))):=fun st' pe' h =>
  ⟨World.putObj_heap_same (gE.1 h.1).1,(World.putObj_heap_other (by omega)).trans h.2⟩
 refine ⟨w.heap.size+1,[{ target:=.collected w.heap.size,args:=#[] }],V,{ target:=.fn (.func gf) lb,args:=#[.func (.yield (w.heap.size+1)) #[] #[]] },V,gf,#[.func (.yield (w.heap.size+1)) #[] #[]]++lb,V,?_,?_,fun _ _=>trivial,?_,fun _=>h1,?_⟩
 ·rw [<-hV,<-hrc];exact run_enterLoop_outer _ _ _ _ _
 ·simp only [resolve,hg];simp [go_sem]
 ·simp [invoke,go_sem,eg]
 refine (hseq (w.heap.size+1) (fun pre X=>I pre X/\Bk .ready none X) (fun pre X=>Ix pre X/\Bk .done (some .ret) X) V (hb0.trans (bV.mono hb0.size))
  (OwnFrom.and (wide hI) (ownB _ _)) (OwnFrom.and (wide hIx) (ownB _ _)) ?_ ⟨iV,lV,dV⟩).mono ?_
 ·rintro pre x X ⟨iX,bX⟩ hlen;have hy:=run_yield (P:=pg) (args:=encs x) bX.1 (by rw [<-hrc];exact hps x);rw [<-hrc] at hy;refine ⟨fn,_,assign,body,hy,roundIn_of_wpIn trivial (hassign _ pre x X _ iX ?_)⟩;intro a' Y kY kpY iY axY;have bY:Bk .ready none Y:=⟨kY.at (by omega) bX.1 rfl,kY.at (Nat.le_refl _) bX.2 rfl⟩
  refine ⟨_,run_beginRound bY.1 (by rw [<-hrc]),?_⟩;rw [show (Obj.loop { rc .ready none with state:=.busy }) = .loop (rc .busy none) by rw [<-hrc]];have bZ:=turn .busy none bY;refine wpIn_mono (hbody _ pre x a' _ (by omega) (hI.putObj _ iY (by omega) bY.1 rfl) ((hAx x a').putObj (s:=()) _ axY (by omega) bY.1 rfl) hlen) ?_
  have fin:∀(j:Option Code) (U:World),KeepT ty w.heap.size (Y.putObj (w.heap.size+1) (.loop (rc .busy none))) U->
   (Instr.endRound (w.heap.size+1) j).run pg U = .ok (.bool j.isNone) (U.putObj (w.heap.size+1) (.loop (rc (if j.isNone then .ready else .done) j)))/\Bk .busy none U:=fun j U kU=>by
   have bU:Bk .busy none U:=⟨kU.at (by omega) bZ.1 rfl,kU.at (Nat.le_refl _) bZ.2 rfl⟩
   refine ⟨?_,bU⟩;have:=run_endRound (P:=pg) j bU.1;rw [<-hrc] at this ⊢;exact this
  have kept:∀{U:World} (o:Obj),KeepT ty w.heap.size (Y.putObj (w.heap.size+1) (.loop (rc .busy none))) U->KeepT ty V.heap.size X (U.putObj (w.heap.size+1) o):=fun o kU =>
   ((kY.mono (by omega)).trans (KeepT.put _ _ (by omega))).trans ((kU.mono (by omega)).trans (KeepT.put _ _ (by omega)))
  rintro e a3 U hp
  cases e with
  |normal =>
   obtain ⟨kU,kpU,iU⟩:=hp;obtain ⟨hr,bU⟩:=fin none U kU;exact ⟨_,_,hr,kept _ kU,.inl ⟨rfl,⟨hI.putObj _ iU (by omega) bU.1 rfl,turn _ _ bU⟩,hKt kpY (hKt (hKt (hKb _ _ _ _ (by omega) bY.1 rfl rfl) kpU) (hKb _ _ _ _ (by omega) bU.1 rfl rfl))⟩⟩
  |ret =>
   obtain ⟨kU,iU⟩:=hp;obtain ⟨hr,bU⟩:=fin (some .ret) U kU;exact ⟨_,_,hr,kept _ kU,.inr ⟨rfl,hIx.putObj _ iU (by omega) bU.1 rfl,turn _ _ bU⟩⟩
  |exit id=>exact hp.elim
  |goto t=>exact hp.elim
  |panic ch=>exact hp.elim
  |outgrown=>exact hp.elim
 ·rintro e U ⟨⟨v,rfl⟩,(⟨xs,hS,iU,bU⟩|⟨pre,hS,iU,bU⟩)⟩
  ·refine ⟨none,_,?_,hdone _ xs _ (Nat.le_refl _) hS (hI.putObj (.loop (rc .exhausted none)) iU (by omega) bU.1 rfl) (turn .exhausted none bU).2⟩;have:=run_endLoop (P:=pg) bU.1 (by rw [<-hrc];simp);rw [<-hrc] at this ⊢;exact this
  ·refine ⟨some .ret,_,?_,hstop _ pre _ (Nat.le_refl _) hS (hIx.putObj (.loop (rc .exhausted (some .ret))) iU (by omega) bU.1 rfl) (turn .exhausted (some .ret) bU).2⟩;have:=run_endLoop (P:=pg) bU.1 (by rw [<-hrc];simp);rw [<-hrc] at this ⊢;exact this
attribute [local go_sem] Oper.semAt_some
end
end
end Go.Proofs.YthiafmlgialbnaaGreatDoor
