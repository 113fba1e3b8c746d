import Derived.Test.YtejjcenhjpjefaaGreatDoorClus
import Derived.Test.YtejjcenhjpjefaaGreatDoorMapS
import Derived.Test.YtejjcenhjpjefaaGreatDoorCmp
import Derived.Test.YtejjcenhjpjefaaGreatDoorHeldIn
import Derived.Sort.MapsRangeIn
set_option linter.all false
set_option maxRecDepth 1000000
set_option maxHeartbeats 64000000
open Go.Proofs.Tryz
open Go.Proofs.Tryz renaming prog->pg
open Array renaming getElem?_eq_some_iff->gE
open And renaming intro->ai
open Go.Value renaming int->O
open Go.IntKind renaming i64->ii
namespace Go.Proofs.YtejjcenhjpjefaaGreatDoor
open Go.RowKit Go.Shelf
attribute [local go_sem] Oper.semAt_some
theorem zI1 {m m' l:Nat} {f:FuncId} {tmps:Array Value} {assign body:Code} {w:World} {R:Ending->World->Prop} (l':Nat) (h:RoundIn Fence.wide m pg l f tmps assign body w R) :
 RoundIn (Fence.wide.inRound l') m' pg l f tmps assign body w R:=⟨h.1,fun c cs _=>h.2 c cs (fun d hd=>by cases hd)⟩
theorem zCj {β:Type} {B:Nat} {J:β->World->Prop} (hJ:OwnFrom B J) {s:β} {W W':World} (hs:J s W) (h:Below W.heap.size W W'):J s W':=hJ s W W' none hs (zDe h) (fun r e=>by cases e)
theorem zEh {β:Type} {B C:Nat} {J:β->World->Prop} (h:OwnFrom B J) (hB:B<=C):OwnFrom C J:=fun s X Y row hs hgr hr=>h s X Y row hs hgr (fun r e=>⟨by have:=(hr r e).1;omega,(hr r e).2⟩)
theorem zFb {β:Type} (B N:Nat):OwnFrom B (fun (_:β) W=>N<=W.heap.size):=fun _ _ _ _ hs hg _=>Nat.le_trans hs hg.size
abbrev zS9 (W H:Int):List Cel:=zFg 0 0 (clN W) (clN H)
theorem zR3 (n p h:Nat) (W H:Int) (tl:List Nat) (f:Int->Int->Option Int) (w:World) (hn:1<=n) (hP:Boxed w h 27 (ptr p)) (hw:Wl w p W H tl f) :
 zTb n 76 #[ptr h] zZf (fun _ _=>True) (fun xs=>xs=zS9 W H) (fun pre=>pre <+: zS9 W H) 256 w:=fun l J Jx V hV hJ hJx hY h0=>by
 refine callsIn_of_wp_marks func76 rfl trivial ?_ rfl;simp only [ntmps76,List.size_toArray,List.length_cons,List.length_nil,Nat.reduceAdd,Nat.reduceSub,Array.replicate_succ,Array.replicate_zero,List.push_toArray,List.append_toArray,List.nil_append,List.cons_append];have hs:=hw.sides
 have hN:may 0 0 (clN W) (clN H)=true->(clN H).toNat*(clN W).toNat<=256:=fun _=>by
  have:=Nat.mul_le_mul (show (clN H).toNat<=16 by unfold clN;omega) (show (clN W).toNat<=16 by unfold clN;omega);omega
 unfold zS9;obtain ⟨V0,hV0⟩:=ex (V.alloc (.cells #[.func (.yield l) #[] #[]] 119));have B0:Below V.heap.size V V0:=by rw [<-hV0];exact zAh _ _
 have Y0:Boxed V0 V.heap.size 119 (.func (.yield l) #[] #[]):=by rw [<-hV0];exact Boxed.new V 119 _
 have z0:V0.heap.size=V.heap.size+1:=by rw [<-hV0];simp
 have hW0:Below w.heap.size w V0:=bt hV B0;have P0:=zAi hP hW0 hP.lt;have c0:=P0.cell;have HC:=zAb (zIj (hw.kept hW0));generalize clN W=a at HC hN ⊢;generalize clN H=b at HC hN ⊢;clear hs hw P0;gi_wp2_with fail;refine ⟨trivial,?_⟩;refine (callsIn_wide.2 HC.out).mono ?_;rintro e w1 ⟨rfl,hb1⟩;clear hV0 HC c0;gi_wp2_with fail;refine ⟨trivial,?_⟩;refine (callsIn_wide.2 (zDq _ _ _ _ _)).mono ?_;rintro e w2 ⟨rfl,rfl⟩;have F1:Four (w1.alloc (.cells #[O ii 0,O ii 0,O ii a,O ii b] 65)) w1.heap.size 0 0 a b:=zBo (Below.refl _ _);have B1:=bt hb1 (zAh w1 (.cells #[O ii 0,O ii 0,O ii a,O ii b] 65));have z1:(w1.alloc (.cells #[O ii 0,O ii 0,O ii a,O ii b] 65)).heap.size=w1.heap.size+1:=by simp
 have hs1:=hb1.size;clear hb1;gi_wp2_with fail;obtain ⟨X0,hX0⟩:∃V,w1.alloc (.cells #[O ii 0,O ii 0,O ii a,O ii b] 65)=V:=⟨_,rfl⟩
 rw [hX0] at F1 B1 z1 ⊢;clear hX0;have Y1:Boxed X0 V.heap.size 119 (.func (.yield l) #[] #[]):=zAi Y0 B1 (by omega);have j1:J [] X0:=zCj hJ h0 (bt B0 B1)
 refine wpIn_rangeFunc_ownH rfl hn (gf:=54) (lb:=#[ptr w1.heap.size]) rfl trivial (enters_of func54 (by kernel_rfl) rfl)
  (zCm (n-1) w1.heap.size 256 0 0 a b X0 F1 hN) zWl (zWm (by omega)) (Below.refl _ _) (fun _=>rfl)
  (fun pre X=>(J pre X/\X0.heap.size<=X.heap.size)/\Boxed X V.heap.size 119 (.func (.yield l) #[] #[]))
  (fun c pre X=>c = .ret/\Jx pre X)
  (OwnFrom.and (OwnFrom.and (zEh hJ (by omega)) (zFb _ _)) (Own.from (boxed_own _ _ _) _))
  (fun c=>OwnFrom.and (ownFrom_pure _ _) (zEh hJx (by omega)))
  ⟨⟨j1,Nat.le_refl _⟩,Y1⟩
  (fun q a' X=>∃Bx,X0.heap.size<=Bx/\Two X Bx q.1.1 q.1.2/\a'={ tmps:=#[.func (.yield l) #[] #[],ptr h,ptr V.heap.size,ptr Bx,ptr p,rct 0 0 a b,.func (.func 54) #[] #[ptr w1.heap.size],cel q.1.1 q.1.2,undef,undef,undef,undef],defers:=[] })
  (fun q a' _ X Y row hs hg hr=>by obtain ⟨Bx,e1,e2,e3⟩:=hs;exact ⟨Bx,e1,e2.own hg (fun r e=>(hr r e).2),e3⟩)
  ?assign ?body ?done ?stop
 case assign =>
  rintro l' pre q X K ⟨⟨hJX,hzX⟩,bY⟩ hK;gi_wp2
  exact hK _ _ ((KeepsOthers.alloc _ _).from _) (Below.heap_alloc _ _ _ (by omega)) ⟨⟨zCj hJ hJX (zAh _ _),by simp;omega⟩,bY.alloc _⟩ ⟨X.heap.size,by omega,Two.newAt rfl,rfl⟩
 case body =>
  rintro l' pre q a' X hl' ⟨r,hr⟩ ⟨⟨hJX,hzX⟩,bY⟩ ⟨Bx,hBx,bX,rfl⟩ hlt;have cY:=bY.cell;obtain ⟨⟨d0,d1⟩,-,-⟩:=id bX;obtain ⟨fn,tmps,asg,bd,hy,hR⟩:=hY pre q X hJX hlt;have HJ:=zAb hJX;clear hJX;dsimp only [zZf] at hy;gi_wp2_with fail;refine ⟨fun h=>(by cases h),?_⟩;refine (zI1 _ hR).mono ?_;rintro e Y ⟨hk,(⟨rfl,hJ3,hk3⟩|⟨rfl,hJx3⟩)⟩
  ·have HJ3:=zAb hJ3;clear hJ3 hR hy;gi_wp2_with fail;exact ⟨(hk.mono (by omega)).from,hk.2 _ (by omega) (by omega),⟨HJ3.out,Nat.le_trans hzX hk.1⟩,hk.at (Nat.le_refl _) bY⟩
  ·have HJ3:=zAb hJx3;clear hJx3 hR hy;gi_wp2_with fail;exact ⟨(hk.mono (by omega)).from,rfl,HJ3.out⟩
 case done =>
  rintro D xs X hD rfl ⟨⟨hJX,hzX⟩,bY⟩ hK;have HE:=zAb (hJ _ _ _ (some D) hJX (grownBy_putObj' X D (.deferred none)) (fun r e=>by cases e;exact ⟨by omega,_,hK,rfl⟩));clear hJX;gi_wp2_with fail;refine ⟨by simp,.inl ⟨_,_,rfl,run_takeDeferred hK,?_⟩⟩;exact ⟨.tuple #[],by simp [results,Tryz.f76,go_sem],⟨_,rfl⟩,.inl ⟨_,rfl,HE.out⟩⟩
 case stop =>
  rintro D c pre X hD hpre ⟨rfl,hJX⟩ hK;have HE:=zAb (hJx _ _ _ (some D) hJX (grownBy_putObj' X D (.deferred none)) (fun r e=>by cases e;exact ⟨by omega,_,hK,rfl⟩));clear hJX;gi_wp2
  refine ⟨by simp,.inl ⟨_,_,rfl,run_takeDeferred hK,?_⟩⟩;exact ⟨.tuple #[],by simp [results,Tryz.f76,go_sem],⟨_,rfl⟩,.inr ⟨_,hpre,HE.out⟩⟩
def qBo:Obj->Bool
 |.cells _ t _=>t==178
 |_=>false
def zWi (B:Nat) (W W':World):Prop:=W.heap.size<=W'.heap.size/\∀k o,B<=k->W.heap[k]? = some o->qBo o=false->W'.heap[k]? = some o
def qA1 {α:Type} (n:Nat) (g:Nat) (lb:Array Value) (encs:α->Array Value) (Kp:World->World->Prop) (S Sp:List α->Prop) (N:Nat) (w:World):Prop:=
 ∀(l:Nat) (J Jx:List α->World->Prop) (W:World),Below w.heap.size w W->OwnFrom W.heap.size J->OwnFrom W.heap.size Jx->
  (∀pre x X,J pre X->pre.length<N->YieldAt Fence.wide (n-1) pg l (encs x) X fun e Y =>
   zWi W.heap.size X Y/\((e = .returned (.bool true)/\J (pre++[x]) Y/\Kp X Y)\/(e = .returned (.bool false)/\Jx (pre++[x]) Y)))->
  J [] W->
  CallsIn Fence.wide n pg g (#[.func (.yield l) #[] #[]]++lb) W fun e Y=>(∃v,e = .returned v)/\((∃xs,S xs/\J xs Y)\/(∃pre,Sp pre/\Jx pre Y))
def zXv {α:Type} (B:Nat) (Kp:World->World->Prop) (I Ix:List α->World->Prop) (xs:List α) (X:World):Exit->Act->World->Prop
 |.normal,_,Y=>zWi B X Y/\Kp X Y/\I xs Y
 |.ret,_,Y=>zWi B X Y/\Ix xs Y
 |_,_,_=>False
attribute [local go_sem] Oper.semAt_some
section
attribute [local go_sem] Oper.semAt_some
section
variable {ty:TypeId}
def ofT (ty:TypeId):Obj->Bool
 |.cells _ t _=>t==ty
 |_=>false
def KeepT (ty:TypeId) (B:Nat) (W W':World):Prop:=W.heap.size<=W'.heap.size/\∀k o,B<=k->W.heap[k]? = some o->ofT ty o=false->W'.heap[k]? = some o
theorem KeepT.trans {B:Nat} {X Y Z:World} (h:KeepT ty B X Y) (k:KeepT ty B Y Z):KeepT ty B X Z:=⟨Nat.le_trans h.1 k.1,fun i o hi ho hn=>k.2 i o hi (h.2 i o hi ho hn) hn⟩
theorem KeepT.mono {B C:Nat} {X Y:World} (h:KeepT ty B X Y) (hB:B<=C):KeepT ty C X Y:=⟨h.1,fun i o hi=>h.2 i o (Nat.le_trans hB hi)⟩
theorem KeepT.at {B:Nat} {X Y:World} (h:KeepT ty B X Y) {k:Nat} {o:Obj} (hB:B<=k) (hk:X.heap[k]? = some o) (hn:ofT ty o=false):Y.heap[k]? = some o:=h.2 k o hB hk hn
theorem KeepT.from {B:Nat} {X Y:World} (h:KeepT ty B X Y):KeepsFrom B X Y:=⟨h.1,fun k o hB hk hc=>h.at hB hk (by cases o<;>first|rfl|(simp [Obj.isCells] at hc))⟩
theorem KeepT.of_below {B:Nat} {X Y:World} (h:Below X.heap.size X Y):KeepT ty B X Y:=⟨h.size,fun k o _ hk _=>(h.block k (gE.1 hk).1).trans hk⟩
theorem KeepT.put {B:Nat} (X:World) {l:Nat} (o:Obj) (hl:l<B):KeepT ty B X (X.putObj l o):=⟨by simp,fun k o' hB hk _=>(World.putObj_heap_other (by omega)).trans hk⟩
def zGv (ty:TypeId) {α:Type} (n:Nat) (g:Nat) (lb:Array Value) (encs:α->Array Value) (Kp:World->World->Prop) (S Sp:List α->Prop) (N:Nat) (w:World):Prop:=
 ∀(l:Nat) (J Jx:List α->World->Prop) (W:World),Below w.heap.size w W->OwnFrom W.heap.size J->OwnFrom W.heap.size Jx->
  (∀pre x X,J pre X->pre.length<N->YieldAt Fence.wide (n-1) pg l (encs x) X fun e Y =>
   KeepT ty W.heap.size X Y/\((e = .returned (.bool true)/\J (pre++[x]) Y/\Kp X Y)\/(e = .returned (.bool false)/\Jx (pre++[x]) Y)))->
  J [] W->
  CallsIn Fence.wide n pg g (#[.func (.yield l) #[] #[]]++lb) W fun e Y=>(∃v,e = .returned v)/\((∃xs,S xs/\J xs Y)\/(∃pre,Sp pre/\Jx pre Y))
def zOj (ty:TypeId) {α:Type} (B:Nat) (Kp:World->World->Prop) (I Ix:List α->World->Prop) (xs:List α) (X:World):Exit->Act->World->Prop
 |.normal,_,Y=>KeepT ty B X Y/\Kp X Y/\I xs Y
 |.ret,_,Y=>KeepT ty B X Y/\Ix xs Y
 |_,_,_=>False
theorem zGe {α:Type} {n:Nat} {g:Operand} {ps:Array Tmp} {assign body:Code} {Q:Exit->Act->World->Prop} {a:Act} {w w0:World} (h1:1<=n) {gf:Nat} {lb:Array Value}
 (hg:a.eval g = .func (.func gf) #[] lb) (eg:∀args w,(callFunc gf args).run pg w = .ok (.enter gf args) w)
 {encs:α->Array Value} {Kp:World->World->Prop} {S Sp:List α->Prop} {N:Nat} (hseq:zGv ty (n-1) gf lb encs Kp S Sp N w0)
 (hKt:∀{A B C:World},Kp A B->Kp B C->Kp A C) (hKb:∀(W:World) (l:Nat) (o o':Obj),w.heap.size<=l->W.heap[l]? = some o->o.isCells=false->o.isWalk=false->Kp W (W.putObj l o'))
 (hb0:Below w0.heap.size w0 w) (hps:∀x,(encs x).size=ps.size)
 (I Ix:List α->World->Prop) (hI:OwnFrom w.heap.size I) (hIx:OwnFrom w.heap.size Ix) (h0:I [] w) (Ax:α->Act->World->Prop) (hAx:∀x a',OwnFrom w.heap.size (fun (_:Unit) W=>Ax x a' W))
 (hassign:∀(l:Nat) (pre:List α) (x:α) (W:World) (K:Act->World->Prop),I pre W->(∀a' W',KeepT ty w.heap.size W W'->Kp W W'->I pre W'->Ax x a' W'->K a' W')->
  assign.wpIn (Fence.wide.inRound l) (n-1-1) pg (Exit.then K (fun _ _ _=>False)) { tmps:=(ps.zip (encs x)).foldl (fun t (p,v)=>t.setIfInBounds p v) a.tmps,defers:=[] } W)
 (hbody:∀(l:Nat) (pre:List α) (x:α) (a':Act) (W:World),w.heap.size<=l->I pre W->Ax x a' W->pre.length<N->body.wpIn (Fence.wide.inRound l) (n-1-1) pg (zOj ty w.heap.size Kp I Ix (pre++[x]) W) a' W)
 (hdone:∀(D:Nat) (xs:List α) (W:World),w.heap.size<=D->S xs->I xs W->W.heap[D]? = some (.deferred (some []))->Q .normal { a with defers:={ target:=.collected D,args:=#[] } :: a.defers } W)
 (hstop:∀(D:Nat) (pre:List α) (W:World),w.heap.size<=D->Sp pre->Ix pre W->W.heap[D]? = some (.deferred (some []))->Code.ret.wpIn Fence.wide n pg Q { a with defers:={ target:=.collected D,args:=#[] } :: a.defers } W) :
 (Code.rangeFunc g ps assign body).wpIn Fence.wide n pg Q a w:=by
 refine wpIn_rangeFunc (fun fn hfn=>?_);generalize hrc:(fun st pe=>({ state:=st,pending:=pe,fn:=fn,tmps:=a.tmps,params:=ps,assign:=assign,body:=body,defers:=w.heap.size }:Loop))=rc;generalize hV:(w.alloc (.deferred (some []))).alloc (.loop (rc .ready none))=V;have zV:V.heap.size=w.heap.size+1+1:=by rw [<-hV];simp
 have bV:Below w.heap.size w V:=by rw [<-hV];exact zBe _ _ _
 have lV:V.heap[w.heap.size+1]? = some (.loop (rc .ready none)):=by rw [<-hV];have:=World.alloc_heap_new (w.alloc (.deferred (some []))) (.loop (rc .ready none));rwa [World.size_alloc] at this
 have dV:V.heap[w.heap.size]? = some (.deferred (some [])):=by rw [<-hV];exact (Below.heap_alloc _ _ _ (by simp)).trans (World.alloc_heap_new w _)
 have iV:I [] V:=hI _ _ _ none h0 (zDe bV) (fun r e=>by cases e)
 let Bk:LoopState->Option Code->World->Prop:=fun st pe X=>X.heap[w.heap.size+1]? = some (.loop (rc st pe))/\X.heap[w.heap.size]? = some (.deferred (some []))
 have ownB:∀st pe,OwnFrom V.heap.size (fun (_:List α) X=>Bk st pe X):=fun st pe s X Y row hs hgr hr =>
  ⟨(hgr.block _ (gE.1 hs.1).1 (fun e=>by have:=(hr _ e.symm).1;omega)).trans hs.1,(hgr.block _ (gE.1 hs.2).1 (fun e=>by have:=(hr _ e.symm).1;omega)).trans hs.2⟩
 have wide:∀{J:List α->World->Prop},OwnFrom w.heap.size J->OwnFrom V.heap.size J:=fun h s X Y row hs hgr hr=>h s X Y row hs hgr (fun r e=>⟨by have:=(hr r e).1;omega,(hr r e).2⟩)
 have turn:∀{X:World} {st pe} (st':LoopState) (pe':Option Code),Bk st pe X->Bk st' pe' (X.putObj (w.heap.size+1) (.loop (rc st' pe'))):=fun st' pe' h =>
  ⟨World.putObj_heap_same (gE.1 h.1).1,(World.putObj_heap_other (by omega)).trans h.2⟩
 refine ⟨w.heap.size+1,[{ target:=.collected w.heap.size,args:=#[] }],V,{ target:=.fn (.func gf) lb,args:=#[.func (.yield (w.heap.size+1)) #[] #[]] },V,gf,#[.func (.yield (w.heap.size+1)) #[] #[]]++lb,V,?_,?_,fun _ _=>trivial,?_,fun _=>h1,?_⟩
 ·rw [<-hV,<-hrc];exact run_enterLoop_outer _ _ _ _ _
 ·simp only [resolve,hg];simp [go_sem]
 ·simp [invoke,go_sem,eg]
 refine (hseq (w.heap.size+1) (fun pre X=>I pre X/\Bk .ready none X) (fun pre X=>Ix pre X/\Bk .done (some .ret) X) V (hb0.trans (bV.mono hb0.size))
  (OwnFrom.and (wide hI) (ownB _ _)) (OwnFrom.and (wide hIx) (ownB _ _)) ?_ ⟨iV,lV,dV⟩).mono ?_
 ·rintro pre x X ⟨iX,bX⟩ hlen;have hy:=run_yield (P:=pg) (args:=encs x) bX.1 (by rw [<-hrc];exact hps x);rw [<-hrc] at hy;refine ⟨fn,_,assign,body,hy,roundIn_of_wpIn trivial (hassign _ pre x X _ iX ?_)⟩;intro a' Y kY kpY iY axY;have bY:Bk .ready none Y:=⟨kY.at (by omega) bX.1 rfl,kY.at (Nat.le_refl _) bX.2 rfl⟩
  refine ⟨_,run_beginRound bY.1 (by rw [<-hrc]),?_⟩;rw [show (Obj.loop { rc .ready none with state:=.busy }) = .loop (rc .busy none) by rw [<-hrc]];have bZ:=turn .busy none bY;refine wpIn_mono (hbody _ pre x a' _ (by omega) (hI.putObj _ iY (by omega) bY.1 rfl) ((hAx x a').putObj (s:=()) _ axY (by omega) bY.1 rfl) hlen) ?_
  have fin:∀(j:Option Code) (U:World),KeepT ty w.heap.size (Y.putObj (w.heap.size+1) (.loop (rc .busy none))) U->
   (Instr.endRound (w.heap.size+1) j).run pg U = .ok (.bool j.isNone) (U.putObj (w.heap.size+1) (.loop (rc (if j.isNone then .ready else .done) j)))/\Bk .busy none U:=fun j U kU=>by
   have bU:Bk .busy none U:=⟨kU.at (by omega) bZ.1 rfl,kU.at (Nat.le_refl _) bZ.2 rfl⟩
   refine ⟨?_,bU⟩;have:=run_endRound (P:=pg) j bU.1;rw [<-hrc] at this ⊢;exact this
  have kept:∀{U:World} (o:Obj),KeepT ty w.heap.size (Y.putObj (w.heap.size+1) (.loop (rc .busy none))) U->KeepT ty V.heap.size X (U.putObj (w.heap.size+1) o):=fun o kU =>
   ((kY.mono (by omega)).trans (KeepT.put _ _ (by omega))).trans ((kU.mono (by omega)).trans (KeepT.put _ _ (by omega)))
  rintro e a3 U hp
  cases e with
  |normal =>
   obtain ⟨kU,kpU,iU⟩:=hp;obtain ⟨hr,bU⟩:=fin none U kU;exact ⟨_,_,hr,kept _ kU,.inl ⟨rfl,⟨hI.putObj _ iU (by omega) bU.1 rfl,turn _ _ bU⟩,hKt kpY (hKt (hKt (hKb _ _ _ _ (by omega) bY.1 rfl rfl) kpU) (hKb _ _ _ _ (by omega) bU.1 rfl rfl))⟩⟩
  |ret =>
   obtain ⟨kU,iU⟩:=hp;obtain ⟨hr,bU⟩:=fin (some .ret) U kU;exact ⟨_,_,hr,kept _ kU,.inr ⟨rfl,hIx.putObj _ iU (by omega) bU.1 rfl,turn _ _ bU⟩⟩
  |exit id=>exact hp.elim
  |goto t=>exact hp.elim
  |panic ch=>exact hp.elim
  |outgrown=>exact hp.elim
 ·rintro e U ⟨⟨v,rfl⟩,(⟨xs,hS,iU,bU⟩|⟨pre,hS,iU,bU⟩)⟩
  ·refine ⟨none,_,?_,hdone _ xs _ (Nat.le_refl _) hS (hI.putObj (.loop (rc .exhausted none)) iU (by omega) bU.1 rfl) (turn .exhausted none bU).2⟩;have:=run_endLoop (P:=pg) bU.1 (by rw [<-hrc];simp);rw [<-hrc] at this ⊢;exact this
  ·refine ⟨some .ret,_,?_,hstop _ pre _ (Nat.le_refl _) hS (hIx.putObj (.loop (rc .exhausted (some .ret))) iU (by omega) bU.1 rfl) (turn .exhausted (some .ret) bU).2⟩;have:=run_endLoop (P:=pg) bU.1 (by rw [<-hrc];simp);rw [<-hrc] at this ⊢;exact this
attribute [local go_sem] Oper.semAt_some
end
end
attribute [local go_sem] Oper.semAt_some
abbrev zZe (q:Int×Int):Array Value:=#[cel q.1 q.2]
theorem zFc:∀{l:List (Int×Int)} (hs:l.Nodup) (P:Int×Int->Bool) (t:Int×Int),t∈l->P t=false->(l.filter (fun s=>P s || decide (s=t))).Perm (l.filter P++[t])
 | [],_,_,_,h,_=>by simp at h
 |s::r,hs,P,t,h,hp=>by
  have hs':=List.nodup_cons.1 hs;rcases List.mem_cons.1 h with rfl|h
  ·have hr:r.filter (fun s=>P s || decide (s=t))=r.filter P:=by
    refine List.filter_congr (fun u hu=>?_);rw [show decide (u=t)=false by simp;rintro rfl;exact hs'.1 hu,Bool.or_false]
   rw [List.filter_cons,List.filter_cons,hp];simp only [Bool.false_or,decide_true,if_true,Bool.false_eq_true,if_false,hr];exact List.perm_append_comm (l₁:=[t])
  ·have e:decide (s=t)=false:=by simp;rintro rfl;exact hs'.1 h
   have ih:=zFc hs'.2 P t h hp;rw [List.filter_cons,List.filter_cons,e,Bool.or_false];cases P s
   ·simpa using ih
   ·simpa using ih.cons s
theorem zVy {x y u v:Int} (hx:W64 x) (hy:W64 y) (hu:W64 u) (hv:W64 v):(ck x y).sameKey (ck u v)=decide ((x,y)=(u,v)):=by
 by_cases e:(x,y)=(u,v)
 ·cases e;simp [ck,Lit.sameKey]
 ·have hne:ck x y≠ck u v:=fun h=>e (by obtain ⟨rfl,rfl⟩:=zL9 hx hy hu hv h;rfl)
  have:(ck x y).sameKey (ck u v)=false:=by
   cases h:(ck x y).sameKey (ck u v)
   ·rfl
   ·exact absurd (by simpa [ck,Lit.sameKey] using h) hne
  rw [this];simp [e]
def ComeC (K L:List (Int×Int)) (left:Lit->Bool):Prop:=L.Perm (K.filter (fun q=>!left (ck q.1 q.2)))
theorem ComeC.step {K L:List (Int×Int)} {left:Lit->Bool} (hs:K.Nodup) (h64:∀q∈K,W64 q.1/\W64 q.2) (h:ComeC K L left) {x y:Int} (hm:(x,y)∈K) (hl:left (ck x y)=true):ComeC K (L++[(x,y)]) (fun z=>left z && !z.sameKey (ck x y)):=by
 have:=zFc hs (fun q=>!left (ck q.1 q.2)) (x,y) hm (by simp [hl]);unfold ComeC at *
 have e:K.filter (fun q=>!(left (ck q.1 q.2) && !(ck q.1 q.2).sameKey (ck x y)))=K.filter (fun s=>!left (ck s.1 s.2) || decide (s=(x,y))):=by
  refine List.filter_congr (fun u hu=>?_);have hu':=h64 u hu;have hx':=h64 _ hm;rw [zVy hu'.1 hu'.2 hx'.1 hx'.2,show decide ((u.1,u.2)=(x,y))=decide (u=(x,y)) from rfl];generalize decide (u=(x,y))=t;cases left (ck u.1 u.2)<;>cases t<;>rfl
 rw [e];exact (h.append_right [(x,y)]).trans this.symm
theorem ComeC.start {K:List (Int×Int)} {D:DataW Unit} (h:∀q∈K,Maps.has D (ck q.1 q.2)=true):ComeC K [] (Maps.has D):=by
 unfold ComeC;rw [List.filter_eq_nil_iff.2 (fun t ht=>by simp [h t ht])]
theorem ComeC.done {K L:List (Int×Int)} {left:Lit->Bool} (h:ComeC K L left) (h0:∀kl,left kl=false):L.Perm K:=by
 unfold ComeC at h
 rwa [List.filter_eq_self.2 (fun t ht=>by simp [h0])] at h
theorem ComeC.len {K L:List (Int×Int)} {left:Lit->Bool} (h:ComeC K L left):L.length<=K.length:=by
 have h1:L.length=_:=h.length_eq;have h2:=List.length_filter_le (fun q:Int×Int=>!left (ck q.1 q.2)) K;omega
theorem zE9 {w w':World} {b r n cnt:Nat} {D:DataW Unit} {left:Lit->Bool} (h:w.ranges Tryz.prog 23 zCp b r n D left cnt) (hb:w'.heap[b]? = w.heap[b]?) (hr:w'.heap[r]? = w.heap[r]?):w'.ranges Tryz.prog 23 zCp b r n D left cnt:=by
 obtain ⟨es,clock,since,seen,c0,e1,F,hs,hD,e2,rest⟩:=h;exact ⟨es,clock,since,seen,c0,hb.trans e1,F,hs,hD,hr.trans e2,rest⟩
theorem zKj (n h b:Nat) (z:Value) (K:List (Int×Int)) (F:Int->Int->Value) (w:World) (hP:Boxed w h 31 (.map (some b))) (hm:MapS z w b K F) (N:Nat) (hN:K.length<=N) :
 zGv 23 n 141 #[ptr h] zZe (Below w.heap.size) (fun xs=>xs.Perm K) (fun _=>True) N w:=fun lo J Jx W hW hJ hJx hY h0=>by
 refine callsIn_of_wp Tryz.func141 rfl trivial ?_ rfl;simp only [Tryz.ntmps141,List.size_toArray,List.length_cons,List.length_nil,Nat.reduceAdd,Nat.reduceSub,Array.replicate_succ,Array.replicate_zero,List.push_toArray,List.append_toArray,List.nil_append,List.cons_append];have hbl:=hm.lt;have hhl:=hP.lt;have hsW:=hW.size;have mW:=hm.upto hW;have PW:=zAi hP hW hhl;have c0:=PW.cell;obtain ⟨D,hown,hsz,hnd,h64,-,-,-,hD⟩:=id mW;have HY:=zAb hY;have HJ:=zAb hJ;have HD:=zAb hD;have Hnd:=zAb (And.intro hnd h64);clear hY hD;obtain ⟨w2,hrun,hrg0,hg2,hs2⟩:=hown.range zDk Tryz.underlying31;gi_wp2_with fail;have b2:Below W.heap.size W w2:=⟨hg2.os,hg2.tape,hg2.output,hg2.size,fun k hk=>hg2.block k hk (by simp)⟩
 have hhas:∀q∈K,Maps.has D (ck q.1 q.2)=true:=fun q hq=>by rw [(HD.out q.1 q.2 (h64 q hq).1 (h64 q hq).2).1];simpa using hq
 have j2:=zCj hJ h0 b2;have HJ2:=zAb j2;have HRG:=zAb hrg0;have hb2w:Below w.heap.size w w2:=hW.trans (b2.mono hsW);have HB2:=zAb hb2w;have HH:=zAb hhas;clear hrun hrg0 hg2 c0 j2 hb2w b2 hown mW PW hsz hnd h64 hhas hm hP;gi_loopw [] (fun wr=>∃(left:Lit->Bool) (cnt:Nat) (L:List (Int×Int)),wr.ranges Tryz.prog 23 zCp b W.heap.size K.length D left cnt/\(ComeC K L left/\∀kl,left kl=true->Maps.has D kl=true)/\J L wr/\Below w.heap.size w wr/\W.heap.size<wr.heap.size) (fun wr=>wr.rangeLeft b W.heap.size)
 case atStart=>exact ⟨_,_,[],HRG.out,⟨ComeC.start HH.out,fun kl e=>e⟩,HJ2.out,HB2.out,by omega⟩
 case round =>
  obtain ⟨left,cnt,L,hrg,⟨hcm,hsub⟩,hj,hB,hzr⟩:=hrel;rename World=>wo;rcases hrg.next zDk 0 with ⟨hc0,hl0,hrun⟩|⟨key,vv,kl,yv,w3,cnt3,hkey,hlk,hv,hat,hrun,hrg3,hlt,hg3,hs3,hen⟩
  ·have HFn:Hid (L.Perm K/\J L wo):=zAb ⟨hcm.done hl0,hj⟩;clear hrg hcm hsub hB;gi_wp2_with fail;go_end0
   exact ⟨⟨_,rfl⟩,.inl ⟨_,HFn.out.1,HFn.out.2⟩⟩
  ·obtain ⟨x,y,rfl,⟨hx,hy⟩,rfl⟩:=zU4 hkey;obtain ⟨hvS,-⟩:=zO3 hv
   have hmem:(x,y)∈K:=by
    have h1:=(HD.out x y hx hy).1;rw [hsub _ hlk] at h1;simpa using h1.symm
   have hri:∃o:Obj,wo.heap[W.heap.size]? = some o/\o.isCells=false:=by
    obtain ⟨_,_,_,_,_,_,_,_,_,e2,_⟩:=id hrg;exact ⟨_,e2,rfl⟩
   have hj3:J L w3:=HJ.out _ _ _ _ hj hg3 (fun r e=>by cases e;exact ⟨Nat.le_refl _,hri⟩);have T3:Turns (fun k=>k=W.heap.size) wo w3:=Turns.of_grown hg3 (fun k e=>by cases e;rfl);have hB3:Below w.heap.size w w3:=hB.trans (T3.below (fun k e=>by omega) hB.size);obtain ⟨W6,hW6⟩:=ex (w3.alloc (.cells #[.int .i64 x,.int .i64 y] 23));have b6:Below w3.heap.size w3 W6:=hW6▸zAh _ _;have F6:Two W6 w3.heap.size x y:=by rw [<-hW6];exact Two.newAt rfl
   have hB6:Below w.heap.size w W6:=hB3.trans (b6.mono hB3.size);have hrg6:=zE9 hrg3 (b6.block b (by omega)) (b6.block W.heap.size (by omega));have hj6:=zCj HJ.out hj3 b6;have hz6:=b6.size;have hcm5:=hcm.step Hnd.out.1 Hnd.out.2 hmem hlk
   have hsub5:∀kl,(left kl && !kl.sameKey (ck x y))=true->Maps.has D kl=true:=fun kl e=>by
    rw [Bool.and_eq_true] at e;exact hsub kl e.1
   have hln:=hcm5.len;rw [List.length_append,List.length_singleton] at hln;have HB6:=zAb hB6;have HR6:=zAb hrg6;have HW6:=zAb hW6;have HRo:=zAb hrg;have HLt:=zAb hlt;have HC5:=zAb (And.intro hcm5 hsub5);obtain ⟨fn,tmps,assign,body,hyd,hRd⟩:=HY.out L (x,y) W6 hj6 (by omega);dsimp only [zZe] at hyd;have HRd:=zAb hRd;rw [hs3] at F6;obtain ⟨⟨f0,f1⟩,-,-⟩:=id F6;clear hj hj3 hrg hrg3 hcm hcm5 hsub hsub5 hB hB3 hB6 T3 hg3 F6 hkey hv hat hri hmem hj6 hRd b6 hW6 hrg6 hlt;gi_wp2_with (rw [HW6.out]);refine ⟨fun h=>(by cases h),?_⟩;refine HRd.out.mono ?_;rintro e W7 ⟨hk7,(⟨rfl,hJ7,hKp7⟩|⟨rfl,hJx7⟩)⟩
   ·have HJ7:=zAb hJ7;have hrg7:=zE9 HR6.out (hKp7.block b (by omega)) (by obtain ⟨es,clock,since,seen,cc,-,-,-,-,hwk,-⟩:=HR6.out;exact (hk7.at (Nat.le_refl _) hwk rfl).trans hwk.symm);have HR7:=zAb hrg7;have HB7:=zAb (HB6.out.trans hKp7);have hz7:=hk7.1;clear hJ7 hrg7 hKp7 hk7 hyd;gi_wp2_with fail;go_roundw
    case rel=>exact ⟨_,_,L++[(x,y)],HR7.out,HC5.out,HJ7.out,HB7.out,by omega⟩
    case measure=>rw [HR7.out.left_eq,HRo.out.left_eq];exact HLt.out
   ·have HJx:=zAb hJx7;clear hJx7 hk7 hyd;gi_wp2_with fail;refine bodyPost_ret (results_none rfl _ _ _) rfl ?_;exact ⟨⟨_,rfl⟩,.inr ⟨_,trivial,HJx.out⟩⟩
attribute [local go_sem] Oper.semAt_some
theorem zB8 {F:Fence} {nF:Nat} {P:Program} {w:World} {ops:Array Oper} {rest:List Oper} {o:Oper} {a:Act} {Q:Exit->Act->World->Prop}
 (hgd:o.guard=none) (s x:Operand) (t:TypeId) (ho:o.op = .call { callee:=.builtin .append,args:=#[s,x],argTypes:=#[t,t] })
 (v xv:Value) (hs:a.eval s=v) (hx:a.eval x=xv) {v':Value} {w':World} (hr:(Builtin.append_ #[t,t] o.type #[v,xv]).run P w = .ok v' w') (h:wpListIn F nF P ops Q rest (a.put o.dst v') w') :
 wpListIn F nF P ops Q (o::rest) a w:=by
 refine wpListIn_plain hgd fun K hK=>?_;unfold Oper.wpIn;refine ⟨by simp [Oper.about,ho,resolve,Target.leads,Sem.run_pure],?_⟩;rw [Oper.semAt_plain F _ _ (by rw [ho];intro c hc';cases hc')];simp [execOp,ho,resolve,invoke,builtin,hs,hx,hr,Result.andThen];exact hK _ _ h
theorem zEs {S:Nat->Prop} (w:World) (k:Nat) (o:Obj) (hk:S k):Turns S w (w.putObj k o):=⟨rfl,rfl,rfl,by simp,fun j _ hj=>World.putObj_heap_other (fun e=>hj (e▸hk))⟩
structure GtC (w X:World) (v:Value) (pre:List (Int×Int)):Prop where
 nn:RC X v pre
 own:∀k,v.ownBlock=some k->w.heap.size<k
 bx:Boxed X w.heap.size 34 v
 below:Below w.heap.size w X
theorem GtC.own_from {w:World} {B:Nat} (hB:w.heap.size<=B):OwnFrom B (fun pre X=>∃v,GtC w X v pre):=by
 rintro pre X Y row ⟨v,h⟩ hg hr;have hc:∀k,row=some k->∃o:Obj,X.heap[k]? = some o/\o.isCells=false:=fun k e=>(hr k e).2;have T:Turns (fun k=>row=some k) X Y:=Turns.of_grown hg (fun k e=>e)
 have hb:row≠some w.heap.size:=fun e=>by
  obtain ⟨o,ho,hn⟩:=hc _ e;rw [show X.heap[w.heap.size]? = _ from h.bx] at ho;cases ho;cases hn
 refine ⟨v,h.nn.kept T (fun k e q=>?_),h.own,zAg h.bx T hb,?_⟩
 ·obtain ⟨cur,hk⟩:=h.nn.blk e;obtain ⟨o,ho,hn⟩:=hc k q;rw [hk] at ho;cases ho;cases hn
 ·exact ownFrom_below (β:=Unit) (Nat.le_refl _) hB () X Y row h.below hg hr
theorem GtC.push {w X:World} {v:Value} {pre:List (Int×Int)} (h:GtC w X v pre) (t:Int×Int) (hlen:pre.length<=100000) {B:Nat} (hB:w.heap.size<B) :
 ∃v' Y,(Builtin.append_ #[34,34] 34 #[v,.slice (some ⟨X.heap.size,0,none⟩) 1 1]).run pg (X.alloc (.cells #[O ii t.1,O ii t.2] 23)) = .ok v' Y/\(∃a n c,v' = .slice a n c)/\Y.cell? ⟨w.heap.size,0,none⟩=some v/\Y.frozen? ⟨w.heap.size,0,none⟩=false/\
  KeepT 23 B X (Y.setCell ⟨w.heap.size,0,none⟩ v')/\Below w.heap.size X (Y.setCell ⟨w.heap.size,0,none⟩ v')/\GtC w (Y.setCell ⟨w.heap.size,0,none⟩ v') v' (pre++[t]):=by
 obtain ⟨v',Y,r1,n1,o1,T1⟩:=zSl h.nn t (by omega);have hsz:=h.below.size;have hlt:=h.bx.lt;have hb:v.ownBlock≠some w.heap.size:=fun e=>by have:=h.own _ e;omega
 have bY:=zAg h.bx T1 hb;have T2:Turns (fun k=>k=w.heap.size) Y (Y.setCell ⟨w.heap.size,0,none⟩ v'):=Turns.set (S:=fun k=>k=w.heap.size) _ rfl _
 have own':∀k,v'.ownBlock=some k->w.heap.size<k:=fun k e=>by
  rcases o1 k e with q|q
  ·exact h.own k q
  ·omega
 have bl:Below w.heap.size X (Y.setCell ⟨w.heap.size,0,none⟩ v'):=(T1.below (fun k e=>Nat.le_of_lt (h.own k e)) hsz).trans (T2.below (fun k e=>by omega) (by have:=T1.size;omega));obtain ⟨a2,c2,e2⟩:=zBk n1;refine ⟨v',Y,r1,⟨_,_,_,e2⟩,bY.cell,bY.frozen,⟨Nat.le_trans T1.size T2.size,fun k o hk ho hn=>?_⟩,bl,⟨n1.kept T2 (fun k e q=>by have:=own' k e;omega),own',bY.set _,h.below.trans bl⟩⟩
 have hv:v.ownBlock≠some k:=fun e=>by
  obtain ⟨cur,hk2⟩:=h.nn.blk e;rw [ho] at hk2;cases hk2;cases hn
 exact T2.same (by omega) (T1.same hv ho)
theorem zRp {g:Nat} {lb:Array Value} {S Sp:List (Int×Int)->Prop} {N:Nat} {w:World} (eg:∀args w,(callFunc g args).run pg w = .ok (.enter g args) w) (hseq:zGv 23 (10-1) g lb zZe (Below w.heap.size) S Sp N w) (hN:N<=100000) :
 Calls pg 164 #[.slice none 0 0,.func (.func g) #[] lb] w fun e w'=>∃v xs,e = .returned v/\S xs/\RC w' v xs/\(∀k,v.ownBlock=some k->w.heap.size<=k)/\Below w.heap.size w w':=by
 refine (callsIn_wide (n:=10)).1 ?_;refine callsIn_of_wp_marks func164 rfl trivial ?_ rfl;simp only [ntmps164,List.size_toArray,List.length_cons,List.length_nil,Nat.reduceAdd,Nat.reduceSub,Array.replicate_succ,Array.replicate_zero,List.push_toArray,List.append_toArray,List.nil_append,List.cons_append];obtain ⟨X,hX⟩:=ex (w.alloc (.cells #[.slice none 0 0] 34));have bX:Below w.heap.size w X:=hX▸zAh _ _;have zX:X.heap.size=w.heap.size+1:=by rw [<-hX];simp
 have mX:Boxed X w.heap.size 34 (.slice none 0 0):=hX▸Boxed.new w 34 _;gi_wp2_with (rw [hX]);clear hX
 refine zGe (n:=10) (by omega) (gf:=g) (lb:=lb) rfl eg hseq (fun h k=>h.trans k) (belowK_b (by omega)) bX (fun _=>rfl)
  (fun pre Y=>∃v,GtC w Y v pre) (fun _ _=>False) (GtC.own_from (by omega)) (fun _ _ _ _ h _ _=>h.elim)
  ⟨_,Rw.nil _ _ _ _,fun k e=>by simp [Value.ownBlock] at e,mX,bX⟩
  (fun q a' Y=>∃B,X.heap.size<=B/\Y.heap[B]? = some (.cells #[O ii q.1,O ii q.2] 23 (0,0))/\a'={ tmps:=#[.slice none 0 0,.func (.func g) #[] lb,ptr w.heap.size,undef,.slice none 0 0,ptr B,.func (.func g) #[] lb,cel q.1 q.2,undef,undef,undef,undef,undef],defers:=[] })
  (fun q a' _ Y Z row hs hg hr=>by
   obtain ⟨B,h1,h2,h3⟩:=hs;refine ⟨B,h1,(hg.block B (gE.1 h2).1 (fun e=>?_)).trans h2,h3⟩;obtain ⟨-,o,ho,hn⟩:=hr B e.symm;rw [h2] at ho;cases ho
   cases hn)
  ?assign ?body ?done ?stop
 case assign =>
  rintro lo pre q Y K hI hK;obtain ⟨v,hG⟩:=hI;gi_wp2
  refine hK _ _ (KeepT.of_below (zAh _ _)) ((zAh Y _).mono (by have:=hG.below.size;omega)) ?_ ⟨Y.heap.size,by have:=hG.bx.lt;omega,heap_alloc_new Y _,rfl⟩;exact ⟨v,hG.nn.upto (zAh _ _),hG.own,zAi hG.bx (zAh _ _) hG.bx.lt,hG.below.trans ((zAh Y _).mono hG.below.size)⟩
 case body =>
  rintro lo pre q a' Y hlo ⟨v,hG⟩ ⟨B,hB,hBc,rfl⟩ hlt;obtain ⟨v2,Z,rA,⟨a2,n2,c2,rfl⟩,c1,f1,hk,hb,hG2⟩:=hG.push q (by omega) (B:=X.heap.size) (by omega);have cv:=hG.bx.cell;have HA:=zAb rA;have HE:=zAb (show KeepT 23 X.heap.size Y (Z.setCell ⟨w.heap.size,0,none⟩ (.slice a2 n2 c2))/\Below w.heap.size Y (Z.setCell ⟨w.heap.size,0,none⟩ (.slice a2 n2 c2))/\∃v,GtC w (Z.setCell ⟨w.heap.size,0,none⟩ (.slice a2 n2 c2)) v (pre++[q]) from ⟨hk,hb,_,hG2⟩);obtain ⟨a1,c3,hv1⟩:=zBk hG.nn;subst hv1;have d1:(Y.alloc (.cells #[O ii q.1,O ii q.2] 23)).cell? ⟨w.heap.size,0,none⟩=some (.slice a1 pre.length c3):=((zAh Y _).cell (p:=⟨w.heap.size,0,none⟩) hG.bx.lt).trans cv;have b0:Y.cell? ⟨B,0,none⟩=some (O ii q.1):=by rw [cell_of_row Y B 0 _ _ _ hBc];rfl
  have b1:Y.cell? ⟨B,1,none⟩=some (O ii q.2):=by rw [cell_of_row Y B 1 _ _ _ hBc];rfl
  clear rA hk hb hG2 hG hBc;gi_wp2_with (gi_at_builtin;refine zB8 rfl _ _ 34 rfl _ _ rfl rfl HA.out ?_);exact HE.out
 case done =>
  rintro D xs Y hD hS ⟨v,hG⟩ hK;have cv:=hG.bx.cell;obtain ⟨a1,c3,hv1⟩:=zBk hG.nn;subst hv1;have HG:=zAb hG;clear hG;gi_wp2_with fail;refine ⟨by simp,.inl ⟨_,_,rfl,run_takeDeferred hK,?_⟩⟩;have tp:Turns (fun k=>k=D) Y (Y.putObj D (.deferred none)):=zEs _ _ _ rfl;refine ⟨.slice a1 xs.length c3,by simp [results,Tryz.f164,go_sem],_,xs,rfl,hS,HG.out.nn.kept tp (fun k e q=>?_),fun k e=>Nat.le_of_lt (HG.out.own k e),HG.out.below.trans (tp.below (fun k e=>by omega) HG.out.below.size)⟩;obtain ⟨cur,hk⟩:=HG.out.nn.blk e;subst q;rw [hK] at hk;cases hk
 case stop=>exact fun D pre Y hD hp h hK=>h.elim
theorem zQq {g:Nat} {lb:Array Value} {S Sp:List (Int×Int)->Prop} {N:Nat} {w:World} (eg:∀args w,(callFunc g args).run pg w = .ok (.enter g args) w) (hseq:zGv 23 (10-1) g lb zZe (Below w.heap.size) S Sp N w) (hN:N<=100000) (hS:∀xs,S xs->xs.length<=1000000) :
 Calls pg 109 #[.func (.func g) #[] lb,.func (.func 111) #[] #[]] w fun e w'=>∃v xs L,e = .returned v/\S xs/\L.Perm xs/\zTa L/\RC w' v L/\(∀k,v.ownBlock=some k->w.heap.size<=k)/\Below w.heap.size w w':=by
 have HC:Hid (Calls pg 139 #[.func (.func g) #[] lb] w fun e w'=>∃v xs,e = .returned v/\S xs/\RC w' v xs/\(∀k,v.ownBlock=some k->w.heap.size<=k)/\Below w.heap.size w w'):=zAb (by
  have HG:=zAb (zRp eg hseq hN);clear hseq eg;go_enter func139,ntmps139;go_wp2_with fail;refine HG.out.mono ?_;rintro e w1 ⟨v,xs,rfl,h1,h2,h3,h4⟩;obtain ⟨a1,c3,hv1⟩:=zBk h2;subst hv1;have HE:=zAb (ai h1 (ai h2 (ai h3 h4)));clear h1 h2 h3 h4;go_wp2_with fail;go_ret
  exact ⟨_,xs,rfl,HE.out⟩)
 clear hseq eg;have HS:=zAb hS;clear hS;go_enter func109,ntmps109;go_wp2_with fail;refine HC.out.mono ?_;rintro e w1 ⟨v,xs,rfl,h1,h2,h3,h4⟩;have Hs:=zAb (zW5 (HS.out xs h1) h2);obtain ⟨a1,c3,hv1⟩:=zBk h2;subst hv1;have HE:=zAb (ai h1 (ai h3 h4));clear h1 h2 h3 h4;go_wp2_with fail;refine Hs.out.mono ?_;rintro e w2 ⟨rfl,M,m1,m2,m3,m4⟩;have HM:=zAb (show ∃v ys L,Ending.returned (.slice a1 xs.length c3) = .returned v/\S ys/\L.Perm ys/\zTa L/\RC w2 v L/\(∀k,v.ownBlock=some k->w.heap.size<=k)/\Below w.heap.size w w2 from ⟨_,xs,M,rfl,HE.out.1,m1,m2,m3,HE.out.2.1,HE.out.2.2.trans (m4.below (fun k e=>HE.out.2.1 k e) HE.out.2.2.size)⟩);clear m1 m2 m3 m4 Hs;go_wp2_with fail;go_ret;exact HM.out
theorem zU9 {z:Value} {w:World} {b:Nat} {K:List (Int×Int)} {F:Int->Int->Value} (h:MapS z w b K F) (hlen:K.length<=100000) :
 Calls pg 78 #[.map (some b)] w fun e w'=>∃v L,e = .returned v/\L.Perm K/\zTa L/\RC w' v L/\(∀k,v.ownBlock=some k->w.heap.size<=k)/\Below w.heap.size w w':=by
 have HK:Hid (Calls pg 110 #[.map (some b)] w fun e w'=>e = .returned (.func (.func 141) #[] #[ptr w.heap.size])/\w'=w.alloc (.cells #[.map (some b)] 31)):=zAb (by
  go_enter func110,ntmps110;go_wp2_with fail;go_ret
  exact ⟨rfl,rfl⟩)
 obtain ⟨X,hX⟩:=ex (w.alloc (.cells #[.map (some b)] 31));have bX:Below w.heap.size w X:=hX▸zAh _ _;have P1:Boxed X w.heap.size 31 (.map (some b)):=hX▸Boxed.new w 31 _;have HS:=zAb (zQq (enters_of func141 (by kernel_rfl) rfl) (zKj (10-1) w.heap.size b z K F X P1 (h.upto bX) K.length (Nat.le_refl _)) hlen (fun xs e=>by rw [e.length_eq];omega));rw [hX] at HK;have HB:=zAb bX;clear hX bX P1 h;go_enter func78,ntmps78;go_wp2_with fail;refine HK.out.mono ?_;rintro e w1 ⟨rfl,rfl⟩;go_wp2_with fail;refine HS.out.mono ?_;rintro e w2 ⟨v,xs,L,rfl,h1,h2,h3,h4,h5,h6⟩;obtain ⟨a1,c3,hv1⟩:=zBk h4;subst hv1;have HE:=zAb (show ∃v L',Ending.returned (.slice a1 L.length c3) = .returned v/\L'.Perm K/\zTa L'/\RC w2 v L'/\(∀k,v.ownBlock=some k->w.heap.size<=k)/\Below w.heap.size w w2 from ⟨_,L,rfl,h2.trans h1,h3,h4,fun k e=>Nat.le_trans HB.out.size (h5 k e),bt HB.out h6⟩);clear h1 h2 h3 h4 h5 h6;go_wp2_with fail;go_ret;exact HE.out
end Go.Proofs.YtejjcenhjpjefaaGreatDoor
