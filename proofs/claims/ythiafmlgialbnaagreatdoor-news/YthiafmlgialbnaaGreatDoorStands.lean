import Derived.Test.YthiafmlgialbnaaGreatDoorInsert2
import Derived.Test.YthiafmlgialbnaaGreatDoorAtW
import Derived.Test.YthiafmlgialbnaaGreatDoorRefMeet
import Derived.Test.YthiafmlgialbnaaGreatDoorNew
import Derived.Test.YthiafmlgialbnaaGreatDoorShOpen
set_option linter.all false
set_option maxRecDepth 1000000
set_option maxHeartbeats 64000000
open Go.Proofs.Tryz
open Go.Proofs.Tryz renaming prog->pg
open Array renaming getElem?_eq_some_iff->gE
open Go.Value renaming int->O
open Go.IntKind renaming i64->ii
namespace Go.Proofs.YthiafmlgialbnaaGreatDoor
open Go.RowKit
section
open Go.Shelf
def z5:List Value:=[O ii 0,O ii 0,O ii 0,O ii 0,O ii 0]
theorem zEc {P:Program} {ops:Array Oper} {o:Oper} {a:Act} {w:World} {K:Act->World->Prop} {Q:Exit->Act->World->Prop} {E:Prop} (hgd:o.guard=none) (d s:Operand) (t t':TypeId)
 (ho:o.op = .call { callee:=.builtin .append,args:=#[d,s],argTypes:=#[t,t'] }) {v u v':Value} {w':World} (hd:a.eval d=v) (hs:a.eval s=u)
 (hr:(Builtin.append_ #[t,t'] o.type #[v,u]).run P w = .ok v' w') (hK:K (a.put o.dst v') w') :
 if Region.wanted o (yielded ops a.tmps)=true then Oper.wp P o a w K Q else E:=by
 have hw:Region.wanted o (yielded ops a.tmps)=true:=by simp [Region.wanted,hgd]
 rw [if_pos hw];unfold Oper.wp execOp;simp only [ho,resolve,invoke,builtin,Sem.run_bind,Sem.run_pure,Result.andThen_ok,List.map_toArray,List.map_cons,List.map_nil,hd,hs,hr];exact hK
def qDk (w:World) (g cap:Nat) (l':List Bd) (e:Ending) (w':World):Prop:=
 e = .returned (.slice (some ⟨g,0,none⟩) l'.length cap)/\Bds w' (.slice (some ⟨g,0,none⟩) l'.length cap) l'/\w.grownBy w' (some g)
attribute [local go_sem] Oper.semAt_some
def qB5 (f:Int->Int->Option Int) (pre:List Cel):Int->Int->Option Int:=fun x y=>if pre.any (fun q=>decide (q.1.1=x/\q.1.2=y))=true then none else f x y
def del (l:List Bd) (i:Nat):List Bd:=l.take i++l.drop (i+1)
def qDy (w:World) (p bm n:Nat) (W H:Int) (tv bv ev:Value) (f:Int->Int->Option Int) (l:List Bd) (es:List Rc) (i:Nat) (t:Bd) (w':World):Prop:=
 ∃bv' ev',Wd w' p W H tv bv' bm ev'/\Bds w' bv' (del l i)/\Who w' bm n (qB5 f (zEe t.x t.y t.a t.b))/\Rcs w' ev' (es++[t.foot])/\
  Turns (fun k=>k=p\/k=bm\/bv.ownBlock=some k\/ev.ownBlock=some k) w w'/\(∀k,bv'.ownBlock=some k->bv.ownBlock=some k\/w.heap.size<=k)/\(∀k,ev'.ownBlock=some k->ev.ownBlock=some k\/w.heap.size<=k)
attribute [local go_sem] Oper.semAt_some
theorem Four.set {w:World} {b:Nat} {u v s t:Int} (h:Four w b u v s t) (x y a c:Int):Four ((((w.setCell ⟨b,0,none⟩ (O ii x)).setCell ⟨b,1,none⟩ (O ii y)).setCell ⟨b,2,none⟩ (O ii a)).setCell ⟨b,3,none⟩ (O ii c)) b x y a c:=by
 obtain ⟨⟨h0,h1,h2,h3⟩,⟨f0,f1,f2,f3⟩,hz⟩:=h;refine ⟨⟨?_,?_,?_,?_⟩,⟨?_,?_,?_,?_⟩,?_⟩
 ·simp [go_sem,h0]
 ·simp [go_sem,h1]
 ·simp [go_sem,h2]
 ·simp [go_sem,h3]
 ·simpa [go_sem] using f0
 ·simpa [go_sem] using f1
 ·simpa [go_sem] using f2
 ·simpa [go_sem] using f3
 ·simpa using hz
end
section
open Go.Shelf
attribute [local go_sem] Oper.semAt_some
def Rd (w:World) (r:Nat) (W H:Int) (tv bv ev:Value):Prop:=
 w.heap[r]? = some (.cells #[O ii W,O ii H,tv,bv,ev] 109 (0,0))
section
variable {w w':World} {r:Nat} {W H:Int} {tv bv ev:Value}
theorem Rd.lt (h:Rd w r W H tv bv ev):r<w.heap.size:=(gE.1 h).1
theorem Rd.kept {S:Nat->Prop} (h:Rd w r W H tv bv ev) (ht:Turns S w w') (hs:¬S r):Rd w' r W H tv bv ev:=ht.same hs h
theorem Rd.c (h:Rd w r W H tv bv ev) (j:Nat):w.cell? ⟨r,j,none⟩=(#[O ii W,O ii H,tv,bv,ev]:Array Value)[j]? := cell_of_row w r j _ _ _ h
theorem Rd.f (h:Rd w r W H tv bv ev) (j:Nat):w.frozen? ⟨r,j,none⟩=false:=by
 have h':w.heap[r]? = _:=h;simp [World.frozen?,h']
theorem Rd.set3 (h:Rd w r W H tv bv ev) (v:Value):Rd (w.setCell ⟨r,3,none⟩ v) r W H tv v ev:=by
 have h':w.heap[r]? = _:=h;have hlt:=h.lt;unfold Rd;simp [World.setCell,Array.getElem?_modify,h']
end
theorem zFy {x y a b p q c d:Int} {r:Bool} (w:World) (h:wi x y a b p q c d=r) :
 Calls pg 101 #[rct x y a b,rct p q c d] w fun e w'=>e = .returned (.bool r)/\Below w.heap.size w w':=by
 subst h;exact zE0 x y a b p q c d w
theorem zKc (t:Bd) (W H:Int) (w:World):Calls pg 83 #[t.v,rct 0 0 W H] w fun e w'=>e = .returned (.bool (mb W H t))/\Below w.heap.size w w':=by
 by_cases h1:1<=t.id
 ·by_cases h2:t.id<=2147483647
  ·by_cases h3:1<=t.a
   ·by_cases h4:t.a<=8
    ·by_cases h5:1<=t.b
     ·by_cases h6:t.b<=8
      ·rw [show mb W H t=wi t.x t.y t.a t.b 0 0 W H by simp [mb,gs,h1,h2,h3,h4,h5,h6]];go_enter func83,ntmps83;go_wp2_with (go_at_call 101;refine (zE0 _ _ _ _ _ _ _ _ _).mono ?_;rintro e w1 ⟨rfl,hb1⟩);go_ret;exact ⟨rfl,bt (zA5 _ _ _) hb1⟩
      ·rw [show mb W H t=false by simp [mb,gs,h6]];go_enter func83,ntmps83;go_wp2_with fail;go_ret;exact ⟨rfl,zA5 _ _ _⟩
     ·rw [show mb W H t=false by simp [mb,gs,h5]];go_enter func83,ntmps83;go_wp2_with fail;go_ret;exact ⟨rfl,zA5 _ _ _⟩
    ·rw [show mb W H t=false by simp [mb,gs,h4]];go_enter func83,ntmps83;go_wp2_with fail;go_ret;exact ⟨rfl,zA5 _ _ _⟩
   ·rw [show mb W H t=false by simp [mb,gs,h3]];go_enter func83,ntmps83;go_wp2_with fail;go_ret;exact ⟨rfl,zA5 _ _ _⟩
  ·rw [show mb W H t=false by simp [mb,h2]];go_enter func83,ntmps83;go_wp2_with fail;go_ret;exact ⟨rfl,zA5 _ _ _⟩
 ·rw [show mb W H t=false by simp [mb,h1]];go_enter func83,ntmps83;go_wp2_with fail;go_ret;exact ⟨rfl,zA5 _ _ _⟩
theorem zPo (x y a b p q c d:Int) (w:World):Calls pg 84 #[rct x y a b,rct p q c d] w fun e w'=>e = .returned (.bool (mtB x y a b p q c d))/\Below w.heap.size w w':=by
 obtain ⟨k0,k1,k2,k3,hk⟩:=zX9 x y a b p q c d;have HM:=fun wx=>zAc (zG6 x y a b p q c d wx);simp only [hk] at HM;obtain ⟨r,hr⟩:=ex (mtB x y a b p q c d);rw [hr] at HM ⊢;clear hk hr;go_enter func84,ntmps84;go_wp2_with (go_at_call 120;refine (HM _).out.mono ?_;rintro e w1 ⟨rfl,hb1⟩);go_ret;exact ⟨rfl,bt (bt (zA5 _ _ _) hb1) (zAk _ _)⟩
def plc (l:List Bd) (i:Int):Int:=if zBm l i=true then (pos l i:Nat) else -1
end
def zHn (l:List Bd) (t:Bd):Bool:=l.any (fun s=>mtB s.x s.y s.a s.b t.x t.y t.a t.b)
def zC0 (W H:Int) (l:List Bd) (t:Bd):Int:=
 if mb W H t=false then 1 else if zBm l t.id=true then 8 else if 256<=l.length then 2 else if zHn l t=true then 6 else 0
theorem zG7 {t:Bd} {W H:Int} {w:World} {c:Bool} (h:mb W H t=c):Calls pg 83 #[t.v,rct 0 0 W H] w fun e w'=>e = .returned (.bool c)/\Below w.heap.size w w':=by subst h;exact zKc t W H w
theorem zMw {x y a b p q c d:Int} {w:World} {o:Bool} (h:mtB x y a b p q c d=o):Calls pg 84 #[rct x y a b,rct p q c d] w fun e w'=>e = .returned (.bool o)/\Below w.heap.size w w':=by subst h;exact zPo x y a b p q c d w
def Bd.has (t:Bd) (u v:Int):Bool:=YthiafmlgialbnaaGreatDoor.has t.x t.y t.a t.b u v
def Bd.mt (s t:Bd):Bool:=mtB s.x s.y s.a s.b t.x t.y t.a t.b
theorem zAy (x y a b u v:Int):has x y a b u v=true↔may x y a b=true/\x<=u/\u<=x+a-1/\y<=v/\v<=y+b-1:=by simp [has]
theorem zJb (x y a b p q c d:Int):mtB x y a b p q c d=true↔∃u v,has x y a b u v=true/\has p q c d u v=true:=by
 constructor
 ·intro h;simp only [mtB,Bool.and_eq_true,decide_eq_true_eq] at h;obtain ⟨h1,h2,h3,h4⟩:=h;exact ⟨max x p,max y q,(zAy _ _ _ _ _ _).2 ⟨h1,by omega,by omega,by omega,by omega⟩,(zAy _ _ _ _ _ _).2 ⟨h2,by omega,by omega,by omega,by omega⟩⟩
 ·rintro ⟨u,v,h1,h2⟩;obtain ⟨m1,a1,a2,a3,a4⟩:=(zAy _ _ _ _ _ _).1 h1;obtain ⟨m2,b1,b2,b3,b4⟩:=(zAy _ _ _ _ _ _).1 h2;simp only [mtB,Bool.and_eq_true,decide_eq_true_eq];exact ⟨m1,m2,by omega,by omega⟩
theorem Bd.mt_iff (s t:Bd):s.mt t=true↔∃u v,s.has u v=true/\t.has u v=true:=zJb _ _ _ _ _ _ _ _
theorem Bd.mt_comm (s t:Bd):s.mt t=t.mt s:=by
 rw [Bool.eq_iff_iff,Bd.mt_iff,Bd.mt_iff];exact ⟨fun ⟨u,v,h,k⟩=>⟨u,v,k,h⟩,fun ⟨u,v,h,k⟩=>⟨u,v,k,h⟩⟩
theorem zMd {x y a b u v:Int} (h:has x y a b u v=true):W64 u/\W64 v:=by
 obtain ⟨m,h1,h2,h3,h4⟩:=(zAy _ _ _ _ _ _).1 h;have:=(zA0 _ _ _ _).1 m;exact ⟨zAx (by omega),zAx (by omega)⟩
theorem zD3 (x y a b:Int) (q:Cel):q∈zEe x y a b↔has x y a b q.1.1 q.1.2=true:=by
 rw [zAy]
 by_cases hm:may x y a b=true
 ·have hb:=(zA0 _ _ _ _).1 hm;obtain ⟨A,hA⟩:∃A:Nat,a.toNat=A:=⟨_,rfl⟩
  obtain ⟨B,hB⟩:∃B:Nat,b.toNat=B:=⟨_,rfl⟩
  have hA':a=(A:Int):=by omega
  have hB':b=(B:Int):=by omega
  have hA0:0<A:=by omega
  rw [zEe,if_pos hm,hA,hB];simp only [upto,List.mem_map,List.mem_range];constructor
  ·rintro ⟨i,hi,rfl⟩;have h1:i%A<A:=Nat.mod_lt _ hA0;have h2:i/A<B:=by rw [Nat.div_lt_iff_lt_mul hA0];exact hi
   unfold zC9;obtain ⟨m,hm1⟩:∃m:Nat,i%A=m:=⟨_,rfl⟩
   obtain ⟨d,hd1⟩:∃d:Nat,i/A=d:=⟨_,rfl⟩
   rw [hm1] at h1 ⊢;rw [hd1] at h2 ⊢;clear hm1 hd1 hi
   have hw:W64 (x+(m:Nat),y+(d:Nat)).1/\W64 (x+(m:Nat),y+(d:Nat)).2:=by
    dsimp only;exact ⟨zAx (by omega),zAx (by omega)⟩
   rw [zKk hw];dsimp only;exact ⟨hm,by omega,by omega,by omega,by omega⟩
  ·rintro ⟨-,h1,h2,h3,h4⟩;obtain ⟨j,hj⟩:∃j:Nat,q.1.1=x+(j:Nat):=⟨(q.1.1-x).toNat,by omega⟩
   obtain ⟨k,hk⟩:∃k:Nat,q.1.2=y+(k:Nat):=⟨(q.1.2-y).toNat,by omega⟩
   have hjA:j<A:=by omega
   have hkB:k<B:=by omega
   refine ⟨k*A+j,zP4 hkB hjA (Nat.le_refl _),?_⟩;apply Subtype.ext
   have he:zC9 x y A (k*A+j)=q.1:=by
    rw [zFr x y A k j hjA];exact Prod.ext hj.symm hk.symm
   rw [zKk (by rw [he];exact q.2),he]
 ·rw [zEe,if_neg hm];simp [hm]
theorem zU2 (x y a b u v:Int):(zEe x y a b).any (fun q=>decide (q.1.1=u/\q.1.2=v))=has x y a b u v:=by
 rw [Bool.eq_iff_iff,List.any_eq_true];constructor
 ·rintro ⟨q,hq,h⟩;obtain ⟨rfl,rfl⟩:=of_decide_eq_true h;exact (zD3 _ _ _ _ _).1 hq
 ·intro h;exact ⟨⟨(u,v),zMd h⟩,(zD3 _ _ _ _ _).2 h,by simp⟩
def zB4 (l:List Bd):Int->Int->Option Int:=fun u v=>(l.find? (fun t=>t.has u v)).map Bd.id
theorem zN2 (l:List Bd) (t:Bd):zDl (zB4 l) t.x t.y t.a t.b=zHn l t:=by
 rw [Bool.eq_iff_iff,zDl,zHn,List.any_eq_true,List.any_eq_true];constructor
 ·rintro ⟨q,hq,h⟩;simp only [zB4,Option.isSome_map,List.find?_isSome] at h;obtain ⟨s,hs,hh⟩:=h;exact ⟨s,hs,(zJb _ _ _ _ _ _ _ _).2 ⟨_,_,hh,(zD3 _ _ _ _ _).1 hq⟩⟩
 ·rintro ⟨s,hs,h⟩;obtain ⟨u,v,h1,h2⟩:=(zJb _ _ _ _ _ _ _ _).1 h;refine ⟨⟨(u,v),zMd h2⟩,(zD3 _ _ _ _ _).2 h2,?_⟩;simp only [zB4,Option.isSome_map,List.find?_isSome];exact ⟨s,hs,h1⟩
theorem zNq (W H:Int) (l:List Bd) (t:Bd):zMj W H (zB4 l) l t=zC0 W H l t:=by unfold zMj zC0;rw [zN2]
theorem zUx {l:List Bd} {t s:Bd} (h:zHn l t=false) (hs:s∈l) {u v:Int} (ht:t.has u v=true):s.has u v=false:=by
 rw [Bool.eq_false_iff];intro hh;have:=List.any_eq_false.1 h s hs;exact this ((zJb _ _ _ _ _ _ _ _).2 ⟨u,v,hh,ht⟩)
theorem zHi {l:List Bd} {u v:Int} (h:∀s∈l,s.has u v=false):l.find? (fun t=>t.has u v)=none:=by
 rw [List.find?_eq_none];intro s hs;simp [h s hs]
theorem zWl {l1 l2:List Bd} {t:Bd} (h:zHn (l1++l2) t=false):zCp (zB4 (l1++l2)) (zEe t.x t.y t.a t.b) t.id=zB4 (l1++t::l2):=by
 funext u v
 unfold zCp;rw [zU2,show has t.x t.y t.a t.b u v=t.has u v from rfl];unfold zB4;rw [List.find?_append,List.find?_append,List.find?_cons]
 by_cases ht:t.has u v=true
 ·rw [if_pos ht,zHi (l:=l1) (fun s hs=>zUx h (List.mem_append_left _ hs) ht),ht];rfl
 ·rw [if_neg ht,show t.has u v=false by simpa using ht]
theorem zPa {l:List Bd} {t:Bd} (h:zHn l t=false):zCp (zB4 l) (zEe t.x t.y t.a t.b) t.id=zB4 (ins l t):=by
 have:=zWl (l1:=l.take (pos l t.id)) (l2:=l.drop (pos l t.id)) (t:=t) (by rw [List.take_append_drop];exact h)
 rwa [List.take_append_drop] at this
def qCn (l:List Bd):Prop:=l.Pairwise (fun s t=>s.mt t=false)
theorem zSv {l:List Bd} {k:Nat} {t:Bd} (ht:l[k]? = some t):l=l.take k++t::l.drop (k+1):=by
 obtain ⟨hk,rfl⟩:=List.getElem?_eq_some_iff.1 ht;rw [<-List.drop_eq_getElem_cons hk,List.take_append_drop]
structure Fine (W H:Int) (l:List Bd):Prop where
 sorted:zBv l
 len:l.length<=256
 all:∀t∈l,mb W H t=true
 apart:qCn l
theorem Fine.nil (W H:Int):Fine W H []:=⟨List.Pairwise.nil,by simp,by simp,List.Pairwise.nil⟩
theorem zB2 {W H:Int} {l:List Bd} {t:Bd} (h:zC0 W H l t=0):mb W H t=true/\zBm l t.id=false/\l.length<256/\zHn l t=false:=by
 unfold zC0 at h;cases h1:mb W H t
 ·simp [h1] at h
 ·cases h2:zBm l t.id
  ·by_cases h3:256<=l.length
   ·simp [h1,h2,h3] at h
   ·cases h4:zHn l t
    ·exact ⟨rfl,rfl,by omega,rfl⟩
    ·simp [h1,h2,h3,h4] at h
  ·simp [h1,h2] at h
theorem zOm {W H:Int} {l:List Bd} {t:Bd} (h1:mb W H t=true) (h2:zBm l t.id=false) (h3:l.length<256) (h4:zHn l t=false):zC0 W H l t=0:=by
 unfold zC0;simp [h1,h2,h4];omega
theorem zWp {l:List Bd} {i:Int}:∀s∈l.take (pos l i),s.id<i:=by
 induction l with
 |nil=>simp
 |cons t r ih =>
  intro s hs
  by_cases h:t.id<i
  ·rw [show pos (t::r) i=pos r i+1 by simp [pos,h],List.take_succ_cons] at hs;rcases List.mem_cons.1 hs with rfl|hs
   ·exact h
   ·exact ih s hs
  ·rw [show pos (t::r) i=0 by simp [pos,h],List.take_zero] at hs;cases hs
theorem zZc {l:List Bd} {i:Int} (hs:zBv l) (hf:zBm l i=false):∀s∈l.drop (pos l i),i<s.id:=by
 intro s hm;obtain ⟨j,hj,rfl⟩:=List.getElem_of_mem hm;rw [List.length_drop] at hj;rw [List.getElem_drop];have hlt:pos l i+j<l.length:=by omega
 have h1:=zHb hs i (pos l i+j) l[pos l i+j] (List.getElem?_eq_getElem hlt)
 have h2:l[pos l i+j].id≠i:=fun e=>by
  rw [zBm,List.any_eq_false] at hf;exact hf _ (List.getElem_mem hlt) (by simpa using e)
 omega
theorem Fine.ins {W H:Int} {l:List Bd} {t:Bd} (h:Fine W H l) (h0:zC0 W H l t=0):Fine W H (YthiafmlgialbnaaGreatDoor.ins l t):=by
 obtain ⟨h1,h2,h3,h4⟩:=zB2 h0;have hl:l.take (pos l t.id)++l.drop (pos l t.id)=l:=List.take_append_drop _ _;have hs:=h.sorted;have ha:=h.apart;have hlt:=@zWp l t.id;have hgt:=zZc hs h2;have hb:∀s∈l,s.mt t=false:=fun s hm=>Bool.eq_false_iff.2 (List.any_eq_false.1 h4 s hm);refine ⟨?_,by rw [zQ2];omega,?_,?_⟩
 ·unfold zBv YthiafmlgialbnaaGreatDoor.ins at *;rw [<-hl] at hs;obtain ⟨a1,a2,a3⟩:=List.pairwise_append.1 hs;refine List.pairwise_append.2 ⟨a1,List.pairwise_cons.2 ⟨hgt,a2⟩,fun a ha b hb=>?_⟩;rcases List.mem_cons.1 hb with rfl|hb
  ·exact hlt a ha
  ·exact a3 a ha b hb
 ·intro s hm;unfold YthiafmlgialbnaaGreatDoor.ins at hm;rcases List.mem_append.1 hm with hm|hm
  ·exact h.all s (List.mem_of_mem_take hm)
  ·rcases List.mem_cons.1 hm with rfl|hm
   ·exact h1
   ·exact h.all s (List.mem_of_mem_drop hm)
 ·unfold qCn YthiafmlgialbnaaGreatDoor.ins at *;rw [<-hl] at ha;obtain ⟨a1,a2,a3⟩:=List.pairwise_append.1 ha;refine List.pairwise_append.2 ⟨a1,List.pairwise_cons.2 ⟨fun s hm=>?_,a2⟩,fun a ha b hb'=>?_⟩
  ·rw [Bd.mt_comm];exact hb s (List.mem_of_mem_drop hm)
  ·rcases List.mem_cons.1 hb' with rfl|hb'
   ·exact hb a (List.mem_of_mem_take ha)
   ·exact a3 a ha b hb'
def chk (W H:Int):List Bd->List Bd->Bool
 |_,[]=>true
 |done,t::r=>mb W H t&&(done.all (fun s=>decide (s.id<t.id) && !s.mt t)&&chk W H (done++[t]) r)
theorem qBg {W H:Int} {t:Bd} (h:mb W H t=true):1<=t.id/\t.id<=2147483647:=by
 simp only [mb,Bool.and_eq_true,decide_eq_true_eq] at h;exact ⟨h.1,h.2.1⟩
theorem zL4 {l:List Bd} {i:Int} (hs:zBv l) (hi:1<=i):zEd l<i↔∀s∈l,s.id<i:=by
 rcases List.eq_nil_or_concat l with rfl|⟨r,t,rfl⟩
 ·simp [zEd];omega
 ·rw [List.concat_eq_append] at hs ⊢;rw [zEk];constructor
  ·intro h s hm;rcases List.mem_append.1 hm with hm|hm
   ·have:=(List.pairwise_append.1 hs).2.2 s hm t (by simp);omega
   ·rw [List.mem_singleton.1 hm];exact h
  ·intro h;exact h t (by simp)
theorem zXt {l:List Bd} {i:Int} (h:∀s∈l,s.id<i):pos l i=l.length:=zLw h
theorem zJi {l:List Bd} {t:Bd} (h:∀s∈l,s.id<t.id):ins l t=l++[t]:=by
 unfold ins;rw [zXt h];simp
theorem zL0 (W H:Int):∀(rest done:List Bd),Fine W H done->zGr done=zB4 done->okL W H done rest=(decide (done.length+rest.length<=256)&&chk W H done rest)
 | [],done,hf,hw=>by
  have:=hf.len;simp [okL,chk,this]
 |t::r,done,hf,hw=>by
  rw [okL,chk,hw,zNq]
  by_cases h1:mb W H t=true
  ·have hid:=qBg h1
   by_cases h2:zEd done<t.id
   ·have h2':=(zL4 hf.sorted hid.1).1 h2
    have hnf:zBm done t.id=false:=by
     rw [zBm,List.any_eq_false];intro s hm;have:=h2' s hm;simp;omega
    by_cases h3:zHn done t=false
    ·have hall:done.all (fun s=>decide (s.id<t.id) && !s.mt t)=true:=by
      rw [List.all_eq_true];intro s hm;have h5:s.mt t=false:=Bool.eq_false_iff.2 (List.any_eq_false.1 h3 s hm);simp [h2' s hm,h5]
     by_cases h4:done.length<256
     ·have hc:=zOm (W:=W) (H:=H) h1 hnf h4 h3;have hf':=hf.ins hc;rw [zJi h2'] at hf'
      have hw':zGr (done++[t])=zB4 (done++[t]):=by
       rw [zGq,hw,zPa h3,zJi h2']
      rw [zL0 W H r (done++[t]) hf' hw',hc,hall,h1,decide_eq_true h2];have he:(done++[t]).length+r.length=done.length+(t::r).length:=by simp;omega
      rw [he];simp
     ·have hc:zC0 W H done t≠0:=fun hc=>h4 (zB2 hc).2.2.1;have h6:¬done.length+(t::r).length<=256:=by simp;omega
      rw [decide_eq_false hc,decide_eq_false h6];simp
    ·have hc:zC0 W H done t≠0:=fun hc=>h3 (zB2 hc).2.2.2
     have hall:done.all (fun s=>decide (s.id<t.id) && !s.mt t)=false:=by
      rw [Bool.eq_false_iff];intro ha;apply h3;rw [zHn,List.any_eq_false];intro s hm;have:=List.all_eq_true.1 ha s hm;simp only [Bool.and_eq_true,Bool.not_eq_true'] at this;show ¬s.mt t=true;rw [this.2];simp
     rw [decide_eq_false hc,hall];simp
   ·have hall:done.all (fun s=>decide (s.id<t.id) && !s.mt t)=false:=by
     rw [Bool.eq_false_iff];intro ha;apply h2;refine (zL4 hf.sorted hid.1).2 (fun s hm=>?_);have:=List.all_eq_true.1 ha s hm;simp only [Bool.and_eq_true,decide_eq_true_eq] at this;exact this.1
    rw [decide_eq_false h2,hall];simp
  ·have hc:zC0 W H done t≠0:=fun hc=>h1 (zB2 hc).1;rw [decide_eq_false hc,show mb W H t=false by simpa using h1];simp
theorem zM7 (W H:Int):∀(rest done:List Bd),Fine W H done->zGr done=zB4 done->okL W H done rest=true->Fine W H (done++rest)/\zGr (done++rest)=zB4 (done++rest)
 | [],done,hf,hw,h=>by rw [List.append_nil];exact ⟨hf,hw⟩
 |t::r,done,hf,hw,h=>by
  rw [okL,hw,zNq] at h;simp only [Bool.and_eq_true,decide_eq_true_eq] at h;obtain ⟨h1,h2,h3⟩:=h;obtain ⟨k1,k2,k3,k4⟩:=zB2 h2;have h2':=(zL4 hf.sorted (qBg k1).1).1 h1;have hf':=hf.ins h2;rw [zJi h2'] at hf';have hw':zGr (done++[t])=zB4 (done++[t]):=by rw [zGq,hw,zPa k4,zJi h2']
  have:=zM7 W H r (done++[t]) hf' hw' h3;simpa using this
def zK6 (W H:Int) (tl:List Nat) (x y:Int):Int:=if has 0 0 W H x y=true then (tl.getD (y*W+x).toNat 0:Nat) else 0
theorem zVw {W H x y:Int} {tl:List Nat} (hm:mt W H tl=true) (h:has 0 0 W H x y=true):∃(k n:Nat) (z:Int),tl[k]? = some n/\zK6 W H tl x y=(n:Nat)/\IntKind.i64.wrap (y*W)=z/\IntKind.i64.wrap (z+x)=(k:Nat)/\(k:Int)<(tl.length:Nat)/\(0:Int)<=(k:Int)/\(tl.length:Int)<=16384:=by
 simp only [mt,Bool.and_eq_true,decide_eq_true_eq] at hm;obtain ⟨h1,h2,h3,-⟩:=hm;have ha:=qCf h1 h2;simp only [gs,decide_eq_true_iff] at h1 h2;obtain ⟨-,b1,b2,b3,b4⟩:=(zAy _ _ _ _ _ _).1 h;have m1:y*W<=(H-1)*W:=Int.mul_le_mul_of_nonneg_right (by omega) (by omega);have m2:0<=y*W:=Int.mul_nonneg (by omega) (by omega);rw [Int.sub_mul,Int.mul_comm H W,Int.one_mul] at m1;have ht:zK6 W H tl x y=(tl.getD (y*W+x).toNat 0:Nat):=by rw [zK6,if_pos h]
 obtain ⟨z,hz⟩:=ex (y*W);rw [hz] at m1 m2 ht ⊢;have hk:(z+x).toNat<tl.length:=by omega
 refine ⟨(z+x).toNat,tl[(z+x).toNat],z,List.getElem?_eq_getElem hk,?_,?_,?_,by omega,by omega,by omega⟩
 ·rw [ht,List.getD_eq_getElem?_getD,List.getElem?_eq_getElem hk];rfl
 ·rw [IntKind.wrap_i64];omega
 ·rw [IntKind.wrap_i64];omega
theorem zIr (p bm:Nat) (W H:Int) (tv bv ev:Value) (tl:List Nat) (x y:Int) (w:World) (hd:Wd w p W H tv bv bm ev) (ht:Tls w tv tl) (hm:mt W H tl=true) (hb:∀n∈tl,n<256) :
 Calls pg 190 #[ptr p,cel x y] w fun e w'=>e = .returned (.tuple #[O ii (zK6 W H tl x y),.bool (has 0 0 W H x y)])/\Below w.heap.size w w':=by
 obtain ⟨X,hX⟩:=ex (w.alloc (.cells #[O ii x,O ii y] 47));have B0:Below w.heap.size w X:=hX▸zAk _ _;have T0:Turns NoB w X:=Turns.of_below B0;have bX:Two X w.heap.size x y:=hX▸Two.newAt rfl;obtain ⟨d0,d1⟩:=bX.lat
 have key:∀n:Lat X,Wd n.w p W H tv bv bm ev/\Tls n.w tv tl:=fun n=>by
  have T:Turns NoB X n.w:=Turns.of_below n.h;exact ⟨(hd.kept T0 id).kept T id,(ht.kept T0 (fun _ _=>id)).kept T (fun _ _=>id)⟩
 have HK:=zAc key;obtain ⟨a,cap,rfl,hcap,hmax,hat⟩:=ht.form;have c0:∀n:Lat X,n.w.cell? ⟨p,0,none⟩=some (O ii 0):=fun n=>(key n).1.c 0;have c1:∀n:Lat X,n.w.cell? ⟨p,1,none⟩=some (O ii 0):=fun n=>(key n).1.c 1;have c2:∀n:Lat X,n.w.cell? ⟨p,2,none⟩=some (O ii W):=fun n=>(key n).1.c 2;have c3:∀n:Lat X,n.w.cell? ⟨p,3,none⟩=some (O ii H):=fun n=>(key n).1.c 3;have c4:∀n:Lat X,n.w.cell? ⟨p,4,none⟩=some (.slice a tl.length cap):=fun n=>(key n).1.c 4;have hne:=zAq X;cases h:has 0 0 W H x y
 ·have HB:=zAc h;rw [show zK6 W H tl x y=0 by simp [zK6,h]];clear key hd ht T0 bX hat h;go_enter func190,ntmps190;go_wp2_with fail;clear hX;refine zAh (by kernel_rfl) (by kernel_rfl) ?_;repeat (go_big_quiet_step (first|(go_at_call 41;exact zA3 (zHf (HK.out _).1))|(go_at_call 122;exact zAi (zBy _ HB.out))))
  refine wpQuiet_nil ?_;rintro _ ⟨n,rfl⟩;go_wp2_with fail;go_ret2
  exact ⟨rfl,bt B0 n.h⟩
 ·have HB:=zAc h;obtain ⟨k,u,z,hu,hter,hw1,hw2,hki,hk0,hlI⟩:=zVw hm h;obtain ⟨g,hga,hg,hcell⟩:=hat k u hu;subst hga;have hub:u<256:=hb u (List.mem_of_getElem? hu);have hub':(0:Int)<=(u:Nat)/\((u:Nat):Int)<256:=by omega
  have hcell':∀n:Lat X,n.w.cell? ⟨g,k,none⟩=some (.int .u8 (u:Nat)):=fun n=>by
   obtain ⟨a',cap',he',_,_,hform⟩:=(HK.out n).2.form;obtain ⟨g',hgg,_,q⟩:=hform k u hu;rw [hgg] at he';injection he' with h1 h2 h3
   injection h1 with h1
   injection h1 with h1
   subst h1;exact q
  rw [hter];clear key hd ht T0 bX hat h hter hu hcell hb hm;go_enter func190,ntmps190;go_wp2_with fail;clear hX;refine zAh (by kernel_rfl) (by kernel_rfl) ?_;repeat (go_big_quiet_step (first|(go_at_call 41;exact zA3 (zHf (HK.out _).1))|(go_at_call 122;exact zAi (zBy _ HB.out))))
  refine wpQuiet_nil ?_;rintro _ ⟨n,rfl⟩;go_wp2_with fail;have e0:∀m:Lat n.w,m.w.cell? ⟨w.heap.size,0,none⟩=some (O ii x):=fun m=>d0 ⟨m.w,bt n.h m.h⟩;have e1:∀m:Lat n.w,m.w.cell? ⟨w.heap.size,1,none⟩=some (O ii y):=fun m=>d1 ⟨m.w,bt n.h m.h⟩;have e2:∀m:Lat n.w,m.w.cell? ⟨p,2,none⟩=some (O ii W):=fun m=>c2 ⟨m.w,bt n.h m.h⟩;have e4:∀m:Lat n.w,m.w.cell? ⟨p,4,none⟩=some (.slice (some ⟨g,0,none⟩) tl.length cap):=fun m=>c4 ⟨m.w,bt n.h m.h⟩;have e5:∀m:Lat n.w,m.w.cell? ⟨g,k,none⟩=some (.int .u8 (u:Nat)):=fun m=>hcell' ⟨m.w,bt n.h m.h⟩;have hne2:=zAq n.w;clear d0 d1 c0 c1 c2 c3 c4 hcell' hne;refine zAh (by kernel_rfl) (by kernel_rfl) ?_;repeat (go_big_quiet_step (fail))
  refine wpQuiet_nil ?_;rintro _ ⟨m,rfl⟩;go_wp2_with fail;go_ret2
  exact ⟨rfl,bt B0 (bt n.h m.h)⟩
abbrev Z4 (w:World):World:=w.alloc (.cells #[O ii 0,O ii 0,O ii 0,O ii 0] 49)
theorem zR5 (p bm:Nat) (W H:Int) (tv bv ev:Value) (w:World) (hd:Wd w p W H tv bv bm ev):Calls pg 26 #[ptr p] w fun e w'=>e = .returned (rct 0 0 W H)/\Below w.heap.size w w':=by
 have B0:Below w.heap.size w (Z4 w):=zAk _ _;have hd0:Wd (Z4 w) p W H tv bv bm ev:=hd.kept (Turns.of_below (S:=NoB) B0) id;have HM:=zAc (zHf hd0);have c0:(Z4 w).cell? ⟨p,0,none⟩=some (O ii 0):=hd0.c 0;have c1:(Z4 w).cell? ⟨p,1,none⟩=some (O ii 0):=hd0.c 1;have c2:(Z4 w).cell? ⟨p,2,none⟩=some (O ii W):=hd0.c 2;have c3:(Z4 w).cell? ⟨p,3,none⟩=some (O ii H):=hd0.c 3;have hp:=hd.lt;obtain ⟨⟨g0,g1,g2,g3⟩,⟨f0,f1,f2,f3⟩,zz⟩:Four (Z4 w) w.heap.size 0 0 0 0:=zA2 (Below.refl _ _);clear hd0 hd;go_enter func26,ntmps26;go_wp2_with (go_at_call 41;refine HM.out.mono ?_;rintro e w1 ⟨rfl,rfl⟩);refine bodyPost_ret (v:=rct 0 0 W H) (by simp [results,Tryz.results26,go_sem]) rfl ⟨rfl,?_⟩;exact zAk _ _
section
open Go.Shelf
def Wl (w:World) (p:Nat) (W H:Int) (tl:List Nat) (f:Int->Int->Option Int):Prop:=
 (mt W H tl=true/\∀n∈tl,n<256)/\∃(bm n:Nat) (tv bv ev:Value),Wd w p W H tv bv bm ev/\Tls w tv tl/\Who w bm n f
theorem Wl.kept {w w':World} {p:Nat} {W H:Int} {tl:List Nat} {f:Int->Int->Option Int} (h:Wl w p W H tl f) (hb:Below w.heap.size w w'):Wl w' p W H tl f:=by
 obtain ⟨h0,bm,n,tv,bv,ev,h1,h2,h3⟩:=h;have T:Turns NoB w w':=Turns.of_below hb;exact ⟨h0,bm,n,tv,bv,ev,h1.kept T id,h2.kept T (fun _ _=>id),h3.kept T id⟩
def zUu (W H:Int) (tl:List Nat) (f:Int->Int->Option Int) (c x y:Int):Bool:=has 0 0 W H x y&&(!(f x y).isSome&&onB c (zK6 W H tl x y))
theorem zWo {w:World} {p:Nat} {W H:Int} {tl:List Nat} {f:Int->Int->Option Int} (x y:Int) {b:Bool} {t:Int} (h:Wl w p W H tl f) (hb:has 0 0 W H x y=b) (ht:zK6 W H tl x y=t) :
 Calls pg 190 #[ptr p,cel x y] w fun e w'=>e = .returned (.tuple #[O ii t,.bool b])/\Below w.heap.size w w':=by
 obtain ⟨⟨h0,h00⟩,bm,n,tv,bv,ev,h1,h2,h3⟩:=h;subst hb;subst ht;exact zIr p bm W H tv bv ev tl x y w h1 h2 h0 h00
theorem qDf {w:World} {p:Nat} {W H:Int} {tl:List Nat} {f:Int->Int->Option Int} (x y:Int) (hx:W64 x) (hy:W64 y) {b:Bool} {t:Int} (h:Wl w p W H tl f) (hb:(f x y).isSome=b) (ht:(f x y).getD 0=t) :
 Calls pg 191 #[ptr p,cel x y] w fun e w'=>e = .returned (.tuple #[O ii t,.bool b])/\Below w.heap.size w w':=by
 obtain ⟨⟨h0,h00⟩,bm,n,tv,bv,ev,h1,h2,h3⟩:=h;subst hb;subst ht;exact zU0 p bm n W H tv bv ev f x y hx hy w h1 h3
theorem zMo (p:Nat) (W H:Int) (tl:List Nat) (f:Int->Int->Option Int) (c x y:Int) (hx:W64 x) (hy:W64 y) (w:World) (hw:Wl w p W H tl f) (hg:Grnd w) :
 Calls pg 161 #[ptr p,O ii c,cel x y] w fun e w'=>e = .returned (.bool (zUu W H tl f c x y))/\Below w.heap.size w w':=by
 have B0:Below w.heap.size w (w.alloc (.cells #[O ii x,O ii y] 47)):=zAk _ _;have HW:=zAc (hw.kept B0);have HG:=zAc (hg.kept B0);obtain ⟨t,ht⟩:=ex (zK6 W H tl x y);obtain ⟨i,hi⟩:=ex ((f x y).getD 0);cases hb:has 0 0 W H x y<;>cases hs:(f x y).isSome
 all_goals
  have Hb:=zAc hb;have Hs:=zAc hs;have Ht:=zAc ht;have Hi:=zAc hi;clear hw hg hb hs ht hi;go_enter func161,ntmps161;go_wp2_with fail;refine (zWo x y HW.out Hb.out Ht.out).mono ?_;rintro e w1 ⟨rfl,hb1⟩;obtain ⟨⟨c0,c1⟩,-,-⟩:=zDm hb1;have H1:=zAc hb1;clear hb1;go_wp2_with fail;refine (qDf x y hx hy (HW.out.kept H1.out) Hs.out Hi.out).mono ?_;rintro e w2 ⟨rfl,hb2⟩;have H2:=zAc hb2;clear hb2 c0 c1;go_wp2_with (go_at_call 192;refine (qA4 _ _ _ (HG.out.kept (bt H1.out H2.out))).mono ?_;rintro e w3 ⟨rfl,rfl⟩);go_ret;exact ⟨zAm (by simp [zUu,Hb.out,Hs.out,Ht.out]),bt B0 (bt H1.out H2.out)⟩
attribute [local go_sem] Oper.semAt_some
def stU (W H:Int) (tl:List Nat) (f:Int->Int->Option Int) (c u v k:Int):Bool:=wi u v k k 0 0 W H&&(zEe u v k k).all (fun q=>zUu W H tl f c q.1.1 q.1.2)
def stB (W H:Int) (tl:List Nat) (f:Int->Int->Option Int) (c s x y:Int):Bool:=stU W H tl f c (fi c s x y x) (fi c s x y y) (fi c s x y s)
theorem zHr {w:World} {p:Nat} {W H:Int} {tl:List Nat} {f:Int->Int->Option Int} (h:Wl w p W H tl f) :
 Calls pg 26 #[ptr p] w fun e w'=>e = .returned (rct 0 0 W H)/\Below w.heap.size w w':=by
 obtain ⟨-,bm,n,tv,bv,ev,h1,-,-⟩:=h;exact zR5 p bm W H tv bv ev w h1
theorem Two.upto {n₀:Nat} {W W':World} {k:Nat} {u v:Int} (h:Two W k u v) (hB:Below n₀ W W') (hk:k<n₀):Two W' k u v:=
 ⟨⟨(hB.cell (p:=⟨k,0,none⟩) hk).trans h.1.1,(hB.cell (p:=⟨k,1,none⟩) hk).trans h.1.2⟩,⟨(hB.frozen (p:=⟨k,0,none⟩) hk).trans h.2.1.1,(hB.frozen (p:=⟨k,1,none⟩) hk).trans h.2.1.2⟩,Nat.lt_of_lt_of_le h.2.2 hB.size⟩
theorem zIm {w:World} {p:Nat} {W H:Int} {tl:List Nat} {f:Int->Int->Option Int} {c x y:Int} (hx:W64 x) (hy:W64 y) {b:Bool} (hw:Wl w p W H tl f) (hg:Grnd w) (h:zUu W H tl f c x y=b) :
 Calls pg 161 #[ptr p,O ii c,cel x y] w fun e w'=>e = .returned (.bool b)/\Below w.heap.size w w':=by subst h;exact zMo p W H tl f c x y hx hy w hw hg
abbrev W4 (w:World) (p:Nat) (c s x y:Int):World:=(((w.alloc (.cells #[ptr p] 29)).alloc (.cells #[O ii c,O ii s] 27)).alloc (.cells #[O ii x,O ii y] 47)).alloc (.cells #[.bool false] 4)
theorem zSl (w:World) (p:Nat) (c s x y:Int):Below w.heap.size w (W4 w p c s x y):=bt (zA5 _ _ _) (zA5 _ _ _)
theorem zWm (w:World) (p:Nat) (c s x y:Int):(W4 w p c s x y).heap.size=w.heap.size+4:=by simp
theorem qAh (w:World) (p:Nat) (c s x y:Int):Boxed (W4 w p c s x y) w.heap.size 29 (ptr p):=(((Boxed.new w 29 (ptr p)).alloc _).alloc _).alloc _
theorem zSk (w:World) (p:Nat) (c s x y:Int):Two (W4 w p c s x y) (w.heap.size+1) c s:=by
 have:=((Two.newAt (w:=w.alloc (.cells #[ptr p] 29)) (k:=w.heap.size+1) (u:=c) (v:=s) (t:=27) (by simp)).alloc (o:=.cells #[O ii x,O ii y] 47)).alloc (o:=.cells #[.bool false] 4);exact this
theorem qAg (w:World) (p:Nat) (c s x y:Int):Boxed (W4 w p c s x y) (w.heap.size+1+1+1) 4 (.bool false):=by
 have:=Boxed.new (((w.alloc (.cells #[ptr p] 29)).alloc (.cells #[O ii c,O ii s] 27)).alloc (.cells #[O ii x,O ii y] 47)) 4 (.bool false);simpa using this
theorem zE7 (p:Nat) (W H:Int) (tl:List Nat) (f:Int->Int->Option Int) (c s x y:Int) (w:World) (hw:Wl w p W H tl f) (hg:Grnd w) :
 Calls pg 126 #[ptr p,shv c s,cel x y] w fun e w'=>e = .returned (.bool (stB W H tl f c s x y))/\Below w.heap.size w w':=by
 have HF:=zAc (zT9 c s x y (W4 w p c s x y));unfold ftV at HF;unfold stB;obtain ⟨u,hu⟩:=ex (fi c s x y x);obtain ⟨v,hv⟩:=ex (fi c s x y y);obtain ⟨k,hk⟩:=ex (fi c s x y s);rw [hu,hv,hk] at HF ⊢;clear hu hv hk;have B4:=zSl w p c s x y;have z4:=zWm w p c s x y;have P4:=qAh w p c s x y;have S4:=zSk w p c s x y;have R4:=qAg w p c s x y;refine (callsIn_wide (n:=10)).1 ?_;refine callsIn_of_wp_marks func126 rfl trivial ?_ rfl;simp only [ntmps126,List.size_toArray,List.length_cons,List.length_nil,Nat.reduceAdd,Nat.reduceSub,Array.replicate_succ,Array.replicate_zero,List.push_toArray,List.append_toArray,List.nil_append,List.cons_append];gi_wp2_with fail;refine ⟨trivial,?_⟩;refine (callsIn_wide.2 HF.out).mono ?_;rintro e w1 ⟨rfl,hb1⟩;clear HF;have z1:=hb1.size;have P1:=zAn P4 hb1 (by omega);have S1:=S4.kept hb1;have R1:=zAn R4 hb1 (by omega);have HB1:=zAc (bt B4 hb1);clear P4 S4 R4 B4 hb1;gi_wp2_with fail;have FX:Four (w1.alloc (.cells #[O ii u,O ii v,O ii k,O ii k] 49)) w1.heap.size u v k k:=zA2 (Below.refl _ _);have BX:Below w1.heap.size w1 (w1.alloc (.cells #[O ii u,O ii v,O ii k,O ii k] 49)):=zAk _ _;obtain ⟨X,hX⟩:=ex (w1.alloc (.cells #[O ii u,O ii v,O ii k,O ii k] 49));have zX:X.heap.size=w1.heap.size+1:=by rw [<-hX];simp
 rw [hX] at FX BX ⊢;clear hX;have TX:∀n:Lat X,Below w.heap.size w n.w:=fun n=>bt (bt HB1.out BX) n.h;have HK:Hid (∀n:Lat X,Wl n.w p W H tl f):=zAc fun n=>hw.kept (TX n);have PX:=zAn P1 BX P1.lt;have c0:∀n:Lat X,n.w.cell? ⟨w.heap.size,0,none⟩=some (ptr p):=fun n=>(n.h.cell (p:=⟨w.heap.size,0,none⟩) PX.lt).trans PX.cell;obtain ⟨d0,d1,d2,d3⟩:=FX.lat;have hne:=zAq X;cases hi:wi u v k k 0 0 W H
 ·have HI:=zAc hi;clear hi;gi_wp2_with fail;refine zBn (by kernel_rfl) (by kernel_rfl) (by kernel_rfl) ?_;repeat (refine wpQuietIn_step (fun _ _ _ _=>trivial) (fun K hK=>?_);go_simp;first|(refine hK _ ?_;clear hK K)|(apply Exists.intro;refine ⟨fun _=>?_,hK _ ?_⟩;first|exact zDj (callsIn_wide.2 (zHr (HK.out _)))|exact zDj (callsIn_wide.2 (zGp _ HI.out));clear hK K))
  refine wpQuietIn_nil ?_;rintro _ ⟨n,rfl⟩;have bR:=zAn (zAn R1 BX R1.lt) n.h (by omega);have cR:=bR.cell;have fR:=bR.frozen;gi_wp2_with fail;have hB:=TX n;refine ⟨.bool false,by simp [results,Tryz.f126,go_sem,cR],by simp [stU,HI.out],hB.setCell (p:=⟨w.heap.size+1+1+1,0,none⟩) (by simp;omega) _⟩
 ·have HI:=zAc hi;clear hi;gi_wp2_with fail;refine zBn (by kernel_rfl) (by kernel_rfl) (by kernel_rfl) ?_;repeat (refine wpQuietIn_step (fun _ _ _ _=>trivial) (fun K hK=>?_);go_simp;first|(refine hK _ ?_;clear hK K)|(apply Exists.intro;refine ⟨fun _=>?_,hK _ ?_⟩;first|exact zDj (callsIn_wide.2 (zHr (HK.out _)))|exact zDj (callsIn_wide.2 (zGp _ HI.out));clear hK K))
  refine wpQuietIn_nil ?_;rintro _ ⟨n,rfl⟩;have hY:=TX n;obtain ⟨⟨g0,g1,g2,g3⟩,-,gz⟩:=Four.kept FX n.h;gi_wp2_with fail;refine ⟨trivial,?_⟩;refine (callsIn_wide.2 (zDu _ _ _ _ _)).mono ?_;rintro e w3 ⟨rfl,rfl⟩;have zY:=n.h.size;have F0:Four (n.w.alloc (.cells #[O ii u,O ii v,O ii k,O ii k] 49)) n.w.heap.size u v k k:=zA2 (Below.refl _ _);have BY:Below n.w.heap.size n.w (n.w.alloc (.cells #[O ii u,O ii v,O ii k,O ii k] 49)):=zAk _ _;have hsz:(n.w.alloc (.cells #[O ii u,O ii v,O ii k,O ii k] 49)).heap.size=n.w.heap.size+1:=by simp
  have bYX:=bt n.h BY;have P0:=zAn PX bYX PX.lt;have R0:=zAn (zAn R1 BX R1.lt) bYX (by omega);have S0:=(S1.kept BX).kept bYX;have HB0:=bt hY BY;clear g0 g1 g2 g3 c0 d0 d1 d2 d3;gi_wp2_with fail;obtain ⟨W0,hW0⟩:=ex (n.w.alloc (.cells #[O ii u,O ii v,O ii k,O ii k] 49));rw [hW0] at F0 BY hsz bYX P0 R0 S0 HB0 ⊢;obtain ⟨C,hC⟩:=ex (n.w.heap.size);rw [hC] at F0 hsz gz zY ⊢;clear hW0;have hi:=HI.out;have hpl:=hw
  refine wpIn_rangeFunc_ownH rfl (by omega) (gf:=86) (lb:=#[ptr C]) rfl trivial (enters_of func86 (by kernel_rfl) rfl)
   (zCs (10-1) C (k.toNat*k.toNat+1) u v k k W0 F0 (fun _=>by omega)) zZ8 (zZ9 (by omega)) (Below.refl _ _) (fun _=>rfl)
   (fun pre W'=>(∀q∈pre,zUu W H tl f c q.1.1 q.1.2=true)/\Below (C+1) W0 W')
   (fun e pre W'=>((e = .ret/\∃q∈pre,zUu W H tl f c q.1.1 q.1.2=false)/\Boxed W' (w.heap.size+1+1+1) 4 (.bool false))/\Below w.heap.size w W')
   (OwnFrom.and (ownFrom_pure _ _) (ownFrom_below (by omega) (by omega)))
   (fun e=>OwnFrom.and (OwnFrom.and (ownFrom_pure _ _) (Own.from (boxed_own _ _ _) _)) (ownFrom_below (Nat.le_refl _) (by omega)))
   ⟨fun q h=>by simp at h,Below.refl _ _⟩
   (fun q a' W'=>∃Bx,C+1<=Bx/\Two W' Bx q.1.1 q.1.2/\a'={ tmps:=#[ptr p,shv c s,cel x y,ptr w.heap.size,ptr (w.heap.size+1),ptr (w.heap.size+1+1),ptr (w.heap.size+1+1+1),ptr w1.heap.size,ptr Bx,shv c s,cel x y,rct u v k k,rct u v k k,ptr p,rct 0 0 W H,.bool true,.bool false,rct u v k k,.func (.func 86) #[] #[ptr C],cel q.1.1 q.1.2,undef,undef,undef,undef,undef,undef],defers:=[] })
   (fun q a' _ X Y row hs hg hr=>by obtain ⟨Bx,e1,e2,e3⟩:=hs;exact ⟨Bx,e1,e2.own hg (fun r e=>(hr r e).2),e3⟩)
   ?assign ?body ?done ?stop
  case assign =>
   rintro l pre q W' K ⟨hp,hB⟩ hK;have hsB:=hB.size;gi_wp2
   exact hK _ _ ((KeepsOthers.alloc _ _).from _) (Below.heap_alloc _ _ _ (by omega)) ⟨hp,hB.alloc (by omega) _⟩ ⟨W'.heap.size,by omega,Two.newAt rfl,rfl⟩
  case body =>
   rintro l pre q a' W' hl ⟨r,hr⟩ ⟨hp,hB⟩ ⟨Bx,hBx,bX,rfl⟩ hlt;have hsB:=hB.size;have bP:=zAn P0 hB (by omega);have bS:=S0.upto hB (by omega);have bR:=zAn R0 hB (by omega);have HBW:Below w.heap.size w W':=HB0.trans (hB.mono (by omega));have cP:=bP.cell;obtain ⟨⟨s0,s1⟩,-,-⟩:=bS;obtain ⟨⟨x0,x1⟩,-,-⟩:=bX;cases hs:zUu W H tl f c q.1.1 q.1.2
   ·have Hs:=zAc hs;clear hs hp;gi_wp2_with fail;refine ⟨trivial,?_⟩;refine (CallsIn.inRound l (callsIn_wide.2 (zIm q.2.1 q.2.2 (hw.kept HBW) (hg.kept HBW) Hs.out))).mono ?_;rintro e v1 ⟨rfl,hb⟩;have bR1:=zAn bR hb bR.lt;have cR:=bR1.cell;have fR:=bR1.frozen;gi_wp2_with fail;exact ⟨((zDi hb).trans (KeepsOthers.setCell _ _ _)).from _,⟨⟨rfl,q,by simp,Hs.out⟩,bR1.set _⟩,(bt HBW hb).setCell (p:=⟨w.heap.size+1+1+1,0,none⟩) (by simp;omega) _⟩
   ·have Hs:=zAc hs;have Hp:=zAc hp;clear hs hp;gi_wp2_with fail;refine ⟨trivial,?_⟩;refine (CallsIn.inRound l (callsIn_wide.2 (zIm q.2.1 q.2.2 (hw.kept HBW) (hg.kept HBW) Hs.out))).mono ?_;rintro e v1 ⟨rfl,hb⟩;gi_wp2_with fail;refine ⟨(zDi hb).from _,zJg hb (by omega),⟨fun q' hq'=>?_,hB.trans (hb.mono (by omega))⟩⟩;rcases List.mem_append.1 hq' with h|h
    ·exact Hp.out q' h
    ·simp at h;subst h;exact Hs.out
  case done =>
   rintro D xs W' hD rfl ⟨hp,hB⟩ hK;have hsW:=hB.size;have HBW:Below w.heap.size w W':=HB0.trans (hB.mono (by omega));have bR:=zAn R0 hB (by omega);have cR:=bR.cell;have fR:=bR.frozen
   have ht:stU W H tl f c u v k=true:=by
    rw [stU,HI.out,Bool.true_and,List.all_eq_true];exact hp
   have Ht:=zAc ht;clear ht hp;gi_wp2_with fail;have hK3:=(KeepsOthers.setCell _ ⟨w.heap.size+1+1+1,0,none⟩ (.bool true)).same D _ hK rfl;refine ⟨by simp,.inl ⟨_,_,rfl,run_takeDeferred hK3,?_⟩⟩;have hc5:=cell_kept (bR.set (.bool true)).cell (grownBy_putObj' _ D (.deferred none)) (fun r e=>by cases e;exact ⟨_,hK3,rfl⟩);refine ⟨.bool true,?_,by rw [Ht.out],(HBW.setCell (p:=⟨w.heap.size+1+1+1,0,none⟩) (by simp;omega) _).trans (belowK_b (w:=w) (Nat.le_refl _) _ D _ _ (by omega) hK3 rfl rfl)⟩;simp [results,Tryz.f126,go_sem,hc5]
  case stop =>
   rintro D e pre W' hD hpre ⟨⟨⟨rfl,q,hq,hs⟩,bR⟩,hB⟩ hK;have cR:=bR.cell
   have ht:stU W H tl f c u v k=false:=by
    rw [stU,HI.out,Bool.true_and,Bool.eq_false_iff];intro h;rw [List.all_eq_true] at h;rw [h q (hpre.subset hq)] at hs;cases hs
   have Ht:=zAc ht;clear hs ht;gi_wp2
   refine ⟨by simp,.inl ⟨_,_,rfl,run_takeDeferred hK,?_⟩⟩;have hc5:=cell_kept bR.cell (grownBy_putObj' _ D (.deferred none)) (fun r e=>by cases e;exact ⟨_,hK,rfl⟩);refine ⟨.bool false,?_,by rw [Ht.out],hB.trans (belowK_b (w:=w) (Nat.le_refl _) W' D _ _ (by omega) hK rfl rfl)⟩;simp [results,Tryz.f126,go_sem,hc5]
end
end Go.Proofs.YthiafmlgialbnaaGreatDoor
