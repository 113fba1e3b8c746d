import Derived.Test.YthiafmlgialbnaaGreatDoorMade
import Derived.Test.YthiafmlgialbnaaGreatDoorNewsW0
set_option linter.all false
set_option maxRecDepth 1000000
set_option maxHeartbeats 64000000
open Go.Proofs.Tryz
open Go.Proofs.Tryz renaming prog->pg
open Array renaming getElem?_eq_some_iff->gE
open And renaming intro->ai
open Go.Value renaming int->O
open Go.IntKind renaming i64->ii
namespace Go.Proofs.YthiafmlgialbnaaGreatDoor
open Go.RowKit Go.Shelf
section
theorem qBn {a m:Nat} (ha:0<a) {x y:Nat} (hx:x<a) (hy:y<m):(((x:Nat):Int),((y:Nat):Int))∈kl a (m*a):=by
 unfold kl;refine List.mem_map.2 ⟨y*a+x,List.mem_range.2 ?_,?_⟩
 ·have:(y+1)*a<=m*a:=Nat.mul_le_mul_right a hy;rw [Nat.succ_mul] at this;omega
 ·rw [(zDr (y:=y) hx).1,(zDr (y:=y) hx).2]
theorem zTs (a m:Nat):(kl a m).Nodup:=by
 unfold kl;refine List.pairwise_map.2 (List.Pairwise.imp_of_mem (fun {i j} _ _ hne e=>hne ?_) List.nodup_range);simp only [Prod.mk.injEq] at e;have h1:i%a=j%a:=by omega
 have h2:i/a=j/a:=by omega
 rw [<-Nat.div_add_mod i a,<-Nat.div_add_mod j a,h1,h2]
section
variable {S:Int->Int->Bool} {wd ht:Nat} {M:List Q4}
theorem zE1 (hW:(1:Int)<=(wd:Nat)/\((wd:Nat):Int)<=128) (hH:(1:Int)<=(ht:Nat)/\((ht:Nat):Int)<=128) (hS:∀u v,S u v=true->(0<=u/\u<(wd:Nat))/\0<=v/\v<(ht:Nat)) (h:M.Perm ((kl ((wd-1)/8+1) (((ht-1)/8+1)*((wd-1)/8+1))).flatMap (zDa S wd ht))) (t:Q4):t∈M↔DPm S wd ht t:=by
 rw [h.mem_iff,List.mem_flatMap];constructor
 ·rintro ⟨k,-,hk⟩;exact ⟨k.1,k.2,List.mem_append.1 hk⟩
 ·rintro ⟨kx,ky,hk⟩;have hr:rB wd ht kx ky=true:=hk.elim (fun h=>(zBb hW hH hS (.inl rfl) h).1) (fun h=>(zBb hW hH hS (.inr rfl) h).1);have h1:=(zBp hW hH).1 hr;obtain ⟨x,rfl⟩:∃x:Nat,kx=x:=⟨kx.toNat,by omega⟩
  obtain ⟨y,rfl⟩:∃y:Nat,ky=y:=⟨ky.toNat,by omega⟩
  exact ⟨(x,y),qBn (by omega) (by omega) (by omega),List.mem_append.2 hk⟩
theorem zRn (hW:(1:Int)<=(wd:Nat)/\((wd:Nat):Int)<=128) (hH:(1:Int)<=(ht:Nat)/\((ht:Nat):Int)<=128) (hS:∀u v,S u v=true->(0<=u/\u<(wd:Nat))/\0<=v/\v<(ht:Nat)) {t:Q4} (h:DPm S wd ht t) :
 ((t.a=t.x+1/\t.b=t.y/\t.a/8=t.x/8+1)\/(t.a=t.x/\t.b=t.y+1/\t.b/8=t.y/8+1))/\S t.x t.y=true/\S t.a t.b=true:=by
 obtain ⟨kx,ky,h|h⟩:=h
 ·obtain ⟨-,h1,h2,h3,h4,h5⟩:=zBb hW hH hS (.inl rfl) h;simp only [dX,dY,Int.toNat_zero] at h2 h3;exact ⟨.inl ⟨by omega,by omega,by omega⟩,h4,h5⟩
 ·obtain ⟨-,h1,h2,h3,h4,h5⟩:=zBb hW hH hS (.inr rfl) h;simp only [dX,dY,Int.toNat_one] at h2 h3;exact ⟨.inr ⟨by omega,by omega,by omega⟩,h4,h5⟩
theorem zM6 (hW:(1:Int)<=(wd:Nat)/\((wd:Nat):Int)<=128) (hH:(1:Int)<=(ht:Nat)/\((ht:Nat):Int)<=128) (hS:∀u v,S u v=true->(0<=u/\u<(wd:Nat))/\0<=v/\v<(ht:Nat)) (h:M.Perm ((kl ((wd-1)/8+1) (((ht-1)/8+1)*((wd-1)/8+1))).flatMap (zDa S wd ht))):PtOk M/\M.length<=4096:=by
 have hm:=zE1 hW hH hS h;refine ⟨⟨?_,fun t ht'=>?_,fun t ht' hs=>?_⟩,?_⟩
 ·refine h.nodup_iff.2 ?_;unfold List.Nodup;rw [List.pairwise_flatMap];refine ⟨fun k _=>List.pairwise_append.2 ⟨(zDp (d:=0) (.inl rfl)).imp (fun h e=>h (by rw [e])),(zDp (d:=1) (.inr rfl)).imp (fun h e=>h (by rw [e])),fun t h1 u h2 e=>?_⟩,List.Pairwise.imp (fun {k k'} hne t h1 u h2 e=>?_) (zTs _ _)⟩
  ·subst e;have e1:=(zBb hW hH hS (.inl rfl) h1).2.2.1;have e2:=(zBb hW hH hS (.inr rfl) h2).2.2.1;simp only [dX,dY,Int.toNat_zero,Int.toNat_one] at e1 e2;omega
  ·subst e;have e1:t.x/8=k.1/\t.y/8=k.2:=(List.mem_append.1 h1).elim (fun h=>(zBb hW hH hS (.inl rfl) h).2.1) (fun h=>(zBb hW hH hS (.inr rfl) h).2.1);have e2:t.x/8=k'.1/\t.y/8=k'.2:=(List.mem_append.1 h2).elim (fun h=>(zBb hW hH hS (.inl rfl) h).2.1) (fun h=>(zBb hW hH hS (.inr rfl) h).2.1);exact hne (Prod.ext (e1.1.symm.trans e2.1) (e1.2.symm.trans e2.2))
 ·have h1:=(zRn hW hH hS ((hm t).1 ht')).1;intro e;have e1:=congrArg Prod.fst e;have e2:=congrArg Prod.snd e;simp only [clu,Q4.A,Q4.B] at e1 e2;omega
 ·have h1:=(zRn hW hH hS ((hm t).1 ht')).1;have h2:=(zRn hW hH hS ((hm _).1 hs)).1;simp only [Q4.swap] at h2;omega
 ·have h1:=h.length_eq;have h2:=zHo S wd ht (kl ((wd-1)/8+1) (((ht-1)/8+1)*((wd-1)/8+1)));rw [show (kl ((wd-1)/8+1) (((ht-1)/8+1)*((wd-1)/8+1))).length=((ht-1)/8+1)*((wd-1)/8+1) by simp [kl]] at h2;have h3:((ht-1)/8+1)*((wd-1)/8+1)<=16*16:=Nat.mul_le_mul (by omega) (by omega);omega
end
section
variable {wd ht:Nat} {tl:List Nat} {f:Int->Int->Option Int} {c s:Int} {M:List Q4} {NL:List (Int×Int)}
theorem zI7 (hW:(1:Int)<=(wd:Nat)/\((wd:Nat):Int)<=128) (hH:(1:Int)<=(ht:Nat)/\((ht:Nat):Int)<=128) (hS:∀u v,stB wd ht tl f c s u v=true->(0<=u/\u<(wd:Nat))/\0<=v/\v<(ht:Nat)) (h:M.Perm ((kl ((wd-1)/8+1) (((ht-1)/8+1)*((wd-1)/8+1))).flatMap (zDa (stB wd ht tl f c s) wd ht))) (hN:NdsOf M NL) (q:Int×Int):q∈NL↔Nd (stB wd ht tl f c s) wd ht (clu q).1 (clu q).2 q:=by
 rw [hN q,<-zUg hW hH hS];exact ⟨fun ⟨t,h1,h2⟩=>⟨t,(zE1 hW hH hS h t).1 h1,h2⟩,fun ⟨t,h1,h2⟩=>⟨t,(zE1 hW hH hS h t).2 h1,h2⟩⟩
theorem IsD.isE (hW:(1:Int)<=(wd:Nat)/\((wd:Nat):Int)<=128) (hH:(1:Int)<=(ht:Nat)/\((ht:Nat):Int)<=128) (hS:∀u v,stB wd ht tl f c s u v=true->(0<=u/\u<(wd:Nat))/\0<=v/\v<(ht:Nat)) (h:M.Perm ((kl ((wd-1)/8+1) (((ht-1)/8+1)*((wd-1)/8+1))).flatMap (zDa (stB wd ht tl f c s) wd ht))) (hN:NdsOf M NL) {q:Int×Int} {L:List E3} (hD:IsD wd ht tl f c s NL M q L):IsE wd ht tl f c s (clu q).1 (clu q).2 q L:=by
 refine ⟨hD.1,fun e=>?_⟩;rw [hD.2 e];unfold Ed;rw [<-zUh hW hH hS q e,or_comm];refine or_congr ⟨fun ⟨t,h1,h2⟩=>⟨t,(zE1 hW hH hS h t).1 h1,h2⟩,fun ⟨t,h1,h2⟩=>⟨t,(zE1 hW hH hS h t).2 h1,h2⟩⟩ ?_;unfold DIn;rw [zI7 hW hH hS h hN];constructor
 ·rintro ⟨h1,h2,h3,h4⟩;rw [h3] at h1;exact ⟨h1,h2,h4⟩
 ·rintro ⟨h1,h2,h4⟩;have h3:clu e.to=clu q:=Prod.ext (h1.in hW hH hS).1.1 (h1.in hW hH hS).1.2;exact ⟨by rw [h3];exact h1,h2,h3,h4⟩
end
theorem DG.same {w:World} {nv ev:Value} {NL:List (Int×Int)} {F G:Int×Int->List E3} (h:DG w nv ev NL F) (he:∀q∈NL,F q=G q):DG w nv ev NL G:=by
 obtain ⟨h1,Vs,h2,h3,h4⟩:=h;exact ⟨h1,Vs,h2,h3,fun j q x hq hx=>by rw [<-he q (List.mem_of_getElem? hq)];exact h4 j q x hq hx⟩
theorem zUi {w:World} {wd ht:Nat} {tl:List Nat} {f:Int->Int->Option Int} {c s:Int} {a:Option Addr} {n cap:Nat} (hG:Grd w wd ht tl f c s (.slice a n cap)) (hA:((wd:Nat):Int)*(ht:Nat)<=1000) (hd:(1<=wd/\wd<=128)/\1<=ht/\ht<=128) (hS:∀u v,stB wd ht tl f c s u v=true->(0<=u/\u<(wd:Nat))/\0<=v/\v<(ht:Nat)) (LE:Int×Int->List E3) (hE:∀q,Nd (stB wd ht tl f c s) wd ht (clu q).1 (clu q).2 q->IsE wd ht tl f c s (clu q).1 (clu q).2 q (LE q)) :
 Calls pg 30 #[gdv wd ht (.slice a n cap)] w fun e w'=>∃nv ev NL,e = .returned (.agg #[O ii (wd:Nat),O ii (ht:Nat),(.slice a n cap),nv,ev])/\DG w' nv ev NL LE/\UpC NL/\(∀q,q∈NL↔Nd (stB wd ht tl f c s) wd ht (clu q).1 (clu q).2 q)/\NL.length<=8192/\Below w.heap.size w w':=by
 have hW:(1:Int)<=(wd:Nat)/\((wd:Nat):Int)<=128:=by omega
 have hH:(1:Int)<=(ht:Nat)/\((ht:Nat):Int)<=128:=by omega
 have hcard:∀{M:List Q4} {NL:List (Int×Int)},UpC NL->NdsOf M NL->NL.length<=2*M.length:=fun {M NL} hU hN=>by
  have:NL.length<=(M.flatMap (fun t=>[t.A,t.B])).length:=hU.nodup.length_le_of_subset (fun q hq=>by
   obtain ⟨t,h1,h2⟩:=(hN q).1 hq
   exact List.mem_flatMap.2 ⟨t,h1,by simpa using h2⟩)
  have h2:∀M:List Q4,(M.flatMap (fun t=>[t.A,t.B])).length=2*M.length:=fun M=>by
   induction M with
   |nil=>rfl
   |cons t r ih=>rw [List.flatMap_cons,List.length_append,ih];simp;omega
  rw [h2] at this;exact this
 refine (zZd hd (stB wd ht tl f c s) a n cap LE (fun wx q kx ky d=>zZe (w:=wx) (stB wd ht tl f c s) kx ky d a n cap hW hH hS (fun wy k x y=>zRg x y d (hG.upto (bt q k)))) (fun wx gn cn NL pa pc M hb hPm hR hU hN hM=>?_)).mono ?_
 ·have hIn:∀q∈NL,(0<=q.1/\q.1<(wd:Nat))/\0<=q.2/\q.2<(ht:Nat):=fun q hq=>hS _ _ (((zI7 hW hH hS hPm hN q).1 hq).in hW hH hS).2;obtain ⟨hP,hMl⟩:=zM6 hW hH hS hPm;have hl:=hcard hU hN;refine (zUj (hG.upto hb) hA hd hR hU hIn (by omega) hM hP hMl).mono ?_;rintro e w' ⟨ev,F,rfl,h1,h2,h3⟩
  exact ⟨_,_,rfl,h1.same (fun q hq=>by
   have g1:=(h2 q hq).isE hW hH hS hPm hN;have g2:=hE q ((zI7 hW hH hS hPm hN q).1 hq)
   exact zPc g1.1 g2.1 (fun e=>by rw [g1.2,g2.2])),h3⟩
 ·rintro e w' ⟨nv,ev,NL,M,rfl,h1,h2,h3,h4,h5⟩;have hl:=hcard h2 h4;have hMl:=(zM6 hW hH hS h3).2;exact ⟨nv,ev,NL,rfl,h1,h2,zI7 hW hH hS h3 h4,by omega,h5⟩
end
section
attribute [local go_sem] Oper.semAt_some
theorem zXf:Rcl 32:=zl fun _ _=>by go_simp
theorem zS5:Rcl 20:=zl fun _ _=>by go_simp
theorem zS4:Rcl 22:=zl fun _ _=>by go_simp
theorem zY7 (a:Option Addr) (w:World):Calls pg 19 #[.pointer a] w fun e w'=>e = .returned (.func (.func 42) #[] #[ptr w.heap.size])/\w'=w.alloc (.cells #[.pointer a] 34):=by
 go_enter func19,ntmps19;go_wp2_with fail;go_ret;exact ⟨rfl,rfl⟩
theorem zWa {α:Type} {p:α->Bool} {x:α} (hp:p x=true):∀{l:List α} {n:Nat},l[n]? = some x->(l.filter p)[((l.take n).filter p).length]? = some x
 | [],n,h=>by simp at h
 |y::r,0,h=>by
  simp at h;subst h;rw [List.take_zero,List.filter_nil,List.filter_cons_of_pos hp];rfl
 |y::r,n+1,h=>by
  have ih:=zWa hp (l:=r) (n:=n) (by simpa using h);rw [List.take_succ_cons]
  by_cases e:p y=true
  ·rw [List.filter_cons_of_pos e,List.filter_cons_of_pos e,List.length_cons,List.getElem?_cons_succ];exact ih
  ·rw [List.filter_cons_of_neg e,List.filter_cons_of_neg e];exact ih
theorem zN8 {ev:Operand->Value} {o:Oper} {w w2:World} {t:TypeId} {m k:Operand} {mv kv v:Value} (ho:o.op = .mapEntry t m k) (hm:ev m=mv) (hk:ev k=kv) (h:(Instr.mapEntry t mv kv).run pg w = .ok v w2):(execOp ev o).run pg w = .ok (.value v) w2:=by
 unfold execOp;simp only [ho,hm,hk];simp only [Sem.run_bind,h,Result.andThen];rfl
theorem zK9 {ev:Operand->Value} {o:Oper} {w w2:World} {t:TypeId} {m k x:Operand} {mv kv xv:Value} (ho:o.op = .entryStore t m k x) (hm:ev m=mv) (hk:ev k=kv) (hx:ev x=xv) (h:(Instr.entryStore t mv kv xv).run pg w = .ok () w2):(execOp ev o).run pg w = .ok .skip w2:=by
 unfold execOp;simp only [ho,hm,hk,hx];simp only [Sem.run_bind,h,Result.andThen];rfl
section
variable {z:Value} {w w':World} {b:Nat} {K:List (Int×Int)} {F:Int->Int->Value}
theorem MapS.entry' (h:MapS z w b K F) {t e:TypeId} (ht:pg.underlying t=some (.map 47 e)) (hz:∀u:World,(zeroValue e).run pg u = .ok z u) {x y:Int} (hx:W64 x) (hy:W64 y) (hlen:K.length<maxLen) {v:Value} {w1:World} (hr:(Instr.mapEntry t (.map (some b)) (cel x y)).run pg w = .ok v w1):∃K',MapS z w1 b K' F/\K'.length<=K.length+1:=by
 obtain ⟨st,w9,g1,-,-,-⟩:=h.entry ht hz hx hy hlen;have hzs:IsS z:=by obtain ⟨D,_,_,_,_,h,_⟩:=h;exact h
 obtain ⟨D,ho,-⟩:=id h;obtain ⟨es,clock,hb,Fi,hs,hDe⟩:=id ho;rcases zZ7.find w (hck hx hy) es.toList Fi.keys with ⟨h1,h2⟩|⟨j,e0,h1,h2,h3⟩
 ·have e1:(Instr.mapEntry t (.map (some b)) (cel x y)).run pg w = .ok (.tuple #[z,goInt clock]) (ChangeMaps.setBlock w b (.map (es.push ⟨cel x y,z,clock⟩) (clock+1))):=by
   simp [Instr.mapEntry,run_underlying ht,MapKept.run_getObj_map hb,zZ7.check w false (hck hx hy),h1,hz,MapKept.run_setObj_map _ hb,Result.andThen,ChangeMaps.setBlock]
  have e2:(Instr.mapUpdate t (.map (some b)) (cel x y) z).run pg w = .ok () (ChangeMaps.setBlock w b (.map (es.push ⟨cel x y,z,clock⟩) (clock+1))):=by
   simp [Instr.mapUpdate,run_underlying ht,MapKept.run_getObj_map hb,zZ7.check w false (hck hx hy),h1,MapKept.run_setObj_map _ hb,Result.andThen,ChangeMaps.setBlock]
  have hFz:F x y=z:=by
   have:=(zHc (g1.symm.trans e1)).1;simp at this;exact this.1
  obtain ⟨w2,p1,p2,-⟩:=h.put ht hx hy hzs hlen;have hw2:=(zHc (p1.symm.trans e2)).2;have hw1:=(zHc (hr.symm.trans e1)).2;rw [hw2,<-hw1] at p2;refine ⟨zHt K (x,y),?_,by unfold zHt;split<;>simp⟩
  have:zF4 F x y z=F:=by
   funext u q
   unfold zF4
   split
   ·rename_i hu;rw [hu.1,hu.2,hFz]
   ·rfl
  rwa [this] at p2
 ·have hj:es[j]? = some e0:=by simpa using h2
  have hsame:es.modify j (fun e=>{ e with key:=cel x y })=es:=by
   apply Array.ext';rw [Array.toList_modify,ChangeMaps.modify_eq_set _ _ _ _ h2];have:({ e0 with key:=cel x y }:MapEntry)=e0:=by rw [<-h3]
   rw [this];exact WideElems.set_self _ _ _ h2
  have e1:(Instr.mapEntry t (.map (some b)) (cel x y)).run pg w = .ok (.tuple #[e0.val,goInt e0.born]) (ChangeMaps.setBlock w b (.map es clock)):=by
   simp [Instr.mapEntry,run_underlying ht,MapKept.run_getObj_map hb,zZ7.check w false (hck hx hy),h1,hj,h3,zZ7.stays w (hck hx hy),hsame,MapKept.run_setObj_map _ hb,Result.andThen,ChangeMaps.setBlock]
  have hw1:=(zHc (hr.symm.trans e1)).2;refine ⟨K,h.same ?_,by omega⟩;rw [hw1,hb];unfold ChangeMaps.setBlock;simp [h.lt]
end
theorem zW0 {ev:Operand->Value} {o:Oper} {w:World} {x y:Operand} {k:Nat} {v b:Bool} (ho:o.op = .store 4 x y) (hx:ev x=ptr k) (hy:ev y = .bool b) (hb:Boxed w k 4 (.bool v)):(execOp ev o).run pg w = .ok .skip (w.setCell ⟨k,0,none⟩ (.bool b)):=by
 have c:=hb.cell;have f:w.frozen? ⟨k,0,none⟩=false:=by simp [World.frozen?,show w.heap[k]? = _ from hb]
 have hl:=hb.lt;unfold execOp;simp only [ho,hx,hy];go_simp
def cnt (NL:List (Int×Int)) (n:Nat) (k:Int×Int):Nat:=((NL.take n).filter (fun q=>decide (clu q=k))).length
theorem zUl {NL:List (Int×Int)} {n:Nat} {q:Int×Int} (h:NL[n]? = some q) (k:Int×Int):cnt NL (n+1) k=if k=clu q then cnt NL n k+1 else cnt NL n k:=by
 unfold cnt;rw [List.take_add_one,h,Option.toList_some,List.filter_append,List.length_append,List.filter_cons,List.filter_nil]
 by_cases e:k=clu q
 ·rw [if_pos e,e];simp
 ·rw [if_neg e,decide_eq_false (fun h=>e h.symm)];simp
theorem qB7 (NL:List (Int×Int)) (n:Nat) (k:Int×Int):cnt NL n k<=n:=by
 unfold cnt;refine Nat.le_trans (List.length_filter_le _ _) ?_;rw [List.length_take];omega
def zKz (NL:List (Int×Int)) (n:Nat):Int->Int->Value:=fun x y => O ii (cnt NL n (x,y):Nat)
theorem zXs {α:Type} {l pre:List α} {x y:α} (hp:pre=l.take pre.length) (hn:l[pre.length]? = some y) (hne:x≠y):¬(pre++[x]) <+: l:=fun h=>by
 obtain ⟨r,hr⟩:=h;rw [<-hr,List.append_assoc,List.getElem?_append_right (Nat.le_refl _),Nat.sub_self] at hn;simp at hn;exact hne hn
structure RtS (w X:World) (gp:Nat) (c s:Int):Prop where
 bel:Below w.heap.size w X
 g:Boxed X w.heap.size 34 (ptr gp)
 t:Two X (w.heap.size+1) c s
 r:Boxed X (w.heap.size+2) 4 (.bool false)
theorem RtS.upto {w X Y:World} {gp:Nat} {c s:Int} (h:RtS w X gp c s) (hb:Below X.heap.size X Y):RtS w Y gp c s:=
 ⟨bt h.bel hb,zAn h.g hb h.g.lt,h.t.kept hb,zAn h.r hb h.r.lt⟩
theorem RtS.new (w:World) (gp:Nat) (c s:Int):RtS w (((w.alloc (.cells #[ptr gp] 34)).alloc (.cells #[O ii c,O ii s] 27)).alloc (.cells #[.bool false] 4)) gp c s:=by
 have h1:=Boxed.new w 34 (ptr gp);generalize hA:w.alloc (.cells #[ptr gp] 34)=A at h1 ⊢;have zA:A.heap.size=w.heap.size+1:=by rw [<-hA];simp
 have h2:Two (A.alloc (.cells #[O ii c,O ii s] 27)) (w.heap.size+1) c s:=by rw [<-zA];exact Two.newAt rfl
 have bB:=zAk A (.cells #[O ii c,O ii s] 27);generalize hB:A.alloc (.cells #[O ii c,O ii s] 27)=B at h2 bB ⊢;have zB:B.heap.size=w.heap.size+2:=by rw [<-hB];simp [zA]
 have h3:=Boxed.new B 4 (.bool false);rw [zB] at h3;have bC:=zAk B (.cells #[.bool false] 4);exact ⟨bt (hA▸zAk _ _) (bt bB bC),zAn (zAn h1 bB h1.lt) bC (Nat.lt_of_lt_of_le h1.lt bB.size),h2.kept bC,h3⟩
structure RtJ (w2 Y:World) (xs:Array Value) (NL:List (Int×Int)) (n:Nat):Prop where
 a:Below w2.heap.size w2 Y
 x:Y.heap[w2.heap.size]? = some (.cells xs 84 (0,0))
 b:Y.heap[w2.heap.size+1]? = some (.cells #[O ii (n:Nat)] 3 (0,0))
 m:∃K,MapS (O ii 0) Y (w2.heap.size+2) K (zKz NL n)/\K.length<=n
 p:Y.heap[w2.heap.size+3]? = some (.cells #[.map (some (w2.heap.size+2))] 87 (0,0))
 l:n<=NL.length
section
variable {w2 Y Z:World} {xs:Array Value} {NL:List (Int×Int)} {n:Nat}
theorem RtJ.upto (h:RtJ w2 Y xs NL n) (hb:Below Y.heap.size Y Z):RtJ w2 Z xs NL n:=by
 obtain ⟨K,m1,m2⟩:=h.m;exact ⟨bt h.a hb,(hb.block _ (gE.1 h.x).1).trans h.x,(hb.block _ (gE.1 h.b).1).trans h.b,⟨K,m1.upto hb,m2⟩,(hb.block _ (gE.1 h.p).1).trans h.p,h.l⟩
theorem RtJ.own (B:Nat) (hB:w2.heap.size+4<=B) {row:Option Nat} (h:RtJ w2 Y xs NL n) (hg:Y.grownBy Z row) (hr:∀r,row=some r->B<=r/\∃o:Obj,Y.heap[r]? = some o/\o.isCells=false):RtJ w2 Z xs NL n:=by
 have hk:∀k,k<w2.heap.size+4->k<Y.heap.size->Z.heap[k]? = Y.heap[k]? := fun k h1 h2=>hg.block k h2 (fun e=>by have:=(hr k e.symm).1;omega);obtain ⟨K,m1,m2⟩:=h.m;exact ⟨h.a.grown hg h.a.size (fun k e=>by have:=(hr k e).1;omega),(hk _ (by omega) (gE.1 h.x).1).trans h.x,(hk _ (by omega) (gE.1 h.b).1).trans h.b,⟨K,m1.same (hk _ (by omega) m1.lt),m2⟩,(hk _ (by omega) (gE.1 h.p).1).trans h.p,h.l⟩
theorem RtJ.new (w2:World) (xs:Array Value) (NL:List (Int×Int)):RtJ w2 ((((w2.alloc (.cells xs 84)).alloc (.cells #[O ii 0] 3)).alloc (.map #[] 0)).alloc (.cells #[.map (some (w2.heap.size+2))] 87)) xs NL 0:=by
 have h1:=heap_alloc_new w2 (.cells xs 84);have b1:=zAk w2 (.cells xs 84);generalize hA:w2.alloc (.cells xs 84)=A at h1 b1 ⊢;have zA:A.heap.size=w2.heap.size+1:=by rw [<-hA];simp
 have h2:=heap_alloc_new A (.cells #[O ii 0] 3);have b2:=zAk A (.cells #[O ii 0] 3);generalize hB:A.alloc (.cells #[O ii 0] 3)=B at h2 b2 ⊢;have zB:B.heap.size=w2.heap.size+2:=by rw [<-hB];simp [zA]
 have h3:=MapS.made (zQy 0) B;have b3:=zAk B (.map #[] 0);generalize hC:B.alloc (.map #[] 0)=C at h3 b3 ⊢;have zC:C.heap.size=w2.heap.size+3:=by rw [<-hC];simp [zB]
 have h4:=heap_alloc_new C (.cells #[.map (some (w2.heap.size+2))] 87);have b4:=zAk C (.cells #[.map (some (w2.heap.size+2))] 87);rw [zA] at h2;rw [zB] at h3;rw [zC] at h4;have b34:=bt b3 b4;have b24:=bt b2 b34;refine ⟨bt b1 b24,(b24.block _ (gE.1 h1).1).trans h1,(b34.block _ (gE.1 h2).1).trans h2,⟨[],?_,Nat.le_refl _⟩,h4,Nat.zero_le _⟩
 have e:(fun _ _=>Value.int .i64 0)=zKz NL 0:=by
  funext x y
  simp [zKz,cnt]
 rw [<-e];exact h3.upto b4
end
theorem zS9 {w:World} {wd ht:Int} {tl:List Nat} {L:List Bd} {c s ep:Int} {gp p r wb eb:Nat} (hA:wd*ht<=1000) (hc:zEl wd ht tl L=0) (hEn:En w p wd ht tl (zB4 L)) (hRl:Rl w r wd ht tl L) (hGO:GOk w gp p c s ep wb eb wd ht tl (zB4 L)) :
 Calls pg 12 #[ptr gp,ptr r,shv c s] w fun e w'=>e = .returned (.bool true)/\Below w.heap.size w w':=by
 refine (callsIn_wide (n:=10)).1 ?_;refine callsIn_of_wp_marks func12 rfl trivial ?_ rfl;simp only [ntmps12,List.size_toArray,List.length_cons,List.length_nil,Nat.reduceAdd,Nat.reduceSub,Array.replicate_succ,Array.replicate_zero,List.push_toArray,List.append_toArray,List.nil_append,List.cons_append];obtain ⟨wd,ht,rfl,rfl,hd⟩:=zRl hc;have hW:(1:Int)<=(wd:Nat)/\((wd:Nat):Int)<=128:=by omega
 have hH:(1:Int)<=(ht:Nat)/\((ht:Nat):Int)<=128:=by omega
 have hS:∀u v,stB wd ht tl (zB4 L) c s u v=true->(0<=u/\u<(wd:Nat))/\0<=v/\v<(ht:Nat):=fun u v h=>zSu hW hH u v h;obtain ⟨KW,LW,KE,LE,hGS,hGD,-⟩:=hGO;obtain ⟨FE,mE,rE⟩:=hGS.em;obtain ⟨FW,mW,rW⟩:=hGS.wm;have HG:Hid (Gp w gp p c s ep wb eb/\(MapS zHd w eb KE FE/\∀x y,RE w (FE x y) (LE (x,y)))/\MapS zHd w wb KW FW/\∀x y,RC w (FW x y) (LW (x,y))):=zAc ⟨hGS.g,⟨mE,rE⟩,mW,rW⟩;have hEd:∀q,Nd (stB wd ht tl (zB4 L) c s) wd ht (clu q).1 (clu q).2 q->IsE wd ht tl (zB4 L) c s (clu q).1 (clu q).2 q (LE q):=fun q hq=>hGD.fd q (zHw hW hH (hS _ _ (hq.in hW hH hS).2)) ((zIj hW hH hS hGD q).2 hq);have HLe:Hid (∀q,(LE q).length<=16384):=zAc fun q=>hGD.elen hW hH hS q;have HLw:Hid (∀k,(LW k).length<=32):=zAc hGD.fl;have hKl:KE.length<=16384:=hGD.klen hW hH mE.nodup;have S0:=RtS.new w gp c s;obtain ⟨X,hX⟩:=ex (((w.alloc (.cells #[ptr gp] 34)).alloc (.cells #[O ii c,O ii s] 27)).alloc (.cells #[.bool false] 4));rw [hX] at S0;have HOf:=zAc (qC0 c s (hRl.kept S0.bel) hc);have HNw:Hid (∀wx (a:Option Addr) (n cap:Nat),Grd wx wd ht tl (zB4 L) c s (.slice a n cap)->Calls pg 30 #[gdv wd ht (.slice a n cap)] wx fun e w'=>∃nv ev NL,e = .returned (.agg #[O ii (wd:Nat),O ii (ht:Nat),.slice a n cap,nv,ev])/\DG w' nv ev NL LE/\UpC NL/\(∀q,q∈NL↔Nd (stB wd ht tl (zB4 L) c s) wd ht (clu q).1 (clu q).2 q)/\NL.length<=8192/\Below wx.heap.size wx w'):=zAc fun wx a n cap hG=>zUi hG hA hd hS LE hEd;have HGD:=zAc (ai hGD (ai hW (ai hH hS)));have HS0:=zAc S0;have HX:=zAc hX;clear S0 hX hGS hGD mE rE mW rW hEn hRl hEd hS hW hH hA hc;obtain ⟨⟨t0,t1⟩,-,-⟩:=id HS0.out.t;gi_wp2_with (rw [HX.out]);refine ⟨trivial,?_⟩;refine (callsIn_wide.2 HOf.out).mono ?_;rintro e w1 ⟨a,n,cap,rfl,hGr,hb1⟩;have HS1:=zAc (HS0.out.upto hb1);have HN2:=zAc (HNw.out w1 a n cap hGr);clear hb1 HS0 HX HOf HNw hGr t0 t1;gi_wp2_with fail;refine ⟨trivial,?_⟩;refine (callsIn_wide.2 HN2.out).mono ?_;rintro e w2 ⟨nv,ev,NL,rfl,hDG,hU,hNm,hNl,hb2⟩;obtain ⟨na,nc,rfl⟩:=zBf hDG.1
 obtain ⟨ea,en,ec,rfl⟩:∃ea en ec,ev = .slice ea en ec:=by
  obtain ⟨-,Vs,h2,-⟩:=hDG;obtain ⟨x,y,e⟩:=zE9 h2;exact ⟨x,_,y,e⟩
 have hPm:NL.Perm KE:=by
  refine (List.perm_ext_iff_of_nodup hU.nodup HG.out.2.1.1.nodup).2 (fun q=>?_);rw [hNm q,zIj HGD.out.2.1 HGD.out.2.2.1 HGD.out.2.2.2 HGD.out.1 q]
 have hLwF:∀k,rB wd ht k.1 k.2=true->LW k=NL.filter (fun q=>decide (clu q=k)):=fun k hk=>by
  obtain ⟨h1,h2⟩:=HGD.out.1.fa k hk;refine zK5 h1 (List.Pairwise.filter _ hU) (fun q=>?_);rw [h2 q,List.mem_filter,hNm q];constructor
  ·intro h3;have e:clu q=k:=Prod.ext (h3.in HGD.out.2.1 HGD.out.2.2.1 HGD.out.2.2.2).1.1 (h3.in HGD.out.2.1 HGD.out.2.2.1 HGD.out.2.2.2).1.2;exact ⟨by rw [e];exact h3,decide_eq_true e⟩
  ·rintro ⟨h3,h4⟩;rw [of_decide_eq_true h4] at h3;exact h3
 have HNL:=zAc (ai hU (ai hNm (ai hPm hLwF)));have hNK:NL.length=KE.length:=hPm.length_eq;have HNK:=zAc hNK;have HS2:=zAc (HS1.out.upto hb2);have HD2:=zAc hDG;clear hb2 HS1 HN2 hDG hU hNm hPm hLwF hNK;have hmk:=fun wx=>run_makeMap (P:=pg) 87 wx;have J0:=RtJ.new w2 #[O ii (wd:Nat),O ii (ht:Nat),.slice a n cap,.slice na NL.length nc,.slice ea en ec] NL;have gc:=(HS2.out.upto J0.a).g.cell;have HJ0:=zAc J0;clear J0;gi_wp2_with fail;try simp only [Nat.add_assoc,Nat.reduceAdd]
 obtain ⟨V1,hV1⟩:∃V,(((w2.alloc (.cells #[O ii (wd:Nat),O ii (ht:Nat),.slice a n cap,.slice na NL.length nc,.slice ea en ec] 84)).alloc (.cells #[O ii 0] 3)).alloc (.map #[] 0)).alloc (.cells #[.map (some (w2.heap.size+2))] 87)=V:=⟨_,rfl⟩
 rw [hV1] at HJ0 ⊢;have zV1:V1.heap.size=w2.heap.size+4:=by rw [<-hV1];simp
 have HzV1:=zAc zV1;clear hV1 gc zV1 hmk;refine ⟨trivial,?_⟩;refine (callsIn_wide.2 (zY7 _ V1)).mono ?_;rintro e V ⟨rfl,hV⟩;have bV:Below V1.heap.size V1 V:=hV▸zAk _ _;have nB:Boxed V V1.heap.size 34 (ptr gp):=hV▸Boxed.new V1 34 _;have zV:w2.heap.size+4<=V.heap.size:=by have:=HzV1.out;have:=bV.size;omega
 have HJV:=zAc (HJ0.out.upto bV);have bwV:Below w.heap.size w V:=bt HS2.out.bel HJV.out.a;have hseq:=zQi 9 V1.heap.size nB (HG.out.1.upto bwV) (HG.out.2.1.1.upto bwV) NL.length (Nat.le_of_eq HNK.out.symm) (by omega);clear hV bV nB bwV HJ0;gi_wp2_with fail
 refine zH9 (n:=10) (by omega) (gf:=42) (lb:=#[ptr V1.heap.size]) rfl (enters_of func42 (by kernel_rfl) rfl)
  hseq (fun _ _=>trivial) (fun _ _ _ _ _ _ _ _=>trivial) (Below.refl _ _) (fun _=>rfl)
  (fun pre Y=>RtJ w2 Y #[O ii (wd:Nat),O ii (ht:Nat),.slice a n cap,.slice na NL.length nc,.slice ea en ec] NL pre.length/\pre.map (·.1)=NL.take pre.length/\V.heap.size<=Y.heap.size) (fun (pre:List Cel) (_:World)=>¬(pre.map (fun x:Cel=>x.1) <+: NL)) (fun pre Y Z row h hg hr=>⟨h.1.own _ zV hg hr,h.2.1,Nat.le_trans h.2.2 hg.size⟩) (fun _ _ _ _ h _ _=>(by exact h)) ⟨HJV.out,rfl,Nat.le_refl _⟩
  (fun q a' Y=>∃Bx,V.heap.size<=Bx/\Y.heap[Bx]? = some (.cells #[O ii q.1.1,O ii q.1.2] 47 (0,0))/\a'={ tmps:=#[ptr gp,ptr r,shv c s,ptr w.heap.size,undef,ptr (w.heap.size+1),ptr (w.heap.size+2),ptr w2.heap.size,ptr (w2.heap.size+1),ptr (w2.heap.size+3),ptr Bx,undef,undef,ptr r,shv c s,gdv wd ht (.slice a n cap),.agg #[O ii (wd:Nat),O ii (ht:Nat),.slice a n cap,.slice na NL.length nc,.slice ea en ec],.map (some (w2.heap.size+2)),ptr gp,.func (.func 42) #[] #[ptr V1.heap.size],cel q.1.1 q.1.2,undef,undef,undef,undef,undef,undef,undef,undef,undef,undef,undef,undef,undef,undef,undef,undef,undef,undef,undef,undef,undef,undef,undef,undef,undef,undef,undef,undef,undef,undef,undef,undef,undef,undef,undef,undef,undef,undef,undef,undef,undef,undef,undef,undef,undef,undef,undef,undef,undef,undef,undef,undef,undef,undef,undef,undef,undef,undef,undef,undef,undef,undef,undef,undef,undef,undef],defers:=[] })
  (fun q a' _ Y Z row hs hg hr=>by
   obtain ⟨B,h1,h2,h3⟩:=hs
   exact ⟨B,h1,zDt (β:=Unit) V.heap.size B _ _ () Y Z row h2 hg hr,h3⟩) ?assign ?body ?done ?stop
 case assign =>
  rintro lo pre q Y K ⟨hI,hpre,hVY⟩ hK;have b1:=zAk Y (.cells #[O ii q.1.1,O ii q.1.2] 47);have hn:=heap_alloc_new Y (.cells #[O ii q.1.1,O ii q.1.2] 47);have HE:=zAc (ai (hI.upto b1) (ai b1 (ai hn hVY)));have Hpre:=zAc hpre;clear b1 hn hI hpre hVY;gi_wp2
  exact hK _ _ (Keep.of_below HE.out.2.1) trivial ⟨HE.out.1,Hpre.out,Nat.le_trans HE.out.2.2.2 HE.out.2.1.size⟩ ⟨Y.heap.size,HE.out.2.2.2,HE.out.2.2.1,rfl⟩
 case stop =>
  rintro D pre Y hD ⟨L',h1,h2,h3⟩ hx hK;have e:L'=NL:=zK5 h1 HNL.out.1 (fun q=>by rw [h2.mem_iff,HNL.out.2.2.1.mem_iff]);rw [e] at h3;exact absurd h3 hx
 case body =>
  rintro lo pre q a' Y hlo ⟨hI,hpre,hVY⟩ ⟨Bx,hBx,bX,rfl⟩ hlt;dsimp only;obtain ⟨⟨qx,qy⟩,hqw⟩:=q;simp only at bX hqw ⊢;obtain ⟨hqx,hqy⟩:=hqw;obtain ⟨m,hm⟩:=ex (pre.length);rw [hm] at hI hpre hlt;obtain ⟨y,hy⟩:∃y,NL[m]? = some y:=⟨_,List.getElem?_eq_getElem hlt⟩
  obtain ⟨yx,yy⟩:=y;obtain ⟨hRC,Vs,hRL,hVl,hRE⟩:=id HD2.out;obtain ⟨gn,hgn,-,-,-⟩:=zFu hRC hy;subst hgn;obtain ⟨⟨xv,hxv⟩,hx⟩:∃x,Vs[m]? = some x:=⟨_,List.getElem?_eq_getElem (by omega)⟩
  obtain ⟨xa,xn,xc,rfl⟩:=hxv;obtain ⟨ge,hge,-,-⟩:=qCl hRL hx;subst hge
  have hen:en=NL.length:=by
   obtain ⟨u,v,e⟩:=zE9 hRL;cases e;exact hVl
  subst hen;have HRE:=zAc (hRE m _ _ hy hx)
  have HK:Hid (∀wx,Below Y.heap.size Y wx->(fun wx:World=>(wx.cell? ⟨w.heap.size,0,none⟩=some (ptr gp)/\wx.cell? ⟨w2.heap.size,3,none⟩=some (.slice (some ⟨gn,0,none⟩) NL.length nc)/\wx.cell? ⟨w2.heap.size,4,none⟩=some (.slice (some ⟨ge,0,none⟩) NL.length ec)/\wx.cell? ⟨w2.heap.size+1,0,none⟩=some (O ii (m:Nat)))/\(wx.cell? ⟨Bx,0,none⟩=some (O ii qx)/\wx.cell? ⟨Bx,1,none⟩=some (O ii qy))/\(wx.cell? ⟨gn,m*2,none⟩=some (O ii yx)/\wx.cell? ⟨gn,m*2+1,none⟩=some (O ii yy))/\wx.cell? ⟨ge,m,none⟩=some (.slice xa xn xc)) wx):=zAc fun wx b=>by
   have h1:=hI.upto b;have hb1:=(HS2.out.upto h1.a).g.cell;obtain ⟨g',e',-,a3,a4⟩:=zFu (hRC.upto h1.a) hy;cases e';obtain ⟨g'',e'',-,a5⟩:=qCl (hRL.upto h1.a) hx;cases e'';have hB:=(b.block _ (gE.1 bX).1).trans bX;refine ⟨⟨hb1,?_,?_,?_⟩,⟨?_,?_⟩,⟨a3,a4⟩,a5⟩
   ·rw [cell_of_row wx _ 3 _ _ _ h1.x];rfl
   ·rw [cell_of_row wx _ 4 _ _ _ h1.x];rfl
   ·rw [cell_of_row wx _ 0 _ _ _ h1.b];rfl
   ·rw [cell_of_row wx _ 0 _ _ _ hB];rfl
   ·rw [cell_of_row wx _ 1 _ _ _ hB];rfl
  have hd:Below Y.heap.size Y Y.drew:=⟨rfl,rfl,rfl,Nat.le_refl _,fun _ _=>rfl⟩
  have hmi:decide (((NL.length:Nat):Int)<=((m:Nat):Int))=false:=decide_eq_false (by omega);have hmn:m<NL.length:=hlt;have hmj:((m:Nat):Int)<((NL.length:Nat):Int):=by omega
  have HS:=HK.out Y.drew hd;have HIy:=zAc (ai hI (ai hVY (ai hd (ai bX hy))));have Hpr:=zAc (ai hpre hm);have hBl:=(gE.1 bX).1;clear hI hpre hVY hlo hlt hRC hRL hVl hRE hx bX hy hseq hd
  by_cases heq:qx=yx/\qy=yy
  ·obtain ⟨rfl,rfl⟩:=heq;have HEd:=zAc (zIe ((HG.out.1.upto (bt HS2.out.bel HIy.out.1.a)).upto HIy.out.2.2.1) ((HG.out.2.1.1.upto (bt HS2.out.bel HIy.out.1.a)).upto HIy.out.2.2.1) hqx hqy (((HG.out.2.1.2 qx qy).upto (bt HS2.out.bel HIy.out.1.a)).upto HIy.out.2.2.1) (by have:=HLe.out (qx,qy);omega));gi_wp2_with fail;refine zBc ?_;refine zA6 (fun wx:World=>(wx.cell? ⟨w.heap.size,0,none⟩=some (ptr gp)/\wx.cell? ⟨w2.heap.size,3,none⟩=some (.slice (some ⟨gn,0,none⟩) NL.length nc)/\wx.cell? ⟨w2.heap.size,4,none⟩=some (.slice (some ⟨ge,0,none⟩) NL.length ec)/\wx.cell? ⟨w2.heap.size+1,0,none⟩=some (O ii (m:Nat)))/\(wx.cell? ⟨Bx,0,none⟩=some (O ii qx)/\wx.cell? ⟨Bx,1,none⟩=some (O ii qy))/\(wx.cell? ⟨gn,m*2,none⟩=some (O ii qx)/\wx.cell? ⟨gn,m*2+1,none⟩=some (O ii qy))/\wx.cell? ⟨ge,m,none⟩=some (.slice xa xn xc)) [] zEj (by kernel_rfl) (by kernel_rfl) ?_;refine zv 0 3 8 [O ii (m:Nat),.pointer (some ⟨w2.heap.size,3,none⟩),(.slice (some ⟨gn,0,none⟩) NL.length nc)] rfl rfl (by kernel_rfl) HS ?_;repeat (refine zc rfl (by rfl) (fun wx hx=>by go_simp) ?_;simp only [zp])
   refine zn ?_;refine zt 3 8 (O ii (NL.length:Nat)) rfl (by kernel_rfl) (by rfl) (fun wx hx=>zEt (by rfl) (by rfl)) HS ?_;try simp only [zp]
   refine zv 4 8 8 [.bool false,.bool false,cel qx qy,.pointer (some ⟨w2.heap.size,3,none⟩),(.slice (some ⟨gn,0,none⟩) NL.length nc),O ii (m:Nat),.pointer (some ⟨gn,m*2,none⟩),cel qx qy] rfl rfl (by kernel_rfl) HS ?_;repeat ((first|refine zo rfl (by rfl) rfl (by rfl) ?_|refine zc rfl (by rfl) (fun wx hx=>by go_simp) ?_);simp only [zp])
   refine zn ?_;refine zt 12 8 (.bool false) rfl (by kernel_rfl) (by rfl) (fun wx hx=>(zGy (by rfl) (by rfl) (by rfl)).trans (by simp)) HS ?_;try simp only [zp]
   refine zv 13 4 8 [.bool false,.bool false,ptr gp,cel qx qy] rfl rfl (by kernel_rfl) HS ?_;repeat ((first|refine zo rfl (by rfl) rfl (by rfl) ?_|refine zc rfl (by rfl) (fun wx hx=>by go_simp) ?_);simp only [zp])
   refine zn ?_;refine zv 18 5 8 [.pointer (some ⟨w2.heap.size,4,none⟩),(.slice (some ⟨ge,0,none⟩) NL.length ec),O ii (m:Nat),.pointer (some ⟨ge,m,none⟩),.slice xa xn xc] rfl rfl (by kernel_rfl) HS ?_;repeat (refine zc rfl (by rfl) (fun wx hx=>by go_simp) ?_;simp only [zp])
   refine zn ?_;refine zw 17 [] (by kernel_rfl) ?_;refine readyZ.callG rfl (by rfl) (zS5 (by rfl) (by rfl) (by first|rfl|(simp only [zj];rfl)|simp only [zj])) (HEd.out) ?_ readyZ.nil;rintro e Y1 ⟨lv,rfl,hR1,hb1,-⟩;have b1:Below Y.heap.size Y Y1:=bt HIy.out.2.2.1 hb1;have HEs:=zAc (zUc hR1 (HRE.out.upto (bt HIy.out.1.a b1)) (by have:=HLe.out (qx,qy);omega) (by have:=HLe.out (qx,qy);omega));clear HS;have HS:=HK.out Y1 b1;refine ⟨_,rfl,fun _=>HS,?_⟩;try simp only [zp]
   refine zw 23 [] (by kernel_rfl) ?_;refine readyZ.callG rfl (by rfl) (zXf (by rfl) (by rfl) (by first|rfl|(simp only [zj];rfl)|simp only [zj])) (HEs.out) ?_ readyZ.nil;rintro e Y2 ⟨be,rfl,hbe,hb2⟩;have hbe':be=true:=hbe.2 rfl;subst hbe';have b2:=bt b1 hb2;clear HS;have HS:=HK.out Y2 b2;refine ⟨_,rfl,fun _=>HS,?_⟩;try simp only [zp]
   refine zv 24 2 8 [.bool false,.bool false] rfl rfl (by kernel_rfl) HS ?_;repeat (refine zc rfl (by rfl) (fun wx hx=>by go_simp) ?_;simp only [zp])
   refine zn ?_;refine zAf (by kernel_rfl) ?_ _;dsimp only [zA1,Exit.then];obtain ⟨-,⟨d0,d1⟩,-⟩:=HS;have hg0:=(HK.out Y2 b2).1.1;have hqn:=(HNL.out.2.1 (qx,qy)).1 (List.mem_of_getElem? HIy.out.2.2.2.2);have hqi:=hqn.in HGD.out.2.1 HGD.out.2.2.1 HGD.out.2.2.2;have hqS:=HGD.out.2.2.2 _ _ hqi.2;have hrB:=zHw HGD.out.2.1 HGD.out.2.2.1 hqS;obtain ⟨kx,hkx'⟩:∃kx,qx/8=kx:=⟨_,rfl⟩
   obtain ⟨ky,hky'⟩:∃ky,qy/8=ky:=⟨_,rfl⟩
   simp only at hqS hrB;rw [hkx',hky'] at hrB;have hw128:((wd:Nat):Int)<=128/\((ht:Nat):Int)<=128:=by omega
   have hkx:W64 kx:=zAx (by omega);have hky:W64 ky:=zAx (by omega)
   have HOf:Hid (∀wx,Calls pg 33 #[cel qx qy] wx fun e w'=>e = .returned (cel kx ky)/\Below wx.heap.size wx w'):=zAc fun wx=>by
    have:=zCo qx qy hqx hqy wx
    rwa [hkx',hky'] at this
   have hLw:=HNL.out.2.2.2 (kx,ky) hrB;have hclu:clu (qx,qy)=(kx,ky):=by rw [<-hkx',<-hky'];rfl
   have hat:=zWa (p:=fun q=>decide (clu q=(kx,ky))) (decide_eq_true hclu) HIy.out.2.2.2.2;rw [<-hLw] at hat;obtain ⟨j,hj⟩:=ex (cnt NL m (kx,ky));have hat:(LW (kx,ky))[j]? = some (qx,qy):=by rw [<-hj];exact hat
   have hjl:=(List.getElem?_eq_some_iff.1 hat).1;have hjm:j<=m:=by rw [<-hj];exact qB7 _ _ _
   have hln:=HLw.out (kx,ky);obtain ⟨LK,hLK⟩:=ex (LW (kx,ky));have HRW:Hid (RC w (FW kx ky) LK):=zAc (by rw [<-hLK];exact HG.out.2.2.2 kx ky);rw [hLK] at hat hjl hln;have Hat:=zAc (ai hat (ai hclu hkx'));have Hb2:=zAc b2;clear hkx' hky' hqn hqi hqS hrB hLw hLK hclu hat b1 hb1 hb2 hR1 HEs HEd hbe;gi_wp2_with fail;refine ⟨trivial,?_⟩;refine (callsIn_wide.2 (HOf.out Y2)).mono ?_;rintro e Y3 ⟨rfl,hb3⟩;have Hb3:=zAc (bt Hb2.out hb3);clear hb3;obtain ⟨Y4,hY4⟩:∃X,Y3.alloc (.cells #[O ii kx,O ii ky] 47)=X:=⟨_,rfl⟩
   have T4:Two Y4 Y3.heap.size kx ky:=by rw [<-hY4];exact Two.newAt rfl
   have b4:Below Y.heap.size Y Y4:=bt Hb3.out (hY4▸zAk _ _);have g4:=(HK.out Y4 b4).1.1;obtain ⟨⟨t0,t1⟩,-,-⟩:=id T4;have HY4:=zAc hY4;have HWi:=zAc (zMe ((HG.out.1.upto (bt HS2.out.bel HIy.out.1.a)).upto b4) ((HG.out.2.2.1.upto (bt HS2.out.bel HIy.out.1.a)).upto b4) hkx hky ((HRW.out.upto (bt HS2.out.bel HIy.out.1.a)).upto b4) (by omega));obtain ⟨bk,hbk⟩:=ex (Y3.heap.size);rw [hbk] at T4 t0 t1;have HT4:=zAc T4;have hbk2:Hid (bk≠w2.heap.size+2):=zAc (by have h1:=HIy.out.1.p;have h2:=(gE.1 h1).1;have h3:=Hb3.out.size;omega);have HB4:=zAc b4;clear hY4 T4 b4 d0 d1 hg0;rw [<-HY4.out] at g4 t0 t1;gi_wp2_with fail;rw [HY4.out];clear hbk;refine ⟨trivial,?_⟩;refine (callsIn_wide.2 HWi.out).mono ?_;rintro e Y5 ⟨lv2,rfl,hR5,hb5,-⟩;obtain ⟨la,lc,rfl⟩:=zBf hR5;clear g4 t0 t1 HY4;obtain ⟨gl,hgl,-,-,-⟩:=zFu hR5 Hat.out.1;subst hgl;obtain ⟨K,mK,hKm⟩:=HIy.out.1.m;have b5:=bt HB4.out hb5
   have HKK:Hid (∀wx,Below Y5.heap.size Y5 wx->(fun wx:World=>(wx.cell? ⟨w2.heap.size+3,0,none⟩=some (.map (some (w2.heap.size+2)))/\wx.cell? ⟨Bx,0,none⟩=some (O ii qx)/\wx.cell? ⟨Bx,1,none⟩=some (O ii qy))/\(wx.cell? ⟨bk,0,none⟩=some (O ii kx)/\wx.cell? ⟨bk,1,none⟩=some (O ii ky))/\(wx.cell? ⟨gl,j*2,none⟩=some (O ii qx)/\wx.cell? ⟨gl,j*2+1,none⟩=some (O ii qy))/\MapS (O ii 0) wx (w2.heap.size+2) K (zKz NL m)) wx):=zAc fun wx b=>by
    have h1:=HIy.out.1.upto (bt b5 b);obtain ⟨-,h2,-⟩:=HK.out wx (bt b5 b);obtain ⟨g',e',-,a3,a4⟩:=zFu (hR5.upto b) Hat.out.1;cases e';exact ⟨⟨by rw [cell_of_row wx _ 0 _ _ _ h1.p];rfl,h2⟩,(HT4.out.kept (bt hb5 b)).1,⟨a3,a4⟩,mK.upto (bt b5 b)⟩
   have hd5:Below Y5.heap.size Y5 Y5.drew:=⟨rfl,rfl,rfl,Nat.le_refl _,fun _ _=>rfl⟩
   have HS:=HKK.out Y5.drew hd5;obtain ⟨ln,hln'⟩:∃ln,LK.length=ln:=⟨_,rfl⟩
   have hji:decide (((ln:Nat):Int)<=((j:Nat):Int))=false:=decide_eq_false (by omega);have hjn:j<ln:=by omega
   have hjj:((j:Nat):Int)<((ln:Nat):Int):=by omega
   rw [hln'];have HB5:=zAc (ai b5 hd5);have HB45:Hid (Below Y4.heap.size Y4 Y5.drew):=zAc (bt hb5 hd5);clear b5 hb5 hR5 hd5 hln' HWi;gi_wp2_with fail;refine zBc ?_;refine zA6 (fun wx:World=>(wx.cell? ⟨w2.heap.size+3,0,none⟩=some (.map (some (w2.heap.size+2)))/\wx.cell? ⟨Bx,0,none⟩=some (O ii qx)/\wx.cell? ⟨Bx,1,none⟩=some (O ii qy))/\(wx.cell? ⟨bk,0,none⟩=some (O ii kx)/\wx.cell? ⟨bk,1,none⟩=some (O ii ky))/\(wx.cell? ⟨gl,j*2,none⟩=some (O ii qx)/\wx.cell? ⟨gl,j*2+1,none⟩=some (O ii qy))/\MapS (O ii 0) wx (w2.heap.size+2) K (zKz NL m)) [] zEj (by kernel_rfl) (by kernel_rfl) ?_;refine zv 0 2 8 [.map (some (w2.heap.size+2)),cel kx ky] rfl rfl (by kernel_rfl) HS ?_;repeat (refine zc rfl (by rfl) (fun wx hx=>by go_simp) ?_;simp only [zp])
   refine zn ?_;refine zt 2 8 (O ii (j:Nat)) rfl (by kernel_rfl) (by rfl) (fun wx hx=>by rw [<-hj];exact zDe (z:=O ii 0) (F:=zKz NL m) Tryz.underlying87 (zNx _) hkx hky (by rfl) (by rfl) (by rfl) hx.2.2.2) HS ?_;try simp only [zp]
   refine zm 3 8 ((.slice (some ⟨gl,0,none⟩) ln lc)) rfl (by kernel_rfl) (by rfl) rfl (by rfl) HS ?_;try simp only [zp]
   refine zt 4 8 (O ii (ln:Nat)) rfl (by kernel_rfl) (by rfl) (fun wx hx=>zEt (by rfl) (by rfl)) HS ?_;try simp only [zp]
   refine zv 5 5 8 [.bool false,.bool false,(.slice (some ⟨gl,0,none⟩) ln lc),.map (some (w2.heap.size+2)),cel kx ky] rfl rfl (by kernel_rfl) HS ?_;repeat ((first|refine zo rfl (by rfl) rfl (by rfl) ?_|refine zc rfl (by rfl) (fun wx hx=>by go_simp) ?_);simp only [zp])
   refine zn ?_;refine zt 10 8 (O ii (j:Nat)) rfl (by kernel_rfl) (by rfl) (fun wx hx=>by rw [<-hj];exact zDe (z:=O ii 0) (F:=zKz NL m) Tryz.underlying87 (zNx _) hkx hky (by rfl) (by rfl) (by rfl) hx.2.2.2) HS ?_;try simp only [zp]
   refine zv 11 5 8 [.pointer (some ⟨gl,j*2,none⟩),cel qx qy,cel qx qy,.bool false,.bool false] rfl rfl (by kernel_rfl) HS ?_;repeat (refine zc rfl (by rfl) (fun wx hx=>by go_simp) ?_;simp only [zp])
   refine zn ?_;refine zAf (by kernel_rfl) ?_ _;dsimp only [zA1,Exit.then];clear HS;have bD:Below Y.heap.size Y Y5.drew:=bt HB5.out.1 HB5.out.2;obtain ⟨Y6,hY6⟩:=ex (Y5.drew);rw [hY6] at bD;have hd6:Below Y6.heap.size Y6 Y6.drew:=⟨rfl,rfl,rfl,Nat.le_refl _,fun _ _=>rfl⟩
   have HS:(fun wx:World=>wx.cell? ⟨w2.heap.size+3,0,none⟩=some (.map (some (w2.heap.size+2)))/\wx.cell? ⟨bk,0,none⟩=some (O ii kx)/\wx.cell? ⟨bk,1,none⟩=some (O ii ky)/\∃K',MapS (O ii 0) wx (w2.heap.size+2) K' (zKz NL m)) Y6.drew:=by
    obtain ⟨⟨h1,-⟩,⟨h2,h3⟩,-,h4⟩:=HKK.out Y6.drew (by rw [<-hY6];exact bt HB5.out.2 ⟨rfl,rfl,rfl,Nat.le_refl _,fun _ _=>rfl⟩);exact ⟨h1,h2,h3,K,h4⟩
   rw [hY6];have hj8:j<=8192:=by omega
   have hj1:IntKind.i64.wrap ((j:Nat)+1)=((j+1:Nat):Int):=by rw [show ((j:Nat):Int)+1=((j+1:Nat):Int) by omega];exact zDv (by omega)
   have mK6:MapS (O ii 0) Y6.drew (w2.heap.size+2) K (zKz NL m):=(mK.upto bD).upto hd6;obtain ⟨st,w5,hE1,hE2,hE3,hE4⟩:=MapS.entry mK6 Tryz.underlying87 zNx hkx hky (by unfold maxLen;omega);have hcv:zKz NL m kx ky = O ii (j:Nat):=by unfold zKz;rw [hj]
   rw [hcv] at hE1;obtain ⟨w6,hU1,hU2,hU3⟩:=hE4 w5 (O ii (j+1:Nat)) rfl (zQy _);obtain ⟨K5,mK5,hK5⟩:=mK6.entry' Tryz.underlying87 zNx hkx hky (by unfold maxLen;omega) hE1
   have HS5:(fun wx:World=>wx.cell? ⟨w2.heap.size+3,0,none⟩=some (.map (some (w2.heap.size+2)))/\wx.cell? ⟨bk,0,none⟩=some (O ii kx)/\wx.cell? ⟨bk,1,none⟩=some (O ii ky)/\∃K',MapS (O ii 0) wx (w2.heap.size+2) K' (zKz NL m)) w5:=by
    have hq:∀k,k≠w2.heap.size+2->k<Y6.drew.heap.size->w5.heap[k]? = Y6.drew.heap[k]? := fun k h1 h2=>hE2.block k h2 h1;have h1:=(HIy.out.1.upto bD).upto hd6;have h2:=(show Two Y6 bk kx ky by rw [<-hY6];exact HT4.out.kept HB45.out).kept hd6;refine ⟨?_,?_,?_,K5,mK5⟩
    ·rw [cell_of_row w5 _ 0 _ _ _ ((hq _ (by omega) (gE.1 h1.p).1).trans h1.p)];rfl
    ·exact hE2.cell hbk2.out h2.1.1
    ·exact hE2.cell hbk2.out h2.1.2
   have HU:=zAc (ai hE2 (ai hU2 hU3));clear hE2 hE3 hE4 hU2 hU3 hY6 mK5 hK5 mK6;gi_wp2_with fail;refine zBc ?_;refine zA6 (fun wx:World=>wx.cell? ⟨w2.heap.size+3,0,none⟩=some (.map (some (w2.heap.size+2)))/\wx.cell? ⟨bk,0,none⟩=some (O ii kx)/\wx.cell? ⟨bk,1,none⟩=some (O ii ky)/\∃K',MapS (O ii 0) wx (w2.heap.size+2) K' (zKz NL m)) [6] zEj (by kernel_rfl) (by kernel_rfl) ?_;refine zv 0 2 8 [.map (some (w2.heap.size+2)),cel kx ky] rfl rfl (by kernel_rfl) HS ?_;repeat (refine zc rfl (by rfl) (fun wx hx=>by go_simp) ?_;simp only [zp])
   refine zn ?_;refine zt 2 8 (O ii (j:Nat)) rfl (by kernel_rfl) (by rfl) (fun wx hx=>by obtain ⟨-,-,-,K',hm'⟩:=hx;rw [<-hj];exact zDe (z:=O ii 0) (F:=zKz NL m) Tryz.underlying87 (zNx _) hkx hky (by rfl) (by rfl) (by rfl) hm') HS ?_;try simp only [zp]
   refine zt 3 8 (O ii (j+1:Nat)) rfl (by kernel_rfl) (by rfl) (fun wx hx=>by go_simp) HS ?_;try simp only [zp]
   refine zq 4 (by kernel_rfl) rfl rfl (zN8 (by rfl) (by rfl) (by rfl) hE1) (fun _=>HS5) ?_;try simp only [zp]
   clear HS;refine zt 5 8 (O ii (st:Nat)) rfl (by kernel_rfl) (by rfl) (fun wx hx=>by go_simp) HS5 ?_;try simp only [zp]
   refine zw 6 [] (by kernel_rfl) ?_;refine readyZ.skip rfl rfl (zK9 (by rfl) (by rfl) (by rfl) (by rfl) hU1) (fun h=>absurd (by decide) h) ?_ readyZ.nil;try simp only [zp]
   refine zAf (by kernel_rfl) ?_ _;dsimp only [zA1,Exit.then];clear HS5;have TT:Turns (fun k=>k=w2.heap.size+2) Y6.drew w6:=HU.out.1.trans (HU.out.2.2.mono (fun k _ e => .inl e));have hJd:=(HIy.out.1.upto bD).upto hd6;have o1:w6.heap[w2.heap.size+1]? = some (.cells #[O ii (m:Nat)] 3 (0,0)):=(TT.block _ (gE.1 hJd.b).1 (by omega)).trans hJd.b;have c9:w6.cell? ⟨w2.heap.size+1,0,none⟩=some (O ii (m:Nat)):=by rw [cell_of_row w6 _ 0 _ _ _ o1];rfl
   have f9:w6.frozen? ⟨w2.heap.size+1,0,none⟩=false:=by simp [World.frozen?,o1]
   have hm1:IntKind.i64.wrap ((m:Nat)+1)=((m+1:Nat):Int):=by rw [show ((m:Nat):Int)+1=((m+1:Nat):Int) by omega];exact zDv (by omega)
   have T2:Turns (fun k=>k=w2.heap.size+1) w6 (w6.setCell ⟨w2.heap.size+1,0,none⟩ (O ii (m+1:Nat))):=Turns.set (S:=fun k=>k=w2.heap.size+1) w6 (p:=⟨w2.heap.size+1,0,none⟩) rfl _
   have hcf:zF4 (zKz NL m) kx ky (O ii (j+1:Nat))=zKz NL (m+1):=by
    funext u v
    unfold zF4 zKz;rw [zUl HIy.out.2.2.2.2,Hat.out.2.1]
    by_cases e:u=kx/\v=ky
    ·rw [if_pos e,if_pos (by rw [e.1,e.2]),e.1,e.2,hj]
    ·rw [if_neg e,if_neg (fun h=>e ⟨congrArg Prod.fst h,congrArg Prod.snd h⟩)]
   have hKL:(zHt K (kx,ky)).length<=m+1:=by unfold zHt;split<;>(try simp)<;>omega
   have tk:Turns (fun k=>k=w2.heap.size+1\/k=w2.heap.size+2) Y6.drew (w6.setCell ⟨w2.heap.size+1,0,none⟩ (O ii (m+1:Nat))):=(TT.mono (fun k _ e => .inr e)).trans (T2.mono (fun k _ e => .inl (.inl e)));have HJ9:Hid (RtJ w2 (w6.setCell ⟨w2.heap.size+1,0,none⟩ (O ii (m+1:Nat))) #[O ii (wd:Nat),O ii (ht:Nat),.slice a n cap,.slice (some ⟨gn,0,none⟩) NL.length nc,.slice (some ⟨ge,0,none⟩) NL.length ec] NL (m+1)):=zAc ⟨hJd.a.trans (tk.below (fun k e=>by omega) hJd.a.size),(tk.block _ (gE.1 hJd.x).1 (by omega)).trans hJd.x,zPp o1,⟨_,by rw [<-hcf];exact HU.out.2.1.kept T2 (by omega),hKL⟩,(tk.block _ (gE.1 hJd.p).1 (by omega)).trans hJd.p,by omega⟩;have HKp:Hid (Keep V.heap.size Y (w6.setCell ⟨w2.heap.size+1,0,none⟩ (O ii (m+1:Nat)))):=zAc ((Keep.of_below (bt bD hd6)).trans (zFl tk (fun k _ e=>by omega)));have Hsz:Hid (V.heap.size<=(w6.setCell ⟨w2.heap.size+1,0,none⟩ (O ii (m+1:Nat))).heap.size):=zAc (Nat.le_trans HIy.out.2.1 (Nat.le_trans (bt bD hd6).size tk.size));have Hpm:Hid ((pre++[(⟨(qx,qy),hqx,hqy⟩:Cel)]).map (fun x:Cel=>x.1)=NL.take (m+1)/\(pre++[(⟨(qx,qy),hqx,hqy⟩:Cel)]).length=m+1):=zAc ⟨by rw [List.map_append,List.take_add_one,HIy.out.2.2.2.2];exact congrArg (· ++ [(qx,qy)]) Hpr.out.1,by rw [List.length_append,Hpr.out.2];rfl⟩;clear TT hJd o1 T2 hcf tk hKL;gi_wp2_with fail;refine ⟨HKp.out,trivial,?_⟩;dsimp only;rw [Hpm.out.2];exact ⟨HJ9.out,Hpm.out.1,Hsz.out⟩
  ·have HBq:Hid ((!decide (qx=yx/\qy=yy))=true):=zAc (by rw [decide_eq_false heq];rfl)
   have Hno:Hid (¬((pre++[(⟨(qx,qy),hqx,hqy⟩:Cel)]).map (·.1) <+: NL)):=zAc (by
    rw [List.map_append];refine zXs (y:=(yx,yy)) ?_ ?_ (fun e=>heq ⟨congrArg Prod.fst e,congrArg Prod.snd e⟩)
    ·rw [List.length_map,Hpr.out.2];exact Hpr.out.1
    ·rw [List.length_map,Hpr.out.2];exact HIy.out.2.2.2.2)
   clear heq;gi_wp2_with fail;refine zBc ?_;refine zA6 (fun wx:World=>(wx.cell? ⟨w.heap.size,0,none⟩=some (ptr gp)/\wx.cell? ⟨w2.heap.size,3,none⟩=some (.slice (some ⟨gn,0,none⟩) NL.length nc)/\wx.cell? ⟨w2.heap.size,4,none⟩=some (.slice (some ⟨ge,0,none⟩) NL.length ec)/\wx.cell? ⟨w2.heap.size+1,0,none⟩=some (O ii (m:Nat)))/\(wx.cell? ⟨Bx,0,none⟩=some (O ii qx)/\wx.cell? ⟨Bx,1,none⟩=some (O ii qy))/\(wx.cell? ⟨gn,m*2,none⟩=some (O ii yx)/\wx.cell? ⟨gn,m*2+1,none⟩=some (O ii yy))/\wx.cell? ⟨ge,m,none⟩=some (.slice xa xn xc)) [] zEj (by kernel_rfl) (by kernel_rfl) ?_;refine zv 0 3 8 [O ii (m:Nat),.pointer (some ⟨w2.heap.size,3,none⟩),(.slice (some ⟨gn,0,none⟩) NL.length nc)] rfl rfl (by kernel_rfl) HS ?_;repeat (refine zc rfl (by rfl) (fun wx hx=>by go_simp) ?_;simp only [zp])
   refine zn ?_;refine zt 3 8 (O ii (NL.length:Nat)) rfl (by kernel_rfl) (by rfl) (fun wx hx=>zEt (by rfl) (by rfl)) HS ?_;try simp only [zp]
   refine zv 4 8 8 [.bool false,.bool false,cel qx qy,.pointer (some ⟨w2.heap.size,3,none⟩),(.slice (some ⟨gn,0,none⟩) NL.length nc),O ii (m:Nat),.pointer (some ⟨gn,m*2,none⟩),cel yx yy] rfl rfl (by kernel_rfl) HS ?_;repeat ((first|refine zo rfl (by rfl) rfl (by rfl) ?_|refine zc rfl (by rfl) (fun wx hx=>by go_simp) ?_);simp only [zp])
   refine zn ?_;refine zt 12 8 (.bool true) rfl (by kernel_rfl) (by rfl) (fun wx hx=>(zGy (by rfl) (by rfl) (by rfl)).trans (by rw [HBq.out])) HS ?_;try simp only [zp]
   refine zv 13 2 8 [.bool true,.bool true] rfl rfl (by kernel_rfl) HS ?_;repeat ((first|refine zo rfl (by rfl) rfl (by rfl) ?_|refine zc rfl (by rfl) (fun wx hx=>by go_simp) ?_);simp only [zp])
   refine zn ?_;refine zu 15 8 rfl (by kernel_rfl) (by rfl) HS ?_;try simp only [zp]
   refine zu 16 8 rfl (by kernel_rfl) (by rfl) HS ?_;try simp only [zp]
   refine zu 17 8 rfl (by kernel_rfl) (by rfl) HS ?_;try simp only [zp]
   refine zu 18 8 rfl (by kernel_rfl) (by rfl) HS ?_;try simp only [zp]
   refine zu 19 8 rfl (by kernel_rfl) (by rfl) HS ?_;try simp only [zp]
   refine zu 20 8 rfl (by kernel_rfl) (by rfl) HS ?_;try simp only [zp]
   refine zu 21 8 rfl (by kernel_rfl) (by rfl) HS ?_;try simp only [zp]
   refine zu 22 8 rfl (by kernel_rfl) (by rfl) HS ?_;try simp only [zp]
   refine zu 23 8 rfl (by kernel_rfl) (by rfl) HS ?_;try simp only [zp]
   refine zu 24 8 rfl (by kernel_rfl) (by rfl) HS ?_;try simp only [zp]
   refine zt 25 8 (.bool true) rfl (by kernel_rfl) (by rfl) (fun wx hx=>by go_simp) HS ?_;try simp only [zp]
   refine zAf (by kernel_rfl) ?_ _;dsimp only [zA1,Exit.then];clear HS;have hJD:=HIy.out.1.upto HIy.out.2.2.1;have hrb:=(HS2.out.upto hJD.a).r;have r0:=hrb.cell;have r1:Y.drew.frozen? ⟨w.heap.size+2,0,none⟩=false:=by simp [World.frozen?,show Y.drew.heap[w.heap.size+2]? = _ from hrb]
   have HZ:Hid (w.heap.size+2<V.heap.size):=zAc (by have:=HS2.out.r.lt;omega);clear hJD hrb;gi_wp2_with fail;exact ⟨(Keep.of_below HIy.out.2.2.1).trans (zFl (Turns.set (S:=fun k=>k=w.heap.size+2) _ rfl _) (fun k _ e=>by subst e;exact HZ.out)),Hno.out⟩
 case done =>
  rintro D xs Y hD ⟨L',h1,h2,h3⟩ ⟨hI,hpre,hVY⟩ hK;have e:L'=NL:=zK5 h1 HNL.out.1 (fun q=>by rw [h2.mem_iff,HNL.out.2.2.1.mem_iff]);subst e;have hxl:xs.length=L'.length:=by rw [<-h3,List.length_map]
  rw [hxl] at hI;have HI:=zAc hI;have HL:=zAc (zNl ((HG.out.1.upto (bt HS2.out.bel hI.a)).upto ⟨rfl,rfl,rfl,Nat.le_refl _,fun _ _=>rfl⟩) ((HG.out.2.1.1.upto (bt HS2.out.bel hI.a)).upto ⟨rfl,rfl,rfl,Nat.le_refl _,fun _ _=>rfl⟩) (w:=Y.drew))
  have HKd:Hid (∀wx,Below Y.heap.size Y wx->(fun wx:World=>wx.cell? ⟨w.heap.size,0,none⟩=some (ptr gp)/\wx.cell? ⟨w2.heap.size,3,none⟩=some (.slice na L'.length nc)/\wx.cell? ⟨w2.heap.size+1,0,none⟩=some (O ii (L'.length:Nat))) wx):=zAc fun wx b=>by
   have q1:=HI.out.upto b;exact ⟨(HS2.out.upto q1.a).g.cell,by rw [cell_of_row wx _ 3 _ _ _ q1.x];rfl,by rw [cell_of_row wx _ 0 _ _ _ q1.b];rfl⟩
  have hd:Below Y.heap.size Y Y.drew:=⟨rfl,rfl,rfl,Nat.le_refl _,fun _ _=>rfl⟩
  have HS:=HKd.out _ hd;have Hd:=zAc hd;have HD:=zAc (ai hD hK);clear hI hpre hVY h1 h2 h3 hxl hseq hd hD hK;gi_wp2_with fail;refine zBc ?_;refine wpIn_wide.2 ?_;refine zAg (fun wx:World=>wx.cell? ⟨w.heap.size,0,none⟩=some (ptr gp)/\wx.cell? ⟨w2.heap.size,3,none⟩=some (.slice na L'.length nc)/\wx.cell? ⟨w2.heap.size+1,0,none⟩=some (O ii (L'.length:Nat))) [11] (by kernel_rfl) ?_;refine zv 0 3 8 [O ii (L'.length:Nat),.pointer (some ⟨w2.heap.size,3,none⟩),.slice na L'.length nc] rfl rfl (by kernel_rfl) HS ?_;repeat (refine zc rfl (by rfl) (fun wx hx=>by go_simp) ?_;simp only [zp])
  refine zn ?_;refine zt 3 8 (O ii (L'.length:Nat)) rfl (by kernel_rfl) (by rfl) (fun wx hx=>zEt (by rfl) (by rfl)) HS ?_;try simp only [zp]
  refine zv 4 3 8 [.bool true,.bool true,ptr gp] rfl rfl (by kernel_rfl) HS ?_;repeat ((first|refine zo rfl (by rfl) rfl (by rfl) ?_|refine zc rfl (by rfl) (fun wx hx=>by go_simp) ?_);simp only [zp])
  refine zn ?_;refine zt 8 8 (O ii (L'.length:Nat)) rfl (by kernel_rfl) (by rfl) (fun wx hx=>by go_simp) HS ?_;try simp only [zp]
  refine zw 7 [] (by kernel_rfl) ?_;refine readyZ.callG rfl (by rfl) (zS4 (by rfl) (by rfl) (by first|rfl|(simp only [zj];rfl)|simp only [zj])) (HL.out) ?_ readyZ.nil;rintro e Y7 ⟨rfl,hb7⟩;clear HS;have HS:=HKd.out Y7 (bt Hd.out hb7);refine ⟨_,rfl,fun _=>HS,?_⟩;rw [<-HNK.out];try simp only [zp]
  refine zv 9 2 8 [.bool true,.bool true] rfl rfl (by kernel_rfl) HS ?_;repeat (refine zc rfl (by rfl) (fun wx hx=>by go_simp) ?_;simp only [zp])
  refine zn ?_;have hS7:=HS2.out.upto (bt HI.out.a (bt Hd.out hb7));have r0:=hS7.r.cell;have r1:Y7.frozen? ⟨w.heap.size+2,0,none⟩=false:=by simp [World.frozen?,show Y7.heap[w.heap.size+2]? = _ from hS7.r]
  refine zw 11 [] (by kernel_rfl) ?_;refine readyZ.skip rfl rfl (zW0 (by rfl) (by rfl) (by rfl) hS7.r) (fun h=>absurd (by decide) h) ?_ readyZ.nil;try simp only [zp]
  refine zAf (by kernel_rfl) ?_ _;dsimp only [zA1,Exit.then];clear HS;have hK7:Y7.heap[D]? = some (.deferred (some [])):=((bt Hd.out hb7).block D (gE.1 HD.out.2).1).trans HD.out.2;have hzD:w.heap.size+3<=D:=by have:=HS2.out.r.lt;have:=HD.out.1;omega
  have hK8:(Y7.setCell ⟨w.heap.size+2,0,none⟩ (.bool true)).heap[D]? = some (.deferred (some [])):=(Below.heap_setCell _ _ _ _ (by simp only;omega)).trans hK7;have hb8:=hS7.bel;clear hS7 hK7;gi_wp2_with fail;refine ⟨by simp,.inl ⟨_,_,rfl,run_takeDeferred hK8,?_⟩⟩;refine ⟨.bool true,?_,rfl,(hb8.setCell (by simp only;omega) _).trans (belowK_b (w:=w) (Nat.le_refl _) _ D _ _ (by omega) hK8 rfl rfl)⟩
  have r2:((Y7.setCell ⟨w.heap.size+2,0,none⟩ (.bool true)).putObj D (.deferred none)).cell? ⟨w.heap.size+2,0,none⟩=some (.bool true):=by
   have h1:(Y7.setCell ⟨w.heap.size+2,0,none⟩ (.bool true)).cell? ⟨w.heap.size+2,0,none⟩=some (.bool true):=by simp [go_sem,r0,r1]
   simp only [World.cell?] at h1 ⊢;rw [World.putObj_heap_other (by omega)];exact h1
  simp [results,Tryz.f12,go_sem,r2]
end
theorem zX0 (wd ht:Int) (tv bv:Value) (tl:List Nat) (L:List Bd) (c s:Int) (w:World) (hv:TlR w tv tl) (hb:∀x∈tl,x<256) (hl:BdR w bv L) (hg:Grnd w) (ho:Offs w):Calls pg 3 #[mp wd ht tv bv,shv c s] w fun e w'=>e = .returned (.bool true)/\Below w.heap.size w w':=
 zXz wd ht tv bv tl L c s w hv hb hl hg ho (fun wx gp p r wb eb _ hA hc hE hR hG _=>zS9 hA hc hE hR hG)
end Go.Proofs.YthiafmlgialbnaaGreatDoor
