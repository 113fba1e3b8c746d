import Derived.Test.YthiafmlgialbnaaGreatDoorTaken
import Derived.Maps.AppendAt
import Derived.Laws.CopyOwn
import Derived.Deep.RegionLaw
import Derived.Lib.Overlaps
set_option linter.all false
set_option maxRecDepth 1000000
set_option maxHeartbeats 64000000
open Go.Proofs.Tryz
open Go.Proofs.Tryz renaming prog->pg
open Array renaming getElem?_eq_some_iff->gE
open Go.Value renaming int->O
open Go.IntKind renaming i64->ii
namespace Go.Proofs.YthiafmlgialbnaaGreatDoor
open Go.RowKit
def zBv (l:List Bd):Prop:=l.Pairwise (fun s t=>s.id<t.id)
def pos (l:List Bd) (i:Int):Nat:=(l.takeWhile (fun t=>decide (t.id<i))).length
def zBm (l:List Bd) (i:Int):Bool:=l.any (fun t=>decide (t.id=i))
theorem zM5:∀(l:List Bd) (i:Int),pos l i<=l.length
 | [],_=>Nat.le_refl _
 |t::r,i=>by
  unfold pos;rw [List.takeWhile_cons]
  split
  ·have:=zM5 r i;unfold pos at this;simpa using this
  ·simp
theorem zHb:∀{l:List Bd},zBv l->∀(i:Int) (k:Nat) (t:Bd),l[k]? = some t->(t.id<i↔k<pos l i)
 | [],_,_,_,_,h=>by simp at h
 |s::r,hs,i,0,t,h=>by
  simp at h;subst h;unfold pos;rw [List.takeWhile_cons]
  split<;>simp_all
 |s::r,hs,i,k+1,t,h=>by
  simp at h;obtain ⟨h1,h2⟩:=List.pairwise_cons.1 hs;have hm:t∈r:=List.mem_of_getElem? h;have ih:=zHb h2 i k t h;have:=h1 t hm;unfold pos at ih ⊢;rw [List.takeWhile_cons]
  split
  ·rename_i hd;rw [ih];simp
  ·rename_i hd;simp at hd;simp;omega
theorem zKv {l:List Bd} (hs:zBv l) (i:Int):zBm l i=true↔∃t,l[pos l i]? = some t/\t.id=i:=by
 unfold zBm;rw [List.any_eq_true];constructor
 ·rintro ⟨t,hm,ht⟩;simp at ht;obtain ⟨k,hk⟩:=List.getElem?_of_mem hm;have h1:=zHb hs i k t hk;refine ⟨t,?_,ht⟩;have hle:pos l i<=k:=by omega
  by_cases he:pos l i=k
  ·rw [he];exact hk
  ·have hlt:pos l i<l.length:=by have:=(List.getElem?_eq_some_iff.1 hk).1;omega
   have h2:=zHb hs i (pos l i) l[pos l i] (List.getElem?_eq_getElem hlt)
   have h3:l[pos l i].id<t.id:=by
    have:=List.pairwise_iff_getElem.1 hs (pos l i) k hlt (List.getElem?_eq_some_iff.1 hk).1 (by omega)
    rwa [(List.getElem?_eq_some_iff.1 hk).2] at this
   omega
 ·rintro ⟨t,h1,h2⟩;exact ⟨t,List.mem_of_getElem? h1,by simp [h2]⟩
theorem zT4 {l:List Bd} (hs:zBv l) {i:Int} {t:Bd} (h:l[pos l i]? = some t):zBm l i=decide (t.id=i):=by
 rw [Bool.eq_iff_iff,zKv hs,decide_eq_true_iff];exact ⟨fun ⟨u,h1,h2⟩=>by rw [h] at h1;cases h1;exact h2,fun e=>⟨t,h,e⟩⟩
theorem zRe {l:List Bd} (hs:zBv l) {i:Int} (h:pos l i=l.length):zBm l i=false:=by
 rw [Bool.eq_false_iff];intro hf;obtain ⟨t,h1,_⟩:=(zKv hs i).1 hf;rw [h] at h1;simp at h1
theorem zVh {a b:Int} {c d:Bool} (h1:a=b) (h2:c=d):Ending.returned (.tuple #[O ii a,.bool c]) = .returned (.tuple #[O ii b,.bool d]):=by rw [h1,h2]
theorem zRr {x y:Int}:zFp x y<0↔x<y:=by unfold zFp;split<;>(try split)<;>omega
theorem zUm {x y:Int}:zFp x y=0↔x=y:=by unfold zFp;split<;>(try split)<;>omega
theorem zN6 (l:List Bd) (v:Value) (i:Int) (w:World) (hv:Bds w v l) (hs:zBv l) (hl:l.length<=256) :
 Calls pg 105 #[v,O ii i,.func (.func 106) #[] #[]] w fun e w'=>e = .returned (.tuple #[O ii (pos l i),.bool (zBm l i)])/\Below w.heap.size w w':=by
 obtain ⟨a,cap,rfl,hcap,hmax,hat⟩:=hv.form;have hlen:(0:Int)<=(l.length:Nat)/\((l.length:Nat):Int)<=256:=by omega
 go_enter func105,ntmps105;go_wp2_with fail;go_loopw [9,10,11] (fun p q r wr=>∃m n:Nat,m<=pos l i/\pos l i<=n/\n<=l.length/\p = O ii m/\q = O ii n/\Below w.heap.size w wr) (fun p q r _=>(intOf q).toNat-(intOf p).toNat)
 case atStart =>
  exact ⟨0,l.length,Nat.zero_le _,zM5 l i,Nat.le_refl _,rfl,rfl,Below.refl _ _⟩
 case round =>
  obtain ⟨m,n,hm,hn,hn2,rfl,rfl,hb⟩:=hrel
  by_cases hlt:m<n
  ·obtain ⟨h,hh,hmh,hhn⟩:∃h:Nat,((m:Int)+n)/2=(h:Int)/\m<=h/\h<n:=⟨(m+n)/2,by omega,by omega,by omega⟩
   have hk:l[h]? = some l[h]:=List.getElem?_eq_getElem (by omega);obtain ⟨t,ht⟩:∃t,l[h]? = some t:=⟨_,hk⟩
   have hp:=zHb hs i h t ht;obtain ⟨g,rfl,hg,c0,c1,c2,c3,c4⟩:=(hat h t ht).kept hb;have hsz:(h:Int)<(l.length:Nat):=by omega
   have Hp:=zAc hp;have Hs:=zAc hs;clear hk hp hs ht hat
   by_cases hc:t.id<i
   ·have hc':zFp t.id i<0:=zRr.2 hc;go_wp2_with fail;refine (zMl t i _).mono ?_;rintro e w1 ⟨rfl,hb1⟩;have hb2:=bt hb hb1;go_wp2_with fail;go_roundw
    case rel=>exact ⟨h+1,n,(Hp.out.1 hc),hn,hn2,by go_num,rfl,hb2⟩
    case measure=>simp [intOf];omega
   ·have hc':¬zFp t.id i<0:=fun e=>hc (zRr.1 e);go_wp2_with fail;refine (zMl t i _).mono ?_;rintro e w1 ⟨rfl,hb1⟩;have hb2:=bt hb hb1;go_wp2_with fail;go_roundw
    case rel=>exact ⟨m,h,hm,by have:=Hp.out;omega,by omega,rfl,rfl,hb2⟩
    case measure=>simp [intOf];omega
  ·have hmn:m=pos l i:=by omega
   have hnn:n=pos l i:=by omega
   subst hmn;subst hnn;generalize hpl:pos l i=P at *;have Hpl:=zAc hpl
   by_cases hP:P<l.length
   ·obtain ⟨t,ht⟩:∃t,l[P]? = some t:=⟨_,List.getElem?_eq_getElem hP⟩
    have hf:zBm l i=decide (t.id=i):=zT4 hs (by rw [hpl];exact ht);have Hf:=zAc hf;obtain ⟨g,rfl,hg,c0,c1,c2,c3,c4⟩:=(hat P t ht).kept hb;have hsz:(P:Int)<(l.length:Nat):=by omega
    clear hpl hf hat ht hs;go_wp2_with fail;refine (zMl t i _).mono ?_;rintro e w1 ⟨rfl,hb1⟩;have hb2:=bt hb hb1;go_wp2_with fail;go_ret2
    exact ⟨zVh (by rw [Hpl.out]) (by rw [Hf.out,Bool.eq_iff_iff,decide_eq_true_iff];simp [zUm]),hb2⟩
   ·have hf:zBm l i=false:=zRe hs (by rw [hpl];omega);have Hf:=zAc hf;have hsz:¬(P:Int)<(l.length:Nat):=by omega
    clear hpl hf hat hs;go_wp2_with fail;go_ret2
    exact ⟨zVh (by rw [Hpl.out]) (by rw [Hf.out]),hb⟩
theorem zKq (l:List Bd) (v:Value) (i:Int) (p:Nat) (w:World) (hc:w.cell? ⟨p,5,none⟩=some v) (hv:Bds w v l) (hs:zBv l) (hl:l.length<=256) :
 Calls pg 68 #[.pointer (some ⟨p,0,none⟩),O ii i] w fun e w'=>e = .returned (.tuple #[O ii (pos l i),.bool (zBm l i)])/\Below w.heap.size w w':=by
 obtain ⟨a,cap,rfl,hcap,hmax,hat⟩:=hv.form;go_enter func68,ntmps68;go_wp2_with (go_at_call 105;refine (zN6 l _ i _ hv hs hl).mono ?_;rintro e w1 ⟨rfl,hb1⟩);go_ret2
 exact ⟨rfl,hb1⟩
def z55:Value:=.agg #[O ii 0,O ii 0,O ii 0,O ii 0,O ii 0]
theorem zNg:(pg.info? 51).map (fun i=>(i.zero,i.size,i.bytes))=some (some z55,5,40):=by kernel_rfl
theorem zSx (w:World):(Go.sizeOf 51).run pg w = .ok 5 w:=by kernel_rfl
theorem zKg {t:Bd}:∀u∈t.cs,u.oneCell'=true:=by
 intro u hu;simp only [Bd.cs,List.mem_cons,List.not_mem_nil,or_false] at hu;rcases hu with rfl|rfl|rfl|rfl|rfl<;>rfl
theorem zLz {l:List Bd}:∀u∈l.flatMap Bd.cs,u.oneCell'=true:=by
 intro u hu;obtain ⟨t,_,h⟩:=List.mem_flatMap.1 hu;exact zKg u h
theorem zEx (w:World) (ty:TypeId) (g o dLen dCap:Nat) (a:Addr) (sLen sCap:Nat) (cur:List Value) (t:TypeId) (cs:List Value)
 (hg:w.heap[g]? = some (.cells cur.toArray t (0,0))) (hn:cs.length=Nat.min sLen dLen*5)
 (hsrc:∀j v,cs[j]? = some v->w.cell? (a.add j)=some v) (hfit:o+cs.length<=cur.length) (h1:∀v∈cs,v.oneCell'=true) :
 (Builtin.copy_ #[23,23] ty #[.slice (some ⟨g,o,none⟩) dLen dCap,.slice (some a) sLen sCap]).run pg w =
  .ok (goInt (Nat.min sLen dLen)) (w.setRow g (splice cur o cs).toArray):=by
 have hl:=run_loadCells_list (P:=pg) w a cs hsrc;have hst:=run_storeCells_at pg g o t cs 0 cur.toArray w hg (by simpa using hfit) h1;obtain ⟨i,hi,_,h5,_⟩:=info_parts zNg;simp [Builtin.copy_,run_underlying Tryz.underlying23,Builtin.lenOf,Builtin.firstCells,sizeOf,typeInfo,hi,h5,<-hn,hl,hst,splice]
theorem zNy {P:Program} {w:World} {o:Oper} {a:Act} {K:Act->World->Prop} {Q:Exit->Act->World->Prop} (d s:Operand) (t t':TypeId)
 (ho:o.op = .call { callee:=.builtin .copy,args:=#[d,s],argTypes:=#[t,t'] }) {v u v':Value} {w':World} (hd:a.eval d=v) (hs:a.eval s=u)
 (hr:(Builtin.copy_ #[t,t'] o.type #[v,u]).run P w = .ok v' w') (h:K (a.put o.dst v') w'):o.wp P a w K Q:=by
 unfold Oper.wp execOp;simp only [ho,resolve,invoke,builtin,Sem.run_bind,Sem.run_pure,Result.andThen_ok,List.map_toArray,List.map_cons,List.map_nil,hd,hs,hr];exact h
theorem zFv {P:Program} {ops:Array Oper} {o:Oper} {a:Act} {w:World} {K:Act->World->Prop} {Q:Exit->Act->World->Prop} {E:Prop} (hgd:o.guard=none) (d s:Operand) (t t':TypeId)
 (ho:o.op = .call { callee:=.builtin .copy,args:=#[d,s],argTypes:=#[t,t'] }) {v u v':Value} {w':World} (hd:a.eval d=v) (hs:a.eval s=u)
 (hr:(Builtin.copy_ #[t,t'] o.type #[v,u]).run P w = .ok v' w') (hK:K (a.put o.dst v') w') :
 if Region.wanted o (yielded ops a.tmps)=true then Oper.wp P o a w K Q else E:=by
 have hw:Region.wanted o (yielded ops a.tmps)=true:=by simp [Region.wanted,hgd]
 rw [if_pos hw];exact zNy d s t t' ho hd hs hr hK
theorem zF8 {P:Program} {w:World} {ops:Array Oper} {rest:List Oper} {o:Oper} {a:Act} {Q:Exit->Act->World->Prop} (hgd:o.guard=none) (d s:Operand) (t t':TypeId)
 (ho:o.op = .call { callee:=.builtin .append,args:=#[d,s],argTypes:=#[t,t'] }) {v u v':Value} {w':World} (hd:a.eval d=v) (hs:a.eval s=u)
 (hr:(Builtin.append_ #[t,t'] o.type #[v,u]).run P w = .ok v' w') (h:wpList P ops Q rest (a.put o.dst v') w'):wpList P ops Q (o::rest) a w:=by
 refine wpList_plain hgd fun _ hK=>?_;unfold Oper.wp execOp;simp only [ho,resolve,invoke,builtin,Sem.run_bind,Sem.run_pure,Result.andThen_ok,List.map_toArray,List.map_cons,List.map_nil,hd,hs,hr];exact hK _ _ h
theorem zGb (w:World) (ty:TypeId) (g i c k:Nat) (olds:List Value) (ho:olds.length=i*5) (hold:∀j v,olds[j]? = some v->w.cell? ((⟨g,0,none⟩:Addr).add j)=some v) (hc:c<i+k) (hk:0<k) (hs:i+k<=1000) :
 ∃cap:Nat,i+k<=cap/\cap<=maxLen/\(Builtin.append_ #[23,3] ty #[.slice (some ⟨g,0,none⟩) i c,O ii k]).run pg w =
  .ok (.slice (some ⟨w.heap.size,0,none⟩) (i+k) cap) (w.drew.alloc (.cells (olds.toArray++(Builtin.zeroCells z55.cells k++Builtin.zeroCells z55.cells (cap-(i+k)))) 51)):=by
 obtain ⟨f,hf,hz,h5,h40⟩:=info_parts zNg;refine ⟨grownCap w (i+k) c 51,grownCap_ge _ _ _ _,grownCap_le_maxLen _ _ _ _ (by unfold maxLen;omega),?_⟩;have hl:=run_firstCells_some (P:=pg) w.drew 5 i ⟨g,0,none⟩ i c olds ho (fun j v h=>hold j v h);have hn:¬(i+k<=c):=by omega
 have hfit:=growslice_fits (bytes:=40) (show c<i+k by omega) (by omega);have h48:¬(281474976710656<Builtin.nextslicecap (i+k) c*40):=by omega
 have hw:IntKind.i64.wrap (k:Int)=k:=by rw [IntKind.wrap_i64];omega
 have hneg:¬((k:Int)<0):=by omega
 have hbig:¬((281474976710656:Int)<(k:Int)*40):=by omega
 have h63:¬((9223372036854775807:Int)<(i:Int)+(k:Int)):=by omega
 have hk5:¬(k=0):=by omega
 have hmx:max (k:Int) 0=k:=by omega
 simp [Builtin.append_,run_underlying Tryz.underlying23,run_underlying Tryz.underlying3,sizeOf,typeInfo,zeroValue,hf,hz,h5,h40,asInt,asIntOf,hw,hneg,hbig,hn,h63,h48,hmx,Question.forced,hl,newRow,grownCap];omega
theorem zMp (k:Nat):(Builtin.zeroCells z55.cells k).toList.length=k*5:=by rw [Array.length_toList,size_zeroCells];rfl
theorem zEz {w:World} {e:TypeId} {size:Nat} {v:Value} {n:Nat} {xs:List Value} (h:w.ownsRow 0 e size v (n+1) xs):∃g cap,v = .slice (some ⟨g,0,none⟩) (n+1) cap:=by
 rcases h.2 with ⟨_,h0⟩|⟨g,cap,cur,e,_⟩
 ·omega
 ·exact ⟨g,cap,e⟩
def zEa (w:World) (v:Value) (l':List Bd) (e:Ending) (w':World):Prop:=
 ∃g cap,e = .returned (.slice (some ⟨g,0,none⟩) l'.length cap)/\Bds w' (.slice (some ⟨g,0,none⟩) l'.length cap) l'/\w.grownBy w' v.ownBlock/\(v.ownBlock=some g\/w.heap.size<=g)
theorem zJm {w:World} {vb:Nat} {t:Bd} (h:w.heap[vb]? = some (.cells t.cs.toArray 51 (0,0))):∀j u,t.cs[j]? = some u->w.cell? ((⟨vb,0,none⟩:Addr).add j)=some u:=by
 intro j u hu;rw [Addr.add_lit,Nat.zero_add,cell_of_row w vb j _ _ _ h];simpa using hu
theorem zOx (l:List Bd) (v:Value) (t:Bd) (vb:Nat) (w:World) (hv:Bds w v l) (hl:l.length<256) (hvb:w.heap[vb]? = some (.cells t.cs.toArray 51 (0,0))) :
 Calls pg 82 #[v,O ii (l.length:Nat),.slice (some ⟨vb,0,none⟩) 1 1] w (zEa w v (l++[t])):=by
 obtain ⟨f,hf,hz,h5,h40⟩:=info_parts zNg;have hnews:=zJm hvb;have H:=zAc hvb;have HV:=zAc hv;have hlen:(0:Int)<=(l.length:Nat)/\((l.length:Nat):Int)<256:=by omega
 obtain ⟨a,cap,rfl,hcap,hmax,-⟩:=hv.form;have hmax':cap<=9223372036854775807:=hmax;clear hv hvb;have hm1:l.length+1<=maxLen:=by unfold maxLen;omega
 have hm2:(l.length+1)*40<=140737488355328:=by omega
 by_cases hcc:cap=l.length
 ·subst hcc;go_enter func82,ntmps82;go_wp2_with (at_builtin;refine wpList_append_own_at _ rfl _ _ 23 rfl 0 51 f z55 5 40 Tryz.underlying23 hf hz h5 h40 rfl (by decide) (.slice a l.length l.length) l.length _ rfl HV.out ⟨vb,0,none⟩ 1 1 t.cs rfl rfl hnews zKg hm1 hm2 (Nat.zero_le _) ?_;intro v' w1 hown' hgrow hnil hloc;obtain ⟨g',cap',rfl⟩:=zEz hown');go_ret;refine ⟨g',cap',by simp,?_,hgrow,?_⟩
  ·simpa [Bds] using hown'
  ·rcases hloc with h|h
   ·exact .inl (by rw [<-h];rfl)
   ·simp only [Value.ownBlock,Option.some.injEq] at h;exact .inr (by omega)
 ·have hcc':¬cap<=l.length:=by omega
  go_enter func82,ntmps82;go_wp2_with (at_builtin;refine wpList_append_own_at _ rfl _ _ 23 rfl 0 51 f z55 5 40 Tryz.underlying23 hf hz h5 h40 rfl (by decide) (.slice a l.length cap) l.length _ rfl HV.out ⟨vb,0,none⟩ 1 1 t.cs rfl rfl hnews zKg hm1 hm2 (Nat.zero_le _) ?_;intro v' w1 hown' hgrow hnil hloc;obtain ⟨g',cap',rfl⟩:=zEz hown');go_ret;refine ⟨g',cap',by simp,?_,hgrow,?_⟩
  ·simpa [Bds] using hown'
  ·rcases hloc with h|h
   ·exact .inl (by rw [<-h];rfl)
   ·simp only [Value.ownBlock,Option.some.injEq] at h;exact .inr (by omega)
theorem qAv (w:World) (vb g n c n' c' o:Nat) (t:Bd) (cur:Array Value) (hne:vb≠g) (hvb:w.heap[vb]? = some (.cells t.cs.toArray 51 (0,0))) (hg:w.heap[g]? = some (.cells cur 51 (0,0))) (hc:cur.size≠0) :
 (callFunc 118 #[.slice (some ⟨vb,0,none⟩) n c,.slice (some ⟨g,o,none⟩) n' c']).run pg w = .ok (.value (.bool false)) w:=by
 rw [run_callFunc_extern func118 (by kernel_rfl) (by kernel_rfl) (by kernel_rfl) (e:=Extern.SlicesOverlaps.overlaps #[23,23] #[4]) (by kernel_rfl),
  Lib.run_overlaps_apart w 23 4 51 Tryz.underlying23 5 zSx ⟨vb,0,none⟩ ⟨g,o,none⟩ n c n' c' hne 51 51 5 cur.size (by simp [World.shape?,hvb,Bd.cs]) (by simp [World.shape?,hg]) hc (by simp [World.frozen?,hvb]) (by simp [World.frozen?,hvb])]
 rfl
theorem zM8 {a b:Nat} (h:a<=b):Nat.min a b=a:=Nat.min_eq_left h
theorem zVo {a b:Nat} (h:b<=a):Nat.min a b=b:=Nat.min_eq_right h
theorem zZg (l:List Bd) (i:Nat):(l.take i).flatMap Bd.cs=(l.flatMap Bd.cs).take (i*5):=by
 induction i generalizing l with
 |zero=>simp
 |succ i ih =>
  cases l with
  |nil=>simp
  |cons t r =>
   rw [List.take_succ_cons,List.flatMap_cons,List.flatMap_cons,ih r,List.take_append];have:t.cs.length=5:=rfl;rw [List.take_of_length_le (l:=t.cs) (by omega),this,show (i+1)*5-5=i*5 by omega]
theorem zRp (l:List Bd) (i:Nat):(l.drop i).flatMap Bd.cs=(l.flatMap Bd.cs).drop (i*5):=by
 induction i generalizing l with
 |zero=>simp
 |succ i ih =>
  cases l with
  |nil=>simp
  |cons t r =>
   rw [List.drop_succ_cons,List.flatMap_cons,ih r,List.drop_append];have:t.cs.length=5:=rfl;rw [List.drop_of_length_le (l:=t.cs) (by omega),this,show (i+1)*5-5=i*5 by omega,List.nil_append]
theorem zN0 {α:Type} (X A C T:List α) (k m:Nat) (hA:A.length=k) (hT:T.length=m) (hX:X.take (k+C.length)=A++C) (hs:k+m+C.length<=X.length) :
 (splice (splice X (k+m) C) k T).take (k+m+C.length)=A++(T++C):=by
 have e0:X.take k=A:=by
  have:=congrArg (List.take k) hX;rw [List.take_take,Nat.min_eq_left (by omega),List.take_append_of_le_length (by omega),List.take_of_length_le (l:=A) (by omega)] at this;exact this
 have hk:k<=X.length:=by omega
 have e1:(splice X (k+m) C).take k=A:=by
  unfold splice;rw [List.take_append_of_le_length (by simp;omega),List.take_take,Nat.min_eq_left (by omega),e0]
 have e2:(splice X (k+m) C).drop (k+m)=C++X.drop (k+m+C.length):=by
  unfold splice;have hl:(X.take (k+m)).length=k+m:=by simp;omega
  rw [List.drop_append_of_le_length (by omega),List.drop_of_length_le (by omega),List.nil_append]
 rw [splice,e1,hT,e2];rw [<-List.append_assoc,<-List.append_assoc,List.take_append_of_le_length (by simp;omega),List.take_of_length_le (by simp;omega),List.append_assoc]
theorem zL9 (l:List Bd) (g cap i:Nat) (t:Bd) (vb:Nat) (w:World) (hv:Bds w (.slice (some ⟨g,0,none⟩) l.length cap) l) (hl:l.length<256) (hi:i<l.length) (hvb:w.heap[vb]? = some (.cells t.cs.toArray 51 (0,0))) (hne:vb≠g) (hroom:l.length+1<=cap) :
 Calls pg 82 #[.slice (some ⟨g,0,none⟩) l.length cap,O ii i,.slice (some ⟨vb,0,none⟩) 1 1] w (zEa w (.slice (some ⟨g,0,none⟩) l.length cap) (l.take i++t::l.drop i)):=by
 obtain ⟨X,hX,hcap,hXl,hXt⟩:∃X:List Value,w.heap[g]? = some (.cells X.toArray 51 (0,0))/\cap<=maxLen/\X.length=cap*5/\X.take (l.length*5)=l.flatMap Bd.cs:=by
  rcases hv.2 with ⟨e,_⟩|⟨g',cap',cur,e,hb,hg,hn,hm,hs,ht⟩
  ·cases e
  ·cases e;exact ⟨cur.toList,by simpa using hg,hm,by simpa using hs,ht⟩
 have hmax':cap<=9223372036854775807:=hcap;obtain ⟨n,hn⟩:∃n,n=l.length:=⟨_,rfl⟩
 have hov:=fun c n' c' o=>qAv w vb g 1 c n' c' o t X.toArray hne hvb hX (by rw [List.size_toArray];omega);have h1:¬((i:Int)=(l.length:Nat)):=by omega
 have h2:¬((cap:Int)<(l.length:Nat)+1):=by omega
 have h3:¬cap=i+1:=by omega
 have h4:¬cap=i:=by omega
 have h5:(i:Int)<=(l.length:Nat):=by omega
 have hw1:IntKind.i64.wrap ((i:Int)+1)=(i:Int)+1:=by rw [IntKind.wrap_i64];omega
 have hb1:(0:Int)<=(i:Int)+1:=by omega
 have htn:((i:Int)+1).toNat=i+1:=by omega
 have hb3:(i:Int)<=(l.length:Nat)+1:=by omega
 have hb6:i<=l.length:=by omega
 have hlen:=cs_len (l.drop i);rw [List.length_drop] at hlen
 have hCc:∀j u,((l.drop i).flatMap Bd.cs)[j]? = some u->w.cell? ⟨g,i*5+j,none⟩=some u:=fun j u hu=>by
  rw [zRp,List.getElem?_drop] at hu;have:=hv.cells (g:=g) rfl (i*5+j) u hu;simpa [Addr.add_lit] using this
 obtain ⟨C,hC⟩:∃C,C=(l.drop i).flatMap Bd.cs:=⟨_,rfl⟩
 rw [<-hC] at hlen hCc;have hC1:∀u∈C,u.oneCell'=true:=by rw [hC];exact zLz
 obtain ⟨W1,hW1⟩:∃W1,W1=w.drew.setRow g (splice X ((i+1)*5) C).toArray:=⟨_,rfl⟩
 have hcp1:∀ty o1 d1 c1 o2 d2 c2,o1=(i+1)*5->d1=l.length-i->o2=i*5->d2=l.length+1-i->(Builtin.copy_ #[23,23] ty #[.slice (some ⟨g,o1,none⟩) d1 c1,.slice (some ⟨g,o2,none⟩) d2 c2]).run pg w.drew = .ok (goInt (l.length-i:Nat)) W1:=by
  rintro ty _ _ c1 _ _ c2 rfl rfl rfl rfl;have:=zEx w.drew ty g ((i+1)*5) (l.length-i) c1 ⟨g,i*5,none⟩ (l.length+1-i) c2 X 51 C hX (by rw [hlen,zVo (by omega)]) (fun j u hu=>by rw [Addr.add_lit];exact hCc j u hu) (by omega) hC1;rw [this,hW1,zVo (by omega)]
 have hg1:W1.heap[g]? = some (.cells (splice X ((i+1)*5) C).toArray 51 (0,0)):=by rw [hW1];exact setRow_heap w.drew g _ _ 51 _ hX
 have hv1:W1.heap[vb]? = some (.cells t.cs.toArray 51 (0,0)):=by rw [hW1,setRow_other w.drew g vb _ (by omega)];exact hvb
 have hl1:(splice X ((i+1)*5) C).length=X.length:=length_splice _ _ _ (by omega);obtain ⟨W2,hW2⟩:∃W2,W2=W1.setRow g (splice (splice X ((i+1)*5) C) (i*5) t.cs).toArray:=⟨_,rfl⟩
 have ht5:t.cs.length=5:=rfl
 have hcp2:∀ty o1 d1 c1 c2,o1=i*5->d1=l.length+1-i->(Builtin.copy_ #[23,23] ty #[.slice (some ⟨g,o1,none⟩) d1 c1,.slice (some ⟨vb,0,none⟩) 1 c2]).run pg W1 = .ok (goInt (1:Nat)) W2:=by
  rintro ty _ _ c1 c2 rfl rfl;have hm1:Nat.min 1 (l.length+1-i)=1:=zM8 (by omega);have:=zEx W1 ty g (i*5) (l.length+1-i) c1 ⟨vb,0,none⟩ 1 c2 _ 51 t.cs hg1 (by rw [hm1];rfl) (zJm hv1) (by omega) zKg;rw [this,hW2,hm1]
 have hg2:W2.heap[g]? = some (.cells (splice (splice X ((i+1)*5) C) (i*5) t.cs).toArray 51 (0,0)):=by rw [hW2];exact setRow_heap W1 g _ _ 51 _ hg1
 have hgr:w.grownBy W2 (some g):=by
  rw [hW2,hW1]
  exact ⟨rfl,rfl,rfl,by simp [World.setRow],fun k hk hn=>by
   have:k≠g:=fun e=>hn (by rw [e])
   rw [setRow_other _ g k _ this,setRow_other _ g k _ this];rfl⟩
 have hfin:zEa w (.slice (some ⟨g,0,none⟩) l.length cap) (l.take i++t::l.drop i) (.returned (.slice (some ⟨g,0,none⟩) (l.length+1) cap)) W2:=by
  have hll:(l.take i++t::l.drop i).length=l.length+1:=by simp;omega
  refine ⟨g,cap,by rw [hll],?_,hgr,.inl rfl⟩;refine ⟨by rw [cs_len],.inr ⟨g,cap,_,by rw [hll],Nat.zero_le _,hg2,by omega,hcap,by rw [List.size_toArray,length_splice _ _ _ (by omega),hl1,hXl],?_⟩⟩;rw [hll,List.toList_toArray];have hA:((l.take i).flatMap Bd.cs).length=i*5:=by rw [cs_len,List.length_take];omega
  have:=zN0 X ((l.take i).flatMap Bd.cs) C t.cs (i*5) 5 hA rfl (by rw [hlen,show i*5+(l.length-i)*5=l.length*5 by omega,hXt,hC,<-List.flatMap_append,List.take_append_drop]) (by omega);rw [show i*5+5=(i+1)*5 by omega,hlen,show (i+1)*5+(l.length-i)*5=(l.length+1)*5 by omega] at this;rw [this,hC,List.flatMap_append,List.flatMap_cons]
 have hcp1':=fun ty=>hcp1 ty ((i+1)*5) (l.length-i) (cap-(i+1)) (i*5) (l.length+1-i) (cap-i) rfl rfl rfl rfl;have hcp2':=fun ty=>hcp2 ty (i*5) (l.length+1-i) (cap-i) 1 rfl rfl;have HF:=zAc hfin;have H1:=fun ty=>zAc (hcp1' ty);clear hfin hgr hg2 hl1 hg1 hv1 hCc hC1 hlen hXt hXl hX hv hvb hC hW1 hW2 hcp1 hcp2 hcp1' ht5 hn;go_enter func82,ntmps82;go_wp2_with (simp only [hov]);go_region_law (refine zFv rfl _ _ 23 23 rfl (by simp [Act.eval,Act.put]) (by simp [Act.eval,Act.put]) (H1 _).out ?_)
 go_wp2_with fail;go_ret;exact HF.out
theorem zMf {α:Type} (A C T Z:List α) (k m:Nat) (hA:A.length=k) (hT:T.length=m) (hs:m+C.length<=Z.length) :
 (splice (splice (A++Z) k T) (k+m) C).take (k+m+C.length)=A++(T++C):=by
 subst hA;subst hT
 have e1:splice (A++Z) A.length T=A++(T++Z.drop T.length):=by
  unfold splice;rw [List.take_left,List.drop_append];simp
 rw [e1];unfold splice
 have e2:(A++(T++Z.drop T.length)).take (A.length+T.length)=A++T:=by
  rw [<-List.append_assoc,List.take_append_of_le_length (by simp),List.take_of_length_le (by simp)]
 rw [e2,<-List.append_assoc,List.take_append_of_le_length (by simp;omega),List.take_of_length_le (by simp;omega),List.append_assoc]
theorem zMa (l:List Bd) (g cap i:Nat) (t:Bd) (vb:Nat) (w:World) (hv:Bds w (.slice (some ⟨g,0,none⟩) l.length cap) l) (hl:l.length<256) (hi:i<l.length) (hvb:w.heap[vb]? = some (.cells t.cs.toArray 51 (0,0))) (hne:vb≠g) (hroom:¬l.length+1<=cap) :
 Calls pg 82 #[.slice (some ⟨g,0,none⟩) l.length cap,O ii i,.slice (some ⟨vb,0,none⟩) 1 1] w (zEa w (.slice (some ⟨g,0,none⟩) l.length cap) (l.take i++t::l.drop i)):=by
 obtain ⟨X,hX,hcap,hcl,hXl,hXt⟩:∃X:List Value,w.heap[g]? = some (.cells X.toArray 51 (0,0))/\cap<=maxLen/\l.length<=cap/\X.length=cap*5/\X.take (l.length*5)=l.flatMap Bd.cs:=by
  rcases hv.2 with ⟨e,_⟩|⟨g',cap',cur,e,hb,hg,hn,hm,hs,ht⟩
  ·cases e
  ·cases e;exact ⟨cur.toList,by simpa using hg,hm,hn,by simpa using hs,ht⟩
 obtain rfl:cap=l.length:=by omega
 have hvlt:=(gE.1 hvb).1;have hglt:=(gE.1 hX).1;have hlenD:=cs_len (l.drop i);rw [List.length_drop] at hlenD;have hlenA:((l.take i).flatMap Bd.cs).length=i*5:=by rw [cs_len,List.length_take];omega
 have hCc:∀j u,((l.drop i).flatMap Bd.cs)[j]? = some u->w.cell? ⟨g,i*5+j,none⟩=some u:=fun j u hu=>by
  rw [zRp,List.getElem?_drop] at hu;have:=hv.cells (g:=g) rfl (i*5+j) u hu;simpa [Addr.add_lit] using this
 have hAc:∀j u,((l.take i).flatMap Bd.cs)[j]? = some u->w.cell? ((⟨g,0,none⟩:Addr).add j)=some u:=fun j u hu=>by
  rw [zZg,List.getElem?_take] at hu
  split at hu
  ·exact hv.cells (g:=g) rfl j u hu
  ·cases hu
 obtain ⟨C,hC⟩:∃C,C=(l.drop i).flatMap Bd.cs:=⟨_,rfl⟩
 obtain ⟨A,hA⟩:∃A,A=(l.take i).flatMap Bd.cs:=⟨_,rfl⟩
 rw [<-hC] at hlenD hCc;rw [<-hA] at hlenA hAc;have hC1:∀u∈C,u.oneCell'=true:=by rw [hC];exact zLz
 obtain ⟨cap',hge,hle,hrun⟩:∃cap':Nat,l.length+1<=cap'/\cap'<=maxLen/\∀ty,(Builtin.append_ #[23,3] ty #[.slice (some ⟨g,0,none⟩) i l.length,O ii ((l.length:Int)+1-i)]).run pg w =
  .ok (.slice (some ⟨w.heap.size,0,none⟩) (l.length+1) cap') (w.drew.alloc (.cells (A.toArray++(Builtin.zeroCells z55.cells (l.length+1-i)++Builtin.zeroCells z55.cells (cap'-(l.length+1)))) 51)):=by
  obtain ⟨c,h1,h2,h3⟩:=zGb w 0 g i l.length (l.length+1-i) A hlenA hAc (by omega) (by omega) (by omega);rw [show i+(l.length+1-i)=l.length+1 by omega] at h1 h3;refine ⟨c,h1,h2,fun ty=>?_⟩;have e:((l.length:Int)+1-i)=((l.length+1-i:Nat):Int):=by omega
  rw [e];exact h3
 obtain ⟨Z,hZ⟩:∃Z,Z=(Builtin.zeroCells z55.cells (l.length+1-i)++Builtin.zeroCells z55.cells (cap'-(l.length+1))).toList:=⟨_,rfl⟩
 have hZl:Z.length=(cap'-i)*5:=by
  rw [hZ,Array.toList_append,List.length_append,zMp,zMp];omega
 obtain ⟨W0,hW0⟩:∃W0,W0=w.drew.alloc (.cells (A.toArray++(Builtin.zeroCells z55.cells (l.length+1-i)++Builtin.zeroCells z55.cells (cap'-(l.length+1)))) 51):=⟨_,rfl⟩
 rw [<-hW0] at hrun
 have hZ0:(A.toArray++(Builtin.zeroCells z55.cells (l.length+1-i)++Builtin.zeroCells z55.cells (cap'-(l.length+1))))=(A++Z).toArray:=by
  apply Array.ext';rw [hZ];simp
 rw [hZ0] at hW0;have hg0:W0.heap[w.heap.size]? = some (.cells (A++Z).toArray 51 (0,0)):=by rw [hW0];exact heap_alloc_new w.drew _
 have hold:∀k,k<w.heap.size->W0.heap[k]? = w.heap[k]? := fun k hk=>by rw [hW0];exact Below.heap_alloc w.drew _ k hk
 have hv0:W0.heap[vb]? = some (.cells t.cs.toArray 51 (0,0)):=(hold vb hvlt).trans hvb;obtain ⟨W1,hW1⟩:∃W1,W1=W0.setRow w.heap.size (splice (A++Z) (i*5) t.cs).toArray:=⟨_,rfl⟩
 have ht5:t.cs.length=5:=rfl;have hlAZ:(A++Z).length=cap'*5:=by rw [List.length_append];omega
 have hcp1:∀ty c1,(Builtin.copy_ #[23,23] ty #[.slice (some ⟨w.heap.size,i*5,none⟩) (l.length+1-i) c1,.slice (some ⟨vb,0,none⟩) 1 1]).run pg W0 = .ok (goInt (1:Nat)) W1:=by
  intro ty c1;have hm1:Nat.min 1 (l.length+1-i)=1:=zM8 (by omega);have:=zEx W0 ty w.heap.size (i*5) (l.length+1-i) c1 ⟨vb,0,none⟩ 1 1 _ 51 t.cs hg0 (by rw [hm1];rfl) (zJm hv0) (by omega) zKg;rw [this,hW1,hm1]
 have hg1:W1.heap[w.heap.size]? = some (.cells (splice (A++Z) (i*5) t.cs).toArray 51 (0,0)):=by rw [hW1];exact setRow_heap W0 _ _ _ 51 _ hg0
 have hl1:(splice (A++Z) (i*5) t.cs).length=cap'*5:=by rw [length_splice _ _ _ (by omega),hlAZ]
 have hold1:∀k,k<w.heap.size->W1.heap[k]? = w.heap[k]? := fun k hk=>by rw [hW1,setRow_other W0 _ k _ (by omega)];exact hold k hk
 obtain ⟨W2,hW2⟩:∃W2,W2=W1.drew.setRow w.heap.size (splice (splice (A++Z) (i*5) t.cs) ((i+1)*5) C).toArray:=⟨_,rfl⟩
 have hcp2:∀ty c1 c2,(Builtin.copy_ #[23,23] ty #[.slice (some ⟨w.heap.size,(i+1)*5,none⟩) (l.length-i) c1,.slice (some ⟨g,i*5,none⟩) (l.length-i) c2]).run pg W1.drew = .ok (goInt (l.length-i:Nat)) W2:=by
  intro ty c1 c2
  have:=zEx W1.drew ty w.heap.size ((i+1)*5) (l.length-i) c1 ⟨g,i*5,none⟩ (l.length-i) c2 _ 51 C hg1 (by rw [hlenD,zM8 (Nat.le_refl _)])
   (fun j u hu=>by
    rw [Addr.add_lit]
    exact (World.cell?_of_block (w:=w) (w':=W1.drew) (a:=⟨g,i*5+j,none⟩) (hold1 g hglt)).trans (hCc j u hu)) (by omega) hC1
  rw [this,hW2,zM8 (Nat.le_refl _)]
 have hg2:W2.heap[w.heap.size]? = some (.cells (splice (splice (A++Z) (i*5) t.cs) ((i+1)*5) C).toArray 51 (0,0)):=by rw [hW2];exact setRow_heap W1.drew _ _ _ 51 _ hg1
 have hgr:w.grownBy W2 (some g):=by
  refine ⟨by rw [hW2,hW1,hW0];rfl,by rw [hW2,hW1,hW0];rfl,by rw [hW2,hW1,hW0];rfl,?_,fun k hk hn=>?_⟩
  ·have:=(gE.1 hg2).1;omega
  ·rw [hW2,setRow_other W1.drew _ k _ (by omega)];exact hold1 k hk
 have hfin:zEa w (.slice (some ⟨g,0,none⟩) l.length l.length) (l.take i++t::l.drop i) (.returned (.slice (some ⟨w.heap.size,0,none⟩) (l.length+1) cap')) W2:=by
  have hll:(l.take i++t::l.drop i).length=l.length+1:=by simp;omega
  refine ⟨w.heap.size,cap',by rw [hll],?_,hgr,.inr (Nat.le_refl _)⟩;refine ⟨by rw [cs_len],.inr ⟨w.heap.size,cap',_,by rw [hll],Nat.zero_le _,hg2,by omega,hle,by rw [List.size_toArray,length_splice _ _ _ (by omega),hl1],?_⟩⟩;rw [hll,List.toList_toArray];have:=zMf A C t.cs Z (i*5) 5 hlenA rfl (by omega);rw [show i*5+5=(i+1)*5 by omega,hlenD,show (i+1)*5+(l.length-i)*5=(l.length+1)*5 by omega] at this;rw [this,hC,hA,List.flatMap_append,List.flatMap_cons]
 have hw1:IntKind.i64.wrap ((i:Int)+1)=(i:Int)+1:=by rw [IntKind.wrap_i64];omega
 have hb1:(0:Int)<=(i:Int)+1:=by omega
 have htn:((i:Int)+1).toNat=i+1:=by omega
 have hb3:(i:Int)<=(l.length:Nat)+1:=by omega
 have hb6:i<=l.length:=by omega
 have h1:¬((i:Int)=(l.length:Nat)):=by omega
 have h3:¬cap'=i+1:=by omega
 have h4:¬cap'=i:=by omega
 have h5:(i:Int)<=(l.length:Nat):=by omega
 have h6:¬l.length=i:=by omega
 have hcp1':=fun ty=>hcp1 ty (cap'-i);have HR:=fun ty=>zAc (hrun ty);have H2:=fun ty=>zAc (hcp2 ty (cap'-(i+1)) (l.length-i));have hc':cap'<=9223372036854775807:=hle;have HF:=zAc hfin;clear hfin hgr hg2 hl1 hg1 hCc hC1 hlenD hlenA hXt hXl hX hv hvb hC hW1 hW2 hW0 hcp1 hcp2 ht5 hold hold1 hv0 hg0 hZ0 hZl hZ hA hAc hlAZ hrun;go_enter func82,ntmps82;go_wp2_with (at_builtin;refine zF8 rfl _ _ 23 3 rfl rfl rfl (HR _).out ?_);go_region_law (refine zFv rfl _ _ 23 23 rfl (by simp [Act.eval,Act.put]) (by simp [Act.eval,Act.put]) (H2 _).out ?_)
 go_wp2_with fail;go_ret;exact HF.out
theorem zOy (l:List Bd) (v:Value) (i:Nat) (t:Bd) (vb:Nat) (w:World) (hv:Bds w v l) (hl:l.length<256) (hi:i<=l.length) (hvb:w.heap[vb]? = some (.cells t.cs.toArray 51 (0,0))) (hne:v.ownBlock≠some vb) :
 Calls pg 82 #[v,O ii i,.slice (some ⟨vb,0,none⟩) 1 1] w (zEa w v (l.take i++t::l.drop i)):=by
 rcases Nat.lt_or_ge i l.length with h|h
 ·rcases hv.2 with ⟨e,h0⟩|⟨g,cap,cur,rfl,_⟩
  ·omega
  ·have hvg:vb≠g:=fun e=>hne (by rw [e];rfl)
   by_cases hr:l.length+1<=cap
   ·exact zL9 l g cap i t vb w hv hl h hvb hvg hr
   ·exact zMa l g cap i t vb w hv hl h hvb hvg hr
 ·obtain rfl:i=l.length:=by omega
  have:=zOx l v t vb w hv hl hvb;simpa using this
end Go.Proofs.YthiafmlgialbnaaGreatDoor
