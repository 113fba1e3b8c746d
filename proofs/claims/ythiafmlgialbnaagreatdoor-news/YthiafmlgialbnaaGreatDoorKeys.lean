import Derived.Test.YthiafmlgialbnaaGreatDoorWho
import Derived.WideKeyEntry
import Derived.Maps.Range
import Derived.Maps.OwnSet
import Derived.Test.YthiafmlgialbnaaGreatDoorNestT
import Derived.Test.YthiafmlgialbnaaGreatDoorCmp
import Derived.Test.YthiafmlgialbnaaGreatDoorHeldIn
import Derived.Sort.MapsRangeIn
set_option linter.all false
set_option maxRecDepth 1000000
set_option maxHeartbeats 64000000
namespace Go.Proofs.YthiafmlgialbnaaGreatDoor
open Go.RowKit
section
def zCt:Value->Option (DataW Unit×List MemPlace)
 |.slice none n c=>some (.agg [.lit (.int .i64 (n:Nat)),.lit (.int .i64 (c:Nat))],[])
 |.slice (some ⟨g,o,none⟩) n c=>some (.agg [.lit (.int .i64 (g:Nat)),.lit (.int .i64 (o:Nat)),.lit (.int .i64 (n:Nat)),.lit (.int .i64 (c:Nat))],[])
 |.agg xs=>match xs.toList with
  | []=>some (.agg [],[])
  |_=>none
 |.int .i64 n=>some (.agg [.lit (.int .i64 n)],[])
 |_=>none
theorem zFa {v:Value} {z:DataW Unit×List MemPlace} (h:zCt v=some z):(∃n c,v = .slice none n c/\z=(.agg [.lit (.int .i64 (n:Nat)),.lit (.int .i64 (c:Nat))],[]))\/(∃g o n c,v = .slice (some ⟨g,o,none⟩) n c/\z=(.agg [.lit (.int .i64 (g:Nat)),.lit (.int .i64 (o:Nat)),.lit (.int .i64 (n:Nat)),.lit (.int .i64 (c:Nat))],[]))\/(v = .agg #[]/\z=(.agg [],[]))\/(∃n,v = .int .i64 n/\z=(.agg [.lit (.int .i64 n)],[])):=by
 unfold zCt at h
 split at h
 ·cases h;exact .inl ⟨_,_,rfl,rfl⟩
 ·cases h;exact .inr (.inl ⟨_,_,_,_,rfl,rfl⟩)
 ·rename_i xs
  split at h
  ·rename_i e;cases h;refine .inr (.inr (.inl ⟨?_,rfl⟩));rw [<-Array.toArray_toList (xs:=xs),e]
  ·cases h
 ·cases h;exact .inr (.inr (.inr ⟨_,rfl,rfl⟩))
 ·cases h
theorem zN4 {u v:Value} {d:DataW Unit} {ps qs:List MemPlace} (hu:zCt u=some (d,ps)) (hv:zCt v=some (d,qs)):u=v:=by
 rcases zFa hu with ⟨n,c,rfl,e⟩|⟨g,o,n,c,rfl,e⟩|⟨rfl,e⟩|⟨n,rfl,e⟩<;>rcases zFa hv with ⟨n',c',rfl,e'⟩|⟨g',o',n',c',rfl,e'⟩|⟨rfl,e'⟩|⟨n',rfl,e'⟩<;>simp only [Prod.mk.injEq] at e e'<;>obtain ⟨e,-⟩:=e<;>obtain ⟨e',-⟩:=e'<;>rw [e] at e'<;>simp at e'
 ·obtain ⟨h1,h2⟩:=e';have h1:n=n':=by omega
  have h2:c=c':=by omega
  subst h1 h2;rfl
 ·obtain ⟨h1,h2,h3,h4⟩:=e';have h1:g=g':=by omega
  have h2:o=o':=by omega
  have h3:n=n':=by omega
  have h4:c=c':=by omega
  subst h1 h2 h3 h4;rfl
 ·rw [e']
def dOf (v:Value):DataW Unit:=((zCt v).map (·.1)).getD .nil
def IsS (v:Value):Prop:=zCt v=some (dOf v,[])
theorem zJh:IsS (.slice none 0 0):=rfl
theorem zQy (n:Int):IsS (.int .i64 n):=rfl
theorem zTt (g n c:Nat):IsS (.slice (some ⟨g,0,none⟩) n c):=rfl
theorem zL7 {w:World} {t k n:Nat} {v:Value} {xs:List Value} (h:w.ownsRow 0 t k v n xs):IsS v:=by
 rcases h.2 with ⟨rfl,-⟩|⟨g,cap,cur,rfl,-⟩
 ·exact zJh
 ·exact zTt _ _ _
theorem zVv {v:Value} {z:DataW Unit×List MemPlace} (h:zCt v=some z):IsS v/\z=(dOf v,[]):=by
 unfold IsS dOf;rw [h];rcases zFa h with ⟨n,c,rfl,e⟩|⟨g,o,n,c,rfl,e⟩|⟨rfl,e⟩|⟨n,rfl,e⟩<;>subst e<;>exact ⟨rfl,rfl⟩
theorem IsS.inj {u v:Value} (hu:IsS u) (hv:IsS v) (h:dOf u=dOf v):u=v:=zN4 hu (by rw [h];exact hv)
theorem zYp {v:Value} {kl:Lit} (h:keyOf Tryz.prog 47 v=some kl):∃x y,v=cel x y/\(W64 x/\W64 y)/\kl=ck x y:=by
 have hk:=h;unfold keyOf at hk;rw [Tryz.underlying47] at hk;simp only at hk
 split at hk
 ·rename_i hf;rw [Bool.and_eq_true] at hf;obtain ⟨ls,hl,hls⟩:=Option.map_eq_some_iff.1 hk
  cases v with
  |agg cs =>
   have hsz:cs.size=2:=by
    have:=hf.2;simpa [Value.formed,Tryz.underlying47,zJn] using this
   obtain ⟨a,b,rfl⟩:∃a b,cs=#[a,b]:=by
    rcases cs with ⟨l⟩
    match l,hsz with
    | [a,b],_=>exact ⟨a,b,rfl⟩
   rw [zHy] at hl;unfold Program.keyLits at hl;rw [Tryz.underlying47] at hl;simp [zJn,zWc,Value.cells] at hl
   obtain ⟨la,ha⟩:∃la,Tryz.prog.keyLits 275 3 [a]=some la:=by
    cases hA:Tryz.prog.keyLits 275 3 [a] with
    |none=>rw [hA] at hl;simp at hl
    |some la=>exact ⟨la,rfl⟩
   obtain ⟨lb,hb⟩:∃lb,Tryz.prog.keyLits 275 3 [b]=some lb:=by
    cases hB:Tryz.prog.keyLits 275 3 [b] with
    |none=>rw [ha,hB] at hl;simp at hl
    |some lb=>exact ⟨lb,rfl⟩
   have key:∀{d:Nat} {u:Value} {lu:List Lit},Tryz.prog.keyLits (d+1) 3 [u]=some lu->∃x,u = .int .i64 x/\W64 x:=fun {d u lu} hq=>by
    unfold Program.keyLits at hq;rw [Tryz.underlying3] at hq;cases u<;>simp at hq;obtain ⟨⟨rfl,hw⟩,-⟩:=hq;exact ⟨_,rfl,hw⟩
   obtain ⟨x,rfl,hx⟩:=key (d:=274) ha;obtain ⟨y,rfl,hy⟩:=key (d:=274) hb;exact ⟨x,y,rfl,⟨hx,hy⟩,Option.some.inj (h.symm.trans (hck hx hy))⟩
  |_=>simp [Value.formed,Tryz.underlying47] at hf
 ·cases hk
theorem zZ7:WideMaps.KeyLaw Tryz.prog 47:=deep_law_laid zJf (m:=2) (by omega) qAp (by kernel_rfl) zU8
def MapS (z:Value) (w:World) (b:Nat) (K:List (Int×Int)) (F:Int->Int->Value):Prop:=
 ∃D:DataW Unit,w.ownsMap Tryz.prog 47 zCt b K.length D/\Maps.size D=K.length/\K.Nodup/\(∀q∈K,W64 q.1/\W64 q.2)/\IsS z/\(∀x y,IsS (F x y))/\(∀x y,(x,y) ∉ K->F x y=z)/\
  ∀x y,W64 x->W64 y->Maps.has D (ck x y)=decide ((x,y)∈K)/\D.atKey (ck x y) (dOf z)=dOf (F x y)
section
variable {z:Value} {w w':World} {b:Nat} {K:List (Int×Int)} {F:Int->Int->Value}
theorem MapS.lt (h:MapS z w b K F):b<w.heap.size:=by obtain ⟨D,h,_⟩:=h;exact h.lt
theorem MapS.nodup (h:MapS z w b K F):K.Nodup:=by obtain ⟨D,_,_,h,_⟩:=h;exact h
theorem MapS.w64 (h:MapS z w b K F):∀q∈K,W64 q.1/\W64 q.2:=by obtain ⟨D,_,_,_,h,_⟩:=h;exact h
theorem MapS.same (h:MapS z w b K F) (hb:w'.heap[b]? = w.heap[b]?):MapS z w' b K F:=by
 obtain ⟨D,⟨es,clock,h1,h2⟩,h3⟩:=h;exact ⟨D,⟨es,clock,hb.trans h1,h2⟩,h3⟩
theorem MapS.kept {S:Nat->Prop} (h:MapS z w b K F) (ht:Turns S w w') (hb:¬S b):MapS z w' b K F:=h.same (ht.block b h.lt hb)
theorem MapS.upto (h:MapS z w b K F) (hb:Below w.heap.size w w'):MapS z w' b K F:=h.same (hb.block b h.lt)
theorem MapS.blk (h:MapS z w b K F):∃es clock,w.heap[b]? = some (.map es clock):=by
 obtain ⟨D,⟨es,clock,h1,_⟩,_⟩:=h;exact ⟨es,clock,h1⟩
theorem MapS.made (hz:IsS z) (w:World):MapS z (w.alloc (.map #[] 0)) w.heap.size [] (fun _ _=>z):=
 ⟨.map [],World.ownsMap_made w _ _ _,rfl,List.nodup_nil,fun q h=>absurd h List.not_mem_nil,hz,fun _ _=>hz,fun _ _ _=>rfl,fun x y _ _=>⟨rfl,rfl⟩⟩
theorem MapS.look (h:MapS z w b K F) {t e:TypeId} (ht:Tryz.prog.underlying t=some (.map 47 e)) (hz:(zeroValue e).run Tryz.prog w = .ok z w) {x y:Int} (hx:W64 x) (hy:W64 y) :
 (Instr.lookup t (.map (some b)) (cel x y) false).run Tryz.prog w = .ok (F x y) w:=by
 obtain ⟨D,ho,hsz,hnd,h64,hzs,hF,hn,hD⟩:=h;obtain ⟨v,ps,hrun,hR⟩:=ho.lookup zDq ht hz hzs (hck hx hy);rw [(hD x y hx hy).2] at hR;obtain ⟨q1,q2⟩:=zVv hR;simp only [Prod.mk.injEq] at q2;rw [hrun,q1.inj (hF x y) q2.1.symm]
theorem MapS.len (h:MapS z w b K F) {t e:TypeId} (ht:Tryz.prog.underlying t=some (.map 47 e)) (ty:TypeId):(Builtin.len_ #[t] ty #[.map (some b)]).run Tryz.prog w = .ok (.int .i64 (K.length:Nat)) w:=by
 obtain ⟨D,ho,hsz,_⟩:=h;have:=ho.len ht ty
 rwa [hsz] at this
def zHt (K:List (Int×Int)) (q:Int×Int):List (Int×Int):=if q∈K then K else K++[q]
theorem zCw {K:List (Int×Int)} {q r:Int×Int}:r∈zHt K q↔r∈K\/r=q:=by
 unfold zHt
 split
 ·rename_i h;exact ⟨.inl,fun h'=>h'.elim id (fun e=>e▸h)⟩
 ·simp
theorem zOu {K:List (Int×Int)} (h:K.Nodup) (q:Int×Int):(zHt K q).Nodup:=by
 unfold zHt
 split
 ·exact h
 ·rename_i hn;exact List.nodup_append.2 ⟨h,by simp,fun a ha b hb e=>hn (by simp at hb;rw [<-hb,<-e];exact ha)⟩
def zF4 (F:Int->Int->Value) (x y:Int) (v:Value):Int->Int->Value:=fun u t=>if u=x/\t=y then v else F u t
theorem MapS.put_of {D:DataW Unit} {w2:World} (hnd:K.Nodup) (h64:∀q∈K,W64 q.1/\W64 q.2) (hzs:IsS z) (hF:∀x y,IsS (F x y)) (hn:∀x y,(x,y) ∉ K->F x y=z) (hD:∀x y,W64 x->W64 y->Maps.has D (ck x y)=decide ((x,y)∈K)/\D.atKey (ck x y) (dOf z)=dOf (F x y)) (htidy:Maps.Tidy D) (hmap:Maps.IsMap D) (hsz:Maps.size D=K.length)
 {x y:Int} (hx:W64 x) (hy:W64 y) {v:Value} (hv:IsS v) {n:Nat} (hown:w2.ownsMap Tryz.prog 47 zCt b n (D.put (ck x y) (dOf v))):MapS z w2 b (zHt K (x,y)) (zF4 F x y v):=by
 have hzz:Maps.size (D.put (ck x y) (dOf v))=(zHt K (x,y)).length:=by
  rw [Maps.size_put htidy,(hD x y hx hy).1,hsz];unfold zHt
  by_cases e:(x,y)∈K<;>simp [e]
 refine ⟨_,?_,hzz,zOu hnd _,fun q hq=>?_,hzs,fun u t=>?_,fun u t hu=>?_,fun u t hu ht'=>?_⟩
 ·obtain ⟨es,clock,e1,e2,e3,e4⟩:=hown;refine ⟨es,clock,e1,e2,?_,e4⟩;rw [<-hzz,e4];simp [Maps.size,length_sorted]
 ·rcases zCw.1 hq with hq|rfl
  ·exact h64 q hq
  ·exact ⟨hx,hy⟩
 ·unfold zF4
  split
  ·exact hv
  ·exact hF u t
 ·have hu':(u,t) ∉ K/\(u,t)≠(x,y):=⟨fun q=>hu (zCw.2 (.inl q)),fun q=>hu (zCw.2 (.inr q))⟩
  unfold zF4;rw [if_neg (fun e=>hu'.2 (by rw [e.1,e.2]))];exact hn u t hu'.1
 ·unfold zF4
  by_cases e:u=x/\t=y
  ·rw [if_pos e,e.1,e.2];have hm:(x,y)∈zHt K (x,y):=zCw.2 (.inr rfl);exact ⟨by rw [Maps.has_put_same hmap (zDq.key (hck hx hy))];simp [hm],Maps.atKey_put_same hmap (zDq.key (hck hx hy)) _ _⟩
  ·rw [if_neg e];have hne:ck u t≠ck x y:=fun hh=>e (zNt hu ht' hx hy hh);rw [Maps.has_put_other hne,Maps.atKey_put_other hne];refine ⟨?_,(hD u t hu ht').2⟩;rw [(hD u t hu ht').1]
   have:(u,t)∈zHt K (x,y)↔(u,t)∈K:=by
    rw [zCw];exact ⟨fun q=>q.elim id (fun q=>absurd (by simpa using q) e),.inl⟩
   simp [this]
theorem MapS.put (h:MapS z w b K F) {t e:TypeId} (ht:Tryz.prog.underlying t=some (.map 47 e)) {x y:Int} (hx:W64 x) (hy:W64 y) {v:Value} (hv:IsS v) (hlen:K.length<maxLen) :
 ∃w2,(Instr.mapUpdate t (.map (some b)) (cel x y) v).run Tryz.prog w = .ok () w2/\MapS z w2 b (zHt K (x,y)) (zF4 F x y v)/\w.grownBy w2 (some b):=by
 obtain ⟨D,ho,hsz,hnd,h64,hzs,hF,hn,hD⟩:=h;obtain ⟨w2,hrun,hown,hg⟩:=ho.update zDq ht hlen (hck hx hy) hv;exact ⟨w2,hrun,MapS.put_of hnd h64 hzs hF hn hD (ho.tidy zDq) ho.isMap hsz hx hy hv hown,hg⟩
theorem MapS.drop (h:MapS z w b K F) {t e:TypeId} (ht:Tryz.prog.underlying t=some (.map 47 e)) {x y:Int} (hx:W64 x) (hy:W64 y) (ty:TypeId) :
 ∃w2,(Builtin.delete_ #[t,47] ty #[.map (some b),cel x y]).run Tryz.prog w = .ok (.tuple #[]) w2/\MapS z w2 b (K.erase (x,y)) (zF4 F x y z)/\w.grownBy w2 (some b):=by
 obtain ⟨D,ho,hsz,hnd,h64,hzs,hF,hn,hD⟩:=h;obtain ⟨w2,hrun,hown,hg⟩:=ho.drop zDq ht (hck hx hy) ty
 have hzz:Maps.size (D.del (ck x y))=(K.erase (x,y)).length:=by
  have h1:=Maps.size_del (k:=ck x y) (ho.tidy zDq);rw [(hD x y hx hy).1,hsz] at h1
  by_cases e:(x,y)∈K
  ·rw [List.length_erase_of_mem e];simp [e] at h1;omega
  ·rw [List.erase_of_not_mem e];simp [e] at h1;omega
 have hme:∀q,q∈K.erase (x,y)↔q≠(x,y)/\q∈K:=fun q=>hnd.mem_erase_iff;refine ⟨w2,hrun,⟨_,?_,hzz,hnd.erase _,fun q hq=>h64 q ((hme q).1 hq).2,hzs,fun u t=>?_,fun u t hu=>?_,fun u t hu ht'=>?_⟩,hg.grown⟩
 ·obtain ⟨es,clock,e1,e2,e3,e4⟩:=hown;refine ⟨es,clock,e1,e2,?_,e4⟩;rw [<-hzz,e4];simp [Maps.size,length_sorted]
 ·unfold zF4
  split
  ·exact hzs
  ·exact hF u t
 ·unfold zF4
  split
  ·rfl
  ·rename_i hne;exact hn u t (fun q=>hu ((hme _).2 ⟨fun e=>hne (by simpa using e),q⟩))
 ·unfold zF4
  by_cases e:u=x/\t=y
  ·rw [if_pos e,e.1,e.2];have hm:(x,y) ∉ K.erase (x,y):=fun q=>((hme _).1 q).1 rfl;exact ⟨by rw [Maps.has_del_same];simp [hm],Maps.atKey_del_same _⟩
  ·rw [if_neg e];have hne:ck u t≠ck x y:=fun hh=>e (zNt hu ht' hx hy hh);rw [Maps.has_del_other hne,Maps.atKey_del_other hne];refine ⟨?_,(hD u t hu ht').2⟩;rw [(hD u t hu ht').1]
   have:(u,t)∈K.erase (x,y)↔(u,t)∈K:=by
    rw [hme];exact ⟨fun q=>q.2,fun q=>⟨fun e'=>e (by simpa using e'),q⟩⟩
   simp [this]
theorem zHc {α:Type} {a b:α} {w w':World} (h:(Result.ok a w:Result α) = .ok b w'):a=b/\w=w':=by cases h;exact ⟨rfl,rfl⟩
theorem MapS.entry (h:MapS z w b K F) {t e:TypeId} (ht:Tryz.prog.underlying t=some (.map 47 e)) (hz:∀u:World,(zeroValue e).run Tryz.prog u = .ok z u) {x y:Int} (hx:W64 x) (hy:W64 y) (hlen:K.length<maxLen) :
 ∃st w1,(Instr.mapEntry t (.map (some b)) (cel x y)).run Tryz.prog w = .ok (.tuple #[F x y,.int .i64 (st:Nat)]) w1/\Turns (fun k=>k=b) w w1/\w1.heap.size=w.heap.size/\
  ∀(w2:World) (v:Value),w2.heap[b]? = w1.heap[b]?->IsS v->∃w3,(Instr.entryStore t (.map (some b)) (.int .i64 (st:Nat)) v).run Tryz.prog w2 = .ok () w3/\MapS z w3 b (zHt K (x,y)) (zF4 F x y v)/\Turns (fun k=>k=b) w2 w3:=by
 have hlt:=h.lt;have hlook:=h.look ht (hz w) hx hy;obtain ⟨D,ho,hsz,hnd,h64,hzs,hF,hn,hD⟩:=h;obtain ⟨es,clock,hb,Fi,hs,hDe⟩:=id ho;obtain ⟨v0,st,es1,clock1,hrun,hv0,hst⟩:=WideElems.entry_then_store zZ7 ht hz hb Fi (hck hx hy)
 have hset:∀(u:World) (o:Obj),b<u.heap.size->(ChangeMaps.setBlock u b o).heap[b]? = some o/\Turns (fun k=>k=b) u (ChangeMaps.setBlock u b o)/\(ChangeMaps.setBlock u b o).heap.size=u.heap.size:=fun u o hu=>by
  refine ⟨?_,⟨rfl,rfl,rfl,?_,fun k hk hne=>?_⟩,?_⟩
  ·unfold ChangeMaps.setBlock;simp [hu]
  ·unfold ChangeMaps.setBlock;simp
  ·unfold ChangeMaps.setBlock;exact Array.getElem?_setIfInBounds_ne (fun e=>hne e.symm)
  ·unfold ChangeMaps.setBlock;simp
 have hv:v0=F x y:=by
  rcases Maps.fit_look false zDq ht (hz w) hb Fi (hck hx hy) with ⟨hr,hno,_⟩|⟨e0,yy,he0,hek,hr,_⟩
  ·have hr:=(zHc (hlook.symm.trans hr)).1;rcases hv0 with ⟨e1,hm1,hk1,-⟩|⟨-,rfl⟩
   ·exact absurd hk1 (hno e1 hm1)
   ·exact hr.symm
  ·have hr:=(zHc (hlook.symm.trans hr)).1;rcases hv0 with ⟨e1,hm1,hk1,rfl⟩|⟨hno,-⟩
   ·have hp:es.toList.Pairwise (fun a c=>a.key≠c.key):=List.pairwise_map.1 Fi.stamped.2.2;rw [entry_eq_of_key hp hm1 he0 (hk1.trans hek.symm)];exact hr.symm
   ·exact absurd hek (hno e0 he0)
 subst hv;obtain ⟨s1,s2,s3⟩:=hset w (.map es1 clock1) hlt;refine ⟨st,_,hrun,s2,s3,fun w2 v hb2 hvS=>?_⟩;rw [s1] at hb2;obtain ⟨es',clock',r1,r2⟩:=hst w2 v hb2;have hlt2:b<w2.heap.size:=(Array.getElem?_eq_some_iff.1 hb2).1;obtain ⟨t1,t2,-⟩:=hset w2 (.map es' clock') hlt2;refine ⟨_,r1,?_,t2⟩;obtain ⟨w4,hr4,hown,hg⟩:=ho.update zDq ht hlen (hck hx hy) hvS;have hr4:=(zHc (r2.symm.trans hr4)).2
 have hown':(ChangeMaps.setBlock w2 b (.map es' clock')).ownsMap Tryz.prog 47 zCt b (K.length+1) (D.put (ck x y) (dOf v)):=by
  obtain ⟨es3,clock3,f1,f2,f3,f4⟩:=hown;rw [<-hr4,(hset w (.map es' clock') hlt).1] at f1;cases f1;exact ⟨es',clock',t1,f2,f3,f4⟩
 exact MapS.put_of hnd h64 hzs hF hn hD (ho.tidy zDq) ho.isMap hsz hx hy hvS hown'
end
end
section
open Go.Shelf
attribute [local go_sem] Oper.semAt_some
abbrev qCp (q:Int×Int):Array Value:=#[cel q.1 q.2]
theorem zF5:∀{l:List (Int×Int)} (hs:l.Nodup) (P:Int×Int->Bool) (t:Int×Int),t∈l->P t=false->(l.filter (fun s=>P s || decide (s=t))).Perm (l.filter P++[t])
 | [],_,_,_,h,_=>by simp at h
 |s::r,hs,P,t,h,hp=>by
  have hs':=List.nodup_cons.1 hs;rcases List.mem_cons.1 h with rfl|h
  ·have hr:r.filter (fun s=>P s || decide (s=t))=r.filter P:=by
    refine List.filter_congr (fun u hu=>?_);rw [show decide (u=t)=false by simp;rintro rfl;exact hs'.1 hu,Bool.or_false]
   rw [List.filter_cons,List.filter_cons,hp];simp only [Bool.false_or,decide_true,if_true,Bool.false_eq_true,if_false,hr];exact List.perm_append_comm (l₁:=[t])
  ·have e:decide (s=t)=false:=by simp;rintro rfl;exact hs'.1 h
   have ih:=zF5 hs'.2 P t h hp;rw [List.filter_cons,List.filter_cons,e,Bool.or_false];cases P s
   ·simpa using ih
   ·simpa using ih.cons s
theorem zZm {x y u v:Int} (hx:W64 x) (hy:W64 y) (hu:W64 u) (hv:W64 v):(ck x y).sameKey (ck u v)=decide ((x,y)=(u,v)):=by
 by_cases e:(x,y)=(u,v)
 ·cases e;simp [ck,Lit.sameKey]
 ·have hne:ck x y≠ck u v:=fun h=>e (by obtain ⟨rfl,rfl⟩:=zNt hx hy hu hv h;rfl)
  have:(ck x y).sameKey (ck u v)=false:=by
   cases h:(ck x y).sameKey (ck u v)
   ·rfl
   ·exact absurd (by simpa [ck,Lit.sameKey] using h) hne
  rw [this];simp [e]
def ComeC (K L:List (Int×Int)) (left:Lit->Bool):Prop:=L.Perm (K.filter (fun q=>!left (ck q.1 q.2)))
theorem ComeC.step {K L:List (Int×Int)} {left:Lit->Bool} (hs:K.Nodup) (h64:∀q∈K,W64 q.1/\W64 q.2) (h:ComeC K L left) {x y:Int} (hm:(x,y)∈K) (hl:left (ck x y)=true):ComeC K (L++[(x,y)]) (fun z=>left z && !z.sameKey (ck x y)):=by
 have:=zF5 hs (fun q=>!left (ck q.1 q.2)) (x,y) hm (by simp [hl]);unfold ComeC at *
 have e:K.filter (fun q=>!(left (ck q.1 q.2) && !(ck q.1 q.2).sameKey (ck x y)))=K.filter (fun s=>!left (ck s.1 s.2) || decide (s=(x,y))):=by
  refine List.filter_congr (fun u hu=>?_);have hu':=h64 u hu;have hx':=h64 _ hm;rw [zZm hu'.1 hu'.2 hx'.1 hx'.2,show decide ((u.1,u.2)=(x,y))=decide (u=(x,y)) from rfl];generalize decide (u=(x,y))=t;cases left (ck u.1 u.2)<;>cases t<;>rfl
 rw [e];exact (h.append_right [(x,y)]).trans this.symm
theorem ComeC.start {K:List (Int×Int)} {D:DataW Unit} (h:∀q∈K,Maps.has D (ck q.1 q.2)=true):ComeC K [] (Maps.has D):=by
 unfold ComeC;rw [List.filter_eq_nil_iff.2 (fun t ht=>by simp [h t ht])]
theorem ComeC.done {K L:List (Int×Int)} {left:Lit->Bool} (h:ComeC K L left) (h0:∀kl,left kl=false):L.Perm K:=by
 unfold ComeC at h
 rwa [List.filter_eq_self.2 (fun t ht=>by simp [h0])] at h
theorem ComeC.len {K L:List (Int×Int)} {left:Lit->Bool} (h:ComeC K L left):L.length<=K.length:=by
 have h1:L.length=_:=h.length_eq;have h2:=List.length_filter_le (fun q:Int×Int=>!left (ck q.1 q.2)) K;omega
theorem zFz {w w':World} {b r n cnt:Nat} {D:DataW Unit} {left:Lit->Bool} (h:w.ranges Tryz.prog 47 zCt b r n D left cnt) (hb:w'.heap[b]? = w.heap[b]?) (hr:w'.heap[r]? = w.heap[r]?):w'.ranges Tryz.prog 47 zCt b r n D left cnt:=by
 obtain ⟨es,clock,since,seen,c0,e1,F,hs,hD,e2,rest⟩:=h;exact ⟨es,clock,since,seen,c0,hb.trans e1,F,hs,hD,hr.trans e2,rest⟩
theorem zL5 (n h b:Nat) (z:Value) (K:List (Int×Int)) (F:Int->Int->Value) (w:World) (hP:Boxed w h 65 (.map (some b))) (hm:MapS z w b K F) (N:Nat) (hN:K.length<=N) :
 zHs 47 n 117 #[ptr h] qCp (Below w.heap.size) (fun xs=>xs.Perm K) (fun _=>True) N w:=fun lo J Jx W hW hJ hJx hY h0=>by
 refine callsIn_of_wp Tryz.func117 rfl trivial ?_ rfl;simp only [Tryz.ntmps117,List.size_toArray,List.length_cons,List.length_nil,Nat.reduceAdd,Nat.reduceSub,Array.replicate_succ,Array.replicate_zero,List.push_toArray,List.append_toArray,List.nil_append,List.cons_append];have hbl:=hm.lt;have hhl:=hP.lt;have hsW:=hW.size;have mW:=hm.upto hW;have PW:=zAn hP hW hhl;have c0:=PW.cell;obtain ⟨D,hown,hsz,hnd,h64,-,-,-,hD⟩:=id mW;have HY:=zAc hY;have HJ:=zAc hJ;have HD:=zAc hD;have Hnd:=zAc (And.intro hnd h64);clear hY hD;obtain ⟨w2,hrun,hrg0,hg2,hs2⟩:=hown.range zDq Tryz.underlying65;gi_wp2_with fail;have b2:Below W.heap.size W w2:=⟨hg2.os,hg2.tape,hg2.output,hg2.size,fun k hk=>hg2.block k hk (by simp)⟩
 have hhas:∀q∈K,Maps.has D (ck q.1 q.2)=true:=fun q hq=>by rw [(HD.out q.1 q.2 (h64 q hq).1 (h64 q hq).2).1];simpa using hq
 have j2:=zBq hJ h0 b2;have HJ2:=zAc j2;have HRG:=zAc hrg0;have hb2w:Below w.heap.size w w2:=hW.trans (b2.mono hsW);have HB2:=zAc hb2w;have HH:=zAc hhas;clear hrun hrg0 hg2 c0 j2 hb2w b2 hown mW PW hsz hnd h64 hhas hm hP;gi_loopw [] (fun wr=>∃(left:Lit->Bool) (cnt:Nat) (L:List (Int×Int)),wr.ranges Tryz.prog 47 zCt b W.heap.size K.length D left cnt/\(ComeC K L left/\∀kl,left kl=true->Maps.has D kl=true)/\J L wr/\Below w.heap.size w wr/\W.heap.size<wr.heap.size) (fun wr=>wr.rangeLeft b W.heap.size)
 case atStart=>exact ⟨_,_,[],HRG.out,⟨ComeC.start HH.out,fun kl e=>e⟩,HJ2.out,HB2.out,by omega⟩
 case round =>
  obtain ⟨left,cnt,L,hrg,⟨hcm,hsub⟩,hj,hB,hzr⟩:=hrel;rename World=>wo;rcases hrg.next zDq 0 with ⟨hc0,hl0,hrun⟩|⟨key,vv,kl,yv,w3,cnt3,hkey,hlk,hv,hat,hrun,hrg3,hlt,hg3,hs3,hen⟩
  ·have HFn:Hid (L.Perm K/\J L wo):=zAc ⟨hcm.done hl0,hj⟩;clear hrg hcm hsub hB;gi_wp2_with fail;go_end0
   exact ⟨⟨_,rfl⟩,.inl ⟨_,HFn.out.1,HFn.out.2⟩⟩
  ·obtain ⟨x,y,rfl,⟨hx,hy⟩,rfl⟩:=zYp hkey;obtain ⟨hvS,-⟩:=zVv hv
   have hmem:(x,y)∈K:=by
    have h1:=(HD.out x y hx hy).1;rw [hsub _ hlk] at h1;simpa using h1.symm
   have hri:∃o:Obj,wo.heap[W.heap.size]? = some o/\o.isCells=false:=by
    obtain ⟨_,_,_,_,_,_,_,_,_,e2,_⟩:=id hrg;exact ⟨_,e2,rfl⟩
   have hj3:J L w3:=HJ.out _ _ _ _ hj hg3 (fun r e=>by cases e;exact ⟨Nat.le_refl _,hri⟩);have T3:Turns (fun k=>k=W.heap.size) wo w3:=Turns.of_grown hg3 (fun k e=>by cases e;rfl);have hB3:Below w.heap.size w w3:=hB.trans (T3.below (fun k e=>by omega) hB.size);obtain ⟨W6,hW6⟩:=ex (w3.alloc (.cells #[.int .i64 x,.int .i64 y] 47));have b6:Below w3.heap.size w3 W6:=hW6▸zAk _ _;have F6:Two W6 w3.heap.size x y:=by rw [<-hW6];exact Two.newAt rfl
   have hB6:Below w.heap.size w W6:=hB3.trans (b6.mono hB3.size);have hrg6:=zFz hrg3 (b6.block b (by omega)) (b6.block W.heap.size (by omega));have hj6:=zBq HJ.out hj3 b6;have hz6:=b6.size;have hcm5:=hcm.step Hnd.out.1 Hnd.out.2 hmem hlk
   have hsub5:∀kl,(left kl && !kl.sameKey (ck x y))=true->Maps.has D kl=true:=fun kl e=>by
    rw [Bool.and_eq_true] at e;exact hsub kl e.1
   have hln:=hcm5.len;rw [List.length_append,List.length_singleton] at hln;have HB6:=zAc hB6;have HR6:=zAc hrg6;have HW6:=zAc hW6;have HRo:=zAc hrg;have HLt:=zAc hlt;have HC5:=zAc (And.intro hcm5 hsub5);obtain ⟨fn,tmps,assign,body,hyd,hRd⟩:=HY.out L (x,y) W6 hj6 (by omega);dsimp only [qCp] at hyd;have HRd:=zAc hRd;rw [hs3] at F6;obtain ⟨⟨f0,f1⟩,-,-⟩:=id F6;clear hj hj3 hrg hrg3 hcm hcm5 hsub hsub5 hB hB3 hB6 T3 hg3 F6 hkey hv hat hri hmem hj6 hRd b6 hW6 hrg6 hlt;gi_wp2_with (rw [HW6.out]);refine ⟨fun h=>(by cases h),?_⟩;refine HRd.out.mono ?_;rintro e W7 ⟨hk7,(⟨rfl,hJ7,hKp7⟩|⟨rfl,hJx7⟩)⟩
   ·have HJ7:=zAc hJ7;have hrg7:=zFz HR6.out (hKp7.block b (by omega)) (by obtain ⟨es,clock,since,seen,cc,-,-,-,-,hwk,-⟩:=HR6.out;exact (hk7.at (Nat.le_refl _) hwk rfl).trans hwk.symm);have HR7:=zAc hrg7;have HB7:=zAc (HB6.out.trans hKp7);have hz7:=hk7.1;clear hJ7 hrg7 hKp7 hk7 hyd;gi_wp2_with fail;go_roundw
    case rel=>exact ⟨_,_,L++[(x,y)],HR7.out,HC5.out,HJ7.out,HB7.out,by omega⟩
    case measure=>rw [HR7.out.left_eq,HRo.out.left_eq];exact HLt.out
   ·have HJx:=zAc hJx7;clear hJx7 hk7 hyd;gi_wp2_with fail;refine bodyPost_ret (results_none rfl _ _ _) rfl ?_;exact ⟨⟨_,rfl⟩,.inr ⟨_,trivial,HJx.out⟩⟩
end
end Go.Proofs.YthiafmlgialbnaaGreatDoor
