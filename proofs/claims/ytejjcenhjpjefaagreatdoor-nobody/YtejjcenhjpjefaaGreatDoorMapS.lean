import Derived.Test.YtejjcenhjpjefaaGreatDoorWho
import Derived.WideKeyEntry
import Derived.Maps.Range
import Derived.Maps.OwnSet
set_option linter.all false
set_option maxRecDepth 1000000
set_option maxHeartbeats 64000000
namespace Go.Proofs.YtejjcenhjpjefaaGreatDoor
open Go.RowKit
def zCp:Value->Option (DataW Unit×List MemPlace)
 |.slice none n c=>some (.agg [.lit (.int .i64 (n:Nat)),.lit (.int .i64 (c:Nat))],[])
 |.slice (some ⟨g,o,none⟩) n c=>some (.agg [.lit (.int .i64 (g:Nat)),.lit (.int .i64 (o:Nat)),.lit (.int .i64 (n:Nat)),.lit (.int .i64 (c:Nat))],[])
 |.agg xs=>match xs.toList with
  | []=>some (.agg [],[])
  |_=>none
 |.int .i64 n=>some (.agg [.lit (.int .i64 n)],[])
 |_=>none
theorem zEu {v:Value} {z:DataW Unit×List MemPlace} (h:zCp v=some z):(∃n c,v = .slice none n c/\z=(.agg [.lit (.int .i64 (n:Nat)),.lit (.int .i64 (c:Nat))],[]))\/(∃g o n c,v = .slice (some ⟨g,o,none⟩) n c/\z=(.agg [.lit (.int .i64 (g:Nat)),.lit (.int .i64 (o:Nat)),.lit (.int .i64 (n:Nat)),.lit (.int .i64 (c:Nat))],[]))\/(v = .agg #[]/\z=(.agg [],[]))\/(∃n,v = .int .i64 n/\z=(.agg [.lit (.int .i64 n)],[])):=by
 unfold zCp at h
 split at h
 ·cases h;exact .inl ⟨_,_,rfl,rfl⟩
 ·cases h;exact .inr (.inl ⟨_,_,_,_,rfl,rfl⟩)
 ·rename_i xs
  split at h
  ·rename_i e;cases h;refine .inr (.inr (.inl ⟨?_,rfl⟩));rw [<-Array.toArray_toList (xs:=xs),e]
  ·cases h
 ·cases h;exact .inr (.inr (.inr ⟨_,rfl,rfl⟩))
 ·cases h
theorem zMj {u v:Value} {d:DataW Unit} {ps qs:List MemPlace} (hu:zCp u=some (d,ps)) (hv:zCp v=some (d,qs)):u=v:=by
 rcases zEu hu with ⟨n,c,rfl,e⟩|⟨g,o,n,c,rfl,e⟩|⟨rfl,e⟩|⟨n,rfl,e⟩<;>rcases zEu hv with ⟨n',c',rfl,e'⟩|⟨g',o',n',c',rfl,e'⟩|⟨rfl,e'⟩|⟨n',rfl,e'⟩<;>simp only [Prod.mk.injEq] at e e'<;>obtain ⟨e,-⟩:=e<;>obtain ⟨e',-⟩:=e'<;>rw [e] at e'<;>simp at e'
 ·obtain ⟨h1,h2⟩:=e';have h1:n=n':=by omega
  have h2:c=c':=by omega
  subst h1 h2;rfl
 ·obtain ⟨h1,h2,h3,h4⟩:=e';have h1:g=g':=by omega
  have h2:o=o':=by omega
  have h3:n=n':=by omega
  have h4:c=c':=by omega
  subst h1 h2 h3 h4;rfl
 ·rw [e']
def dOf (v:Value):DataW Unit:=((zCp v).map (·.1)).getD .nil
def IsS (v:Value):Prop:=zCp v=some (dOf v,[])
theorem zDb:IsS (.slice none 0 0):=rfl
theorem zE4 (n:Int):IsS (.int .i64 n):=rfl
theorem zRf (g n c:Nat):IsS (.slice (some ⟨g,0,none⟩) n c):=rfl
theorem zIc {w:World} {t k n:Nat} {v:Value} {xs:List Value} (h:w.ownsRow 0 t k v n xs):IsS v:=by
 rcases h.2 with ⟨rfl,-⟩|⟨g,cap,cur,rfl,-⟩
 ·exact zDb
 ·exact zRf _ _ _
theorem zO3 {v:Value} {z:DataW Unit×List MemPlace} (h:zCp v=some z):IsS v/\z=(dOf v,[]):=by
 unfold IsS dOf;rw [h];rcases zEu h with ⟨n,c,rfl,e⟩|⟨g,o,n,c,rfl,e⟩|⟨rfl,e⟩|⟨n,rfl,e⟩<;>subst e<;>exact ⟨rfl,rfl⟩
theorem IsS.inj {u v:Value} (hu:IsS u) (hv:IsS v) (h:dOf u=dOf v):u=v:=zMj hu (by rw [h];exact hv)
theorem zU4 {v:Value} {kl:Lit} (h:keyOf Tryz.prog 23 v=some kl):∃x y,v=cel x y/\(W64 x/\W64 y)/\kl=ck x y:=by
 have hk:=h;unfold keyOf at hk;rw [Tryz.underlying23] at hk;simp only at hk
 split at hk
 ·rename_i hf;rw [Bool.and_eq_true] at hf;obtain ⟨ls,hl,hls⟩:=Option.map_eq_some_iff.1 hk
  cases v with
  |agg cs =>
   have hsz:cs.size=2:=by
    have:=hf.2;simpa [Value.formed,Tryz.underlying23,zIl] using this
   obtain ⟨a,b,rfl⟩:∃a b,cs=#[a,b]:=by
    rcases cs with ⟨l⟩
    match l,hsz with
    | [a,b],_=>exact ⟨a,b,rfl⟩
   rw [zG2] at hl;unfold Program.keyLits at hl;rw [Tryz.underlying23] at hl;simp [zIl,zS7,Value.cells] at hl
   obtain ⟨la,ha⟩:∃la,Tryz.prog.keyLits 263 3 [a]=some la:=by
    cases hA:Tryz.prog.keyLits 263 3 [a] with
    |none=>rw [hA] at hl;simp at hl
    |some la=>exact ⟨la,rfl⟩
   obtain ⟨lb,hb⟩:∃lb,Tryz.prog.keyLits 263 3 [b]=some lb:=by
    cases hB:Tryz.prog.keyLits 263 3 [b] with
    |none=>rw [ha,hB] at hl;simp at hl
    |some lb=>exact ⟨lb,rfl⟩
   have key:∀{d:Nat} {u:Value} {lu:List Lit},Tryz.prog.keyLits (d+1) 3 [u]=some lu->∃x,u = .int .i64 x/\W64 x:=fun {d u lu} hq=>by
    unfold Program.keyLits at hq;rw [Tryz.underlying3] at hq;cases u<;>simp at hq;obtain ⟨⟨rfl,hw⟩,-⟩:=hq;exact ⟨_,rfl,hw⟩
   obtain ⟨x,rfl,hx⟩:=key (d:=262) ha;obtain ⟨y,rfl,hy⟩:=key (d:=262) hb;exact ⟨x,y,rfl,⟨hx,hy⟩,Option.some.inj (h.symm.trans (hck hx hy))⟩
  |_=>simp [Value.formed,Tryz.underlying23] at hf
 ·cases hk
theorem qBn:WideMaps.KeyLaw Tryz.prog 23:=deep_law_laid zKi (m:=2) (by omega) zXe (by kernel_rfl) zSe
def MapS (z:Value) (w:World) (b:Nat) (K:List (Int×Int)) (F:Int->Int->Value):Prop:=
 ∃D:DataW Unit,w.ownsMap Tryz.prog 23 zCp b K.length D/\Maps.size D=K.length/\K.Nodup/\(∀q∈K,W64 q.1/\W64 q.2)/\IsS z/\(∀x y,IsS (F x y))/\(∀x y,(x,y) ∉ K->F x y=z)/\
  ∀x y,W64 x->W64 y->Maps.has D (ck x y)=decide ((x,y)∈K)/\D.atKey (ck x y) (dOf z)=dOf (F x y)
section
variable {z:Value} {w w':World} {b:Nat} {K:List (Int×Int)} {F:Int->Int->Value}
theorem MapS.lt (h:MapS z w b K F):b<w.heap.size:=by obtain ⟨D,h,_⟩:=h;exact h.lt
theorem MapS.nodup (h:MapS z w b K F):K.Nodup:=by obtain ⟨D,_,_,h,_⟩:=h;exact h
theorem MapS.same (h:MapS z w b K F) (hb:w'.heap[b]? = w.heap[b]?):MapS z w' b K F:=by
 obtain ⟨D,⟨es,clock,h1,h2⟩,h3⟩:=h;exact ⟨D,⟨es,clock,hb.trans h1,h2⟩,h3⟩
theorem MapS.kept {S:Nat->Prop} (h:MapS z w b K F) (ht:Turns S w w') (hb:¬S b):MapS z w' b K F:=h.same (ht.block b h.lt hb)
theorem MapS.upto (h:MapS z w b K F) (hb:Below w.heap.size w w'):MapS z w' b K F:=h.same (hb.block b h.lt)
theorem MapS.blk (h:MapS z w b K F):∃es clock,w.heap[b]? = some (.map es clock):=by
 obtain ⟨D,⟨es,clock,h1,_⟩,_⟩:=h;exact ⟨es,clock,h1⟩
theorem MapS.made (hz:IsS z) (w:World):MapS z (w.alloc (.map #[] 0)) w.heap.size [] (fun _ _=>z):=
 ⟨.map [],World.ownsMap_made w _ _ _,rfl,List.nodup_nil,fun q h=>absurd h List.not_mem_nil,hz,fun _ _=>hz,fun _ _ _=>rfl,fun x y _ _=>⟨rfl,rfl⟩⟩
theorem MapS.look (h:MapS z w b K F) {t e:TypeId} (ht:Tryz.prog.underlying t=some (.map 23 e)) (hz:(zeroValue e).run Tryz.prog w = .ok z w) {x y:Int} (hx:W64 x) (hy:W64 y) :
 (Instr.lookup t (.map (some b)) (cel x y) false).run Tryz.prog w = .ok (F x y) w:=by
 obtain ⟨D,ho,hsz,hnd,h64,hzs,hF,hn,hD⟩:=h;obtain ⟨v,ps,hrun,hR⟩:=ho.lookup zDk ht hz hzs (hck hx hy);rw [(hD x y hx hy).2] at hR;obtain ⟨q1,q2⟩:=zO3 hR;simp only [Prod.mk.injEq] at q2;rw [hrun,q1.inj (hF x y) q2.1.symm]
def zDh (K:List (Int×Int)) (q:Int×Int):List (Int×Int):=if q∈K then K else K++[q]
theorem zCq {K:List (Int×Int)} {q r:Int×Int}:r∈zDh K q↔r∈K\/r=q:=by
 unfold zDh
 split
 ·rename_i h;exact ⟨.inl,fun h'=>h'.elim id (fun e=>e▸h)⟩
 ·simp
theorem zM2 {K:List (Int×Int)} (h:K.Nodup) (q:Int×Int):(zDh K q).Nodup:=by
 unfold zDh
 split
 ·exact h
 ·rename_i hn;exact List.nodup_append.2 ⟨h,by simp,fun a ha b hb e=>hn (by simp at hb;rw [<-hb,<-e];exact ha)⟩
def zC1 (F:Int->Int->Value) (x y:Int) (v:Value):Int->Int->Value:=fun u t=>if u=x/\t=y then v else F u t
theorem MapS.put_of {D:DataW Unit} {w2:World} (hnd:K.Nodup) (h64:∀q∈K,W64 q.1/\W64 q.2) (hzs:IsS z) (hF:∀x y,IsS (F x y)) (hn:∀x y,(x,y) ∉ K->F x y=z) (hD:∀x y,W64 x->W64 y->Maps.has D (ck x y)=decide ((x,y)∈K)/\D.atKey (ck x y) (dOf z)=dOf (F x y)) (htidy:Maps.Tidy D) (hmap:Maps.IsMap D) (hsz:Maps.size D=K.length)
 {x y:Int} (hx:W64 x) (hy:W64 y) {v:Value} (hv:IsS v) {n:Nat} (hown:w2.ownsMap Tryz.prog 23 zCp b n (D.put (ck x y) (dOf v))):MapS z w2 b (zDh K (x,y)) (zC1 F x y v):=by
 have hzz:Maps.size (D.put (ck x y) (dOf v))=(zDh K (x,y)).length:=by
  rw [Maps.size_put htidy,(hD x y hx hy).1,hsz];unfold zDh
  by_cases e:(x,y)∈K<;>simp [e]
 refine ⟨_,?_,hzz,zM2 hnd _,fun q hq=>?_,hzs,fun u t=>?_,fun u t hu=>?_,fun u t hu ht'=>?_⟩
 ·obtain ⟨es,clock,e1,e2,e3,e4⟩:=hown;refine ⟨es,clock,e1,e2,?_,e4⟩;rw [<-hzz,e4];simp [Maps.size,length_sorted]
 ·rcases zCq.1 hq with hq|rfl
  ·exact h64 q hq
  ·exact ⟨hx,hy⟩
 ·unfold zC1
  split
  ·exact hv
  ·exact hF u t
 ·have hu':(u,t) ∉ K/\(u,t)≠(x,y):=⟨fun q=>hu (zCq.2 (.inl q)),fun q=>hu (zCq.2 (.inr q))⟩
  unfold zC1;rw [if_neg (fun e=>hu'.2 (by rw [e.1,e.2]))];exact hn u t hu'.1
 ·unfold zC1
  by_cases e:u=x/\t=y
  ·rw [if_pos e,e.1,e.2];have hm:(x,y)∈zDh K (x,y):=zCq.2 (.inr rfl);exact ⟨by rw [Maps.has_put_same hmap (zDk.key (hck hx hy))];simp [hm],Maps.atKey_put_same hmap (zDk.key (hck hx hy)) _ _⟩
  ·rw [if_neg e];have hne:ck u t≠ck x y:=fun hh=>e (zL9 hu ht' hx hy hh);rw [Maps.has_put_other hne,Maps.atKey_put_other hne];refine ⟨?_,(hD u t hu ht').2⟩;rw [(hD u t hu ht').1]
   have:(u,t)∈zDh K (x,y)↔(u,t)∈K:=by
    rw [zCq];exact ⟨fun q=>q.elim id (fun q=>absurd (by simpa using q) e),.inl⟩
   simp [this]
theorem MapS.put (h:MapS z w b K F) {t e:TypeId} (ht:Tryz.prog.underlying t=some (.map 23 e)) {x y:Int} (hx:W64 x) (hy:W64 y) {v:Value} (hv:IsS v) (hlen:K.length<maxLen) :
 ∃w2,(Instr.mapUpdate t (.map (some b)) (cel x y) v).run Tryz.prog w = .ok () w2/\MapS z w2 b (zDh K (x,y)) (zC1 F x y v)/\w.grownBy w2 (some b):=by
 obtain ⟨D,ho,hsz,hnd,h64,hzs,hF,hn,hD⟩:=h;obtain ⟨w2,hrun,hown,hg⟩:=ho.update zDk ht hlen (hck hx hy) hv;exact ⟨w2,hrun,MapS.put_of hnd h64 hzs hF hn hD (ho.tidy zDk) ho.isMap hsz hx hy hv hown,hg⟩
theorem MapS.drop (h:MapS z w b K F) {t e:TypeId} (ht:Tryz.prog.underlying t=some (.map 23 e)) {x y:Int} (hx:W64 x) (hy:W64 y) (ty:TypeId) :
 ∃w2,(Builtin.delete_ #[t,23] ty #[.map (some b),cel x y]).run Tryz.prog w = .ok (.tuple #[]) w2/\MapS z w2 b (K.erase (x,y)) (zC1 F x y z)/\w.grownBy w2 (some b):=by
 obtain ⟨D,ho,hsz,hnd,h64,hzs,hF,hn,hD⟩:=h;obtain ⟨w2,hrun,hown,hg⟩:=ho.drop zDk ht (hck hx hy) ty
 have hzz:Maps.size (D.del (ck x y))=(K.erase (x,y)).length:=by
  have h1:=Maps.size_del (k:=ck x y) (ho.tidy zDk);rw [(hD x y hx hy).1,hsz] at h1
  by_cases e:(x,y)∈K
  ·rw [List.length_erase_of_mem e];simp [e] at h1;omega
  ·rw [List.erase_of_not_mem e];simp [e] at h1;omega
 have hme:∀q,q∈K.erase (x,y)↔q≠(x,y)/\q∈K:=fun q=>hnd.mem_erase_iff;refine ⟨w2,hrun,⟨_,?_,hzz,hnd.erase _,fun q hq=>h64 q ((hme q).1 hq).2,hzs,fun u t=>?_,fun u t hu=>?_,fun u t hu ht'=>?_⟩,hg.grown⟩
 ·obtain ⟨es,clock,e1,e2,e3,e4⟩:=hown;refine ⟨es,clock,e1,e2,?_,e4⟩;rw [<-hzz,e4];simp [Maps.size,length_sorted]
 ·unfold zC1
  split
  ·exact hzs
  ·exact hF u t
 ·unfold zC1
  split
  ·rfl
  ·rename_i hne;exact hn u t (fun q=>hu ((hme _).2 ⟨fun e=>hne (by simpa using e),q⟩))
 ·unfold zC1
  by_cases e:u=x/\t=y
  ·rw [if_pos e,e.1,e.2];have hm:(x,y) ∉ K.erase (x,y):=fun q=>((hme _).1 q).1 rfl;exact ⟨by rw [Maps.has_del_same];simp [hm],Maps.atKey_del_same _⟩
  ·rw [if_neg e];have hne:ck u t≠ck x y:=fun hh=>e (zL9 hu ht' hx hy hh);rw [Maps.has_del_other hne,Maps.atKey_del_other hne];refine ⟨?_,(hD u t hu ht').2⟩;rw [(hD u t hu ht').1]
   have:(u,t)∈K.erase (x,y)↔(u,t)∈K:=by
    rw [hme];exact ⟨fun q=>q.2,fun q=>⟨fun e'=>e (by simpa using e'),q⟩⟩
   simp [this]
theorem zOc {α:Type} {a b:α} {w w':World} (h:(Result.ok a w:Result α) = .ok b w'):a=b/\w=w':=by cases h;exact ⟨rfl,rfl⟩
theorem MapS.entry (h:MapS z w b K F) {t e:TypeId} (ht:Tryz.prog.underlying t=some (.map 23 e)) (hz:∀u:World,(zeroValue e).run Tryz.prog u = .ok z u) {x y:Int} (hx:W64 x) (hy:W64 y) (hlen:K.length<maxLen) :
 ∃st w1,(Instr.mapEntry t (.map (some b)) (cel x y)).run Tryz.prog w = .ok (.tuple #[F x y,.int .i64 (st:Nat)]) w1/\Turns (fun k=>k=b) w w1/\w1.heap.size=w.heap.size/\
  ∀(w2:World) (v:Value),w2.heap[b]? = w1.heap[b]?->IsS v->∃w3,(Instr.entryStore t (.map (some b)) (.int .i64 (st:Nat)) v).run Tryz.prog w2 = .ok () w3/\MapS z w3 b (zDh K (x,y)) (zC1 F x y v)/\Turns (fun k=>k=b) w2 w3:=by
 have hlt:=h.lt;have hlook:=h.look ht (hz w) hx hy;obtain ⟨D,ho,hsz,hnd,h64,hzs,hF,hn,hD⟩:=h;obtain ⟨es,clock,hb,Fi,hs,hDe⟩:=id ho;obtain ⟨v0,st,es1,clock1,hrun,hv0,hst⟩:=WideElems.entry_then_store qBn ht hz hb Fi (hck hx hy)
 have hset:∀(u:World) (o:Obj),b<u.heap.size->(ChangeMaps.setBlock u b o).heap[b]? = some o/\Turns (fun k=>k=b) u (ChangeMaps.setBlock u b o)/\(ChangeMaps.setBlock u b o).heap.size=u.heap.size:=fun u o hu=>by
  refine ⟨?_,⟨rfl,rfl,rfl,?_,fun k hk hne=>?_⟩,?_⟩
  ·unfold ChangeMaps.setBlock;simp [hu]
  ·unfold ChangeMaps.setBlock;simp
  ·unfold ChangeMaps.setBlock;exact Array.getElem?_setIfInBounds_ne (fun e=>hne e.symm)
  ·unfold ChangeMaps.setBlock;simp
 have hv:v0=F x y:=by
  rcases Maps.fit_look false zDk ht (hz w) hb Fi (hck hx hy) with ⟨hr,hno,_⟩|⟨e0,yy,he0,hek,hr,_⟩
  ·have hr:=(zOc (hlook.symm.trans hr)).1;rcases hv0 with ⟨e1,hm1,hk1,-⟩|⟨-,rfl⟩
   ·exact absurd hk1 (hno e1 hm1)
   ·exact hr.symm
  ·have hr:=(zOc (hlook.symm.trans hr)).1;rcases hv0 with ⟨e1,hm1,hk1,rfl⟩|⟨hno,-⟩
   ·have hp:es.toList.Pairwise (fun a c=>a.key≠c.key):=List.pairwise_map.1 Fi.stamped.2.2;rw [entry_eq_of_key hp hm1 he0 (hk1.trans hek.symm)];exact hr.symm
   ·exact absurd hek (hno e0 he0)
 subst hv;obtain ⟨s1,s2,s3⟩:=hset w (.map es1 clock1) hlt;refine ⟨st,_,hrun,s2,s3,fun w2 v hb2 hvS=>?_⟩;rw [s1] at hb2;obtain ⟨es',clock',r1,r2⟩:=hst w2 v hb2;have hlt2:b<w2.heap.size:=(Array.getElem?_eq_some_iff.1 hb2).1;obtain ⟨t1,t2,-⟩:=hset w2 (.map es' clock') hlt2;refine ⟨_,r1,?_,t2⟩;obtain ⟨w4,hr4,hown,hg⟩:=ho.update zDk ht hlen (hck hx hy) hvS;have hr4:=(zOc (r2.symm.trans hr4)).2
 have hown':(ChangeMaps.setBlock w2 b (.map es' clock')).ownsMap Tryz.prog 23 zCp b (K.length+1) (D.put (ck x y) (dOf v)):=by
  obtain ⟨es3,clock3,f1,f2,f3,f4⟩:=hown;rw [<-hr4,(hset w (.map es' clock') hlt).1] at f1;cases f1;exact ⟨es',clock',t1,f2,f3,f4⟩
 exact MapS.put_of hnd h64 hzs hF hn hD (ho.tidy zDk) ho.isMap hsz hx hy hvS hown'
end
end Go.Proofs.YtejjcenhjpjefaaGreatDoor
