import Derived.Shelf.SlLaysF0
import Derived.Shelf.SlGeneric
import Derived.Test.YtejjcenhjpjefaaGreatDoorBase
import Derived.Test.YtejjcenhjpjefaaGreatDoorRowS
import Derived.Shelf.GgSortFunc.InsertionK
import Derived.Shelf.SlSortCmp.WholeK
import Derived.Shelf.SlSortCmp.NoneTotal
set_option linter.all false
set_option maxRecDepth 1000000
set_option maxHeartbeats 64000000
open Go.Proofs.Tryz
open Go.Proofs.Tryz renaming prog->pg
open Array renaming getElem?_eq_some_iff->gE
open Go.Value renaming int->O
open Go.IntKind renaming i64->ii
namespace Go.Proofs.YtejjcenhjpjefaaGreatDoor
open Go.Shelf
def zIt:Go.Shelf.Ren:=⟨fun|6=>140|15=>99|14=>165|28=>132|29=>133|20=>176|21=>177|22=>178|23=>179|24=>180|25=>181|26=>182|27=>183|46=>185|47=>157|48=>158|49=>186|50=>187|57=>189|n=>n,fun|22=>34|24=>23|25=>110|3=>3|39=>165|0=>0|53=>204|55=>187|4=>4|46=>198|45=>197|50=>84|5=>5|9=>9|66=>221|70=>186|76=>235|77=>236|n=>n,fun|n=>n⟩
theorem zLc:Go.Proofs.SlLaysF0.n6 pg zIt:={
 mixed:=by kernel_rfl
 f6:=⟨Tryz.f140.name,by decide,func140.trans (congrArg some (by kernel_rfl))⟩
 f14:=⟨Tryz.f165.name,by decide,func165.trans (congrArg some (by kernel_rfl))⟩
 f15:=func99.trans (congrArg some (by kernel_rfl))
 f20:=⟨Tryz.f176.name,by decide,func176.trans (congrArg some (by kernel_rfl))⟩
 f21:=⟨Tryz.f177.name,by decide,func177.trans (congrArg some (by kernel_rfl))⟩
 f22:=⟨Tryz.f178.name,by decide,func178.trans (congrArg some (by kernel_rfl))⟩
 f23:=⟨Tryz.f179.name,by decide,func179.trans (congrArg some (by kernel_rfl))⟩
 f24:=⟨Tryz.f180.name,by decide,func180.trans (congrArg some (by kernel_rfl))⟩
 f25:=⟨Tryz.f181.name,by decide,func181.trans (congrArg some (by kernel_rfl))⟩
 f26:=⟨Tryz.f182.name,by decide,func182.trans (congrArg some (by kernel_rfl))⟩
 f27:=⟨Tryz.f183.name,by decide,func183.trans (congrArg some (by kernel_rfl))⟩
 f28:=func132.trans (congrArg some (by kernel_rfl))
 f29:=func133.trans (congrArg some (by kernel_rfl))
 f46:=⟨Tryz.f185.name,by decide,func185.trans (congrArg some (by kernel_rfl))⟩
 f47:=func157.trans (congrArg some (by kernel_rfl))
 f48:=func158.trans (congrArg some (by kernel_rfl))
 f49:=⟨Tryz.f186.name,by decide,func186.trans (congrArg some (by kernel_rfl))⟩
 f50:=⟨Tryz.f187.name,by decide,func187.trans (congrArg some (by kernel_rfl))⟩
 f57:=⟨Tryz.f189.name,by decide,func189.trans (congrArg some (by kernel_rfl))⟩
 t0:=Tryz.underlying0
 a0:=Tryz.isAgg0
 z0:=Tryz.sizeOf0
 v0:=Tryz.zeroValue0
 t3:=Tryz.underlying3
 a3:=Tryz.isAgg3
 z3:=Tryz.sizeOf3
 v3:=Tryz.zeroValue3
 t4:=Tryz.underlying4
 a4:=Tryz.isAgg4
 z4:=Tryz.sizeOf4
 v4:=Tryz.zeroValue4
 t5:=Tryz.underlying5
 a5:=Tryz.isAgg5
 z5:=Tryz.sizeOf5
 v5:=Tryz.zeroValue5
 t9:=Tryz.underlying9
 a9:=Tryz.isAgg9
 z9:=Tryz.sizeOf9
 v9:=Tryz.zeroValue9
 t22:=Tryz.underlying34
 a22:=Tryz.isAgg34
 z22:=Tryz.sizeOf34
 v22:=Tryz.zeroValue34
 t25:=Tryz.underlying110
 a25:=Tryz.isAgg110
 z25:=Tryz.sizeOf110
 v25:=Tryz.zeroValue110
 t39:=Tryz.underlying165
 a39:=Tryz.isAgg165
 z39:=Tryz.sizeOf165
 v39:=Tryz.zeroValue165
 t45:=Tryz.underlying197
 a45:=Tryz.isAgg197
 z45:=Tryz.sizeOf197
 v45:=Tryz.zeroValue197
 t46:=Tryz.underlying198
 a46:=Tryz.isAgg198
 z46:=Tryz.sizeOf198
 v46:=Tryz.zeroValue198
 t50:=Tryz.underlying84
 a50:=Tryz.isAgg84
 z50:=Tryz.sizeOf84
 v50:=Tryz.zeroValue84
 t53:=Tryz.underlying204
 a53:=Tryz.isAgg204
 z53:=Tryz.sizeOf204
 v53:=Tryz.zeroValue204
 t55:=Tryz.underlying187
 a55:=Tryz.isAgg187
 z55:=Tryz.sizeOf187
 v55:=Tryz.zeroValue187
 t66:=Tryz.underlying221
 a66:=Tryz.isAgg221
 z66:=Tryz.sizeOf221
 v66:=Tryz.zeroValue221
 t70:=Tryz.underlying186
 a70:=Tryz.isAgg186
 z70:=Tryz.sizeOf186
 v70:=Tryz.zeroValue186
 t76:=Tryz.underlying235
 a76:=Tryz.isAgg235
 z76:=Tryz.sizeOf235
 v76:=Tryz.zeroValue235
 t77:=Tryz.underlying236
 a77:=Tryz.isAgg236
 z77:=Tryz.sizeOf236
 v77:=Tryz.zeroValue236 }
section
open Go.Lib Go.RowKit Go.Sort
def cC2 (q:Int×Int):List Value:=[O ii q.1,O ii q.2]
theorem zJj (a:Option Addr) (n c:Nat) (w:World) (h:n<=c):(Builtin.append_ #[34,34] 34 #[.slice a n c,.slice none 0 0]).run pg w = .ok (.slice a n c) w:=by
 unfold Builtin.append_;go_simp;cases a<;>rfl
theorem zK3 (t:(Int×Int)):(cC2 t).length=2:=rfl
theorem zXn (t:(Int×Int)):∀u∈cC2 t,u.oneCell'=true:=by
 intro u h;simp [cC2] at h;rcases h with rfl|rfl<;>rfl
abbrev RC (w:World) (v:Value) (L:List (Int×Int)):Prop:=Rw 23 2 cC2 w v L
theorem zSz:(pg.info? 23).map (fun i=>(i.zero,i.size,i.bytes))=some (some (.agg #[O ii 0,O ii 0]),2,16):=by kernel_rfl
theorem zL4 (L:List (Int×Int)):(L.flatMap cC2).length=L.length*2:=by
 induction L with
 |nil=>rfl
 |cons t r ih=>rw [List.flatMap_cons,List.length_append,ih,zK3,List.length_cons];omega
theorem zXl (L:List (Int×Int)):∀u∈L.flatMap cC2,u.oneCell'=true:=by
 intro u hu;obtain ⟨t,-,h⟩:=List.mem_flatMap.1 hu;exact zXn t u h
section
variable {w:World} {v:Value} {L:List (Int×Int)}
theorem zBk (h:RC w v L):∃a c,v = .slice a L.length c:=by
 obtain ⟨a,cap,e,-⟩:=Rw.form zK3 h;exact ⟨a,cap,e⟩
theorem zSu (h:RC w v L) {M:List (Int×Int)} {a:Addr} {c:Nat} (hM:∀j u,(M.flatMap cC2)[j]? = some u->w.cell? (a.add j)=some u) (hlen:L.length+M.length<=1000000000) :
 ∃v' w',(Builtin.append_ #[34,34] 34 #[v,.slice (some a) M.length c]).run pg w = .ok v' w'/\RC w' v' (L++M)/\(∀k,v'.ownBlock=some k->v.ownBlock=some k\/w.heap.size<=k)/\Turns (fun k=>v.ownBlock=some k) w w':=by
 obtain ⟨fi,hf,hz,h1,h8⟩:=info_parts zSz;obtain ⟨v',w',q1,q2,q3,q4,q5⟩:=run_append_own_at (P:=pg) w 0 34 34 23 fi (.agg #[O ii 0,O ii 0]) 2 16 Tryz.underlying34 hf hz h1 h8 rfl (by decide) v L.length _ h a M.length c (M.flatMap cC2) (zL4 M) hM (zXl M) (by unfold maxLen;omega) (by omega) (Nat.zero_le _);refine ⟨v',w',q1,?_,fun k e=>?_,Turns.of_grown (S:=fun k=>v.ownBlock=some k) q3 (fun k e=>e)⟩
 ·unfold RC Rw;rw [List.flatMap_append,List.length_append];exact q2
 ·rcases q5 with q|q
  ·exact .inl (q▸e)
  ·rw [q] at e;cases e;exact .inr (Nat.le_refl _)
theorem zSl (h:RC w v L) (t:(Int×Int)) (hlen:L.length<=1000000) :
 ∃v' w',(Builtin.append_ #[34,34] 34 #[v,.slice (some ⟨w.heap.size,0,none⟩) 1 1]).run pg (w.alloc (.cells #[O ii t.1,O ii t.2] 23)) = .ok v' w'/\RC w' v' (L++[t])/\(∀k,v'.ownBlock=some k->v.ownBlock=some k\/w.heap.size<k)/\Turns (fun k=>v.ownBlock=some k) w w':=by
 obtain ⟨v',w',q1,q2,q3,q4⟩:=zSu (c:=1) (h.upto (zAh w (.cells #[O ii t.1,O ii t.2] 23))) (M:=[t]) (a:=⟨w.heap.size,0,none⟩) (fun j u hu=>by
  rw [Addr.add_lit,Nat.zero_add,cell_of_row _ w.heap.size j _ _ _ (heap_alloc_new w _)]
  simpa [cC2] using hu) (by simp;omega)
 refine ⟨v',w',q1,q2,fun k e=>?_,(Turns.of_below (zAh w _)).trans (q4.mono (fun k _ e => .inl e))⟩;rcases q3 k e with q|q
 ·exact .inl q
 ·simp at q;exact .inr (by omega)
theorem zY3 {bv:Value} {M:List (Int×Int)} (h:RC w v L) (hM:RC w bv M) (hlen:L.length+M.length<=1000000000) :
 ∃v' w',(Builtin.append_ #[34,34] 34 #[v,bv]).run pg w = .ok v' w'/\RC w' v' (L++M)/\(∀k,v'.ownBlock=some k->v.ownBlock=some k\/w.heap.size<=k)/\Turns (fun k=>v.ownBlock=some k) w w':=by
 rcases hM.2 with ⟨rfl,h0⟩|⟨g,cap,cur,rfl,-,hg,hn,hm,hsz,ht⟩
 ·have h1:M=[]:=List.eq_nil_of_length_eq_zero h0;subst h1;obtain ⟨fi,hf,hz,h1,h8⟩:=info_parts zSz;refine ⟨v,w,?_,by simpa using h,fun k e => .inl e,Turns.refl _ _⟩;rcases h.2 with ⟨rfl,h0⟩|⟨g,cap,cur,rfl,-,hg,hn,hm,hsz,ht⟩
  ·exact zJj none 0 0 w (Nat.le_refl _)
  ·exact zJj _ _ _ w hn
 ·exact zSu h (fun j u hu=>by
   have:=World.ownsRow.cells hM (g:=g) rfl j u hu
   exact this) hlen
variable [hI:Inhabited ((Int×Int))]
theorem zYm (L:List (Int×Int)) (j:Nat) (h:j<L.length*2):(flatK cC2 2 L.toArray)[j]! = (L.flatMap cC2)[j]!/\(L.flatMap cC2)[j]? = some (L.flatMap cC2)[j]! := by
 have hj:j<(L.flatMap cC2).length:=by rw [zL4];exact h
 have h2:(L.flatMap cC2)[j]? = some (L.flatMap cC2)[j]! := by rw [getElem!_pos _ j hj];exact List.getElem?_eq_getElem hj
 refine ⟨?_,h2⟩;rw [get_flatK _ _ _ j (by simpa using h)];have hq:j/2<L.length:=by omega
 have h3:=zIw zK3 L (j/2) L[j/2] (j%2) (List.getElem?_eq_getElem hq) (by omega);rw [show j/2*2+j%2=j by omega,h2] at h3;have h4:L.toArray[j/2]! = L[j/2]:=by rw [getElem!_pos _ _ (by simpa using hq)];simp
 rw [h4];have h5:j%2<(cC2 L[j/2]).length:=by rw [zK3];omega
 rw [List.getElem?_eq_getElem h5] at h3;rw [getElem!_pos (cC2 L[j/2]) (j%2) h5];exact (Option.some.inj h3).symm
theorem zVj {w:World} {g cap:Nat} {cur:Array Value} {L:List (Int×Int)} (hg:w.heap[g]? = some (.cells cur 23 (0,0))) (hn:L.length<=cap) (hs:cur.size=cap*2) (ht:cur.toList.take (L.length*2)=L.flatMap cC2):HoldsK cC2 2 w g 0 L.toArray:=by
 intro j hj;have hj':j<L.length*2:=by simpa using hj
 obtain ⟨h1,h2⟩:=zYm L j hj';constructor
 ·rw [Nat.zero_add,cell_of_row w g j _ _ _ hg,h1];have:cur[j]? = (L.flatMap cC2)[j]? := by rw [<-ht,List.getElem?_take,if_pos hj',Array.getElem?_toList]
  rw [this,h2];rfl
 ·have hlt:j<cur.size:=by omega
  simp [World.frozen?,hg]
theorem zWe {w:World} {g cap:Nat} {cur:Array Value} {L:List (Int×Int)} {n:Nat} {os:Array Obj} (hg:w.heap[g]? = some (.cells cur 23 (0,0))) (hn:L.length<=cap) (hm:cap<=maxLen) (hs:cur.size=cap*2) :
 RC (sortWorldK cC2 2 w g 0 n L.toArray os) (.slice (some ⟨g,0,none⟩) L.length cap) L/\Turns (fun k=>k=g) w (sortWorldK cC2 2 w g 0 n L.toArray os):=by
 have hlt:g<w.heap.size:=(gE.1 hg).1
 have hh:∀k,k<w.heap.size->(sortWorldK cC2 2 w g 0 n L.toArray os).heap[k]? = (w.heap.modify g (onCells (putCells id 0 (flatK cC2 2 L.toArray))))[k]? := fun k hk=>by
  unfold sortWorldK grow putRowK putRow mapBlock Sort.ahead;exact Array.getElem?_append_left (by simpa using hk)
 have hg':(sortWorldK cC2 2 w g 0 n L.toArray os).heap[g]? = some (.cells (putCells id 0 (flatK cC2 2 L.toArray) cur) 23 (0,0)):=by
  rw [hh g hlt,Array.getElem?_modify,if_pos rfl,hg];rfl
 constructor
 ·refine ⟨zL4 L,.inr ⟨g,cap,_,rfl,Nat.zero_le _,hg',hn,hm,by simp [putCells,hs],?_⟩⟩;refine List.ext_getElem? (fun j=>?_);rw [List.getElem?_take]
  by_cases hj:j<L.length*2
  ·rw [if_pos hj,Array.getElem?_toList];obtain ⟨h1,h2⟩:=zYm L j hj;have hc:j<cur.size:=by omega
   simp only [putCells,Array.getElem?_mapIdx,Array.getElem?_eq_getElem hc,Option.map_some];rw [if_pos ⟨by omega,by simpa using hj⟩,Nat.sub_zero,h1,h2];rfl
  ·rw [if_neg hj,List.getElem?_eq_none (by rw [zL4];omega)]
 ·refine ⟨rfl,rfl,rfl,?_,fun k hk hne=>?_⟩
  ·show w.heap.size<=(grow _ _).heap.size;unfold grow putRowK putRow mapBlock Sort.ahead;simp
  ·rw [hh k hk,Array.getElem?_modify,if_neg (fun e=>hne e.symm)]
end
end
end Go.Proofs.YtejjcenhjpjefaaGreatDoor
