import Derived.Shelf.SlLaysF0
import Derived.Shelf.SlGeneric
import Derived.Test.YtejjcenhjpjefaaGreatDoorBase
import Derived.Test.YtejjcenhjpjefaaGreatDoorRowS
import Derived.Shelf.GgSortFunc.InsertionK
import Derived.Shelf.SlSortCmp.WholeK
import Derived.Shelf.SlSortCmp.NoneTotal
import Derived.Test.YtejjcenhjpjefaaGreatDoorRowC
import Derived.Test.YtejjcenhjpjefaaGreatDoorSearch
import Derived.Test.YtejjcenhjpjefaaGreatDoorZlast
set_option linter.all false
set_option maxRecDepth 1000000
set_option maxHeartbeats 64000000
open Go.Proofs.Tryz
open Go.Proofs.Tryz renaming prog->pg
open Array renaming getElem?_eq_some_iff->gE
open And renaming intro->ai
open Go.Value renaming int->O
open Go.IntKind renaming i64->ii
namespace Go.Proofs.YtejjcenhjpjefaaGreatDoor
open Go.Shelf
def zIs:Go.Shelf.Ren:=⟨fun|6=>65|15=>99|14=>98|28=>132|29=>133|20=>124|21=>125|22=>126|23=>127|24=>128|25=>129|26=>130|27=>131|46=>156|47=>157|48=>158|49=>159|50=>160|57=>172|n=>n,fun|22=>85|24=>88|25=>133|3=>3|39=>165|0=>0|53=>204|55=>187|4=>4|46=>198|45=>197|50=>84|5=>5|9=>9|66=>221|70=>186|76=>235|77=>236|n=>n,fun|n=>n⟩
theorem zFm:Go.Proofs.SlLaysF0.n6 pg zIs:={
 mixed:=by kernel_rfl
 f6:=⟨Tryz.f65.name,by decide,func65.trans (congrArg some (by kernel_rfl))⟩
 f14:=⟨Tryz.f98.name,by decide,func98.trans (congrArg some (by kernel_rfl))⟩
 f15:=func99.trans (congrArg some (by kernel_rfl))
 f20:=⟨Tryz.f124.name,by decide,func124.trans (congrArg some (by kernel_rfl))⟩
 f21:=⟨Tryz.f125.name,by decide,func125.trans (congrArg some (by kernel_rfl))⟩
 f22:=⟨Tryz.f126.name,by decide,func126.trans (congrArg some (by kernel_rfl))⟩
 f23:=⟨Tryz.f127.name,by decide,func127.trans (congrArg some (by kernel_rfl))⟩
 f24:=⟨Tryz.f128.name,by decide,func128.trans (congrArg some (by kernel_rfl))⟩
 f25:=⟨Tryz.f129.name,by decide,func129.trans (congrArg some (by kernel_rfl))⟩
 f26:=⟨Tryz.f130.name,by decide,func130.trans (congrArg some (by kernel_rfl))⟩
 f27:=⟨Tryz.f131.name,by decide,func131.trans (congrArg some (by kernel_rfl))⟩
 f28:=func132.trans (congrArg some (by kernel_rfl))
 f29:=func133.trans (congrArg some (by kernel_rfl))
 f46:=⟨Tryz.f156.name,by decide,func156.trans (congrArg some (by kernel_rfl))⟩
 f47:=func157.trans (congrArg some (by kernel_rfl))
 f48:=func158.trans (congrArg some (by kernel_rfl))
 f49:=⟨Tryz.f159.name,by decide,func159.trans (congrArg some (by kernel_rfl))⟩
 f50:=⟨Tryz.f160.name,by decide,func160.trans (congrArg some (by kernel_rfl))⟩
 f57:=⟨Tryz.f172.name,by decide,func172.trans (congrArg some (by kernel_rfl))⟩
 t0:=Tryz.underlying0
 a0:=Tryz.isAgg0
 z0:=Tryz.sizeOf0
 v0:=Tryz.zeroValue0
 t3:=Tryz.underlying3
 a3:=Tryz.isAgg3
 z3:=Tryz.sizeOf3
 v3:=Tryz.zeroValue3
 t4:=Tryz.underlying4
 a4:=Tryz.isAgg4
 z4:=Tryz.sizeOf4
 v4:=Tryz.zeroValue4
 t5:=Tryz.underlying5
 a5:=Tryz.isAgg5
 z5:=Tryz.sizeOf5
 v5:=Tryz.zeroValue5
 t9:=Tryz.underlying9
 a9:=Tryz.isAgg9
 z9:=Tryz.sizeOf9
 v9:=Tryz.zeroValue9
 t22:=Tryz.underlying85
 a22:=Tryz.isAgg85
 z22:=Tryz.sizeOf85
 v22:=Tryz.zeroValue85
 t25:=Tryz.underlying133
 a25:=Tryz.isAgg133
 z25:=Tryz.sizeOf133
 v25:=Tryz.zeroValue133
 t39:=Tryz.underlying165
 a39:=Tryz.isAgg165
 z39:=Tryz.sizeOf165
 v39:=Tryz.zeroValue165
 t45:=Tryz.underlying197
 a45:=Tryz.isAgg197
 z45:=Tryz.sizeOf197
 v45:=Tryz.zeroValue197
 t46:=Tryz.underlying198
 a46:=Tryz.isAgg198
 z46:=Tryz.sizeOf198
 v46:=Tryz.zeroValue198
 t50:=Tryz.underlying84
 a50:=Tryz.isAgg84
 z50:=Tryz.sizeOf84
 v50:=Tryz.zeroValue84
 t53:=Tryz.underlying204
 a53:=Tryz.isAgg204
 z53:=Tryz.sizeOf204
 v53:=Tryz.zeroValue204
 t55:=Tryz.underlying187
 a55:=Tryz.isAgg187
 z55:=Tryz.sizeOf187
 v55:=Tryz.zeroValue187
 t66:=Tryz.underlying221
 a66:=Tryz.isAgg221
 z66:=Tryz.sizeOf221
 v66:=Tryz.zeroValue221
 t70:=Tryz.underlying186
 a70:=Tryz.isAgg186
 z70:=Tryz.sizeOf186
 v70:=Tryz.zeroValue186
 t76:=Tryz.underlying235
 a76:=Tryz.isAgg235
 z76:=Tryz.sizeOf235
 v76:=Tryz.zeroValue235
 t77:=Tryz.underlying236
 a77:=Tryz.isAgg236
 z77:=Tryz.sizeOf236
 v77:=Tryz.zeroValue236 }
section
open Go.Lib Go.RowKit Go.Sort
structure E3 where
 x:Int
 y:Int
 c:Int
def E3.cs (t:E3):List Value:=[O ii t.x,O ii t.y,O ii t.c]
abbrev E3.v (t:E3):Value:=.agg #[O ii t.x,O ii t.y,O ii t.c]
theorem zJi (a:Option Addr) (n c:Nat) (w:World) (h:n<=c):(Builtin.append_ #[85,85] 85 #[.slice a n c,.slice none 0 0]).run pg w = .ok (.slice a n c) w:=by
 unfold Builtin.append_;go_simp;cases a<;>rfl
theorem zNa (t:E3):(E3.cs t).length=3:=rfl
theorem zUe (t:E3):∀u∈E3.cs t,u.oneCell'=true:=by
 intro u h;simp [E3.cs] at h;rcases h with rfl|rfl|rfl<;>rfl
abbrev RE (w:World) (v:Value) (L:List E3):Prop:=Rw 88 3 E3.cs w v L
theorem zSy:(pg.info? 88).map (fun i=>(i.zero,i.size,i.bytes))=some (some (.agg #[O ii 0,O ii 0,O ii 0]),3,24):=by kernel_rfl
theorem zL3 (L:List E3):(L.flatMap E3.cs).length=L.length*3:=by
 induction L with
 |nil=>rfl
 |cons t r ih=>rw [List.flatMap_cons,List.length_append,ih,zNa,List.length_cons];omega
theorem zXk (L:List E3):∀u∈L.flatMap E3.cs,u.oneCell'=true:=by
 intro u hu;obtain ⟨t,-,h⟩:=List.mem_flatMap.1 hu;exact zUe t u h
section
variable {w:World} {v:Value} {L:List E3}
theorem zB3 (h:RE w v L):∃a c,v = .slice a L.length c:=by
 obtain ⟨a,cap,e,-⟩:=Rw.form zNa h;exact ⟨a,cap,e⟩
theorem zLp (h:RE w v L) {M:List E3} {a:Addr} {c:Nat} (hM:∀j u,(M.flatMap E3.cs)[j]? = some u->w.cell? (a.add j)=some u) (hlen:L.length+M.length<=1000000000) :
 ∃v' w',(Builtin.append_ #[85,85] 85 #[v,.slice (some a) M.length c]).run pg w = .ok v' w'/\RE w' v' (L++M)/\(∀k,v'.ownBlock=some k->v.ownBlock=some k\/w.heap.size<=k)/\Turns (fun k=>v.ownBlock=some k) w w':=by
 obtain ⟨fi,hf,hz,h1,h8⟩:=info_parts zSy;obtain ⟨v',w',q1,q2,q3,q4,q5⟩:=run_append_own_at (P:=pg) w 0 85 85 88 fi (.agg #[O ii 0,O ii 0,O ii 0]) 3 24 Tryz.underlying85 hf hz h1 h8 rfl (by decide) v L.length _ h a M.length c (M.flatMap E3.cs) (zL3 M) hM (zXk M) (by unfold maxLen;omega) (by omega) (Nat.zero_le _);refine ⟨v',w',q1,?_,fun k e=>?_,Turns.of_grown (S:=fun k=>v.ownBlock=some k) q3 (fun k e=>e)⟩
 ·unfold RE Rw;rw [List.flatMap_append,List.length_append];exact q2
 ·rcases q5 with q|q
  ·exact .inl (q▸e)
  ·rw [q] at e;cases e;exact .inr (Nat.le_refl _)
theorem zXi (h:RE w v L) (t:E3) (hlen:L.length<=1000000) :
 ∃v' w',(Builtin.append_ #[85,85] 85 #[v,.slice (some ⟨w.heap.size,0,none⟩) 1 1]).run pg (w.alloc (.cells #[O ii t.x,O ii t.y,O ii t.c] 88)) = .ok v' w'/\RE w' v' (L++[t])/\(∀k,v'.ownBlock=some k->v.ownBlock=some k\/w.heap.size<k)/\Turns (fun k=>v.ownBlock=some k) w w':=by
 obtain ⟨v',w',q1,q2,q3,q4⟩:=zLp (c:=1) (h.upto (zAh w (.cells #[O ii t.x,O ii t.y,O ii t.c] 88))) (M:=[t]) (a:=⟨w.heap.size,0,none⟩) (fun j u hu=>by
  rw [Addr.add_lit,Nat.zero_add,cell_of_row _ w.heap.size j _ _ _ (heap_alloc_new w _)]
  simpa [E3.cs] using hu) (by simp;omega)
 refine ⟨v',w',q1,q2,fun k e=>?_,(Turns.of_below (zAh w _)).trans (q4.mono (fun k _ e => .inl e))⟩;rcases q3 k e with q|q
 ·exact .inl q
 ·simp at q;exact .inr (by omega)
theorem zWf {bv:Value} {M:List E3} (h:RE w v L) (hM:RE w bv M) (hlen:L.length+M.length<=1000000000) :
 ∃v' w',(Builtin.append_ #[85,85] 85 #[v,bv]).run pg w = .ok v' w'/\RE w' v' (L++M)/\(∀k,v'.ownBlock=some k->v.ownBlock=some k\/w.heap.size<=k)/\Turns (fun k=>v.ownBlock=some k) w w':=by
 rcases hM.2 with ⟨rfl,h0⟩|⟨g,cap,cur,rfl,-,hg,hn,hm,hsz,ht⟩
 ·have h1:M=[]:=List.eq_nil_of_length_eq_zero h0;subst h1;obtain ⟨fi,hf,hz,h1,h8⟩:=info_parts zSy;refine ⟨v,w,?_,by simpa using h,fun k e => .inl e,Turns.refl _ _⟩;rcases h.2 with ⟨rfl,h0⟩|⟨g,cap,cur,rfl,-,hg,hn,hm,hsz,ht⟩
  ·exact zJi none 0 0 w (Nat.le_refl _)
  ·exact zJi _ _ _ w hn
 ·exact zLp h (fun j u hu=>by
   have:=World.ownsRow.cells hM (g:=g) rfl j u hu
   exact this) hlen
variable [hI:Inhabited (E3)]
theorem zYl (L:List E3) (j:Nat) (h:j<L.length*3):(flatK E3.cs 3 L.toArray)[j]! = (L.flatMap E3.cs)[j]!/\(L.flatMap E3.cs)[j]? = some (L.flatMap E3.cs)[j]! := by
 have hj:j<(L.flatMap E3.cs).length:=by rw [zL3];exact h
 have h2:(L.flatMap E3.cs)[j]? = some (L.flatMap E3.cs)[j]! := by rw [getElem!_pos _ j hj];exact List.getElem?_eq_getElem hj
 refine ⟨?_,h2⟩;rw [get_flatK _ _ _ j (by simpa using h)];have hq:j/3<L.length:=by omega
 have h3:=zIw zNa L (j/3) L[j/3] (j%3) (List.getElem?_eq_getElem hq) (by omega);rw [show j/3*3+j%3=j by omega,h2] at h3;have h4:L.toArray[j/3]! = L[j/3]:=by rw [getElem!_pos _ _ (by simpa using hq)];simp
 rw [h4];have h5:j%3<(E3.cs L[j/3]).length:=by rw [zNa];omega
 rw [List.getElem?_eq_getElem h5] at h3;rw [getElem!_pos (E3.cs L[j/3]) (j%3) h5];exact (Option.some.inj h3).symm
theorem zPc {w:World} {g cap:Nat} {cur:Array Value} {L:List E3} (hg:w.heap[g]? = some (.cells cur 88 (0,0))) (hn:L.length<=cap) (hs:cur.size=cap*3) (ht:cur.toList.take (L.length*3)=L.flatMap E3.cs):HoldsK E3.cs 3 w g 0 L.toArray:=by
 intro j hj;have hj':j<L.length*3:=by simpa using hj
 obtain ⟨h1,h2⟩:=zYl L j hj';constructor
 ·rw [Nat.zero_add,cell_of_row w g j _ _ _ hg,h1];have:cur[j]? = (L.flatMap E3.cs)[j]? := by rw [<-ht,List.getElem?_take,if_pos hj',Array.getElem?_toList]
  rw [this,h2];rfl
 ·have hlt:j<cur.size:=by omega
  simp [World.frozen?,hg]
theorem zP1 {w:World} {g cap:Nat} {cur:Array Value} {L:List E3} {n:Nat} {os:Array Obj} (hg:w.heap[g]? = some (.cells cur 88 (0,0))) (hn:L.length<=cap) (hm:cap<=maxLen) (hs:cur.size=cap*3) :
 RE (sortWorldK E3.cs 3 w g 0 n L.toArray os) (.slice (some ⟨g,0,none⟩) L.length cap) L/\Turns (fun k=>k=g) w (sortWorldK E3.cs 3 w g 0 n L.toArray os):=by
 have hlt:g<w.heap.size:=(gE.1 hg).1
 have hh:∀k,k<w.heap.size->(sortWorldK E3.cs 3 w g 0 n L.toArray os).heap[k]? = (w.heap.modify g (onCells (putCells id 0 (flatK E3.cs 3 L.toArray))))[k]? := fun k hk=>by
  unfold sortWorldK grow putRowK putRow mapBlock Sort.ahead;exact Array.getElem?_append_left (by simpa using hk)
 have hg':(sortWorldK E3.cs 3 w g 0 n L.toArray os).heap[g]? = some (.cells (putCells id 0 (flatK E3.cs 3 L.toArray) cur) 88 (0,0)):=by
  rw [hh g hlt,Array.getElem?_modify,if_pos rfl,hg];rfl
 constructor
 ·refine ⟨zL3 L,.inr ⟨g,cap,_,rfl,Nat.zero_le _,hg',hn,hm,by simp [putCells,hs],?_⟩⟩;refine List.ext_getElem? (fun j=>?_);rw [List.getElem?_take]
  by_cases hj:j<L.length*3
  ·rw [if_pos hj,Array.getElem?_toList];obtain ⟨h1,h2⟩:=zYl L j hj;have hc:j<cur.size:=by omega
   simp only [putCells,Array.getElem?_mapIdx,Array.getElem?_eq_getElem hc,Option.map_some];rw [if_pos ⟨by omega,by simpa using hj⟩,Nat.sub_zero,h1,h2];rfl
  ·rw [if_neg hj,List.getElem?_eq_none (by rw [zL3];omega)]
 ·refine ⟨rfl,rfl,rfl,?_,fun k hk hne=>?_⟩
  ·show w.heap.size<=(grow _ _).heap.size;unfold grow putRowK putRow mapBlock Sort.ahead;simp
  ·rw [hh k hk,Array.getElem?_modify,if_neg (fun e=>hne e.symm)]
end
end
section
open Go.Lib Go.RowKit Go.Sort
theorem zFr:Rcl 101:=zl fun _ _=>by go_simp
theorem zLe:Rcl 100:=zl fun _ _=>by go_simp
theorem zBb {P:Program} {ev:Operand->Value} {o:Oper} {w:World} {x:Operand} {v:Value} (ho:o.op = .assign x) (hx:ev x=v):(execOp ev o).run P w = .ok (.value v) w:=by
 unfold execOp;rw [ho,<-hx];rfl
def GrD (w w':World):Prop:=∃n os,w'=grow (Sort.ahead w n) os
theorem GrD.box (w:World) (o:Obj):GrD w (w.alloc o):=⟨0,#[o],by rw [Sort.ahead_zero];exact alloc_eq_grow w o⟩
theorem GrD.draw (w:World):GrD w w.drew:=⟨1,#[],by simp [grow];rfl⟩
theorem GrD.trans {a b c:World} (h:GrD a b) (k:GrD b c):GrD a c:=by
 obtain ⟨n1,o1,rfl⟩:=h;obtain ⟨n2,o2,rfl⟩:=k;exact ⟨n1+n2,o1++o2,by rw [ahead_grow,Sort.ahead_ahead,grow_grow]⟩
def orI (u v:Int):Int:=if u=0 then v else u
theorem zSn (g:Nat) (u v:Int) (w:World) (h:w.heap[g]? = some (.cells #[O ii u,O ii v] 3)):Calls pg 100 #[.slice (some ⟨g,0,none⟩) 2 2] w fun e w'=>e = .returned (O ii (orI u v))/\w'=w:=by
 have c0:w.cell? ⟨g,0,none⟩=some (O ii u):=by rw [cell_of_row w g 0 _ _ _ h];rfl
 have c1:w.cell? ⟨g,1,none⟩=some (O ii v):=by rw [cell_of_row w g 1 _ _ _ h];rfl
 obtain ⟨z,hz⟩:=ex (orI u v);rw [hz];have HZ:=zAb hz;clear h hz;go_enter func100,ntmps100;go_wp2_with fail;go_loopw [8] (fun i wr=>∃k:Nat,k<=2/\i = O ii (k:Nat)/\wr=w/\(0<k->u=0)/\(1<k->v=0)) (fun i _=>2-(intOf i).toNat)
 case atStart=>exact ⟨0,by omega,rfl,rfl,fun h=>by omega,fun h=>by omega⟩
 case round =>
  obtain ⟨k,hk,rfl,rfl,h1,h2⟩:=hrel;have HH:=zAb (ai h1 h2);clear h1 h2
  match k,hk with
  |0,_ =>
   by_cases hu:u=0
   ·have HU:=zAb hu;go_wp2_with fail;go_roundw
    case rel=>exact ⟨1,by omega,by go_num,by first|rfl|trivial,fun _=>HU.out,fun h=>by omega⟩
    case measure=>simp [intOf]
   ·have hz:u=z:=by rw [<-HZ.out];simp [orI,hu]
    clear HZ;subst hz;go_wp2_with fail;go_ret;exact ⟨rfl,rfl⟩
  |1,_ =>
   have hu:=HH.out.1 (by omega)
   by_cases hv:v=0
   ·have HU:=zAb (ai hu hv);clear hu;go_wp2_with fail;go_roundw
    case rel=>exact ⟨2,by omega,by go_num,by first|rfl|trivial,fun _=>HU.out.1,fun _=>HU.out.2⟩
    case measure=>simp [intOf]
   ·have hz:v=z:=by rw [<-HZ.out];simp [orI,hu]
    clear HZ hu;subst hz;go_wp2_with fail;go_ret;exact ⟨rfl,rfl⟩
  |2,_ =>
   have hu:=HH.out.1 (by omega);have hv:=HH.out.2 (by omega);have hz:0=z:=by rw [<-HZ.out];simp [orI,hu,hv]
   clear HZ hu hv;subst hz;go_wp2_with fail;go_ret;exact ⟨rfl,rfl⟩
def cfC (p q:Int×Int):Int:=orI (zD0 p.2 q.2) (zD0 p.1 q.1)
theorem zIy {ev:Operand->Value} {o:Oper} {w:World} {x y:Operand} {a b:Int} (ho:o.op = .buildSlice 113 2 #[(0,x),(1,y)]) (hx:ev x = O ii a) (hy:ev y = O ii b):(execOp ev o).run pg w = .ok (.value (.slice (some ⟨w.heap.size,0,none⟩) 2 2)) (w.alloc (.cells #[O ii a,O ii b] 3)):=by
 unfold execOp;simp only [ho,hx,hy];go_simp
theorem zYx (p q:Int×Int) (w:World):Calls pg 111 #[cel p.1 p.2,cel q.1 q.2] w fun e w'=>e = .returned (O ii (cfC p q))/\GrD w w':=by
 obtain ⟨a,b⟩:=p;obtain ⟨c,d⟩:=q;obtain ⟨X,hX⟩:=ex ((w.alloc (.cells #[O ii a,O ii b] 23)).alloc (.cells #[O ii c,O ii d] 23));have G0:GrD w X:=hX▸(GrD.box w _).trans (GrD.box _ _);have T0:Two X w.heap.size a b:=by rw [<-hX];exact (Two.newAt rfl).alloc
 have T1:Two X (w.heap.size+1) c d:=by rw [<-hX];exact Two.newAt (by simp)
 obtain ⟨⟨c0,c1⟩,-,-⟩:=id T0;obtain ⟨⟨c2,c3⟩,-,-⟩:=id T1;have HS:X.drew.cell? ⟨w.heap.size,0,none⟩=some (O ii a)/\X.drew.cell? ⟨w.heap.size,1,none⟩=some (O ii b)/\X.drew.cell? ⟨w.heap.size+1,0,none⟩=some (O ii c)/\X.drew.cell? ⟨w.heap.size+1,1,none⟩=some (O ii d):=⟨c0,c1,c2,c3⟩
 have HX:=zAb hX;have HG:=zAb G0;unfold cfC;simp only;clear hX G0 T0 T1 c0 c1 c2 c3;go_enter func111,ntmps111;go_wp2_with (rw [HX.out]);refine zAj ?_;refine zAe (fun wx:World=>wx.cell? ⟨w.heap.size,0,none⟩=some (O ii a)/\wx.cell? ⟨w.heap.size,1,none⟩=some (O ii b)/\wx.cell? ⟨w.heap.size+1,0,none⟩=some (O ii c)/\wx.cell? ⟨w.heap.size+1,1,none⟩=some (O ii d)) [10,11,12] (by kernel_rfl) ?_;refine zv 0 4 8 [.pointer (some ⟨w.heap.size,1,none⟩),O ii b,.pointer (some ⟨w.heap.size+1,1,none⟩),O ii d] rfl rfl (by kernel_rfl) HS ?_;repeat (refine zc rfl (by rfl) (fun wx hx=>by go_simp) ?_;simp only [zp])
 refine zn ?_;refine zv 5 4 8 [.pointer (some ⟨w.heap.size,0,none⟩),O ii a,.pointer (some ⟨w.heap.size+1,0,none⟩),O ii c] rfl rfl (by kernel_rfl) HS ?_;repeat (refine zc rfl (by rfl) (fun wx hx=>by go_simp) ?_;simp only [zp])
 refine zn ?_;refine zw 4 [] (by kernel_rfl) ?_;refine readyZ.call rfl rfl (zFr (by rfl) (by rfl) (by simp only [zj];rfl)) (zGp b d _) ?_ readyZ.nil;rintro e w1 ⟨rfl,rfl⟩;refine ⟨_,rfl,fun _=>HS,?_⟩;try simp only [zp]
 refine zw 9 [] (by kernel_rfl) ?_;refine readyZ.call rfl rfl (zFr (by rfl) (by rfl) (by simp only [zj];rfl)) (zGp a c _) ?_ readyZ.nil;rintro e w1 ⟨rfl,rfl⟩;refine ⟨_,rfl,fun _=>HS,?_⟩;try simp only [zp]
 refine zq 10 (by kernel_rfl) rfl rfl (zIy (by rfl) (by rfl) (by rfl)) (fun h=>absurd (by decide) h) ?_;try simp only [zp]
 obtain ⟨Y,hY⟩:=ex (X.drew.alloc (.cells #[O ii (zD0 b d),O ii (zD0 a c)] 3));have GY:GrD w Y:=HG.out.trans ((GrD.draw X).trans (hY▸GrD.box _ _));have hcy:Y.heap[X.drew.heap.size]? = some (.cells #[O ii (zD0 b d),O ii (zD0 a c)] 3):=hY▸heap_alloc_new _ _;rw [hY];refine zw 11 [] (by kernel_rfl) ?_;refine readyZ.call rfl rfl (zLe (by rfl) (by rfl) (by simp only [zj];rfl)) (zSn _ _ _ _ hcy) ?_ readyZ.nil;rintro e w1 ⟨rfl,rfl⟩;refine ⟨_,rfl,fun h=>absurd (by decide) h,?_⟩;try simp only [zp]
 refine zq 12 (by kernel_rfl) rfl rfl (zBb (by rfl) (by rfl)) (fun h=>absurd (by decide) h) ?_;try simp only [zp]
 refine zAd (by kernel_rfl) ?_ _;dsimp only [zAv,Exit.then];go_wp2_with fail;refine bodyPost_ret (v:=O ii (orI (zD0 b d) (zD0 a c))) (by simp [results,Tryz.f111,go_sem]) rfl ?_;exact ⟨rfl,GY⟩
def cfE (p q:E3):Int:=cfC (p.x,p.y) (q.x,q.y)
theorem qAx (p q:E3) (w:World):Calls pg 80 #[p.v,q.v] w fun e w'=>e = .returned (O ii (cfE p q))/\GrD w w':=by
 obtain ⟨a,b,k⟩:=p;obtain ⟨c,d,l⟩:=q;obtain ⟨X,hX⟩:=ex ((w.alloc (.cells #[O ii a,O ii b,O ii k] 88)).alloc (.cells #[O ii c,O ii d,O ii l] 88));have G0:GrD w X:=hX▸(GrD.box w _).trans (GrD.box _ _);have h0:X.heap[w.heap.size]? = some (.cells #[O ii a,O ii b,O ii k] 88):=by rw [<-hX];exact (Below.heap_alloc _ _ _ (by simp)).trans (World.alloc_heap_new w _)
 have h1:X.heap[w.heap.size+1]? = some (.cells #[O ii c,O ii d,O ii l] 88):=by rw [<-hX];have:=World.alloc_heap_new (w.alloc (.cells #[O ii a,O ii b,O ii k] 88)) (.cells #[O ii c,O ii d,O ii l] 88);rwa [World.size_alloc] at this
 have c0:X.cell? ⟨w.heap.size,0,none⟩=some (O ii a):=by rw [cell_of_row X _ 0 _ _ _ h0];rfl
 have c1:X.cell? ⟨w.heap.size,1,none⟩=some (O ii b):=by rw [cell_of_row X _ 1 _ _ _ h0];rfl
 have c2:X.cell? ⟨w.heap.size+1,0,none⟩=some (O ii c):=by rw [cell_of_row X _ 0 _ _ _ h1];rfl
 have c3:X.cell? ⟨w.heap.size+1,1,none⟩=some (O ii d):=by rw [cell_of_row X _ 1 _ _ _ h1];rfl
 have H1:=zAb (zYx (a,b) (c,d) X);have HX:=zAb hX;have HG:=zAb G0;unfold cfE;simp only;generalize cfC (a,b) (c,d)=z at H1 ⊢;clear hX G0 h0 h1;go_enter func80,ntmps80;go_wp2_with (rw [HX.out]);refine H1.out.mono ?_;rintro e w1 ⟨rfl,g1⟩;have HG1:=zAb (HG.out.trans g1);clear g1 c0 c1 c2 c3;go_wp2_with fail;go_ret;exact ⟨rfl,HG1.out⟩
def clt (p q:Int×Int):Prop:=p.2<q.2\/(p.2=q.2/\p.1<q.1)
theorem zL7 (a b:Int):(zD0 a b<0↔a<b)/\(zD0 a b=0↔a=b):=by
 unfold zD0
 split
 ·omega
 ·split<;>omega
theorem zPx (p q:Int×Int):cfC p q<0↔clt p q:=by
 have h1:=zL7 p.2 q.2;have h2:=zL7 p.1 q.1;unfold cfC orI clt;generalize zD0 p.2 q.2=u at *;generalize zD0 p.1 q.1=v at *
 split<;>omega
theorem zCf (p:Int×Int):¬clt p p:=by unfold clt;omega
theorem zEm {p q r:Int×Int} (h:clt p q) (k:clt q r):clt p r:=by unfold clt at *;omega
theorem zHj {p q r:Int×Int} (h:¬clt p q) (k:¬clt q r):¬clt p r:=by unfold clt at *;omega
theorem zL8 {p q:Int×Int} (h:¬clt p q) (k:¬clt q p):p=q:=by
 unfold clt at *;exact Prod.ext (by omega) (by omega)
open Classical in
theorem zX5 (p q:Int×Int):ltOf cfC p q=decide (clt p q):=by
 unfold ltOf
 by_cases h:clt p q
 ·have:=(zPx p q).2 h;simp [h,this]
 ·have:¬cfC p q<0:=fun k=>h ((zPx p q).1 k);simp [h];omega
abbrev E3.to (e:E3):Int×Int:=(e.x,e.y)
open Classical in
theorem zX4 (p q:E3):ltOf cfE p q=decide (clt p.to q.to):=by
 exact zX5 p.to q.to
theorem zZn:SWO (ltOf cfC) where
 irrefl x:=by rw [zX5];simp [zCf]
 trans x y z h1 h2:=by rw [zX5] at *;simp at *;exact zEm h1 h2
 ntrans x y z h1 h2:=by rw [zX5] at *;simp at *;exact zHj h1 h2
theorem zW0:SWO (ltOf cfE) where
 irrefl x:=by rw [zX4];simp [zCf]
 trans x y z h1 h2:=by rw [zX4] at *;simp at *;exact zEm h1 h2
 ntrans x y z h1 h2:=by rw [zX4] at *;simp at *;exact zHj h1 h2
def zTa (l:List (Int×Int)):Prop:=l.Pairwise (fun p q=>¬clt q p)
def zQd (l:List E3):Prop:=l.Pairwise (fun p q=>¬clt q.to p.to)
theorem zW4 {L:List E3} {v:Value} {w:World} (hlen:L.length<=1000000) (h:RE w v L) :
 Calls pg 65 #[v,.func (.func 80) #[] #[]] w fun e w'=>e = .returned (.tuple #[])/\∃M,M.Perm L/\zQd M/\RE w' v M/\Turns (fun j=>v.ownBlock=some j) w w':=by
 rcases h.2 with ⟨rfl,h0⟩|⟨g,cap,cur,rfl,-,hg,hn,hm,hsz,ht⟩
 ·have h1:L=[]:=List.eq_nil_of_length_eq_zero h0;subst h1;have hcon:=AnyF.slices_SortFunc_none zFm none 0 (.func (.func 80) #[] #[]) w;change Calls pg 65 _ _ _ at hcon;refine hcon.mono ?_;rintro e w' ⟨rfl,rfl⟩;exact ⟨rfl,[],.refl _,List.Pairwise.nil,Rw.nil _ _ _ _,Turns.of_below (Below.refl _ _)⟩
 have hI:Inhabited (E3):=⟨⟨0,0,0⟩⟩
 have eg:∀args w,(callFunc 80 args).run pg w = .ok (.enter 80 args) w:=enters_of func80 (by kernel_rfl) rfl;have hcon:=AnyQ.slices_SortFunc zFm 3 Tryz.isAgg88 Tryz.sizeOf88 E3.cs zNa zUe cfE zW0 80 #[] g 0 cap L.toArray w eg (fun _ _ _ _ x y=>(qAx x y _).mono (fun e w' ⟨h1,n,os,h2⟩=>⟨h1,n,os,h2⟩)) (zPc hg hn hsz ht) (gE.1 hg).1 (by simp;omega);change Calls pg 65 _ _ _ at hcon;rw [List.size_toArray] at hcon;refine hcon.mono ?_;rintro e w' ⟨rfl,d',n,os,hpm,hso,rfl⟩;obtain ⟨z1,-,z3⟩:=hpm;have zs:d'.size=L.length:=by rw [z1];simp
 have hp':d'.toList.Perm L:=by
  have e1:d'.extract 0 L.length=d':=by rw [<-zs];simp
  have e2:L.toArray.extract 0 L.length=L.toArray:=by simp
  rwa [e1,e2] at z3
 have hlL:d'.toList.length=L.length:=hp'.length_eq
 have hss:zQd d'.toList:=by
  unfold zQd;rw [List.pairwise_iff_getElem];intro i j hi hj hij;have:=hso i j (Nat.zero_le _) hij (by omega);rw [zX4] at this;rw [getElem!_pos _ j (by simpa using hj),getElem!_pos _ i (by simpa using hi)] at this;simpa using this
 obtain ⟨r1,r2⟩:=zP1 (L:=d'.toList) (n:=n) (os:=os) hg (by omega) hm hsz;have hd:d'.toList.toArray=d':=by simp
 rw [hd,hlL] at r1;rw [hd] at r2;exact ⟨rfl,d'.toList,hp',hss,r1,r2.mono (fun j _ e=>by rw [e];rfl)⟩
theorem zW5 {L:List (Int×Int)} {v:Value} {w:World} (hlen:L.length<=1000000) (h:RC w v L) :
 Calls pg 140 #[v,.func (.func 111) #[] #[]] w fun e w'=>e = .returned (.tuple #[])/\∃M,M.Perm L/\zTa M/\RC w' v M/\Turns (fun j=>v.ownBlock=some j) w w':=by
 rcases h.2 with ⟨rfl,h0⟩|⟨g,cap,cur,rfl,-,hg,hn,hm,hsz,ht⟩
 ·have h1:L=[]:=List.eq_nil_of_length_eq_zero h0;subst h1;have hcon:=AnyF.slices_SortFunc_none zLc none 0 (.func (.func 111) #[] #[]) w;change Calls pg 140 _ _ _ at hcon;refine hcon.mono ?_;rintro e w' ⟨rfl,rfl⟩;exact ⟨rfl,[],.refl _,List.Pairwise.nil,Rw.nil _ _ _ _,Turns.of_below (Below.refl _ _)⟩
 have hI:Inhabited ((Int×Int)):=⟨(0,0)⟩
 have eg:∀args w,(callFunc 111 args).run pg w = .ok (.enter 111 args) w:=enters_of func111 (by kernel_rfl) rfl;have hcon:=AnyQ.slices_SortFunc zLc 2 Tryz.isAgg23 Tryz.sizeOf23 cC2 zK3 zXn cfC zZn 111 #[] g 0 cap L.toArray w eg (fun _ _ _ _ x y=>(zYx x y _).mono (fun e w' ⟨h1,n,os,h2⟩=>⟨h1,n,os,h2⟩)) (zVj hg hn hsz ht) (gE.1 hg).1 (by simp;omega);change Calls pg 140 _ _ _ at hcon;rw [List.size_toArray] at hcon;refine hcon.mono ?_;rintro e w' ⟨rfl,d',n,os,hpm,hso,rfl⟩;obtain ⟨z1,-,z3⟩:=hpm;have zs:d'.size=L.length:=by rw [z1];simp
 have hp':d'.toList.Perm L:=by
  have e1:d'.extract 0 L.length=d':=by rw [<-zs];simp
  have e2:L.toArray.extract 0 L.length=L.toArray:=by simp
  rwa [e1,e2] at z3
 have hlL:d'.toList.length=L.length:=hp'.length_eq
 have hss:zTa d'.toList:=by
  unfold zTa;rw [List.pairwise_iff_getElem];intro i j hi hj hij;have:=hso i j (Nat.zero_le _) hij (by omega);rw [zX5] at this;rw [getElem!_pos _ j (by simpa using hj),getElem!_pos _ i (by simpa using hi)] at this;simpa using this
 obtain ⟨r1,r2⟩:=zWe (L:=d'.toList) (n:=n) (os:=os) hg (by omega) hm hsz;have hd:d'.toList.toArray=d':=by simp
 rw [hd,hlL] at r1;rw [hd] at r2;exact ⟨rfl,d'.toList,hp',hss,r1,r2.mono (fun j _ e=>by rw [e];rfl)⟩
end
end Go.Proofs.YtejjcenhjpjefaaGreatDoor
