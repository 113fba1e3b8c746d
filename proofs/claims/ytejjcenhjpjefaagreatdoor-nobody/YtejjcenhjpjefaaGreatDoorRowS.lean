import Derived.Test.YtejjcenhjpjefaaGreatDoorRows4
import Derived.Maps.AppendAt
import Derived.Laws.OwnMore
set_option linter.all false
set_option maxRecDepth 1000000
set_option maxHeartbeats 64000000
open Go.Proofs.Tryz
open Go.Proofs.Tryz renaming prog->pg
open Array renaming getElem?_eq_some_iff->gE
open Go.Value renaming int->O
open Go.IntKind renaming i64->ii
namespace Go.Proofs.YtejjcenhjpjefaaGreatDoor
open Go.RowKit
structure Q4 where
 x:Int
 y:Int
 a:Int
 b:Int
def Q4.cs (t:Q4):List Value:=[O ii t.x,O ii t.y,O ii t.a,O ii t.b]
theorem Q4.cs_len (t:Q4):t.cs.length=4:=rfl
abbrev Q4.v (t:Q4):Value:=.agg #[O ii t.x,O ii t.y,O ii t.a,O ii t.b]
abbrev Rq (ty:Nat) (w:World) (v:Value) (L:List Q4):Prop:=Rw ty 4 Q4.cs w v L
theorem zVb:(pg.info? 65).map (fun i=>(i.zero,i.size,i.bytes))=some (some (.agg #[O ii 0,O ii 0,O ii 0,O ii 0]),4,32):=by kernel_rfl
theorem zVa:(pg.info? 178).map (fun i=>(i.zero,i.size,i.bytes))=some (some (.agg #[O ii 0,O ii 0,O ii 0,O ii 0]),4,32):=by kernel_rfl
theorem zA0 {P:Program} {w:World} {ops:Array Oper} {rest:List Oper} {o:Oper} {a:Act} {Q:Exit->Act->World->Prop}
 (hgd:o.guard=none) (s x:Operand) (t:TypeId) (ho:o.op = .call { callee:=.builtin .append,args:=#[s,x],argTypes:=#[t,t] })
 (v xv:Value) (hs:a.eval s=v) (hx:a.eval x=xv) {v':Value} {w':World} (hr:(Builtin.append_ #[t,t] o.type #[v,xv]).run P w = .ok v' w') (h:wpList P ops Q rest (a.put o.dst v') w') :
 wpList P ops Q (o::rest) a w:=by
 refine wpList_plain hgd fun K hK=>?_;unfold Oper.wp;simp [execOp,ho,resolve,invoke,builtin,hs,hx,hr,Result.andThen];exact hK _ _ h
theorem zIh (L:List Q4):(L.flatMap Q4.cs).length=L.length*4:=by
 induction L with
 |nil=>rfl
 |cons t r ih=>rw [List.flatMap_cons,List.length_append,ih,Q4.cs_len,List.length_cons];omega
theorem zYw (L:List Q4):∀u∈L.flatMap Q4.cs,u.oneCell'=true:=by
 intro u hu;obtain ⟨t,-,h⟩:=List.mem_flatMap.1 hu;simp [Q4.cs] at h;rcases h with rfl|rfl|rfl|rfl<;>rfl
section
variable {ty st:Nat} {w:World} {v:Value} {L:List Q4}
theorem Rw.slice4 (h:Rq ty w v L):∃a c,v = .slice a L.length c:=by
 obtain ⟨a,cap,e,-⟩:=Rw.form Q4.cs_len h;exact ⟨a,cap,e⟩
theorem Rw.more (hu:pg.underlying st=some (.slice ty)) (hi:(pg.info? ty).map (fun i=>(i.zero,i.size,i.bytes))=some (some (.agg #[O ii 0,O ii 0,O ii 0,O ii 0]),4,32))
 (h:Rq ty w v L) {M:List Q4} {a:Addr} {c:Nat} (hM:∀j u,(M.flatMap Q4.cs)[j]? = some u->w.cell? (a.add j)=some u) (hlen:L.length+M.length<=1000000000) :
 ∃v' w',(Builtin.append_ #[st,st] st #[v,.slice (some a) M.length c]).run pg w = .ok v' w'/\Rq ty w' v' (L++M)/\(∀k,v'.ownBlock=some k->v.ownBlock=some k\/w.heap.size<=k)/\Turns (fun k=>v.ownBlock=some k) w w':=by
 obtain ⟨fi,hf,hz,h1,h8⟩:=info_parts hi;obtain ⟨v',w',q1,q2,q3,q4,q5⟩:=run_append_own_at (P:=pg) w 0 st st ty fi (.agg #[O ii 0,O ii 0,O ii 0,O ii 0]) 4 32 hu hf hz h1 h8 rfl (by decide) v L.length _ h a M.length c (M.flatMap Q4.cs) (zIh M) hM (zYw M) (by unfold maxLen;omega) (by omega) (Nat.zero_le _);refine ⟨v',w',q1,?_,fun k e=>?_,Turns.of_grown (S:=fun k=>v.ownBlock=some k) q3 (fun k e=>e)⟩
 ·unfold Rq Rw;rw [List.flatMap_append,List.length_append];exact q2
 ·rcases q5 with q|q
  ·exact .inl (q▸e)
  ·rw [q] at e;cases e;exact .inr (Nat.le_refl _)
theorem Rw.push4 (hu:pg.underlying st=some (.slice ty)) (hi:(pg.info? ty).map (fun i=>(i.zero,i.size,i.bytes))=some (some (.agg #[O ii 0,O ii 0,O ii 0,O ii 0]),4,32))
 (h:Rq ty w v L) (t:Q4) (hlen:L.length<=1000000) :
 ∃v' w',(Builtin.append_ #[st,st] st #[v,.slice (some ⟨w.heap.size,0,none⟩) 1 1]).run pg (w.alloc (.cells #[O ii t.x,O ii t.y,O ii t.a,O ii t.b] ty)) = .ok v' w'/\Rq ty w' v' (L++[t])/\(∀k,v'.ownBlock=some k->v.ownBlock=some k\/w.heap.size<k)/\Turns (fun k=>v.ownBlock=some k) w w':=by
 obtain ⟨v',w',q1,q2,q3,q4⟩:=Rw.more (c:=1) hu hi (h.upto (zAh w (.cells #[O ii t.x,O ii t.y,O ii t.a,O ii t.b] ty))) (M:=[t]) (a:=⟨w.heap.size,0,none⟩) (fun j u hu=>by
  rw [Addr.add_lit,Nat.zero_add,cell_of_row _ w.heap.size j _ _ _ (heap_alloc_new w _)]
  simpa [Q4.cs] using hu) (by simp;omega)
 refine ⟨v',w',q1,q2,fun k e=>?_,(Turns.of_below (zAh w _)).trans (q4.mono (fun k _ e => .inl e))⟩;rcases q3 k e with q|q
 ·exact .inl q
 ·simp at q;exact .inr (by omega)
theorem Rw.own_some {v:Value} {L:List Q4} {r:Q4} (h:Rq ty w v (L++[r])):∃g cap,v = .slice (some ⟨g,0,none⟩) (L.length+1) cap/\g<w.heap.size/\v.ownBlock=some g:=by
 rcases h.2 with ⟨_,e⟩|⟨g,cap,cur,e,hb,hg,r⟩
 ·simp at e
 ·exact ⟨g,cap,by simpa using e,(gE.1 hg).1,by rw [e];rfl⟩
theorem Rw.lastq {g cap:Nat} {r:Q4} (h:Rq ty w (.slice (some ⟨g,0,none⟩) (L.length+1) cap) (L++[r])) :
 (w.cell? ⟨g,L.length*4,none⟩=some (O ii r.x)/\w.cell? ⟨g,L.length*4+1,none⟩=some (O ii r.y)/\w.cell? ⟨g,L.length*4+2,none⟩=some (O ii r.a)/\w.cell? ⟨g,L.length*4+3,none⟩=some (O ii r.b))/\∀o,w.frozen? ⟨g,o,none⟩=false:=by
 have hc:∀o u,r.cs[o]? = some u->o<4->w.cell? ⟨g,L.length*4+o,none⟩=some u:=fun o u hu ho=>by
  have:=World.ownsRow.cells h (g:=g) rfl (L.length*4+o) u (by rw [zIw Q4.cs_len (L++[r]) L.length r o (by simp) ho];exact hu);simpa [Addr.add_lit] using this
 refine ⟨⟨hc 0 _ rfl (by omega),hc 1 _ rfl (by omega),hc 2 _ rfl (by omega),hc 3 _ rfl (by omega)⟩,fun o=>?_⟩;rcases h.2 with ⟨e,_⟩|⟨g',cap',cur,e,hb,hg,r⟩
 ·cases e
 ·simp only [Value.slice.injEq,Option.some.injEq,Addr.mk.injEq,and_true,true_and] at e;obtain ⟨rfl,-⟩:=e;simp [World.frozen?,hg]
theorem zRv (L:List Q4) (r:Q4) (j:Nat) (u:Value) (hj:j<4):((L++[r]).flatMap Q4.cs).set (L.length*4+j) u=L.flatMap Q4.cs++r.cs.set j u:=by
 rw [List.flatMap_append,List.set_append_right _ _ (by rw [zIh];omega),zIh];simp
theorem Rw.setq {g cap:Nat} {r r':Q4} (h:Rq ty w (.slice (some ⟨g,0,none⟩) (L.length+1) cap) (L++[r])) (j:Nat) (u:Value) (hj:j<4) (hr:r.cs.set j u=r'.cs) :
 Rq ty (w.setCell ⟨g,L.length*4+j,none⟩ u) (.slice (some ⟨g,0,none⟩) (L.length+1) cap) (L++[r']):=by
 have h':w.ownsRow 0 ty 4 (.slice (some ⟨g,0,none⟩) (L.length+1) cap) (L.length+1) ((L++[r]).flatMap Q4.cs):=by simpa [Rq,Rw] using h
 have q:=(World.ownsRow.stored h' (L.length*4+j) u).1;rw [zRv L r j u hj,hr] at q;simpa [Rq,Rw] using q
theorem Rw.set4q {g cap:Nat} {r:Q4} (h:Rq ty w (.slice (some ⟨g,0,none⟩) (L.length+1) cap) (L++[r])) (t:Q4) :
 Rq ty ((((w.setCell ⟨g,L.length*4,none⟩ (O ii t.x)).setCell ⟨g,L.length*4+1,none⟩ (O ii t.y)).setCell ⟨g,L.length*4+2,none⟩ (O ii t.a)).setCell ⟨g,L.length*4+3,none⟩ (O ii t.b)) (.slice (some ⟨g,0,none⟩) (L.length+1) cap) (L++[t])/\
 Turns (fun j=>j=g) w ((((w.setCell ⟨g,L.length*4,none⟩ (O ii t.x)).setCell ⟨g,L.length*4+1,none⟩ (O ii t.y)).setCell ⟨g,L.length*4+2,none⟩ (O ii t.a)).setCell ⟨g,L.length*4+3,none⟩ (O ii t.b)):=by
 constructor
 ·have q0:=h.setq (r':=⟨t.x,r.y,r.a,r.b⟩) 0 (O ii t.x) (by decide) rfl;have q1:=q0.setq (r':=⟨t.x,t.y,r.a,r.b⟩) 1 (O ii t.y) (by decide) rfl;have q2:=q1.setq (r':=⟨t.x,t.y,t.a,r.b⟩) 2 (O ii t.a) (by decide) rfl;exact q2.setq (r':=t) 3 (O ii t.b) (by decide) rfl
 ·exact (((Turns.set (S:=fun j=>j=g) w (p:=⟨g,L.length*4,none⟩) rfl _).trans ((Turns.set (S:=fun j=>j=g) _ (p:=⟨g,L.length*4+1,none⟩) rfl _).mono (fun _ _ h => .inl h))).trans ((Turns.set (S:=fun j=>j=g) _ (p:=⟨g,L.length*4+2,none⟩) rfl _).mono (fun _ _ h => .inl h))).trans ((Turns.set (S:=fun j=>j=g) _ (p:=⟨g,L.length*4+3,none⟩) rfl _).mono (fun _ _ h => .inl h))
end
end Go.Proofs.YtejjcenhjpjefaaGreatDoor
