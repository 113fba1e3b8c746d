import Derived.Test.YthiafmlgialbnaaGreatDoorDP0
set_option linter.all false
set_option maxRecDepth 1000000
set_option maxHeartbeats 64000000
open Go.Proofs.Tryz
open Go.Proofs.Tryz renaming prog->pg
open Array renaming getElem?_eq_some_iff->gE
open And renaming intro->ai
open Go.Value renaming int->O
open Go.IntKind renaming i64->ii
namespace Go.Proofs.YthiafmlgialbnaaGreatDoor
open Go.RowKit Go.Shelf
section
theorem zH5 {ev:Operand->Value} {o:Oper} {w:World} {x t:Operand} {g n cap k:Nat} (ho:o.op = .slice 68 x none (some t) none) (hx:ev x = .slice (some ⟨g,0,none⟩) n cap) (ht:ev t = O ii k) (hk:k<=cap) (hcap:cap<=maxLen) :
 (execOp ev o).run pg w = .ok (.value (.slice (some ⟨g,0,none⟩) k cap)) w:=by
 have h1:(0:Int)<=(k:Nat)/\(k:Int)<=(cap:Nat)/\(cap:Int)<=9223372036854775807:=by unfold maxLen at hcap;omega
 unfold execOp;rw [ho];simp only [hx,ht];go_simp
theorem zG0 {ev:Operand->Value} {o:Oper} {w:World} {x t:Operand} {g n cap k:Nat} (ho:o.op = .slice 68 x (some t) none none) (hx:ev x = .slice (some ⟨g,0,none⟩) n cap) (ht:ev t = O ii k) (hk:k<=n) (hn:n<=cap) (hcap:cap<=maxLen) :
 (execOp ev o).run pg w = .ok (.value (.slice (some (if cap=k then ⟨g,0,none⟩ else ⟨g,k*2,none⟩)) (n-k) (cap-k))) w:=by
 have h1:(0:Int)<=(k:Nat)/\(k:Int)<=(n:Nat)/\(n:Int)<=(cap:Nat)/\(cap:Int)<=9223372036854775807:=by unfold maxLen at hcap;omega
 unfold execOp;rw [ho];simp only [hx,ht]
 by_cases hc:cap=k
 ·have hc':cap-k=0:=by omega
  rw [if_pos hc];go_simp
 ·have hc':¬cap-k=0:=by omega
  rw [if_neg hc];go_simp
theorem zD0 {ev:Operand->Value} {o:Oper} {w:World} (ho:o.op = .buildSlice 68 0 #[]):(execOp ev o).run pg w = .ok (.value (.slice (some ⟨w.heap.size,0,none⟩) 0 0)) (w.alloc (.cells #[] 47)):=by
 unfold execOp;rw [ho];go_simp
theorem zBx {ev:Operand->Value} {o:Oper} {w:World} {x:Operand} {t:Int×Int} (ho:o.op = .buildSlice 68 1 #[(0,x)]) (hx:ev x = .agg #[O ii t.1,O ii t.2]) :
 (execOp ev o).run pg w = .ok (.value (.slice (some ⟨w.heap.size,0,none⟩) 1 1)) (w.alloc (.cells #[O ii t.1,O ii t.2] 47)):=by
 unfold execOp;rw [ho];simp only [List.map_toArray,List.map_cons,List.map_nil,hx];go_simp
section
variable {w:World} {g cap:Nat} {M L:List (Int×Int)} {u:Value}
theorem zFt (h:RC w (.slice (some ⟨g,0,none⟩) M.length cap) M) (U:RC w u L) (k:Nat) (hk:k<=M.length) (hn:L.length+M.length<=1000000) :
 ∃v' w',(Builtin.append_ #[68,68] 68 #[u,.slice (some ⟨g,0,none⟩) k cap]).run pg w = .ok v' w'/\RC w' v' (L++M.take k)/\(∀j,v'.ownBlock=some j->u.ownBlock=some j\/w.heap.size<=j)/\Turns (fun j=>u.ownBlock=some j) w w':=by
 have hl:(M.take k).length=k:=by simp;omega
 have:=zKj U (c:=cap) (M:=M.take k) (a:=⟨g,0,none⟩) (fun j x hx=>World.ownsRow.cells h (g:=g) rfl j x (by
  rw [show M.flatMap cC2=(M.take k).flatMap cC2++(M.drop k).flatMap cC2 by rw [<-List.flatMap_append,List.take_append_drop]];rw [List.getElem?_append_left (List.getElem?_eq_some_iff.1 hx).1]
  exact hx)) (by omega)
 rwa [hl] at this
theorem zZw (h:RC w (.slice (some ⟨g,0,none⟩) M.length cap) M) (U:RC w u L) (k:Nat) (hk:k<=M.length) (hc:M.length<=cap) (hn:L.length+M.length<=1000000) :
 ∃v' w',(Builtin.append_ #[68,68] 68 #[u,.slice (some (if cap=k then ⟨g,0,none⟩ else ⟨g,k*2,none⟩)) (M.length-k) (cap-k)]).run pg w = .ok v' w'/\RC w' v' (L++M.drop k)/\(∀j,v'.ownBlock=some j->u.ownBlock=some j\/w.heap.size<=j)/\Turns (fun j=>u.ownBlock=some j) w w':=by
 have hl:(M.drop k).length=M.length-k:=by simp
 have:=zKj U (c:=cap-k) (M:=M.drop k) (a:=if cap=k then ⟨g,0,none⟩ else ⟨g,k*2,none⟩) (fun j x hx=>by
  split
  ·rw [List.drop_eq_nil_of_le (by omega)] at hx;simp at hx
  ·have hc:=World.ownsRow.cells h (g:=g) rfl (k*2+j) x (by
    rw [show M.flatMap cC2=(M.take k).flatMap cC2++(M.drop k).flatMap cC2 by rw [<-List.flatMap_append,List.take_append_drop]];rw [List.getElem?_append_right (by rw [zIi];simp;omega),zIi,show (M.take k).length=k by simp;omega,Nat.add_sub_cancel_left]
    exact hx)
   simpa [Addr.add_lit] using hc) (by omega)
 rwa [hl] at this
theorem qCa (h:RC w (.slice (some ⟨g,0,none⟩) M.length cap) M):M.length<=cap/\cap<=maxLen:=by
 rcases h.2 with ⟨e,h0⟩|⟨g',cap,cur,e,hb,hg,hn,hm,r⟩
 ·cases e
 ·simp only [Value.slice.injEq] at e;obtain ⟨-,-,rfl⟩:=e;exact ⟨hn,hm⟩
end
structure PwC (W0 W:World) (v:Value) (L:List (Int×Int)):Prop where
 below:Below W0.heap.size W0 W
 us:RC W v L
 own:∀j,v.ownBlock=some j->W0.heap.size<=j
theorem PwC.step {W0 W W':World} {v v':Value} {L L':List (Int×Int)} (h:PwC W0 W v L) (U:RC W' v' L') (T:Turns (fun j=>v.ownBlock=some j) W W') (ho:∀j,v'.ownBlock=some j->v.ownBlock=some j\/W.heap.size<=j):PwC W0 W' v' L':=
 ⟨h.below.trans (T.below (fun j e=>h.own j e) h.below.size),U,fun j e=>by
  rcases ho j e with q|q
  ·exact h.own j q
  ·have:=h.below.size;omega⟩
theorem PwC.alloc {W0 W:World} {v:Value} {L:List (Int×Int)} (h:PwC W0 W v L) (o:Obj):PwC W0 (W.alloc o) v L:=
 ⟨h.below.trans ((zAk W o).mono h.below.size),h.us.upto (zAk W o),h.own⟩
theorem PwC.empty {W0 W:World} (h:Below W0.heap.size W0 W):PwC W0 (W.alloc (.cells #[] 47)) (.slice (some ⟨W.heap.size,0,none⟩) 0 0) []:=
 ⟨h.trans ((zAk W _).mono h.size),⟨rfl,.inr ⟨W.heap.size,0,#[],rfl,Nat.zero_le _,heap_alloc_new W _,Nat.le_refl _,Nat.zero_le _,rfl,rfl⟩⟩,fun j e=>by cases e;exact h.size⟩
def LoneC (W:World) (s:Nat) (t:Int×Int):Prop:=W.heap[s]? = some (.cells #[O ii t.1,O ii t.2] 47 (0,0))
theorem LoneC.cells {W:World} {s:Nat} {t:Int×Int} (h:LoneC W s t):∀j u,(([t]:List (Int×Int)).flatMap cC2)[j]? = some u->W.cell? ((⟨s,0,none⟩:Addr).add j)=some u:=fun j u hu=>by
 rw [Addr.add_lit,Nat.zero_add,cell_of_row _ s j _ _ _ h];simpa [cC2] using hu
theorem LoneC.new (W:World) (t:Int×Int):LoneC (W.alloc (.cells #[O ii t.1,O ii t.2] 47)) W.heap.size t:=heap_alloc_new W _
theorem LoneC.alloc {W:World} {s:Nat} {t:Int×Int} (h:LoneC W s t) (o:Obj):LoneC (W.alloc o) s t:=((zAk W o).block s (gE.1 h).1).trans h
theorem LoneC.turned {W W':World} {s:Nat} {t:Int×Int} (h:LoneC W s t) {S:Nat->Prop} (T:Turns S W W') (hs:¬S s):LoneC W' s t:=T.same hs h
theorem zC5 {W0 W:World} {g cap:Nat} {u:Value} {M:List (Int×Int)} {k s:Nat} {t:Int×Int} (hR:RC W0 (.slice (some ⟨g,0,none⟩) M.length cap) M) (h:PwC W0 W u (M.take k)) (hs:LoneC W s t) (hk:k<=M.length) (hc:M.length<=cap) (hl:M.length<=100000) :
 ∃v2 W2 v3 W3,(Builtin.append_ #[68,68] 68 #[u,.slice (some ⟨s,0,none⟩) 1 1]).run pg W = .ok v2 W2/\(Builtin.append_ #[68,68] 68 #[v2,.slice (some (if cap=k then ⟨g,0,none⟩ else ⟨g,k*2,none⟩)) (M.length-k) (cap-k)]).run pg W2 = .ok v3 W3/\
  Below W0.heap.size W0 W2/\PwC W0 W3 v3 (M.take k++t::M.drop k):=by
 have ht:(M.take k).length<=100000:=by simp;omega
 obtain ⟨v2,W2,r2,u2,o2,g2⟩:=zKj h.us (c:=1) (M:=[t]) (a:=⟨s,0,none⟩) hs.cells (by simp;omega);have p2:=h.step u2 g2 o2;have hR2:=hR.upto p2.below;obtain ⟨v3,W3,r3,u3,o3,g3⟩:=zZw hR2 p2.us k hk hc (by simp;omega);have p3:=p2.step u3 g3 o3;refine ⟨v2,W2,v3,W3,r2,r3,p2.below,?_⟩;rw [List.append_assoc,List.singleton_append] at p3;exact p3
theorem zH4 {ev:Operand->Value} {o:Oper} {w:World} {x t:Operand} {g n cap k:Nat} (ho:o.op = .slice 60 x none (some t) none) (hx:ev x = .slice (some ⟨g,0,none⟩) n cap) (ht:ev t = O ii k) (hk:k<=cap) (hcap:cap<=maxLen) :
 (execOp ev o).run pg w = .ok (.value (.slice (some ⟨g,0,none⟩) k cap)) w:=by
 have h1:(0:Int)<=(k:Nat)/\(k:Int)<=(cap:Nat)/\(cap:Int)<=9223372036854775807:=by unfold maxLen at hcap;omega
 unfold execOp;rw [ho];simp only [hx,ht];go_simp
theorem zGz {ev:Operand->Value} {o:Oper} {w:World} {x t:Operand} {g n cap k:Nat} (ho:o.op = .slice 60 x (some t) none none) (hx:ev x = .slice (some ⟨g,0,none⟩) n cap) (ht:ev t = O ii k) (hk:k<=n) (hn:n<=cap) (hcap:cap<=maxLen) :
 (execOp ev o).run pg w = .ok (.value (.slice (some (if cap=k then ⟨g,0,none⟩ else ⟨g,k*3,none⟩)) (n-k) (cap-k))) w:=by
 have h1:(0:Int)<=(k:Nat)/\(k:Int)<=(n:Nat)/\(n:Int)<=(cap:Nat)/\(cap:Int)<=9223372036854775807:=by unfold maxLen at hcap;omega
 unfold execOp;rw [ho];simp only [hx,ht]
 by_cases hc:cap=k
 ·have hc':cap-k=0:=by omega
  rw [if_pos hc];go_simp
 ·have hc':¬cap-k=0:=by omega
  rw [if_neg hc];go_simp
theorem zDz {ev:Operand->Value} {o:Oper} {w:World} (ho:o.op = .buildSlice 60 0 #[]):(execOp ev o).run pg w = .ok (.value (.slice (some ⟨w.heap.size,0,none⟩) 0 0)) (w.alloc (.cells #[] 63)):=by
 unfold execOp;rw [ho];go_simp
theorem zBw {ev:Operand->Value} {o:Oper} {w:World} {x:Operand} {t:E3} (ho:o.op = .buildSlice 60 1 #[(0,x)]) (hx:ev x = .agg #[O ii t.x,O ii t.y,O ii t.c]) :
 (execOp ev o).run pg w = .ok (.value (.slice (some ⟨w.heap.size,0,none⟩) 1 1)) (w.alloc (.cells #[O ii t.x,O ii t.y,O ii t.c] 63)):=by
 unfold execOp;rw [ho];simp only [List.map_toArray,List.map_cons,List.map_nil,hx];go_simp
section
variable {w:World} {g cap:Nat} {M L:List (E3)} {u:Value}
theorem zFs (h:RE w (.slice (some ⟨g,0,none⟩) M.length cap) M) (U:RE w u L) (k:Nat) (hk:k<=M.length) (hn:L.length+M.length<=1000000) :
 ∃v' w',(Builtin.append_ #[60,60] 60 #[u,.slice (some ⟨g,0,none⟩) k cap]).run pg w = .ok v' w'/\RE w' v' (L++M.take k)/\(∀j,v'.ownBlock=some j->u.ownBlock=some j\/w.heap.size<=j)/\Turns (fun j=>u.ownBlock=some j) w w':=by
 have hl:(M.take k).length=k:=by simp;omega
 have:=zIc U (c:=cap) (M:=M.take k) (a:=⟨g,0,none⟩) (fun j x hx=>World.ownsRow.cells h (g:=g) rfl j x (by
  rw [show M.flatMap E3.cs=(M.take k).flatMap E3.cs++(M.drop k).flatMap E3.cs by rw [<-List.flatMap_append,List.take_append_drop]];rw [List.getElem?_append_left (List.getElem?_eq_some_iff.1 hx).1]
  exact hx)) (by omega)
 rwa [hl] at this
theorem zZv (h:RE w (.slice (some ⟨g,0,none⟩) M.length cap) M) (U:RE w u L) (k:Nat) (hk:k<=M.length) (hc:M.length<=cap) (hn:L.length+M.length<=1000000) :
 ∃v' w',(Builtin.append_ #[60,60] 60 #[u,.slice (some (if cap=k then ⟨g,0,none⟩ else ⟨g,k*3,none⟩)) (M.length-k) (cap-k)]).run pg w = .ok v' w'/\RE w' v' (L++M.drop k)/\(∀j,v'.ownBlock=some j->u.ownBlock=some j\/w.heap.size<=j)/\Turns (fun j=>u.ownBlock=some j) w w':=by
 have hl:(M.drop k).length=M.length-k:=by simp
 have:=zIc U (c:=cap-k) (M:=M.drop k) (a:=if cap=k then ⟨g,0,none⟩ else ⟨g,k*3,none⟩) (fun j x hx=>by
  split
  ·rw [List.drop_eq_nil_of_le (by omega)] at hx;simp at hx
  ·have hc:=World.ownsRow.cells h (g:=g) rfl (k*3+j) x (by
    rw [show M.flatMap E3.cs=(M.take k).flatMap E3.cs++(M.drop k).flatMap E3.cs by rw [<-List.flatMap_append,List.take_append_drop]];rw [List.getElem?_append_right (by rw [zIh];simp;omega),zIh,show (M.take k).length=k by simp;omega,Nat.add_sub_cancel_left]
    exact hx)
   simpa [Addr.add_lit] using hc) (by omega)
 rwa [hl] at this
theorem qB9 (h:RE w (.slice (some ⟨g,0,none⟩) M.length cap) M):M.length<=cap/\cap<=maxLen:=by
 rcases h.2 with ⟨e,h0⟩|⟨g',cap,cur,e,hb,hg,hn,hm,r⟩
 ·cases e
 ·simp only [Value.slice.injEq] at e;obtain ⟨-,-,rfl⟩:=e;exact ⟨hn,hm⟩
end
structure PwE (W0 W:World) (v:Value) (L:List (E3)):Prop where
 below:Below W0.heap.size W0 W
 us:RE W v L
 own:∀j,v.ownBlock=some j->W0.heap.size<=j
theorem PwE.step {W0 W W':World} {v v':Value} {L L':List (E3)} (h:PwE W0 W v L) (U:RE W' v' L') (T:Turns (fun j=>v.ownBlock=some j) W W') (ho:∀j,v'.ownBlock=some j->v.ownBlock=some j\/W.heap.size<=j):PwE W0 W' v' L':=
 ⟨h.below.trans (T.below (fun j e=>h.own j e) h.below.size),U,fun j e=>by
  rcases ho j e with q|q
  ·exact h.own j q
  ·have:=h.below.size;omega⟩
theorem PwE.alloc {W0 W:World} {v:Value} {L:List (E3)} (h:PwE W0 W v L) (o:Obj):PwE W0 (W.alloc o) v L:=
 ⟨h.below.trans ((zAk W o).mono h.below.size),h.us.upto (zAk W o),h.own⟩
theorem PwE.empty {W0 W:World} (h:Below W0.heap.size W0 W):PwE W0 (W.alloc (.cells #[] 63)) (.slice (some ⟨W.heap.size,0,none⟩) 0 0) []:=
 ⟨h.trans ((zAk W _).mono h.size),⟨rfl,.inr ⟨W.heap.size,0,#[],rfl,Nat.zero_le _,heap_alloc_new W _,Nat.le_refl _,Nat.zero_le _,rfl,rfl⟩⟩,fun j e=>by cases e;exact h.size⟩
def LoneE (W:World) (s:Nat) (t:E3):Prop:=W.heap[s]? = some (.cells #[O ii t.x,O ii t.y,O ii t.c] 63 (0,0))
theorem LoneE.cells {W:World} {s:Nat} {t:E3} (h:LoneE W s t):∀j u,(([t]:List (E3)).flatMap E3.cs)[j]? = some u->W.cell? ((⟨s,0,none⟩:Addr).add j)=some u:=fun j u hu=>by
 rw [Addr.add_lit,Nat.zero_add,cell_of_row _ s j _ _ _ h];simpa [E3.cs] using hu
theorem LoneE.new (W:World) (t:E3):LoneE (W.alloc (.cells #[O ii t.x,O ii t.y,O ii t.c] 63)) W.heap.size t:=heap_alloc_new W _
theorem LoneE.alloc {W:World} {s:Nat} {t:E3} (h:LoneE W s t) (o:Obj):LoneE (W.alloc o) s t:=((zAk W o).block s (gE.1 h).1).trans h
theorem LoneE.turned {W W':World} {s:Nat} {t:E3} (h:LoneE W s t) {S:Nat->Prop} (T:Turns S W W') (hs:¬S s):LoneE W' s t:=T.same hs h
theorem zC4 {W0 W:World} {g cap:Nat} {u:Value} {M:List (E3)} {k s:Nat} {t:E3} (hR:RE W0 (.slice (some ⟨g,0,none⟩) M.length cap) M) (h:PwE W0 W u (M.take k)) (hs:LoneE W s t) (hk:k<=M.length) (hc:M.length<=cap) (hl:M.length<=100000) :
 ∃v2 W2 v3 W3,(Builtin.append_ #[60,60] 60 #[u,.slice (some ⟨s,0,none⟩) 1 1]).run pg W = .ok v2 W2/\(Builtin.append_ #[60,60] 60 #[v2,.slice (some (if cap=k then ⟨g,0,none⟩ else ⟨g,k*3,none⟩)) (M.length-k) (cap-k)]).run pg W2 = .ok v3 W3/\
  Below W0.heap.size W0 W2/\PwE W0 W3 v3 (M.take k++t::M.drop k):=by
 have ht:(M.take k).length<=100000:=by simp;omega
 obtain ⟨v2,W2,r2,u2,o2,g2⟩:=zIc h.us (c:=1) (M:=[t]) (a:=⟨s,0,none⟩) hs.cells (by simp;omega);have p2:=h.step u2 g2 o2;have hR2:=hR.upto p2.below;obtain ⟨v3,W3,r3,u3,o3,g3⟩:=zZv hR2 p2.us k hk hc (by simp;omega);have p3:=p2.step u3 g3 o3;refine ⟨v2,W2,v3,W3,r2,r3,p2.below,?_⟩;rw [List.append_assoc,List.singleton_append] at p3;exact p3
end
theorem zP0:Rcl 96:=zl fun _ _=>by go_simp
def zGc {α:Type} (M M':List α) (t:α):Prop:=∀a,a∈M'↔a∈M\/a=t
theorem zGi {ev:Operand->Value} {o:Oper} {w:World} {x y:Operand} {a b c d:Int} (ho:o.op = .binOp .eql 47 x y 47) (hx:ev x=cel a b) (hy:ev y=cel c d):(execOp ev o).run pg w = .ok (.value (.bool (decide (a=c/\b=d)))) w:=by
 unfold execOp;simp only [ho,hx,hy];go_simp
 by_cases h1:a=c<;>by_cases h2:b=d<;>simp [h1,h2]
theorem zSe {w:World} {v:Value} {M:List (Int×Int)} (h:RC w v M) (hn:M.length≠0):∃g c,v = .slice (some ⟨g,0,none⟩) M.length c:=by
 rcases h.2 with ⟨e,h0⟩|⟨g',cap,cur,e,r⟩
 ·exact absurd h0 hn
 ·exact ⟨_,_,e⟩
theorem zVi {M:List (Int×Int)} {t:Int×Int} {k:Nat} (hU:UpC M) (h1:∀a∈M.take k,clt a t) (h2:∀q r,M.drop k=q::r->clt t q):UpC (M.take k++t::M.drop k)/\(∀a,a∈M.take k++t::M.drop k↔a∈M\/a=t)/\(M.take k++t::M.drop k).length<=M.length+1:=by
 have hs:=hU;unfold UpC at hs;rw [<-List.take_append_drop k M,List.pairwise_append] at hs
 have ht:∀b∈M.drop k,clt t b:=fun b hb=>by
  cases hd:M.drop k with
  |nil=>rw [hd] at hb;cases hb
  |cons q r =>
   have hq:=h2 q r hd;rw [hd] at hb;rcases List.mem_cons.1 hb with rfl|hb
   ·exact hq
   ·have h3:=hs.2.1;rw [hd] at h3;exact zC8 hq ((List.pairwise_cons.1 h3).1 b hb)
 refine ⟨List.pairwise_append.2 ⟨hs.1,List.pairwise_cons.2 ⟨ht,hs.2.1⟩,fun a ha b hb=>?_⟩,fun a=>?_,?_⟩
 ·rcases List.mem_cons.1 hb with rfl|hb
  ·exact h1 a ha
  ·exact hs.2.2 a ha b hb
 ·have h3:a∈M↔a∈M.take k\/a∈M.drop k:=by rw [<-List.mem_append,List.take_append_drop]
  rw [List.mem_append,List.mem_cons,h3];constructor
  ·rintro (h|h|h)
   ·exact .inl (.inl h)
   ·exact .inr h
   ·exact .inl (.inr h)
  ·rintro ((h|h)|h)
   ·exact .inl h
   ·exact .inr (.inr h)
   ·exact .inr (.inl h)
 ·rw [List.length_append,List.length_cons,List.length_take,List.length_drop];omega
theorem zVj {w:World} {g oc:Nat} {M:List (Int×Int)} (hR:RC w (.slice (some ⟨g,0,none⟩) M.length oc) M) (hU:UpC M) (hMl:M.length<=20000) (tx ty:Int) :
 Calls pg 63 #[.slice (some ⟨g,0,none⟩) M.length oc,cel tx ty] w fun e w'=>∃g' oc' M',e = .returned (.slice (some ⟨g',0,none⟩) M'.length oc')/\RC w' (.slice (some ⟨g',0,none⟩) M'.length oc') M'/\UpC M'/\zGc M M' (tx,ty)/\M'.length<=M.length+1/\Below w.heap.size w w':=by
 obtain ⟨X,hX⟩:=ex (w.alloc (.cells #[O ii tx,O ii ty] 47));have BX:Below w.heap.size w X:=hX▸zAk _ _;have TX:Two X w.heap.size tx ty:=by rw [<-hX];exact Two.newAt rfl
 have HX:=zAc hX;have HS0:=zAc (ai BX (ai TX (ai (hR.upto BX) hU)));clear hX BX TX hR hU;go_enter func63,ntmps63;go_wp2_with (rw [HX.out]);go_loopw [5] (fun v wr=>∃k:Nat,v = O ii (k:Nat)/\k<=M.length/\(∀a∈M.take k,clt a (tx,ty))/\Below X.heap.size X wr) (fun v _=>M.length-(intOf v).toNat)
 case atStart=>exact ⟨0,rfl,Nat.zero_le _,(fun a h=>by rw [List.take_zero] at h;cases h),Below.refl _ _⟩
 case round =>
  obtain ⟨k,rfl,hk,hkl,hbk⟩:=hrel;rename World=>Z0;have hkI:(0:Int)<=(k:Nat)/\((k:Nat):Int)<=20000:=by omega
  have HKl:=zAc hkl;have Hk:=zAc hk;clear hkl
  by_cases hltk:k<M.length
  ·have hlk:((k:Nat):Int)<(M.length:Nat):=by omega
   obtain ⟨m,hmk⟩:∃m,M[k]? = some m:=⟨_,List.getElem?_eq_getElem hltk⟩
   obtain ⟨mx,my⟩:=m
   have hcell:∀Z,Below X.heap.size X Z->(fun wx:World=>(wx.cell? ⟨g,k*2,none⟩=some (O ii mx)/\wx.cell? ⟨g,k*2+1,none⟩=some (O ii my))/\wx.cell? ⟨w.heap.size,0,none⟩=some (O ii tx)/\wx.cell? ⟨w.heap.size,1,none⟩=some (O ii ty)) Z:=fun Z q=>by
    obtain ⟨g',e',-,z0,z1⟩:=zFu (HS0.out.2.2.1.upto q) hmk;cases e';exact ⟨⟨z0,z1⟩,(HS0.out.2.1.kept q).1⟩
   have Hcell:=zAc hcell;have hd:Below Z0.heap.size Z0 Z0.drew:=⟨rfl,rfl,rfl,Nat.le_refl _,fun _ _=>rfl⟩
   have hbk2:=bt hbk hd;have HS:=hcell _ hbk2;have HLe:=zAc (fun wx=>zGk mx my tx ty wx);obtain ⟨bq,hbq⟩:∃b,decide (my<ty\/(my=ty/\mx<tx))=b:=⟨_,rfl⟩
   rw [hbq] at HLe;have Hbq:=zAc hbq;have Hmk:=zAc hmk;have Hbk:=zAc hbk2;clear hmk hbq hbk hbk2 hd hcell;go_wp2_with fail;refine zAp ?_;refine zAg (fun wx:World=>(wx.cell? ⟨g,k*2,none⟩=some (O ii mx)/\wx.cell? ⟨g,k*2+1,none⟩=some (O ii my))/\wx.cell? ⟨w.heap.size,0,none⟩=some (O ii tx)/\wx.cell? ⟨w.heap.size,1,none⟩=some (O ii ty)) [] (by kernel_rfl) ?_;refine zv 0 10 30 [O ii (k:Nat),.slice (some ⟨g,0,none⟩) M.length oc,O ii (M.length:Nat),.bool true,.bool true,.slice (some ⟨g,0,none⟩) M.length oc,O ii (k:Nat),.pointer (some ⟨g,k*2,none⟩),cel mx my,cel tx ty] rfl rfl (by kernel_rfl) HS ?_;repeat ((first|refine zo rfl (by rfl) rfl (by rfl) ?_|refine zc rfl (by rfl) (fun wx hx=>by go_simp) ?_);simp only [zp])
   refine zn ?_;refine zw 10 [] (by kernel_rfl) ?_;refine readyZ.callG rfl (by rfl) (zP0 (by rfl) (by rfl) (by simp only [zj];rfl)) (HLe.out _) ?_ readyZ.nil;rintro e Z ⟨rfl,hbZ'⟩;have hbZ:Below X.heap.size X Z:=bt Hbk.out hbZ';have HSz:=Hcell.out Z hbZ;clear hbZ';refine ⟨_,rfl,fun _=>HSz,?_⟩;try simp only [zp]
   refine zt 11 30 (.bool bq) rfl (by kernel_rfl) (by rfl) (fun wx hx=>by go_simp) HSz ?_;try simp only [zp]
   refine zAf (by kernel_rfl) ?_ _;dsimp only [zA1,Exit.then];have HbZ:=zAc hbZ;clear HS HSz hbZ HLe Hbk;cases bq
   ·have hnl:¬clt (mx,my) (tx,ty):=fun h=>by
     have:=Hbq.out;rw [decide_eq_true (show my<ty\/(my=ty/\mx<tx) from h)] at this;cases this
    have Hnl:=zAc hnl;clear hnl;have hd:Below Z.heap.size Z Z.drew:=⟨rfl,rfl,rfl,Nat.le_refl _,fun _ _=>rfl⟩
    have HS:=Hcell.out _ (bt HbZ.out hd);obtain ⟨be,hbe⟩:∃b,decide (mx=tx/\my=ty)=b:=⟨_,rfl⟩
    have Hbe:=zAc hbe;clear hbe hd;go_wp2_with fail;refine zAp ?_;refine zAg (fun wx:World=>(wx.cell? ⟨g,k*2,none⟩=some (O ii mx)/\wx.cell? ⟨g,k*2+1,none⟩=some (O ii my))/\wx.cell? ⟨w.heap.size,0,none⟩=some (O ii tx)/\wx.cell? ⟨w.heap.size,1,none⟩=some (O ii ty)) [] (by kernel_rfl) ?_;refine zv 0 10 30 [O ii (k:Nat),.slice (some ⟨g,0,none⟩) M.length oc,O ii (M.length:Nat),.bool true,.bool true,.slice (some ⟨g,0,none⟩) M.length oc,O ii (k:Nat),.pointer (some ⟨g,k*2,none⟩),cel mx my,cel tx ty] rfl rfl (by kernel_rfl) HS ?_;repeat ((first|refine zo rfl (by rfl) rfl (by rfl) ?_|refine zc rfl (by rfl) (fun wx hx=>by go_simp) ?_);simp only [zp])
    refine zn ?_;refine zt 10 30 (.bool be) rfl (by kernel_rfl) (by rfl) (fun wx hx=>by rw [<-Hbe.out];exact zGi (by rfl) (by rfl) (by rfl)) HS ?_;try simp only [zp]
    refine zt 11 30 (.bool be) rfl (by kernel_rfl) (by rfl) (fun wx hx=>by go_simp) HS ?_;try simp only [zp]
    refine zAf (by kernel_rfl) ?_ _;dsimp only [zA1,Exit.then];clear HS;cases be
    ·have Hk2:Hid (∀q r,M.drop k=q::r->clt (tx,ty) q):=zAc fun q r e=>by
      have h1:(M.drop k)[0]? = M[k]? := by rw [List.getElem?_drop,Nat.add_zero]
      rw [e,Hmk.out] at h1;simp at h1;subst h1
      exact Classical.byContradiction fun c=>by
       have he:=zGm c Hnl.out;have:=Hbe.out;rw [decide_eq_true (show mx=tx/\my=ty from by have:=congrArg Prod.fst he;have:=congrArg Prod.snd he;simp only at *;omega)] at this;cases this
     have HbZ:Hid (Below X.heap.size X Z.drew):=zAc (bt HbZ.out ⟨rfl,rfl,rfl,Nat.le_refl _,fun _ _=>rfl⟩);clear Hbe Hnl Hbq Hmk Hcell;generalize Z.drew=Z1 at HbZ ⊢;go_wp2_with fail
     have hSof:Hid (∀Y:World,Below Z1.drew.heap.size Z1.drew Y->(fun wx:World=>wx.cell? ⟨w.heap.size,0,none⟩=some (O ii tx)/\wx.cell? ⟨w.heap.size,1,none⟩=some (O ii ty)) Y):=zAc fun Y q=>by
      have hd:Below Z1.heap.size Z1 Z1.drew:=⟨rfl,rfl,rfl,Nat.le_refl _,fun _ _=>rfl⟩
      exact (HS0.out.2.1.kept (bt HbZ.out (bt hd q))).1
     have hRd:RC Z1.drew (.slice (some ⟨g,0,none⟩) M.length oc) M:=by
      have hd:Below Z1.heap.size Z1 Z1.drew:=⟨rfl,rfl,rfl,Nat.le_refl _,fun _ _=>rfl⟩
      exact HS0.out.2.2.1.upto (bt HbZ.out hd)
     have Hcap:=zAc (qCa hRd);have hMl2:=hMl;have E1:=PwC.empty (Below.refl Z1.drew.heap.size Z1.drew);obtain ⟨vA,WA,rA,uA,oA,gA⟩:=zFt (hRd.upto E1.below) E1.us k Hk.out (by simp;omega);have pA:=E1.step uA gA oA;rw [List.nil_append] at pA;have pA2:=pA.alloc (.cells #[O ii tx,O ii ty] 47);obtain ⟨v2A,W2A,v3A,W3A,r2A,r3A,b2A,p3A⟩:=zC5 (t:=(tx,ty)) hRd pA2 (LoneC.new WA (tx,ty)) Hk.out Hcap.out.1 (by omega);have E2:=E1.alloc (.cells #[O ii tx,O ii ty] 47);obtain ⟨vB,WB,rB,uB,oB,gB⟩:=zFt (hRd.upto E2.below) E2.us k Hk.out (by simp;omega);have pB:=E2.step uB gB oB;rw [List.nil_append] at pB;obtain ⟨v2B,W2B,v3B,W3B,r2B,r3B,b2B,p3B⟩:=zC5 (t:=(tx,ty)) hRd pB ((LoneC.new (Z1.drew.alloc (.cells #[] 47)) (tx,ty)).turned gB (by simp [Value.ownBlock])) Hk.out Hcap.out.1 (by omega);have B2:Below Z1.drew.heap.size Z1.drew (Z1.drew.alloc (.cells #[O ii tx,O ii ty] 47)):=zAk _ _;have E3:=PwC.empty B2;obtain ⟨vC,WC,rC,uC,oC,gC⟩:=zFt (hRd.upto E3.below) E3.us k Hk.out (by simp;omega);have pC:=E3.step uC gC oC;rw [List.nil_append] at pC;obtain ⟨v2C,W2C,v3C,W3C,r2C,r3C,b2C,p3C⟩:=zC5 (t:=(tx,ty)) hRd pC (((LoneC.new Z1.drew (tx,ty)).alloc (.cells #[] 47)).turned gC (by simp [Value.ownBlock])) Hk.out Hcap.out.1 (by omega);obtain ⟨had,hha⟩:∃ad:Addr,(if oc=k then (⟨g,0,none⟩:Addr) else ⟨g,k*2,none⟩)=ad:=⟨_,rfl⟩
     rw [hha] at r3A r3B r3C;have Hha:=zAc hha;clear hha;have b1:=zAc E1.below;have bA:=zAc pA.below;have bA2:=zAc pA2.below;have b12:=zAc E2.below;have bB:=zAc pB.below;have b2:=zAc B2;have b21:=zAc E3.below;have bC:=zAc pC.below
     replace rA:=zAc rA
     replace rB:=zAc rB
     replace rC:=zAc rC
     replace r2A:=zAc r2A
     replace r2B:=zAc r2B
     replace r2C:=zAc r2C
     replace r3A:=zAc r3A
     replace r3B:=zAc r3B
     replace r3C:=zAc r3C
     replace b2A:=zAc b2A
     replace b2B:=zAc b2B
     replace b2C:=zAc b2C
     replace p3A:=zAc p3A
     replace p3B:=zAc p3B
     replace p3C:=zAc p3C
     clear E1 E2 E3 B2 uA uB uC gA gB gC oA oB oC pA pA2 pB pC hRd
     have HFin:Hid (∀(Wf:World) (v:Value),PwC Z1.drew Wf v (M.take k++(tx,ty)::M.drop k)->∃g' oc' M',v = .slice (some ⟨g',0,none⟩) M'.length oc'/\RC Wf v M'/\UpC M'/\zGc M M' (tx,ty)/\M'.length<=M.length+1/\Below w.heap.size w Wf):=zAc fun Wf v h=>by
      have hd:Below Z1.heap.size Z1 Z1.drew:=⟨rfl,rfl,rfl,Nat.le_refl _,fun _ _=>rfl⟩
      obtain ⟨hU',hm',hl'⟩:=zVi HS0.out.2.2.2 HKl.out Hk2.out;obtain ⟨g',oc',e⟩:=zSe h.us (by simp);exact ⟨g',oc',_,e,h.us,hU',hm',hl',bt HS0.out.1 (bt HbZ.out (bt hd h.below))⟩
     refine zAp ?_;refine zAg (fun wx:World=>wx.cell? ⟨w.heap.size,0,none⟩=some (O ii tx)/\wx.cell? ⟨w.heap.size,1,none⟩=some (O ii ty)) [] (by kernel_rfl) ?_;refine zv 1 2 40 [.slice (some ⟨g,0,none⟩) M.length oc,O ii (k:Nat)] rfl rfl (by kernel_rfl) (hSof.out _ (Below.refl _ _)) ?_;repeat (refine zo rfl (by rfl) rfl (by rfl) ?_;simp only [zp])
     refine zn ?_;refine zt 3 40 (.slice (some ⟨g,0,none⟩) k oc) rfl (by kernel_rfl) (by rfl) (fun wx hx=>zH5 (by rfl) (by rfl) (by rfl) (Nat.le_trans Hk.out Hcap.out.1) Hcap.out.2) (hSof.out _ (Below.refl _ _)) ?_;try simp only [zp]
     refine zt 5 40 (cel tx ty) rfl (by kernel_rfl) (by rfl) (fun wx hx=>by go_simp) (hSof.out _ (Below.refl _ _)) ?_;try simp only [zp]
     refine zv 8 2 40 [.slice (some ⟨g,0,none⟩) M.length oc,O ii (k:Nat)] rfl rfl (by kernel_rfl) (hSof.out _ (Below.refl _ _)) ?_;repeat (refine zo rfl (by rfl) rfl (by rfl) ?_;simp only [zp])
     refine zn ?_;refine zt 10 40 (.slice (some had) (M.length-k) (oc-k)) rfl (by kernel_rfl) (by rfl) (fun wx hx=>(by rw [<-Hha.out];exact zG0 (by rfl) (by rfl) (by rfl) Hk.out Hcap.out.1 Hcap.out.2)) (hSof.out _ (Below.refl _ _)) ?_;try simp only [zp]
     refine zw 0 [6] (by kernel_rfl) ?_;refine readyZ.cons rfl rfl (zD0 (by rfl)) (fun _=>hSof.out _ b1.out) ?_ ?_
     ·try simp only [zp]
      refine zw 4 [6] (by kernel_rfl) ?_;refine readyZ.cons rfl rfl (zAj (by rfl) (by rfl) (by rfl) rA.out) (fun _=>hSof.out _ bA.out) ?_ ?_
      ·try simp only [zp]
       refine zq 6 (by kernel_rfl) rfl rfl (zBx (t:=(tx,ty)) (by rfl) (by rfl)) (fun _=>hSof.out _ bA2.out) ?_;try simp only [zp]
       refine zq 7 (by kernel_rfl) rfl rfl (zAj (by rfl) (by rfl) (by rfl) r2A.out) (fun _=>hSof.out _ b2A.out) ?_;try simp only [zp]
       refine zq 11 (by kernel_rfl) rfl rfl (zAj (by rfl) (by rfl) (by rfl) r3A.out) (fun _=>hSof.out _ p3A.out.below) ?_;try simp only [zp]
       refine zq 12 (by kernel_rfl) rfl rfl (zAo (by rfl) (by rfl)) (fun _=>hSof.out _ p3A.out.below) ?_;try simp only [zp]
       refine zAf (by kernel_rfl) ?_ _;dsimp only [zA1,Exit.then];obtain ⟨g',oc',M',rfl,q1,q2,q3,q4,q5⟩:=HFin.out _ _ p3A.out;have Hq:=zAc (ai q1 (ai q2 (ai q3 (ai q4 q5))));clear q1 q2 q3 q4 q5;go_wp2_with fail;go_ret;exact ⟨g',oc',M',rfl,Hq.out.1,Hq.out.2.1,Hq.out.2.2.1,Hq.out.2.2.2.1,Hq.out.2.2.2.2⟩
      ·refine readyZ.cons rfl rfl (zBx (t:=(tx,ty)) (by rfl) (by rfl)) (fun _=>hSof.out _ b12.out) ?_ readyZ.nil;try simp only [zp]
       refine zq 4 (by kernel_rfl) rfl rfl (zAj (by rfl) (by rfl) (by rfl) rB.out) (fun _=>hSof.out _ bB.out) ?_;try simp only [zp]
       refine zq 7 (by kernel_rfl) rfl rfl (zAj (by rfl) (by rfl) (by rfl) r2B.out) (fun _=>hSof.out _ b2B.out) ?_;try simp only [zp]
       refine zq 11 (by kernel_rfl) rfl rfl (zAj (by rfl) (by rfl) (by rfl) r3B.out) (fun _=>hSof.out _ p3B.out.below) ?_;try simp only [zp]
       refine zq 12 (by kernel_rfl) rfl rfl (zAo (by rfl) (by rfl)) (fun _=>hSof.out _ p3B.out.below) ?_;try simp only [zp]
       refine zAf (by kernel_rfl) ?_ _;dsimp only [zA1,Exit.then];obtain ⟨g',oc',M',rfl,q1,q2,q3,q4,q5⟩:=HFin.out _ _ p3B.out;have Hq:=zAc (ai q1 (ai q2 (ai q3 (ai q4 q5))));clear q1 q2 q3 q4 q5;go_wp2_with fail;go_ret;exact ⟨g',oc',M',rfl,Hq.out.1,Hq.out.2.1,Hq.out.2.2.1,Hq.out.2.2.2.1,Hq.out.2.2.2.2⟩
     ·refine readyZ.cons rfl rfl (zBx (t:=(tx,ty)) (by rfl) (by rfl)) (fun _=>hSof.out _ b2.out) ?_ readyZ.nil;try simp only [zp]
      refine zq 0 (by kernel_rfl) rfl rfl (zD0 (by rfl)) (fun _=>hSof.out _ b21.out) ?_;try simp only [zp]
      refine zq 4 (by kernel_rfl) rfl rfl (zAj (by rfl) (by rfl) (by rfl) rC.out) (fun _=>hSof.out _ bC.out) ?_;try simp only [zp]
      refine zq 7 (by kernel_rfl) rfl rfl (zAj (by rfl) (by rfl) (by rfl) r2C.out) (fun _=>hSof.out _ b2C.out) ?_;try simp only [zp]
      refine zq 11 (by kernel_rfl) rfl rfl (zAj (by rfl) (by rfl) (by rfl) r3C.out) (fun _=>hSof.out _ p3C.out.below) ?_;try simp only [zp]
      refine zq 12 (by kernel_rfl) rfl rfl (zAo (by rfl) (by rfl)) (fun _=>hSof.out _ p3C.out.below) ?_;try simp only [zp]
      refine zAf (by kernel_rfl) ?_ _;dsimp only [zA1,Exit.then];obtain ⟨g',oc',M',rfl,q1,q2,q3,q4,q5⟩:=HFin.out _ _ p3C.out;have Hq:=zAc (ai q1 (ai q2 (ai q3 (ai q4 q5))));clear q1 q2 q3 q4 q5;go_wp2_with fail;go_ret;exact ⟨g',oc',M',rfl,Hq.out.1,Hq.out.2.1,Hq.out.2.2.1,Hq.out.2.2.2.1,Hq.out.2.2.2.2⟩
    ·have hmem:(tx,ty)∈M:=by
      have h1:=of_decide_eq_true Hbe.out;obtain ⟨rfl,rfl⟩:=h1;exact List.mem_of_getElem? Hmk.out
     have Hmem:=zAc hmem;clear hmem Hbe;go_wp2_with fail;go_ret;have hbz:=bt HbZ.out (show Below Z.heap.size Z Z.drew from ⟨rfl,rfl,rfl,Nat.le_refl _,fun _ _=>rfl⟩);exact ⟨g,oc,M,rfl,HS0.out.2.2.1.upto hbz,HS0.out.2.2.2,fun a=>⟨.inl,fun h=>h.elim id (fun e=>e▸Hmem.out)⟩,by omega,bt HS0.out.1 hbz⟩
   ·have hcl:clt (mx,my) (tx,ty):=show my<ty\/(my=ty/\mx<tx) from of_decide_eq_true Hbq.out
    have HN:Hid (∀a∈M.take (k+1),clt a (tx,ty)):=zAc fun a ha=>by
     rw [List.take_add_one,Hmk.out] at ha;rcases List.mem_append.1 ha with h|h
     ·exact HKl.out a h
     ·simp at h;subst h;exact hcl
    clear hcl;go_wp2_with fail;go_roundw
    case rel=>exact ⟨k+1,by go_num,by omega,HN.out,HbZ.out⟩
    case measure=>simp only [intOf];omega
  ·have hk':k=M.length:=by omega
   subst hk';have HbZ0:Hid (Below X.heap.size X Z0.drew):=zAc (bt hbk ⟨rfl,rfl,rfl,Nat.le_refl _,fun _ _=>rfl⟩);have HS:True:=trivial;clear hbk;go_wp2_with fail;refine zAp ?_;refine zAg (fun _=>True) [] (by kernel_rfl) ?_;refine zv 0 5 30 [O ii (M.length:Nat),.slice (some ⟨g,0,none⟩) M.length oc,O ii (M.length:Nat),.bool false,.bool false] rfl rfl (by kernel_rfl) HS ?_;repeat ((first|refine zo rfl (by rfl) rfl (by rfl) ?_|refine zc rfl (by rfl) (fun wx hx=>by go_simp) ?_);simp only [zp])
   refine zn ?_;refine zu 5 30 rfl (by kernel_rfl) (by rfl) HS ?_;try simp only [zp]
   refine zu 6 30 rfl (by kernel_rfl) (by rfl) HS ?_;try simp only [zp]
   refine zu 7 30 rfl (by kernel_rfl) (by rfl) HS ?_;try simp only [zp]
   refine zu 8 30 rfl (by kernel_rfl) (by rfl) HS ?_;try simp only [zp]
   refine zu 9 30 rfl (by kernel_rfl) (by rfl) HS ?_;try simp only [zp]
   refine zu 10 30 rfl (by kernel_rfl) (by rfl) HS ?_;try simp only [zp]
   refine zt 11 30 (.bool false) rfl (by kernel_rfl) (by rfl) (fun wx hx=>by go_simp) HS ?_;try simp only [zp]
   refine zAf (by kernel_rfl) ?_ _;dsimp only [zA1,Exit.then];generalize Z0.drew=Z2 at HbZ0 ⊢;go_wp2_with fail;refine zAp ?_;refine zAg (fun _=>True) [] (by kernel_rfl) ?_;refine zv 0 5 30 [O ii (M.length:Nat),.slice (some ⟨g,0,none⟩) M.length oc,O ii (M.length:Nat),.bool false,.bool false] rfl rfl (by kernel_rfl) HS ?_;repeat ((first|refine zo rfl (by rfl) rfl (by rfl) ?_|refine zc rfl (by rfl) (fun wx hx=>by go_simp) ?_);simp only [zp])
   refine zn ?_;refine zu 5 30 rfl (by kernel_rfl) (by rfl) HS ?_;try simp only [zp]
   refine zu 6 30 rfl (by kernel_rfl) (by rfl) HS ?_;try simp only [zp]
   refine zu 7 30 rfl (by kernel_rfl) (by rfl) HS ?_;try simp only [zp]
   refine zu 8 30 rfl (by kernel_rfl) (by rfl) HS ?_;try simp only [zp]
   refine zu 9 30 rfl (by kernel_rfl) (by rfl) HS ?_;try simp only [zp]
   refine zu 10 30 rfl (by kernel_rfl) (by rfl) HS ?_;try simp only [zp]
   refine zt 11 30 (.bool false) rfl (by kernel_rfl) (by rfl) (fun wx hx=>by go_simp) HS ?_;try simp only [zp]
   refine zAf (by kernel_rfl) ?_ _;dsimp only [zA1,Exit.then];have HbZ:Hid (Below X.heap.size X Z2.drew):=zAc (bt HbZ0.out ⟨rfl,rfl,rfl,Nat.le_refl _,fun _ _=>rfl⟩);have Hk2:Hid (∀q r,M.drop M.length=q::r->clt (tx,ty) q):=zAc fun q r e=>by rw [List.drop_length] at e;cases e
   clear HS;generalize Z2.drew=Z1 at HbZ ⊢;go_wp2_with fail
   have hSof:Hid (∀Y:World,Below Z1.drew.heap.size Z1.drew Y->(fun wx:World=>wx.cell? ⟨w.heap.size,0,none⟩=some (O ii tx)/\wx.cell? ⟨w.heap.size,1,none⟩=some (O ii ty)) Y):=zAc fun Y q=>by
    have hd:Below Z1.heap.size Z1 Z1.drew:=⟨rfl,rfl,rfl,Nat.le_refl _,fun _ _=>rfl⟩
    exact (HS0.out.2.1.kept (bt HbZ.out (bt hd q))).1
   have hRd:RC Z1.drew (.slice (some ⟨g,0,none⟩) M.length oc) M:=by
    have hd:Below Z1.heap.size Z1 Z1.drew:=⟨rfl,rfl,rfl,Nat.le_refl _,fun _ _=>rfl⟩
    exact HS0.out.2.2.1.upto (bt HbZ.out hd)
   have Hcap:=zAc (qCa hRd);have hMl2:=hMl;have E1:=PwC.empty (Below.refl Z1.drew.heap.size Z1.drew);obtain ⟨vA,WA,rA,uA,oA,gA⟩:=zFt (hRd.upto E1.below) E1.us M.length Hk.out (by simp;omega);have pA:=E1.step uA gA oA;rw [List.nil_append] at pA;have pA2:=pA.alloc (.cells #[O ii tx,O ii ty] 47);obtain ⟨v2A,W2A,v3A,W3A,r2A,r3A,b2A,p3A⟩:=zC5 (t:=(tx,ty)) hRd pA2 (LoneC.new WA (tx,ty)) Hk.out Hcap.out.1 (by omega);have E2:=E1.alloc (.cells #[O ii tx,O ii ty] 47);obtain ⟨vB,WB,rB,uB,oB,gB⟩:=zFt (hRd.upto E2.below) E2.us M.length Hk.out (by simp;omega);have pB:=E2.step uB gB oB;rw [List.nil_append] at pB;obtain ⟨v2B,W2B,v3B,W3B,r2B,r3B,b2B,p3B⟩:=zC5 (t:=(tx,ty)) hRd pB ((LoneC.new (Z1.drew.alloc (.cells #[] 47)) (tx,ty)).turned gB (by simp [Value.ownBlock])) Hk.out Hcap.out.1 (by omega);have B2:Below Z1.drew.heap.size Z1.drew (Z1.drew.alloc (.cells #[O ii tx,O ii ty] 47)):=zAk _ _;have E3:=PwC.empty B2;obtain ⟨vC,WC,rC,uC,oC,gC⟩:=zFt (hRd.upto E3.below) E3.us M.length Hk.out (by simp;omega);have pC:=E3.step uC gC oC;rw [List.nil_append] at pC;obtain ⟨v2C,W2C,v3C,W3C,r2C,r3C,b2C,p3C⟩:=zC5 (t:=(tx,ty)) hRd pC (((LoneC.new Z1.drew (tx,ty)).alloc (.cells #[] 47)).turned gC (by simp [Value.ownBlock])) Hk.out Hcap.out.1 (by omega);obtain ⟨had,hha⟩:∃ad:Addr,(if oc=M.length then (⟨g,0,none⟩:Addr) else ⟨g,M.length*2,none⟩)=ad:=⟨_,rfl⟩
   rw [hha] at r3A r3B r3C;have Hha:=zAc hha;clear hha;have b1:=zAc E1.below;have bA:=zAc pA.below;have bA2:=zAc pA2.below;have b12:=zAc E2.below;have bB:=zAc pB.below;have b2:=zAc B2;have b21:=zAc E3.below;have bC:=zAc pC.below
   replace rA:=zAc rA
   replace rB:=zAc rB
   replace rC:=zAc rC
   replace r2A:=zAc r2A
   replace r2B:=zAc r2B
   replace r2C:=zAc r2C
   replace r3A:=zAc r3A
   replace r3B:=zAc r3B
   replace r3C:=zAc r3C
   replace b2A:=zAc b2A
   replace b2B:=zAc b2B
   replace b2C:=zAc b2C
   replace p3A:=zAc p3A
   replace p3B:=zAc p3B
   replace p3C:=zAc p3C
   clear E1 E2 E3 B2 uA uB uC gA gB gC oA oB oC pA pA2 pB pC hRd
   have HFin:Hid (∀(Wf:World) (v:Value),PwC Z1.drew Wf v (M.take M.length++(tx,ty)::M.drop M.length)->∃g' oc' M',v = .slice (some ⟨g',0,none⟩) M'.length oc'/\RC Wf v M'/\UpC M'/\zGc M M' (tx,ty)/\M'.length<=M.length+1/\Below w.heap.size w Wf):=zAc fun Wf v h=>by
    have hd:Below Z1.heap.size Z1 Z1.drew:=⟨rfl,rfl,rfl,Nat.le_refl _,fun _ _=>rfl⟩
    obtain ⟨hU',hm',hl'⟩:=zVi HS0.out.2.2.2 HKl.out Hk2.out;obtain ⟨g',oc',e⟩:=zSe h.us (by simp);exact ⟨g',oc',_,e,h.us,hU',hm',hl',bt HS0.out.1 (bt HbZ.out (bt hd h.below))⟩
   refine zAp ?_;refine zAg (fun wx:World=>wx.cell? ⟨w.heap.size,0,none⟩=some (O ii tx)/\wx.cell? ⟨w.heap.size,1,none⟩=some (O ii ty)) [] (by kernel_rfl) ?_;refine zv 1 2 40 [.slice (some ⟨g,0,none⟩) M.length oc,O ii (M.length:Nat)] rfl rfl (by kernel_rfl) (hSof.out _ (Below.refl _ _)) ?_;repeat (refine zo rfl (by rfl) rfl (by rfl) ?_;simp only [zp])
   refine zn ?_;refine zt 3 40 (.slice (some ⟨g,0,none⟩) M.length oc) rfl (by kernel_rfl) (by rfl) (fun wx hx=>zH5 (by rfl) (by rfl) (by rfl) (Nat.le_trans Hk.out Hcap.out.1) Hcap.out.2) (hSof.out _ (Below.refl _ _)) ?_;try simp only [zp]
   refine zt 5 40 (cel tx ty) rfl (by kernel_rfl) (by rfl) (fun wx hx=>by go_simp) (hSof.out _ (Below.refl _ _)) ?_;try simp only [zp]
   refine zv 8 2 40 [.slice (some ⟨g,0,none⟩) M.length oc,O ii (M.length:Nat)] rfl rfl (by kernel_rfl) (hSof.out _ (Below.refl _ _)) ?_;repeat (refine zo rfl (by rfl) rfl (by rfl) ?_;simp only [zp])
   refine zn ?_;refine zt 10 40 (.slice (some had) (M.length-M.length) (oc-M.length)) rfl (by kernel_rfl) (by rfl) (fun wx hx=>(by rw [<-Hha.out];exact zG0 (by rfl) (by rfl) (by rfl) Hk.out Hcap.out.1 Hcap.out.2)) (hSof.out _ (Below.refl _ _)) ?_;try simp only [zp]
   refine zw 0 [6] (by kernel_rfl) ?_;refine readyZ.cons rfl rfl (zD0 (by rfl)) (fun _=>hSof.out _ b1.out) ?_ ?_
   ·try simp only [zp]
    refine zw 4 [6] (by kernel_rfl) ?_;refine readyZ.cons rfl rfl (zAj (by rfl) (by rfl) (by rfl) rA.out) (fun _=>hSof.out _ bA.out) ?_ ?_
    ·try simp only [zp]
     refine zq 6 (by kernel_rfl) rfl rfl (zBx (t:=(tx,ty)) (by rfl) (by rfl)) (fun _=>hSof.out _ bA2.out) ?_;try simp only [zp]
     refine zq 7 (by kernel_rfl) rfl rfl (zAj (by rfl) (by rfl) (by rfl) r2A.out) (fun _=>hSof.out _ b2A.out) ?_;try simp only [zp]
     refine zq 11 (by kernel_rfl) rfl rfl (zAj (by rfl) (by rfl) (by rfl) r3A.out) (fun _=>hSof.out _ p3A.out.below) ?_;try simp only [zp]
     refine zq 12 (by kernel_rfl) rfl rfl (zAo (by rfl) (by rfl)) (fun _=>hSof.out _ p3A.out.below) ?_;try simp only [zp]
     refine zAf (by kernel_rfl) ?_ _;dsimp only [zA1,Exit.then];obtain ⟨g',oc',M',rfl,q1,q2,q3,q4,q5⟩:=HFin.out _ _ p3A.out;have Hq:=zAc (ai q1 (ai q2 (ai q3 (ai q4 q5))));clear q1 q2 q3 q4 q5;go_wp2_with fail;go_ret;exact ⟨g',oc',M',rfl,Hq.out.1,Hq.out.2.1,Hq.out.2.2.1,Hq.out.2.2.2.1,Hq.out.2.2.2.2⟩
    ·refine readyZ.cons rfl rfl (zBx (t:=(tx,ty)) (by rfl) (by rfl)) (fun _=>hSof.out _ b12.out) ?_ readyZ.nil;try simp only [zp]
     refine zq 4 (by kernel_rfl) rfl rfl (zAj (by rfl) (by rfl) (by rfl) rB.out) (fun _=>hSof.out _ bB.out) ?_;try simp only [zp]
     refine zq 7 (by kernel_rfl) rfl rfl (zAj (by rfl) (by rfl) (by rfl) r2B.out) (fun _=>hSof.out _ b2B.out) ?_;try simp only [zp]
     refine zq 11 (by kernel_rfl) rfl rfl (zAj (by rfl) (by rfl) (by rfl) r3B.out) (fun _=>hSof.out _ p3B.out.below) ?_;try simp only [zp]
     refine zq 12 (by kernel_rfl) rfl rfl (zAo (by rfl) (by rfl)) (fun _=>hSof.out _ p3B.out.below) ?_;try simp only [zp]
     refine zAf (by kernel_rfl) ?_ _;dsimp only [zA1,Exit.then];obtain ⟨g',oc',M',rfl,q1,q2,q3,q4,q5⟩:=HFin.out _ _ p3B.out;have Hq:=zAc (ai q1 (ai q2 (ai q3 (ai q4 q5))));clear q1 q2 q3 q4 q5;go_wp2_with fail;go_ret;exact ⟨g',oc',M',rfl,Hq.out.1,Hq.out.2.1,Hq.out.2.2.1,Hq.out.2.2.2.1,Hq.out.2.2.2.2⟩
   ·refine readyZ.cons rfl rfl (zBx (t:=(tx,ty)) (by rfl) (by rfl)) (fun _=>hSof.out _ b2.out) ?_ readyZ.nil;try simp only [zp]
    refine zq 0 (by kernel_rfl) rfl rfl (zD0 (by rfl)) (fun _=>hSof.out _ b21.out) ?_;try simp only [zp]
    refine zq 4 (by kernel_rfl) rfl rfl (zAj (by rfl) (by rfl) (by rfl) rC.out) (fun _=>hSof.out _ bC.out) ?_;try simp only [zp]
    refine zq 7 (by kernel_rfl) rfl rfl (zAj (by rfl) (by rfl) (by rfl) r2C.out) (fun _=>hSof.out _ b2C.out) ?_;try simp only [zp]
    refine zq 11 (by kernel_rfl) rfl rfl (zAj (by rfl) (by rfl) (by rfl) r3C.out) (fun _=>hSof.out _ p3C.out.below) ?_;try simp only [zp]
    refine zq 12 (by kernel_rfl) rfl rfl (zAo (by rfl) (by rfl)) (fun _=>hSof.out _ p3C.out.below) ?_;try simp only [zp]
    refine zAf (by kernel_rfl) ?_ _;dsimp only [zA1,Exit.then];obtain ⟨g',oc',M',rfl,q1,q2,q3,q4,q5⟩:=HFin.out _ _ p3C.out;have Hq:=zAc (ai q1 (ai q2 (ai q3 (ai q4 q5))));clear q1 q2 q3 q4 q5;go_wp2_with fail;go_ret;exact ⟨g',oc',M',rfl,Hq.out.1,Hq.out.2.1,Hq.out.2.2.1,Hq.out.2.2.2.1,Hq.out.2.2.2.2⟩
end Go.Proofs.YthiafmlgialbnaaGreatDoor
