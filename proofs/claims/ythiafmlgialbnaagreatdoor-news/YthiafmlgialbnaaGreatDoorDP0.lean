import Derived.Test.YthiafmlgialbnaaGreatDoorDCosts
import Derived.Test.YthiafmlgialbnaaGreatDoorGbad
set_option linter.all false
set_option maxRecDepth 1000000
set_option maxHeartbeats 64000000
open Go.Proofs.Tryz
open Go.Proofs.Tryz renaming prog->pg
open Array renaming getElem?_eq_some_iff->gE
open Go.Value renaming int->O
open Go.IntKind renaming i64->ii
namespace Go.Proofs.YthiafmlgialbnaaGreatDoor
open Go.RowKit Go.Shelf
def Grd (w:World) (W H:Int) (tl:List Nat) (f:Int->Int->Option Int) (c s:Int) (iv:Value):Prop:=
 ∃wd ht:Nat,W=(wd:Int)/\H=(ht:Int)/\((1<=wd/\wd<=128)/\1<=ht/\ht<=128)/\Rw 4 1 cB w iv ((List.range (wd*ht)).map (fun k=>stB wd ht tl f c s ((k%wd:Nat):Int) ((k/wd:Nat):Int)))
theorem Grd.upto {w w':World} {W H:Int} {tl:List Nat} {f:Int->Int->Option Int} {c s:Int} {iv:Value} (h:Grd w W H tl f c s iv) (hb:Below w.heap.size w w'):Grd w' W H tl f c s iv:=by
 obtain ⟨wd,ht,h1,h2,h3,h4⟩:=h;exact ⟨wd,ht,h1,h2,h3,h4.upto hb⟩
theorem qC0 {w:World} {r:Nat} {W H:Int} {tl:List Nat} {L:List Bd} (c s:Int) (hw:Rl w r W H tl L) (hc:zEl W H tl L=0) :
 Calls pg 31 #[ptr r,shv c s] w fun e w'=>∃a n cap,e = .returned (.agg #[O ii W,O ii H,.slice a n cap])/\Grd w' W H tl (zB4 L) c s (.slice a n cap)/\Below w.heap.size w w':=by
 obtain ⟨wd,ht,rfl,rfl,hd⟩:=zRl hc;refine (qC1 c s hw hd rfl).mono ?_;rintro e w' ⟨iv,rfl,h1,h2⟩;obtain ⟨a,cap,e,-⟩:=(show Gd w' wd ht (wd*ht) _ iv from h1).form;subst e;exact ⟨a,_,cap,rfl,⟨wd,ht,rfl,rfl,hd,h1⟩,h2⟩
theorem zRg {w:World} {W H:Int} {tl:List Nat} {f:Int->Int->Option Int} {c s:Int} {a:Option Addr} {n cap:Nat} (x y d:Int) (h:Grd w W H tl f c s (.slice a n cap)) :
 Calls pg 146 #[.agg #[O ii W,O ii H,.slice a n cap],cel x y,O ii d] w fun e w'=>e = .returned (.tuple #[cel (if lg (stB W H tl f c s) x y d=true then sX x y d else 0) (if lg (stB W H tl f c s) x y d=true then sY x y d else 0),.bool (lg (stB W H tl f c s) x y d)])/\Below w.heap.size w w':=by
 obtain ⟨wd,ht,rfl,rfl,hd,hG⟩:=h;exact zWb hd rfl hG d w (Below.refl _ _) x y
theorem zRm {w:World} {W H:Int} {tl:List Nat} {f:Int->Int->Option Int} {c s ix iy iw ih fx fy:Int} {a:Option Addr} {n cap:Nat} (h:Grd w W H tl f c s (.slice a n cap)) (hA:W*H<=1000) (hr:0<=ix/\0<=iy/\ix+iw<=W/\iy+ih<=H/\0<iw/\0<ih) (hf:inB ix iy iw ih (fx,fy)) :
 Calls pg 98 #[.agg #[O ii W,O ii H,.slice a n cap],cel fx fy,rct ix iy iw ih] w (qCm W H tl f c s ix iy iw ih fx fy w):=by
 obtain ⟨wd,ht,rfl,rfl,hd,hG⟩:=h;obtain ⟨rw,rfl⟩:∃rw:Nat,iw=rw:=⟨iw.toNat,by omega⟩
 obtain ⟨rh,rfl⟩:∃rh:Nat,ih=rh:=⟨ih.toNat,by omega⟩
 have h1:rw*rh<=wd*ht:=Nat.mul_le_mul (by omega) (by omega)
 have h2:wd*ht<=1000:=by have:((wd*ht:Nat):Int)<=1000:=by push_cast;exact hA
                         omega
 exact zO3 hd hG (by omega) (by omega) (by omega) hf
section
def klt (p q:Q4):Prop:=p.y<q.y\/(p.y=q.y/\(p.x<q.x\/(p.x=q.x/\(p.b<q.b\/(p.b=q.b/\p.a<q.a)))))
theorem zOw (p:Q4):¬klt p p:=by unfold klt;omega
theorem zQw {p q r:Q4} (h:klt p q) (k:klt q r):klt p r:=by unfold klt at *;omega
theorem zOv {p q r:Q4} (h:¬klt p q) (k:¬klt q r):¬klt p r:=by unfold klt at *;omega
def zU6 (l:List Q4):Prop:=l.Pairwise (fun p q=>¬klt q p)
section
variable [hI:Inhabited Q4]
end
theorem zU4 (a:Option Addr) (n c:Nat) (w:World) (h:n<=c):(Builtin.append_ #[118,118] 118 #[.slice a n c,.slice none 0 0]).run pg w = .ok (.slice a n c) w:=by
 unfold Builtin.append_;go_simp;cases a<;>rfl
theorem Rw.add {w:World} {v bv:Value} {L M:List Q4} (h:Rq 122 w v L) (hM:Rq 122 w bv M) (hlen:L.length+M.length<=1000000000) :
 ∃v' w',(Builtin.append_ #[118,118] 118 #[v,bv]).run pg w = .ok v' w'/\Rq 122 w' v' (L++M)/\(∀k,v'.ownBlock=some k->v.ownBlock=some k\/w.heap.size<=k)/\Turns (fun k=>v.ownBlock=some k) w w':=by
 rcases hM.2 with ⟨e,h0⟩|⟨g,cap,cur,e,hb,hg,r⟩
 ·have h1:M=[]:=List.eq_nil_of_length_eq_zero h0;subst h1;obtain ⟨a,c,hv,hcap,-⟩:=Rw.form Q4.cs_len h;subst hv;rw [e];exact ⟨_,_,zU4 _ _ _ _ hcap,by rw [List.append_nil];exact h,fun k q => .inl q,Turns.of_below (Below.refl _ _)⟩
 ·rw [e];exact h.more Tryz.underlying118 zFn (fun j u hu=>hM.cells (g:=g) (by rw [e];rfl) j u hu) hlen
section
variable {w Z Z':World} {p:Nat} {c s:Int} {lv:Value} {L:List Q4} {M:Nat}
end
def zDa (S:Int->Int->Bool) (W H:Int) (q:Int×Int):List Q4:=ptQ S W H q.1 q.2 0++ptQ S W H q.1 q.2 1
theorem zHo (S:Int->Int->Bool) (W H:Int) (l:List (Int×Int)):(l.flatMap (zDa S W H)).length<=l.length*16:=by
 induction l with
 |nil=>simp
 |cons q r ih =>
  have h1:=zFk S W H q.1 q.2 0;have h2:=zFk S W H q.1 q.2 1;rw [List.flatMap_cons,List.length_append,List.length_cons,zDa,List.length_append];omega
theorem zH2:Rcl 94:=zl fun _ _=>by go_simp
def qBm (p q:Q4):Bool:=decide (p.y<q.y\/(p.y=q.y/\(p.x<q.x\/(p.x=q.x/\(p.b<q.b\/(p.b=q.b/\p.a<q.a))))))
theorem zNe (p q:Q4):qBm p q=true↔klt p q:=by simp only [qBm,klt,decide_eq_true_eq]
theorem zQb {M:List Q4} {t:Q4} {k:Nat} (hs:zU6 M) (h1:∀a∈M.take k,klt a t) (h2:∀q r,M.drop k=q::r->¬klt q t):zU6 (M.take k++t::M.drop k):=by
 have hs':zU6 (M.take k++M.drop k):=by rw [List.take_append_drop];exact hs
 unfold zU6 at *;rw [List.pairwise_append] at hs' ⊢;obtain ⟨p1,p2,p3⟩:=hs';refine ⟨p1,List.pairwise_cons.2 ⟨fun q hq=>?_,p2⟩,fun a ha b hb=>?_⟩
 ·cases hd:M.drop k with
  |nil=>rw [hd] at hq;cases hq
  |cons q0 r =>
   have h0:=h2 q0 r hd;rw [hd] at hq p2;rcases List.mem_cons.1 hq with rfl|hq
   ·exact h0
   ·exact zOv ((List.pairwise_cons.1 p2).1 q hq) h0
 ·rcases List.mem_cons.1 hb with rfl|hb
  ·exact fun q=>zOw _ (zQw (h1 a ha) q)
  ·exact p3 a ha b hb
theorem zM3 {α:Type} (M:List α) (t:α) (k:Nat):(M.take k++t::M.drop k).Perm (M++[t]):=by
 have h1:(M.take k++t::M.drop k).Perm (t::(M.take k++M.drop k)):=List.perm_middle;rw [List.take_append_drop] at h1;exact h1.trans (List.perm_append_singleton t M).symm
theorem qBl (p q:Q4) (w:World):Calls pg 95 #[p.v,q.v] w fun e w'=>e = .returned (.bool (qBm p q))/\Below w.heap.size w w':=by
 obtain ⟨px,py,pa,pb⟩:=p;obtain ⟨qx,qy,qa,qb⟩:=q;obtain ⟨X,hX⟩:=ex ((w.alloc (.cells #[O ii px,O ii py,O ii pa,O ii pb] 122)).alloc (.cells #[O ii qx,O ii qy,O ii qa,O ii qb] 122));have B0:Below w.heap.size w X:=hX▸zA5 _ _ _;have T0:Four X w.heap.size px py pa pb:=by rw [<-hX];exact (Four.newAt12 _ _ _ _ _ rfl).kept (zAk _ _)
 have T1:Four X (w.heap.size+1) qx qy qa qb:=by rw [<-hX];exact Four.newAt12 _ _ _ _ _ (by simp)
 have H1:=zAc (zGk px py qx qy X);have H2:=zAc (zGk pa pb qa qb X);have HX:=zAc hX;have HG:=zAc B0;have hne:∀wx,(binOp .neq 47 (cel px py) (cel qx qy)).run pg wx = .ok (.bool !(decide (px=qx)&&decide (py=qy))) wx:=fun wx=>neC _ _ _ _ wx;unfold qBm;simp only;obtain ⟨⟨c0,c1,c2,c3⟩,-,-⟩:=id T0;obtain ⟨⟨d0,d1,d2,d3⟩,-,-⟩:=id T1;clear hX B0 T0 T1
 by_cases h:px=qx/\py=qy
 ·rw [show decide (py<qy\/(py=qy/\(px<qx\/(px=qx/\(pb<qb\/(pb=qb/\pa<qa))))))=decide (pb<qb\/(pb=qb/\pa<qa)) from decide_eq_decide.2 (by omega)];rw [show (!(decide (px=qx)&&decide (py=qy)))=false by simp [h]] at hne;generalize decide (pb<qb\/(pb=qb/\pa<qa))=r at H2 ⊢;clear h;go_enter func95,ntmps95;go_wp2_with (rw [HX.out]);refine H2.out.mono ?_;rintro e w1 ⟨rfl,g1⟩;have HG1:=zAc (bt HG.out g1);clear g1 c0 c1 c2 c3 d0 d1 d2 d3;go_wp2_with fail;go_ret;exact ⟨rfl,HG1.out⟩
 ·rw [show decide (py<qy\/(py=qy/\(px<qx\/(px=qx/\(pb<qb\/(pb=qb/\pa<qa))))))=decide (py<qy\/(py=qy/\px<qx)) from decide_eq_decide.2 (by omega)]
  rw [show (!(decide (px=qx)&&decide (py=qy)))=true by
   rw [Bool.not_eq_true',Bool.and_eq_false_iff,decide_eq_false_iff_not,decide_eq_false_iff_not]
   by_cases h2:px=qx
   ·exact .inr (fun k=>h ⟨h2,k⟩)
   ·exact .inl h2] at hne
  generalize decide (py<qy\/(py=qy/\px<qx))=r at H1 ⊢;clear h;go_enter func95,ntmps95;go_wp2_with (rw [HX.out]);refine H1.out.mono ?_;rintro e w1 ⟨rfl,g1⟩;have HG1:=zAc (bt HG.out g1);clear g1 c0 c1 c2 c3 d0 d1 d2 d3;go_wp2_with fail;go_ret;exact ⟨rfl,HG1.out⟩
theorem zJ4 {ev:Operand->Value} {o:Oper} {w:World} {x t:Operand} {g n cap k:Nat} (ho:o.op = .slice 118 x none (some t) none) (hx:ev x = .slice (some ⟨g,0,none⟩) n cap) (ht:ev t = O ii k) (hk:k<=cap) (hcap:cap<=maxLen) :
 (execOp ev o).run pg w = .ok (.value (.slice (some ⟨g,0,none⟩) k cap)) w:=by
 have h1:(0:Int)<=(k:Nat)/\(k:Int)<=(cap:Nat)/\(cap:Int)<=9223372036854775807:=by unfold maxLen at hcap;omega
 unfold execOp;rw [ho];simp only [hx,ht];go_simp
theorem zH3 {ev:Operand->Value} {o:Oper} {w:World} {x t:Operand} {g n cap k:Nat} (ho:o.op = .slice 118 x (some t) none none) (hx:ev x = .slice (some ⟨g,0,none⟩) n cap) (ht:ev t = O ii k) (hk:k<=n) (hn:n<=cap) (hcap:cap<=maxLen) :
 (execOp ev o).run pg w = .ok (.value (.slice (some (if cap=k then ⟨g,0,none⟩ else ⟨g,k*4,none⟩)) (n-k) (cap-k))) w:=by
 have h1:(0:Int)<=(k:Nat)/\(k:Int)<=(n:Nat)/\(n:Int)<=(cap:Nat)/\(cap:Int)<=9223372036854775807:=by unfold maxLen at hcap;omega
 unfold execOp;rw [ho];simp only [hx,ht]
 by_cases hc:cap=k
 ·have hc':cap-k=0:=by omega
  rw [if_pos hc];go_simp
 ·have hc':¬cap-k=0:=by omega
  rw [if_neg hc];go_simp
theorem zEw {ev:Operand->Value} {o:Oper} {w:World} (ho:o.op = .buildSlice 118 0 #[]):(execOp ev o).run pg w = .ok (.value (.slice (some ⟨w.heap.size,0,none⟩) 0 0)) (w.alloc (.cells #[] 122)):=by
 unfold execOp;rw [ho];go_simp
theorem zCe {ev:Operand->Value} {o:Oper} {w:World} {x:Operand} {p q c d:Int} (ho:o.op = .buildSlice 118 1 #[(0,x)]) (hx:ev x=rct p q c d) :
 (execOp ev o).run pg w = .ok (.value (.slice (some ⟨w.heap.size,0,none⟩) 1 1)) (w.alloc (.cells #[O ii p,O ii q,O ii c,O ii d] 122)):=by
 unfold execOp;rw [ho];simp only [List.map_toArray,List.map_cons,List.map_nil,hx];go_simp
section
variable {w:World} {g cap:Nat} {M L:List Q4} {u:Value}
theorem Rw.app_lo (h:Rq 122 w (.slice (some ⟨g,0,none⟩) M.length cap) M) (U:Rq 122 w u L) (k:Nat) (hk:k<=M.length) (hn:L.length+M.length<=1000000) :
 ∃v' w',(Builtin.append_ #[118,118] 118 #[u,.slice (some ⟨g,0,none⟩) k cap]).run pg w = .ok v' w'/\Rq 122 w' v' (L++M.take k)/\(∀j,v'.ownBlock=some j->u.ownBlock=some j\/w.heap.size<=j)/\Turns (fun j=>u.ownBlock=some j) w w':=by
 have hl:(M.take k).length=k:=by simp;omega
 have:=U.more (c:=cap) (M:=M.take k) (a:=⟨g,0,none⟩) Tryz.underlying118 zFn (fun j x hx=>h.cells (g:=g) rfl j x (by
  rw [show M.flatMap Q4.cs=(M.take k).flatMap Q4.cs++(M.drop k).flatMap Q4.cs by rw [<-List.flatMap_append,List.take_append_drop]];rw [List.getElem?_append_left (List.getElem?_eq_some_iff.1 hx).1]
  exact hx)) (by omega)
 rwa [hl] at this
theorem Rw.app_hi (h:Rq 122 w (.slice (some ⟨g,0,none⟩) M.length cap) M) (U:Rq 122 w u L) (k:Nat) (hk:k<=M.length) (hc:M.length<=cap) (hn:L.length+M.length<=1000000) :
 ∃v' w',(Builtin.append_ #[118,118] 118 #[u,.slice (some (if cap=k then ⟨g,0,none⟩ else ⟨g,k*4,none⟩)) (M.length-k) (cap-k)]).run pg w = .ok v' w'/\Rq 122 w' v' (L++M.drop k)/\(∀j,v'.ownBlock=some j->u.ownBlock=some j\/w.heap.size<=j)/\Turns (fun j=>u.ownBlock=some j) w w':=by
 have hl:(M.drop k).length=M.length-k:=by simp
 have:=U.more (c:=cap-k) (M:=M.drop k) (a:=if cap=k then ⟨g,0,none⟩ else ⟨g,k*4,none⟩) Tryz.underlying118 zFn (fun j x hx=>by
  split
  ·rw [List.drop_eq_nil_of_le (by omega)] at hx;simp at hx
  ·have hc:=h.cells (g:=g) rfl (k*4+j) x (by
    rw [show M.flatMap Q4.cs=(M.take k).flatMap Q4.cs++(M.drop k).flatMap Q4.cs by rw [<-List.flatMap_append,List.take_append_drop]];rw [List.getElem?_append_right (by rw [zE4];simp;omega),zE4,show (M.take k).length=k by simp;omega,Nat.add_sub_cancel_left]
    exact hx)
   simpa [Addr.add_lit] using hc) (by omega)
 rwa [hl] at this
end
structure Pw (W0 W:World) (v:Value) (L:List Q4):Prop where
 below:Below W0.heap.size W0 W
 us:Rq 122 W v L
 own:∀j,v.ownBlock=some j->W0.heap.size<=j
theorem Pw.step {W0 W W':World} {v v':Value} {L L':List Q4} (h:Pw W0 W v L) (U:Rq 122 W' v' L') (T:Turns (fun j=>v.ownBlock=some j) W W') (ho:∀j,v'.ownBlock=some j->v.ownBlock=some j\/W.heap.size<=j):Pw W0 W' v' L':=
 ⟨h.below.trans (T.below (fun j e=>h.own j e) h.below.size),U,fun j e=>by
  rcases ho j e with q|q
  ·exact h.own j q
  ·have:=h.below.size;omega⟩
theorem Pw.alloc {W0 W:World} {v:Value} {L:List Q4} (h:Pw W0 W v L) (o:Obj):Pw W0 (W.alloc o) v L:=
 ⟨h.below.trans ((zAk W o).mono h.below.size),h.us.upto (zAk W o),h.own⟩
theorem Pw.empty {W0 W:World} (h:Below W0.heap.size W0 W):Pw W0 (W.alloc (.cells #[] 122)) (.slice (some ⟨W.heap.size,0,none⟩) 0 0) []:=
 ⟨h.trans ((zAk W _).mono h.size),zMg W,fun j e=>by cases e;exact h.size⟩
def Lone (W:World) (s:Nat) (t:Q4):Prop:=W.heap[s]? = some (.cells #[O ii t.x,O ii t.y,O ii t.a,O ii t.b] 122 (0,0))
theorem Lone.cells {W:World} {s:Nat} {t:Q4} (h:Lone W s t):∀j u,(([t]:List Q4).flatMap Q4.cs)[j]? = some u->W.cell? ((⟨s,0,none⟩:Addr).add j)=some u:=fun j u hu=>by
 rw [Addr.add_lit,Nat.zero_add,cell_of_row _ s j _ _ _ h];simpa [Q4.cs] using hu
theorem Lone.new (W:World) (t:Q4):Lone (W.alloc (.cells #[O ii t.x,O ii t.y,O ii t.a,O ii t.b] 122)) W.heap.size t:=heap_alloc_new W _
theorem Lone.alloc {W:World} {s:Nat} {t:Q4} (h:Lone W s t) (o:Obj):Lone (W.alloc o) s t:=((zAk W o).block s (gE.1 h).1).trans h
theorem Lone.turned {W W':World} {s:Nat} {t:Q4} (h:Lone W s t) {S:Nat->Prop} (T:Turns S W W') (hs:¬S s):Lone W' s t:=T.same hs h
theorem zD2 {W0 W:World} {g cap:Nat} {u:Value} {M:List Q4} {k s:Nat} {t:Q4} (hR:Rq 122 W0 (.slice (some ⟨g,0,none⟩) M.length cap) M) (h:Pw W0 W u (M.take k)) (hs:Lone W s t) (hk:k<=M.length) (hc:M.length<=cap) (hl:M.length<=100000) :
 ∃v2 W2 v3 W3,(Builtin.append_ #[118,118] 118 #[u,.slice (some ⟨s,0,none⟩) 1 1]).run pg W = .ok v2 W2/\(Builtin.append_ #[118,118] 118 #[v2,.slice (some (if cap=k then ⟨g,0,none⟩ else ⟨g,k*4,none⟩)) (M.length-k) (cap-k)]).run pg W2 = .ok v3 W3/\
  Below W0.heap.size W0 W2/\Pw W0 W3 v3 (M.take k++t::M.drop k):=by
 have ht:(M.take k).length<=100000:=by simp;omega
 obtain ⟨v2,W2,r2,u2,o2,g2⟩:=h.us.more (c:=1) (M:=[t]) (a:=⟨s,0,none⟩) Tryz.underlying118 zFn hs.cells (by simp;omega);have p2:=h.step u2 g2 o2;have hR2:=hR.upto p2.below;obtain ⟨v3,W3,r3,u3,o3,g3⟩:=hR2.app_hi p2.us k hk hc (by simp;omega);have p3:=p2.step u3 g3 o3;refine ⟨v2,W2,v3,W3,r2,r3,p2.below,?_⟩;rw [List.append_assoc,List.singleton_append] at p3;exact p3
end
end Go.Proofs.YthiafmlgialbnaaGreatDoor
