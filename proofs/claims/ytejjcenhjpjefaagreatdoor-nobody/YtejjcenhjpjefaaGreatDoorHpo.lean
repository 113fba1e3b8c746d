import Derived.Test.YtejjcenhjpjefaaGreatDoorHq
import Derived.Test.YtejjcenhjpjefaaGreatDoorAtW
import Derived.Maps.AppendAt
set_option linter.all false
set_option maxRecDepth 1000000
set_option maxHeartbeats 64000000
open Go.Proofs.Tryz
open Go.Proofs.Tryz renaming prog->pg
open Array renaming getElem?_eq_some_iff->gE
open And renaming intro->ai
open Go.Value renaming int->O
open Go.IntKind renaming i64->ii
namespace Go.Proofs.YtejjcenhjpjefaaGreatDoor
open Go.RowKit
theorem zJt {ev:Operand->Value} {o:Oper} {w:World} {ad:Addr} {x:Operand} {b:Nat} (ho:o.op = .load 114 x) (hx:ev x = .pointer (some ad)) (hc:w.cell? ad=some (ptr b)):(execOp ev o).run pg w = .ok (.value (ptr b)) w:=by
 unfold execOp;rw [ho];simp only [hx];go_simp
theorem zJz {ev:Operand->Value} {o:Oper} {w:World} {ad:Addr} {x:Operand} (ho:o.op = .load 147 x) (hx:ev x = .pointer (some ad)) (hc:w.cell? ad=some fn31):(execOp ev o).run pg w = .ok (.value fn31) w:=by
 unfold execOp;rw [ho];simp only [hx];go_simp
theorem zJy {ev:Operand->Value} {o:Oper} {w:World} {x:Operand} {b:Nat} (ho:o.op = .fieldAddr 185 x 0) (hx:ev x = .pointer (some ⟨b,0,none⟩)):(execOp ev o).run pg w = .ok (.value (.pointer (some ⟨b,0,none⟩))) w:=by
 unfold execOp;rw [ho];simp only [hx];go_simp
theorem zEd {ev:Operand->Value} {o:Oper} {w:World} {x:Operand} {g k:Nat} {p q c d:Int} (ho:o.op = .load 146 x) (hx:ev x = .pointer (some ⟨g,k,none⟩)) (h0:w.cell? ⟨g,k,none⟩=some (O ii p)) (h1:w.cell? ⟨g,k+1,none⟩=some (O ii q)) (h2:w.cell? ⟨g,k+2,none⟩=some (O ii c)) (h3:w.cell? ⟨g,k+3,none⟩=some (O ii d)) :
 (execOp ev o).run pg w = .ok (.value (rv p q c d)) w:=by
 unfold execOp;rw [ho];simp only [hx];go_simp
theorem zJ0 {ev:Operand->Value} {o:Oper} {w:World} {c:Operand} {ar:Array Operand} {ts:Array TypeId} {vs:Array Value} (hop:o.op = .call { callee:=.value c,args:=ar,argTypes:=ts }) (hf:ev c=fn31) (hvs:ar.map ev=vs):(execOp ev o).run pg w = .ok (.enter 84 vs) w:=by
 unfold execOp;simp only [hop,resolve,hf,hvs];go_simp
theorem zEo (b:Nat) (v:Value) (n:Int) (x y c f x2 y2 c2 f2:Int) (w:World) (h:Hp w b v n false) :
 Calls pg 184 #[ptr b,rv x y c f,rv x2 y2 c2 f2] w fun e w'=>e = .returned (.bool (decide (f<f2)))/\Below w.heap.size w w':=by
 have hmf:∀(fn:Fn) (first cap:Array Value) (w:World),(Instr.makeFunc fn first cap).run pg w = .ok (.func fn first cap) w:=fun _ _ _ _=>rfl;have hl:=h.lt;obtain ⟨X,hX⟩:=ex (((w.alloc (.cells #[ptr b] 114)).alloc (.cells #[O ii x,O ii y,O ii c,O ii f] 146)).alloc (.cells #[O ii x2,O ii y2,O ii c2,O ii f2] 146));have B0:Below w.heap.size w X:=by rw [<-hX];exact bt (zBe _ _ _) (zAh _ _)
 have e0:X.cell? ⟨w.heap.size,0,none⟩=some (ptr b):=by rw [<-hX];simp [go_sem]
 have F1:Four X (w.heap.size+1) x y c f:=by rw [<-hX];simp [Four,go_sem]
 have F2:Four X (w.heap.size+1+1) x2 y2 c2 f2:=by rw [<-hX];simp [Four,go_sem]
 have hz0:X.heap.size=w.heap.size+3:=by rw [<-hX];simp
 have hX0:Hp X b v n false:=h.kept (S:=NoB) (Turns.of_below B0) id;have c3:X.cell? ⟨b,3,none⟩=some (.bool false):=hX0.c 3;have f3:=hX0.f 3;have TY:Turns (fun k=>k=b) X (X.setCell ⟨b,3,none⟩ (.bool true)):=Turns.set (S:=fun k=>k=b) X (p:=⟨b,3,none⟩) rfl _;have hY:=hX0.set3 true;have hzY:(X.setCell ⟨b,3,none⟩ (.bool true)).heap.size=X.heap.size:=by simp [World.setCell]
 obtain ⟨Y,hYe⟩:=ex (X.setCell ⟨b,3,none⟩ (.bool true));rw [hYe] at hY TY hzY;have g1:Y.cell? ⟨w.heap.size,0,none⟩=some (ptr b):=TY.cell (by omega) e0;have G1:=F1.turned TY (by omega);have G2:=F2.turned TY (by omega)
 have HF:Hid (∀Z,Below Y.heap.size Y Z->Below w.heap.size w (Z.setCell ⟨b,3,none⟩ (.bool false))):=zAb (fun Z hZ=>by
  have hHZ:Hp Z b v n true:=hY.kept (S:=NoB) (Turns.of_below hZ) id;have hz1:=hZ.size;have hz2:=B0.size;refine ⟨(hZ.os.trans TY.os).trans B0.os,(hZ.tape.trans TY.tape).trans B0.tape,(hZ.output.trans TY.output).trans B0.output,by simp [World.setCell];omega,fun i hi=>?_⟩
  by_cases hib:i=b
  ·subst hib;exact (hHZ.set3 false).trans (show w.heap[i]? = _ from h).symm
  ·have q1:(Z.setCell ⟨b,3,none⟩ (.bool false)).heap[i]? = Z.heap[i]? := Below.heap_setCell _ _ _ _ (fun e=>hib e)
   rw [q1,hZ.block i (by omega),TY.block i (by omega) hib,B0.block i hi])
 have HB2:Hid (∀o1 o2,Below Y.heap.size Y ((Y.drew.alloc o1).alloc o2)):=zAb (fun o1 o2=>bt ((Below.refl _ _).drew) (zBe Y.drew o1 o2));have HH2:Hid (∀o1 o2,Hp ((Y.drew.alloc o1).alloc o2) b v n true):=zAb (fun o1 o2=>hY.kept (S:=NoB) (Turns.of_below (HB2.out o1 o2)) id);have HS:Hid ((fun wx:World=>wx.cell? ⟨b,0,none⟩=some fn31/\wx.cell? ⟨w.heap.size,0,none⟩=some (ptr b)/\Four wx (w.heap.size+1) x y c f/\Four wx (w.heap.size+1+1) x2 y2 c2 f2) Y.drew):=zAb ⟨hY.c 0,g1,G1,G2⟩;have HK2:Hid (∀o1 o2,(fun wx:World=>wx.cell? ⟨b,0,none⟩=some fn31/\wx.cell? ⟨w.heap.size,0,none⟩=some (ptr b)/\Four wx (w.heap.size+1) x y c f/\Four wx (w.heap.size+1+1) x2 y2 c2 f2) ((Y.drew.alloc o1).alloc o2)):=zAb (fun o1 o2=>⟨(HH2.out o1 o2).c 0,((HB2.out o1 o2).cell (p:=⟨w.heap.size,0,none⟩) (World.block_lt_of_cell? Y _ g1)).trans g1,G1.kept (HB2.out o1 o2),G2.kept (HB2.out o1 o2)⟩);have HX:=zAb hX;have HY:=zAb hYe;clear hX hYe TY hY hzY B0 F1 F2 g1 G1 G2 hX0 hz0;go_enter_defers func184,ntmps184
 go_wp2_with (first|rw [HX.out]|rw [HY.out]);refine zAj ?_;refine zAe (fun wx:World=>wx.cell? ⟨b,0,none⟩=some fn31/\wx.cell? ⟨w.heap.size,0,none⟩=some (ptr b)/\Four wx (w.heap.size+1) x y c f/\Four wx (w.heap.size+1+1) x2 y2 c2 f2) [7] (by kernel_rfl) ?_;refine zt 0 8 (ptr b) rfl (by kernel_rfl) (by rfl) (fun wx hx=>zJt (by rfl) (by rfl) hx.2.1) HS.out ?_;try simp only [zp]
 refine zt 1 8 (ptr b) rfl (by kernel_rfl) (by rfl) (fun wx hx=>zA7 (by rfl) (by rfl)) HS.out ?_;try simp only [zp]
 refine zt 2 8 (.pointer (some ⟨b,0,none⟩)) rfl (by kernel_rfl) (by rfl) (fun wx hx=>zJy (by rfl) (by rfl)) HS.out ?_;try simp only [zp]
 refine zt 3 8 fn31 rfl (by kernel_rfl) (by rfl) (fun wx hx=>zJz (by rfl) (by rfl) hx.1) HS.out ?_;try simp only [zp]
 refine zt 4 8 (rv x y c f) rfl (by kernel_rfl) (by rfl) (fun wx hx=>zEd (by rfl) (by rfl) hx.2.2.1.1.1 hx.2.2.1.1.2.1 hx.2.2.1.1.2.2.1 hx.2.2.1.1.2.2.2) HS.out ?_;try simp only [zp]
 refine zt 5 8 (rv x2 y2 c2 f2) rfl (by kernel_rfl) (by rfl) (fun wx hx=>zEd (by rfl) (by rfl) hx.2.2.2.1.1 hx.2.2.2.1.2.1 hx.2.2.2.1.2.2.1 hx.2.2.2.1.2.2.2) HS.out ?_;try simp only [zp]
 refine zw 6 [] (by kernel_rfl) ?_;refine readyZ.call rfl rfl (zJ0 (by rfl) (by rfl) (by simp only [zj];rfl)) (zGu x y c f x2 y2 c2 f2 _) ?_ readyZ.nil;rintro e v1 ⟨rfl,rfl⟩;refine ⟨_,rfl,fun _=>HK2.out _ _,?_⟩;try simp only [zp]
 refine zq 7 (by kernel_rfl) rfl rfl (zBd (v:=.bool (decide (f<f2))) (by rfl) (by rfl)) (fun h=>absurd (by decide) h) ?_;try simp only [zp]
 refine zAd (by kernel_rfl) ?_ _;simp only [zAv,Exit.then];go_wp2_with fail;refine leaves_cons (f:=188) (args:=#[.pointer (some ⟨w.heap.size,0,none⟩)]) (by simp) (by simp [go_sem]) ?_;refine (zEr b w.heap.size v n true _ (HH2.out _ _) (HK2.out _ _).2.1).mono ?_;rintro e u2 w2 ⟨rfl,rfl,rfl⟩;exact ⟨_,results_tmp rfl _ _ _,rfl,HF.out _ (HB2.out _ _)⟩
theorem It.cs_len (l:List It):(l.flatMap It.cs).length=l.length*5:=by
 induction l with
 |nil=>rfl
 |cons t r ih=>rw [List.flatMap_cons,List.length_append,ih];simp [It.cs];omega
theorem It.cs_get:∀(l:List It) (i:Nat) (t:It) (j:Nat),l[i]? = some t->j<5->(l.flatMap It.cs)[i*5+j]? = t.cs[j]?
 | [],i,t,j,h,_=>by simp at h
 |s::r,0,t,j,h,hj=>by
  simp at h;subst h;rw [List.flatMap_cons,Nat.zero_mul,Nat.zero_add,List.getElem?_append_left (by simp [It.cs];omega)]
 |s::r,i+1,t,j,h,hj=>by
  simp at h;rw [List.flatMap_cons,List.getElem?_append_right (by simp [It.cs];omega)];rw [<-It.cs_get r i t j h hj]
  congr 1
  simp [It.cs];omega
theorem It.cs_set (t:It):∀(L:List It) (j:Nat),j<L.length->(L.set j t).flatMap It.cs=(((((L.flatMap It.cs).set (j*5) (O ii t.x)).set (j*5+1) (O ii t.y)).set (j*5+2) (O ii t.c)).set (j*5+3) (O ii t.f)).set (j*5+4) (O ii t.p)
 | [],j,h=>by simp at h
 |s::r,0,_=>by simp [It.cs]
 |s::r,j+1,h=>by
  have hj:j<r.length:=by simpa using h
  rw [List.set_cons_succ,List.flatMap_cons,It.cs_set t r j hj,List.flatMap_cons];have hs:s.cs.length=5:=rfl
  have key:∀(R:List Value) (o:Nat) (u:Value),(s.cs++R).set ((j+1)*5+o) u=s.cs++R.set (j*5+o) u:=fun R o u=>by
   rw [List.set_append,if_neg (by omega),hs,show (j+1)*5+o-5=j*5+o by omega]
  have k0:=key (r.flatMap It.cs) 0 (O ii t.x);simp only [Nat.add_zero] at k0;rw [k0,key,key,key,key]
def Its (w:World) (v:Value) (l:List It):Prop:=w.ownsRow 0 215 5 v l.length (l.flatMap It.cs)
theorem Its.kept {w w':World} {v:Value} {l:List It} {S:Nat->Prop} (h:Its w v l) (ht:Turns S w w') (hs:∀k,v.ownBlock=some k->¬S k):Its w' v l:=zA3 h ht hs
theorem Its.upto {w w':World} {v:Value} {l:List It} (h:Its w v l) (hb:Below w.heap.size w w'):Its w' v l:=h.kept (S:=NoB) (Turns.of_below hb) (fun _ _=>id)
theorem Hp.upto {w w':World} {b:Nat} {v:Value} {n:Int} {q:Bool} (h:Hp w b v n q) (hb:Below w.heap.size w w'):Hp w' b v n q:=h.kept (S:=NoB) (Turns.of_below hb) id
theorem Its.form {w:World} {v:Value} {l:List It} (h:Its w v l) (hl:0<l.length):∃g cap,v = .slice (some ⟨g,0,none⟩) l.length cap/\l.length<=cap/\cap<=maxLen/\g<w.heap.size:=by
 rcases h.2 with ⟨e,h0⟩|⟨g,cap,cur,e,hb,hg,hn,hm,hs,ht⟩
 ·omega
 ·exact ⟨g,cap,e,hn,hm,(gE.1 hg).1⟩
theorem Its.slice {w:World} {v:Value} {l:List It} (h:Its w v l):∃a cap,v = .slice a l.length cap/\l.length<=maxLen:=by
 rcases h.2 with ⟨e,h0⟩|⟨g,cap,cur,e,hb,hg,hn,hm,hs,ht⟩
 ·exact ⟨none,0,by rw [h0];exact e,by rw [h0];decide⟩
 ·exact ⟨_,cap,e,by omega⟩
def C5 (w:World) (x o:Nat) (t:It):Prop:=(w.cell? ⟨x,o,none⟩=some (O ii t.x)/\w.cell? ⟨x,o+1,none⟩=some (O ii t.y)/\w.cell? ⟨x,o+2,none⟩=some (O ii t.c)/\w.cell? ⟨x,o+3,none⟩=some (O ii t.f)/\w.cell? ⟨x,o+4,none⟩=some (O ii t.p))
theorem C5.upto {w w':World} {x o:Nat} {t:It} (h:C5 w x o t) (hb:Below w.heap.size w w'):C5 w' x o t:=
 ⟨(hb.cell (World.block_lt_of_cell? w _ h.1)).trans h.1,(hb.cell (World.block_lt_of_cell? w _ h.2.1)).trans h.2.1,(hb.cell (World.block_lt_of_cell? w _ h.2.2.1)).trans h.2.2.1,(hb.cell (World.block_lt_of_cell? w _ h.2.2.2.1)).trans h.2.2.2.1,(hb.cell (World.block_lt_of_cell? w _ h.2.2.2.2)).trans h.2.2.2.2⟩
theorem Its.at {w:World} {g cap:Nat} {l:List It} (h:Its w (.slice (some ⟨g,0,none⟩) l.length cap) l) {j:Nat} {s:It} (hs:l[j]? = some s):C5 w g (j*5) s/\∀o,w.frozen? ⟨g,o,none⟩=false:=by
 have hc:∀o u,s.cs[o]? = some u->o<5->w.cell? ⟨g,j*5+o,none⟩=some u:=fun o u hu ho=>by
  have:=World.ownsRow.cells h (g:=g) rfl (j*5+o) u (by rw [It.cs_get l j s o hs ho];exact hu);simpa [Addr.add_lit] using this
 refine ⟨⟨hc 0 _ rfl (by omega),hc 1 _ rfl (by omega),hc 2 _ rfl (by omega),hc 3 _ rfl (by omega),hc 4 _ rfl (by omega)⟩,fun o=>?_⟩;rcases h.2 with ⟨e,_⟩|⟨g',cap',cur,e,hb,hg,r⟩
 ·cases e
 ·simp only [Value.slice.injEq,Option.some.injEq,Addr.mk.injEq,and_true,true_and] at e;obtain ⟨rfl,-⟩:=e;simp [World.frozen?,hg]
def zBc (w:World) (g o:Nat) (t:It):World:=((((w.setCell ⟨g,o,none⟩ (O ii t.x)).setCell ⟨g,o+1,none⟩ (O ii t.y)).setCell ⟨g,o+2,none⟩ (O ii t.c)).setCell ⟨g,o+3,none⟩ (O ii t.f)).setCell ⟨g,o+4,none⟩ (O ii t.p)
theorem Its.set {w:World} {g cap:Nat} {l:List It} (h:Its w (.slice (some ⟨g,0,none⟩) l.length cap) l) {j:Nat} (hj:j<l.length) (t:It):Its (zBc w g (j*5) t) (.slice (some ⟨g,0,none⟩) l.length cap) (l.set j t):=by
 unfold Its zBc;rw [It.cs_set t l j hj,List.length_set];exact (World.ownsRow.stored (World.ownsRow.stored (World.ownsRow.stored (World.ownsRow.stored (World.ownsRow.stored h (j*5) _).1 (j*5+1) _).1 (j*5+2) _).1 (j*5+3) _).1 (j*5+4) _).1
theorem zAt (w:World) (g o:Nat) (t:It):Turns (fun k=>k=g) w (zBc w g o t):=
 ((((Turns.set (S:=fun j=>j=g) w (p:=⟨g,o,none⟩) rfl _).trans ((Turns.set (S:=fun j=>j=g) _ (p:=⟨g,o+1,none⟩) rfl _).mono (fun _ _ h => .inl h))).trans ((Turns.set (S:=fun j=>j=g) _ (p:=⟨g,o+2,none⟩) rfl _).mono (fun _ _ h => .inl h))).trans ((Turns.set (S:=fun j=>j=g) _ (p:=⟨g,o+3,none⟩) rfl _).mono (fun _ _ h => .inl h))).trans ((Turns.set (S:=fun j=>j=g) _ (p:=⟨g,o+4,none⟩) rfl _).mono (fun _ _ h => .inl h))
def lt (a b:It):Bool:=if a.p<b.p then !decide (b.f<a.f) else decide (a.f<b.f)
theorem zGj (a b:It):lt a b=true↔(a.f<b.f\/a.f=b.f/\a.p<b.p):=by
 unfold lt
 split<;>simp<;>omega
theorem zAz {ev:Operand->Value} {o:Oper} {w:World} {x:Operand} {b:Nat} (ho:o.op = .fieldAddr 185 x 1) (hx:ev x = .pointer (some ⟨b,0,none⟩)):(execOp ev o).run pg w = .ok (.value (.pointer (some ⟨b,1,none⟩))) w:=by
 unfold execOp;rw [ho];simp only [hx];go_simp
theorem zA2 {ev:Operand->Value} {o:Oper} {w:World} {ad:Addr} {x:Operand} {a:Option Addr} {n c:Nat} (ho:o.op = .load 183 x) (hx:ev x = .pointer (some ad)) (hc:w.cell? ad=some (.slice a n c)):(execOp ev o).run pg w = .ok (.value (.slice a n c)) w:=by
 unfold execOp;rw [ho];simp only [hx];go_simp
theorem zBt {ev:Operand->Value} {o:Oper} {w:World} {x t:Operand} {g n cap k:Nat} (ho:o.op = .indexAddr 183 x t) (hx:ev x = .slice (some ⟨g,0,none⟩) n cap) (ht:ev t = O ii k) (hk:k<n):(execOp ev o).run pg w = .ok (.value (.pointer (some ⟨g,k*5,none⟩))) w:=by
 have h1:(0:Int)<=(k:Nat)/\(k:Int)<(n:Nat):=by omega
 unfold execOp;rw [ho];simp only [hx,ht];go_simp
theorem zBx {ev:Operand->Value} {o:Oper} {w:World} {x:Operand} {g k:Nat} {t:It} (ho:o.op = .load 215 x) (hx:ev x = .pointer (some ⟨g,k,none⟩)) (hc:C5 w g k t):(execOp ev o).run pg w = .ok (.value t.v) w:=by
 obtain ⟨h0,h1,h2,h3,h4⟩:=hc;unfold execOp;rw [ho];simp only [hx];go_simp
theorem zC4 {ev:Operand->Value} {o:Oper} {w:World} (ho:o.op = .alloc 215):(execOp ev o).run pg w = .ok (.value (.pointer (some ⟨w.heap.size,0,none⟩))) (w.alloc (.cells #[O ii 0,O ii 0,O ii 0,O ii 0,O ii 0] 215)):=by
 unfold execOp;rw [ho];go_simp
theorem zBs {ev:Operand->Value} {o:Oper} {w:World} {x y:Operand} {g k:Nat} {t s:It} (ho:o.op = .store 215 x y) (hx:ev x = .pointer (some ⟨g,k,none⟩)) (hy:ev y=t.v) (hc:C5 w g k s) (hf:∀o,w.frozen? ⟨g,o,none⟩=false):(execOp ev o).run pg w = .ok .skip (zBc w g k t):=by
 obtain ⟨h0,h1,h2,h3,h4⟩:=hc;have f0:=hf k;have f1:=hf (k+1);have f2:=hf (k+2);have f3:=hf (k+3);have f4:=hf (k+4);unfold zBc;unfold execOp;rw [ho];simp only [hx,hy];go_simp
theorem zJo (b:Nat) (v:Value) (n:Int) (q:Bool) (l:List It) (i j:Nat) (s t:It) (w:World) (h:Hp w b v n q) (hv:Its w v l) (hi:l[i]? = some s) (hj:l[j]? = some t) :
 Calls pg 167 #[ptr b,O ii (i:Nat),O ii (j:Nat)] w fun e w'=>e = .returned (.tuple #[])/\Its w' v ((l.set i t).set j s)/\Turns (fun k=>v.ownBlock=some k) w w':=by
 have hil:i<l.length:=(List.getElem?_eq_some_iff.1 hi).1;have hjl:j<l.length:=(List.getElem?_eq_some_iff.1 hj).1;obtain ⟨g,cap,rfl,hc1,hc2,hgl⟩:=hv.form (by omega);obtain ⟨ci,fz⟩:=hv.at hi;obtain ⟨cj,-⟩:=hv.at hj;have hvd:Its w.drew (.slice (some ⟨g,0,none⟩) l.length cap) l:=hv;have v1:=hvd.set hil t
 have c2:∃u:It,C5 (zBc w.drew g (i*5) t) g (j*5) u:=by
  have hj2:(l.set i t)[j]? = some ((l.set i t)[j]'(by simpa using hjl)):=List.getElem?_eq_getElem _;have v1':Its (zBc w.drew g (i*5) t) (.slice (some ⟨g,0,none⟩) (l.set i t).length cap) (l.set i t):=by rw [List.length_set];exact v1
  exact ⟨_,(v1'.at hj2).1⟩
 obtain ⟨u,c2⟩:=c2
 have fz2:∀o,(zBc w.drew g (i*5) t).frozen? ⟨g,o,none⟩=false:=by
  have hj2:(l.set i t)[j]? = some ((l.set i t)[j]'(by simpa using hjl)):=List.getElem?_eq_getElem _;have v1':Its (zBc w.drew g (i*5) t) (.slice (some ⟨g,0,none⟩) (l.set i t).length cap) (l.set i t):=by rw [List.length_set];exact v1
  exact (v1'.at hj2).2
 have v2:Its (zBc (zBc w.drew g (i*5) t) g (j*5) s) (.slice (some ⟨g,0,none⟩) l.length cap) ((l.set i t).set j s):=by
  have v1':Its (zBc w.drew g (i*5) t) (.slice (some ⟨g,0,none⟩) (l.set i t).length cap) (l.set i t):=by rw [List.length_set];exact v1
  have:=v1'.set (j:=j) (by simpa using hjl) s
  rwa [List.length_set] at this
 have T2:Turns (fun k=>Value.ownBlock (.slice (some ⟨g,0,none⟩) l.length cap)=some k) w (zBc (zBc w.drew g (i*5) t) g (j*5) s):=by
  have a1:Turns (fun k=>Value.ownBlock (.slice (some ⟨g,0,none⟩) l.length cap)=some k) w (zBc w.drew g (i*5) t):=((Turns.refl _ w).drew).trans ((zAt w.drew g (i*5) t).mono (fun k _ e => .inl (by subst e;rfl)));exact a1.trans ((zAt _ g (j*5) s).mono (fun k _ e => .inl (by subst e;rfl)))
 have HE:=zAb (ai v2 T2);have HS:(fun wx:World=>wx.cell? ⟨b,1,none⟩=some (.slice (some ⟨g,0,none⟩) l.length cap)/\C5 wx g (i*5) s/\C5 wx g (j*5) t) w.drew:=⟨h.c 1,ci,cj⟩
 clear v1 v2 T2 hvd;go_enter func167,ntmps167;go_wp2_with fail;refine zAe (fun wx:World=>wx.cell? ⟨b,1,none⟩=some (.slice (some ⟨g,0,none⟩) l.length cap)/\C5 wx g (i*5) s/\C5 wx g (j*5) t) [9,25,26,27] (by kernel_rfl) ?_;refine zJh 9 (v:=O ii (j:Nat)) rfl (by decide) (by kernel_rfl) (fun _ _ _ h=>h) (Or.inl ⟨by rfl,fun wx hx=>zAs (by rfl) (by rfl)⟩) ?_;try simp only [zp]
 refine zAa 0 8 (v:=ptr b) rfl (by kernel_rfl) (fun _ _ _ h=>h) (Or.inl ⟨by rfl,fun wx hx=>zAs (by rfl) (by rfl)⟩) HS ?_;try simp only [zp]
 refine zAa 1 8 (v:=ptr b) rfl (by kernel_rfl) (fun _ _ _ h=>h) (Or.inl ⟨by rfl,fun wx hx=>zA7 (by rfl) (by rfl)⟩) HS ?_;try simp only [zp]
 refine zAa 2 8 (v:=.pointer (some ⟨b,1,none⟩)) rfl (by kernel_rfl) (fun _ _ _ h=>h) (Or.inl ⟨by rfl,fun wx hx=>zAz (by rfl) (by rfl)⟩) HS ?_;try simp only [zp]
 refine zAa 3 8 (v:=.slice (some ⟨g,0,none⟩) l.length cap) rfl (by kernel_rfl) (fun _ _ _ h=>h) (Or.inl ⟨by rfl,fun wx hx=>zA2 (by rfl) (by rfl) hx.1⟩) HS ?_;try simp only [zp]
 refine zAa 4 8 (v:=O ii (i:Nat)) rfl (by kernel_rfl) (fun _ _ _ h=>h) (Or.inl ⟨by rfl,fun wx hx=>zAs (by rfl) (by rfl)⟩) HS ?_;try simp only [zp]
 refine zAa 5 8 (v:=ptr b) rfl (by kernel_rfl) (fun _ _ _ h=>h) (Or.inl ⟨by rfl,fun wx hx=>zAs (by rfl) (by rfl)⟩) HS ?_;try simp only [zp]
 refine zAa 6 8 (v:=ptr b) rfl (by kernel_rfl) (fun _ _ _ h=>h) (Or.inl ⟨by rfl,fun wx hx=>zA7 (by rfl) (by rfl)⟩) HS ?_;try simp only [zp]
 refine zAa 7 8 (v:=.pointer (some ⟨b,1,none⟩)) rfl (by kernel_rfl) (fun _ _ _ h=>h) (Or.inl ⟨by rfl,fun wx hx=>zAz (by rfl) (by rfl)⟩) HS ?_;try simp only [zp]
 refine zAa 8 8 (v:=.slice (some ⟨g,0,none⟩) l.length cap) rfl (by kernel_rfl) (fun _ _ _ h=>h) (Or.inl ⟨by rfl,fun wx hx=>zA2 (by rfl) (by rfl) hx.1⟩) HS ?_;try simp only [zp]
 refine zAa 10 8 (v:=ptr b) rfl (by kernel_rfl) (fun _ _ _ h=>h) (Or.inl ⟨by rfl,fun wx hx=>zAs (by rfl) (by rfl)⟩) HS ?_;try simp only [zp]
 refine zAa 11 8 (v:=ptr b) rfl (by kernel_rfl) (fun _ _ _ h=>h) (Or.inl ⟨by rfl,fun wx hx=>zA7 (by rfl) (by rfl)⟩) HS ?_;try simp only [zp]
 refine zAa 12 8 (v:=.pointer (some ⟨b,1,none⟩)) rfl (by kernel_rfl) (fun _ _ _ h=>h) (Or.inl ⟨by rfl,fun wx hx=>zAz (by rfl) (by rfl)⟩) HS ?_;try simp only [zp]
 refine zAa 13 8 (v:=.slice (some ⟨g,0,none⟩) l.length cap) rfl (by kernel_rfl) (fun _ _ _ h=>h) (Or.inl ⟨by rfl,fun wx hx=>zA2 (by rfl) (by rfl) hx.1⟩) HS ?_;try simp only [zp]
 refine zAa 14 8 (v:=O ii (j:Nat)) rfl (by kernel_rfl) (fun _ _ _ h=>h) (Or.inl ⟨by rfl,fun wx hx=>zAs (by rfl) (by rfl)⟩) HS ?_;try simp only [zp]
 refine zAa 15 8 (v:=.pointer (some ⟨g,j*5,none⟩)) rfl (by kernel_rfl) (fun _ _ _ h=>h) (Or.inl ⟨by rfl,fun wx hx=>zBt (by rfl) (by rfl) (by rfl) hjl⟩) HS ?_;try simp only [zp]
 refine zAa 16 8 (v:=t.v) rfl (by kernel_rfl) (fun _ _ _ h=>h) (Or.inl ⟨by rfl,fun wx hx=>zBx (by rfl) (by rfl) hx.2.2⟩) HS ?_;try simp only [zp]
 refine zAa 17 8 (v:=ptr b) rfl (by kernel_rfl) (fun _ _ _ h=>h) (Or.inl ⟨by rfl,fun wx hx=>zAs (by rfl) (by rfl)⟩) HS ?_;try simp only [zp]
 refine zAa 18 8 (v:=ptr b) rfl (by kernel_rfl) (fun _ _ _ h=>h) (Or.inl ⟨by rfl,fun wx hx=>zA7 (by rfl) (by rfl)⟩) HS ?_;try simp only [zp]
 refine zAa 19 8 (v:=.pointer (some ⟨b,1,none⟩)) rfl (by kernel_rfl) (fun _ _ _ h=>h) (Or.inl ⟨by rfl,fun wx hx=>zAz (by rfl) (by rfl)⟩) HS ?_;try simp only [zp]
 refine zAa 20 8 (v:=.slice (some ⟨g,0,none⟩) l.length cap) rfl (by kernel_rfl) (fun _ _ _ h=>h) (Or.inl ⟨by rfl,fun wx hx=>zA2 (by rfl) (by rfl) hx.1⟩) HS ?_;try simp only [zp]
 refine zAa 21 8 (v:=O ii (i:Nat)) rfl (by kernel_rfl) (fun _ _ _ h=>h) (Or.inl ⟨by rfl,fun wx hx=>zAs (by rfl) (by rfl)⟩) HS ?_;try simp only [zp]
 refine zAa 22 8 (v:=.pointer (some ⟨g,i*5,none⟩)) rfl (by kernel_rfl) (fun _ _ _ h=>h) (Or.inl ⟨by rfl,fun wx hx=>zBt (by rfl) (by rfl) (by rfl) hil⟩) HS ?_;try simp only [zp]
 refine zAa 23 8 (v:=s.v) rfl (by kernel_rfl) (fun _ _ _ h=>h) (Or.inl ⟨by rfl,fun wx hx=>zBx (by rfl) (by rfl) hx.2.1⟩) HS ?_;try simp only [zp]
 refine zAa 24 8 (v:=.pointer (some ⟨g,i*5,none⟩)) rfl (by kernel_rfl) (fun _ _ _ h=>h) (Or.inl ⟨by rfl,fun wx hx=>zBt (by rfl) (by rfl) (by rfl) hil⟩) HS ?_;try simp only [zp]
 refine zw 25 [] (by kernel_rfl) ?_;refine readyZ.skip rfl rfl (zBs (by rfl) (by rfl) (by rfl) ci fz) (fun h=>absurd (by decide) h) ?_ readyZ.nil;try simp only [zp]
 refine zq 26 (by kernel_rfl) rfl rfl (zBt (k:=j) (by rfl) (by rfl) (by rfl) hjl) (fun h=>absurd (by decide) h) ?_;try simp only [zp]
 refine zw 27 [] (by kernel_rfl) ?_;refine readyZ.skip rfl rfl (zBs (by rfl) (by rfl) (by rfl) c2 fz2) (fun h=>absurd (by decide) h) ?_ readyZ.nil;try simp only [zp]
 refine zAd (by kernel_rfl) ?_ _;go_wp2_with fail;go_end0
 exact ⟨rfl,HE.out⟩
def Bx (w:World) (x:Nat) (t:It):Prop:=w.heap[x]? = some (.cells #[O ii t.x,O ii t.y,O ii t.c,O ii t.f,O ii t.p] 215 (0,0))
theorem Bx.upto {w w':World} {x:Nat} {t:It} (h:Bx w x t) (hb:Below w.heap.size w w'):Bx w' x t:=(hb.block x (gE.1 h).1).trans h
theorem Bx.c5 {w:World} {x:Nat} {t:It} (h:Bx w x t):C5 w x 0 t:=⟨cell_of_row w x 0 _ _ _ h,cell_of_row w x 1 _ _ _ h,cell_of_row w x 2 _ _ _ h,cell_of_row w x 3 _ _ _ h,cell_of_row w x 4 _ _ _ h⟩
theorem Bx.thaw {w:World} {x:Nat} {t:It} (h:Bx w x t) (o:Nat):w.frozen? ⟨x,o,none⟩=false:=by
 have h':w.heap[x]? = _:=h;simp [World.frozen?,h']
theorem Bx.put {w:World} {x:Nat} {s t:It} (h:Bx w x s):Bx (zBc w x 0 t) x t:=by
 have h':w.heap[x]? = _:=h;have hlt:=(gE.1 h').1;unfold Bx zBc;simp [World.setCell,Array.getElem?_modify,h']
theorem Bx.turned {S:Nat->Prop} {w w':World} {x:Nat} {t:It} (h:Bx w x t) (ht:Turns S w w') (hs:¬S x):Bx w' x t:=ht.same hs h
def zit:It:=⟨0,0,0,0,0⟩
theorem mkU (T:Array Value) (D:List Deferred) (F:(Nat->Value)->Act) (h:({ tmps:=T,defers:=D }:Act)=F (fun n=>T.getD n undef)):∃u:Nat->Value,({ tmps:=T,defers:=D }:Act)=F u:=⟨_,h⟩
theorem zGr (b:Nat) (v:Value) (n:Int) (l:List It) (i j:Nat) (s t:It) (w:World) (h:Hp w b v n false) (hv:Its w v l) (hi:l[i]? = some s) (hj:l[j]? = some t) :
 Calls pg 166 #[ptr b,O ii (i:Nat),O ii (j:Nat)] w fun e w'=>e = .returned (.bool (lt s t))/\Below w.heap.size w w':=by
 have hil:i<l.length:=(List.getElem?_eq_some_iff.1 hi).1;have hjl:j<l.length:=(List.getElem?_eq_some_iff.1 hj).1;obtain ⟨g,cap,rfl,hc1,hc2,hgl⟩:=hv.form (by omega);obtain ⟨ci,fz⟩:=hv.at hi;obtain ⟨cj,-⟩:=hv.at hj;have hbl:=h.lt;have hS:∀wx,Below w.heap.size w wx->(fun wx:World=>wx.cell? ⟨b,1,none⟩=some (.slice (some ⟨g,0,none⟩) l.length cap)/\C5 wx g (i*5) s/\C5 wx g (j*5) t) wx:=fun wx hx=>⟨(h.upto hx).c 1,ci.upto hx,cj.upto hx⟩
 have HS:=zAb hS;have HH:=zAb h;have HB0:Hid (Below w.heap.size w w.drew):=zAb (Below.refl _ _).drew;clear hS h hv;go_enter func166,ntmps166;go_wp2_with fail;refine Code.wp_mono (Q:=zAv (fun a' Y=>∃p7 p8:Nat,(Bx Y p7 s/\Bx Y p8 t)/\Below w.heap.size w Y/\∃u:Nat->Value,a'={ tmps:=#[ptr b,O ii (i:Nat),O ii (j:Nat),undef,undef,undef,.bool false,ptr p7,ptr p8,u 9,u 10,u 11,u 12,u 13,u 14,u 15,u 16,u 17,u 18,u 19,u 20,u 21,u 22,undef,undef,undef,undef,undef,undef,undef,undef,undef,undef,undef,undef,undef,undef,undef,undef,undef,undef],defers:=[] })) ?rest ?_
 case rest =>
  rintro (_|_|_|_|_) a' Y hO;all_goals first|exact hO.elim|skip
  obtain ⟨p7,p8,⟨bs,bt'⟩,hB,u,rfl⟩:=hO;have cs:=bs.c5;have ct:=bt'.c5;simp only [C5,Nat.zero_add] at cs ct;obtain ⟨s0,s1,s2,s3,s4⟩:=cs;obtain ⟨t0,t1,t2,t3,t4⟩:=ct;have hY:=HH.out.upto hB;have HB:=zAb hB
  by_cases hp:s.p<t.p
  ·have hp1:decide (s.p<t.p)=true:=by simpa using hp
   have HA:=zAb (zEo b _ n t.x t.y t.c t.f s.x s.y s.c s.f Y hY);clear hB hY;go_wp2_with fail;refine HA.out.mono ?_;rintro e Y2 ⟨rfl,hb2⟩;have HB2:=zAb (bt HB.out hb2);clear hb2;go_wp2_with fail;go_ret;exact ⟨zAm (by rw [lt,if_pos hp]),HB2.out⟩
  ·have hp1:decide (s.p<t.p)=false:=by simpa using hp
   have HA:=zAb (zEo b _ n s.x s.y s.c s.f t.x t.y t.c t.f Y hY);clear hB hY;go_wp2_with fail;refine HA.out.mono ?_;rintro e Y2 ⟨rfl,hb2⟩;have HB2:=zAb (bt HB.out hb2);clear hb2;go_wp2_with fail;go_ret;exact ⟨zAm (by rw [lt,if_neg (by omega)]),HB2.out⟩
 refine zAe (fun wx:World=>wx.cell? ⟨b,1,none⟩=some (.slice (some ⟨g,0,none⟩) l.length cap)/\C5 wx g (i*5) s/\C5 wx g (j*5) t) [17] (by kernel_rfl) ?_;refine zm 0 8 (ptr b) rfl (by kernel_rfl) (by rfl) rfl (by rfl) (HS.out _ HB0.out) ?_;try simp only [zp]
 refine zt 1 8 (ptr b) rfl (by kernel_rfl) (by rfl) (fun wx hx=>zA7 (by rfl) (by rfl)) (HS.out _ HB0.out) ?_;try simp only [zp]
 refine zt 2 8 (.pointer (some ⟨b,1,none⟩)) rfl (by kernel_rfl) (by rfl) (fun wx hx=>zAz (by rfl) (by rfl)) (HS.out _ HB0.out) ?_;try simp only [zp]
 refine zt 3 8 (.slice (some ⟨g,0,none⟩) l.length cap) rfl (by kernel_rfl) (by rfl) (fun wx hx=>zA2 (by rfl) (by rfl) hx.1) (HS.out _ HB0.out) ?_;try simp only [zp]
 refine zm 4 8 (O ii (i:Nat)) rfl (by kernel_rfl) (by rfl) rfl (by rfl) (HS.out _ HB0.out) ?_;try simp only [zp]
 refine zt 5 8 (.pointer (some ⟨g,i*5,none⟩)) rfl (by kernel_rfl) (by rfl) (fun wx hx=>zBt (by rfl) (by rfl) (by rfl) hil) (HS.out _ HB0.out) ?_;try simp only [zp]
 refine zt 6 8 s.v rfl (by kernel_rfl) (by rfl) (fun wx hx=>zBx (by rfl) (by rfl) hx.2.1) (HS.out _ HB0.out) ?_;try simp only [zp]
 refine zm 7 8 (ptr b) rfl (by kernel_rfl) (by rfl) rfl (by rfl) (HS.out _ HB0.out) ?_;try simp only [zp]
 refine zt 8 8 (ptr b) rfl (by kernel_rfl) (by rfl) (fun wx hx=>zA7 (by rfl) (by rfl)) (HS.out _ HB0.out) ?_;try simp only [zp]
 refine zt 9 8 (.pointer (some ⟨b,1,none⟩)) rfl (by kernel_rfl) (by rfl) (fun wx hx=>zAz (by rfl) (by rfl)) (HS.out _ HB0.out) ?_;try simp only [zp]
 refine zt 10 8 (.slice (some ⟨g,0,none⟩) l.length cap) rfl (by kernel_rfl) (by rfl) (fun wx hx=>zA2 (by rfl) (by rfl) hx.1) (HS.out _ HB0.out) ?_;try simp only [zp]
 refine zm 11 8 (O ii (j:Nat)) rfl (by kernel_rfl) (by rfl) rfl (by rfl) (HS.out _ HB0.out) ?_;try simp only [zp]
 refine zt 12 8 (.pointer (some ⟨g,j*5,none⟩)) rfl (by kernel_rfl) (by rfl) (fun wx hx=>zBt (by rfl) (by rfl) (by rfl) hjl) (HS.out _ HB0.out) ?_;try simp only [zp]
 refine zt 13 8 t.v rfl (by kernel_rfl) (by rfl) (fun wx hx=>zBx (by rfl) (by rfl) hx.2.2) (HS.out _ HB0.out) ?_;try simp only [zp]
 have b14:Below w.heap.size w (w.drew.alloc (.cells #[O ii 0,O ii 0,O ii 0,O ii 0,O ii 0] 215)):=bt HB0.out (zAh _ _);have x14:Bx (w.drew.alloc (.cells #[O ii 0,O ii 0,O ii 0,O ii 0,O ii 0] 215)) w.drew.heap.size zit:=heap_alloc_new _ _;have b145:Below w.heap.size w ((w.drew.alloc (.cells #[O ii 0,O ii 0,O ii 0,O ii 0,O ii 0] 215)).alloc (.cells #[O ii 0,O ii 0,O ii 0,O ii 0,O ii 0] 215)):=bt b14 (zAh _ _);have x145:Bx ((w.drew.alloc (.cells #[O ii 0,O ii 0,O ii 0,O ii 0,O ii 0] 215)).alloc (.cells #[O ii 0,O ii 0,O ii 0,O ii 0,O ii 0] 215)) (w.drew.alloc (.cells #[O ii 0,O ii 0,O ii 0,O ii 0,O ii 0] 215)).heap.size zit:=heap_alloc_new _ _;have x14':=x14.upto (zAh (w.drew.alloc (.cells #[O ii 0,O ii 0,O ii 0,O ii 0,O ii 0] 215)) (.cells #[O ii 0,O ii 0,O ii 0,O ii 0,O ii 0] 215));have hne:(w.drew.alloc (.cells #[O ii 0,O ii 0,O ii 0,O ii 0,O ii 0] 215)).heap.size=w.heap.size+1:=by simp
 have hne0:w.drew.heap.size=w.heap.size:=rfl;refine zw 14 [15] (by kernel_rfl) ?_;refine readyZ.cons rfl rfl (zC4 (by rfl)) (fun _=>HS.out _ b14) ?_ ?_
 ·try simp only [zp]
  refine zq 15 (by kernel_rfl) rfl rfl (zC4 (by rfl)) (fun _=>HS.out _ b145) ?_;try simp only [zp]
  have T6:=zAt ((w.drew.alloc (.cells #[O ii 0,O ii 0,O ii 0,O ii 0,O ii 0] 215)).alloc (.cells #[O ii 0,O ii 0,O ii 0,O ii 0,O ii 0] 215)) w.drew.heap.size 0 s;have y7:Bx (zBc ((w.drew.alloc (.cells #[O ii 0,O ii 0,O ii 0,O ii 0,O ii 0] 215)).alloc (.cells #[O ii 0,O ii 0,O ii 0,O ii 0,O ii 0] 215)) w.drew.heap.size 0 s) w.drew.heap.size s:=x14'.put;have y8:=x145.turned T6 (by omega);have B6:Below w.heap.size w (zBc ((w.drew.alloc (.cells #[O ii 0,O ii 0,O ii 0,O ii 0,O ii 0] 215)).alloc (.cells #[O ii 0,O ii 0,O ii 0,O ii 0,O ii 0] 215)) w.drew.heap.size 0 s):=b145.trans (T6.below (fun k e=>by omega) b145.size);have T7:=zAt (zBc ((w.drew.alloc (.cells #[O ii 0,O ii 0,O ii 0,O ii 0,O ii 0] 215)).alloc (.cells #[O ii 0,O ii 0,O ii 0,O ii 0,O ii 0] 215)) w.drew.heap.size 0 s) (w.drew.alloc (.cells #[O ii 0,O ii 0,O ii 0,O ii 0,O ii 0] 215)).heap.size 0 t;have z8:Bx (zBc (zBc ((w.drew.alloc (.cells #[O ii 0,O ii 0,O ii 0,O ii 0,O ii 0] 215)).alloc (.cells #[O ii 0,O ii 0,O ii 0,O ii 0,O ii 0] 215)) w.drew.heap.size 0 s) (w.drew.alloc (.cells #[O ii 0,O ii 0,O ii 0,O ii 0,O ii 0] 215)).heap.size 0 t) (w.drew.alloc (.cells #[O ii 0,O ii 0,O ii 0,O ii 0,O ii 0] 215)).heap.size t:=y8.put;have z7:=y7.turned T7 (by omega);have B7:Below w.heap.size w (zBc (zBc ((w.drew.alloc (.cells #[O ii 0,O ii 0,O ii 0,O ii 0,O ii 0] 215)).alloc (.cells #[O ii 0,O ii 0,O ii 0,O ii 0,O ii 0] 215)) w.drew.heap.size 0 s) (w.drew.alloc (.cells #[O ii 0,O ii 0,O ii 0,O ii 0,O ii 0] 215)).heap.size 0 t):=B6.trans (T7.below (fun k e=>by omega) B6.size);refine zw 16 [] (by kernel_rfl) ?_;refine readyZ.skip rfl rfl (zBs (by rfl) (by rfl) (by rfl) x14'.c5 x14'.thaw) (fun _=>HS.out _ B6) ?_ readyZ.nil;try simp only [zp]
  refine zw 17 [] (by kernel_rfl) ?_;refine readyZ.skip rfl rfl (zBs (by rfl) (by rfl) (by rfl) y8.c5 y8.thaw) (fun h=>absurd (by decide) h) ?_ readyZ.nil;try simp only [zp]
  exact zAd (by kernel_rfl) ⟨_,_,⟨z7,z8⟩,B7,mkU _ _ _ rfl⟩ _
 ·refine readyZ.cons rfl rfl (zC4 (by rfl)) (fun _=>HS.out _ b14) ?_ readyZ.nil;try simp only [zp]
  refine zq 14 (by kernel_rfl) rfl rfl (zC4 (by rfl)) (fun _=>HS.out _ b145) ?_;try simp only [zp]
  have T6:=zAt ((w.drew.alloc (.cells #[O ii 0,O ii 0,O ii 0,O ii 0,O ii 0] 215)).alloc (.cells #[O ii 0,O ii 0,O ii 0,O ii 0,O ii 0] 215)) (w.drew.alloc (.cells #[O ii 0,O ii 0,O ii 0,O ii 0,O ii 0] 215)).heap.size 0 s;have y7:Bx (zBc ((w.drew.alloc (.cells #[O ii 0,O ii 0,O ii 0,O ii 0,O ii 0] 215)).alloc (.cells #[O ii 0,O ii 0,O ii 0,O ii 0,O ii 0] 215)) (w.drew.alloc (.cells #[O ii 0,O ii 0,O ii 0,O ii 0,O ii 0] 215)).heap.size 0 s) (w.drew.alloc (.cells #[O ii 0,O ii 0,O ii 0,O ii 0,O ii 0] 215)).heap.size s:=x145.put;have y8:=x14'.turned T6 (by omega);have B6:Below w.heap.size w (zBc ((w.drew.alloc (.cells #[O ii 0,O ii 0,O ii 0,O ii 0,O ii 0] 215)).alloc (.cells #[O ii 0,O ii 0,O ii 0,O ii 0,O ii 0] 215)) (w.drew.alloc (.cells #[O ii 0,O ii 0,O ii 0,O ii 0,O ii 0] 215)).heap.size 0 s):=b145.trans (T6.below (fun k e=>by omega) b145.size);have T7:=zAt (zBc ((w.drew.alloc (.cells #[O ii 0,O ii 0,O ii 0,O ii 0,O ii 0] 215)).alloc (.cells #[O ii 0,O ii 0,O ii 0,O ii 0,O ii 0] 215)) (w.drew.alloc (.cells #[O ii 0,O ii 0,O ii 0,O ii 0,O ii 0] 215)).heap.size 0 s) w.drew.heap.size 0 t;have z8:Bx (zBc (zBc ((w.drew.alloc (.cells #[O ii 0,O ii 0,O ii 0,O ii 0,O ii 0] 215)).alloc (.cells #[O ii 0,O ii 0,O ii 0,O ii 0,O ii 0] 215)) (w.drew.alloc (.cells #[O ii 0,O ii 0,O ii 0,O ii 0,O ii 0] 215)).heap.size 0 s) w.drew.heap.size 0 t) w.drew.heap.size t:=y8.put;have z7:=y7.turned T7 (by omega);have B7:Below w.heap.size w (zBc (zBc ((w.drew.alloc (.cells #[O ii 0,O ii 0,O ii 0,O ii 0,O ii 0] 215)).alloc (.cells #[O ii 0,O ii 0,O ii 0,O ii 0,O ii 0] 215)) (w.drew.alloc (.cells #[O ii 0,O ii 0,O ii 0,O ii 0,O ii 0] 215)).heap.size 0 s) w.drew.heap.size 0 t):=B6.trans (T7.below (fun k e=>by omega) B6.size);refine zw 16 [] (by kernel_rfl) ?_;refine readyZ.skip rfl rfl (zBs (by rfl) (by rfl) (by rfl) x145.c5 x145.thaw) (fun _=>HS.out _ B6) ?_ readyZ.nil;try simp only [zp]
  refine zw 17 [] (by kernel_rfl) ?_;refine readyZ.skip rfl rfl (zBs (by rfl) (by rfl) (by rfl) y8.c5 y8.thaw) (fun h=>absurd (by decide) h) ?_ readyZ.nil;try simp only [zp]
  exact zAd (by kernel_rfl) ⟨_,_,⟨z7,z8⟩,B7,mkU _ _ _ rfl⟩ _
theorem zBu (a b:It):lt a b=false↔(b.f<a.f\/b.f=a.f/\b.p<=a.p):=by
 rw [<-Bool.not_eq_true,zGj];omega
def nth (l:List It) (i:Nat):It:=(l[i]?).getD ⟨0,0,0,0,0⟩
theorem zBl {l:List It} {i:Nat} (h:i<l.length):l[i]? = some (nth l i):=by simp [nth,List.getElem?_eq_getElem h]
theorem zOi {l:List It} {a i:Nat} {t:It} (ha:a<l.length):nth (l.set a t) i=if i=a then t else nth l i:=by
 unfold nth;rw [List.getElem?_set]
 by_cases h:a=i
 ·subst h;simp [ha]
 ·rw [if_neg h,if_neg (fun e=>h e.symm)]
def swp (l:List It) (a b:Nat):List It:=(l.set a (nth l b)).set b (nth l a)
theorem zBa (l:List It) (a b:Nat):(swp l a b).length=l.length:=by simp [swp]
theorem zNn {l:List It} {a b:Nat} (ha:a<l.length) (hb:b<l.length) (i:Nat):nth (swp l a b) i=if i=b then nth l a else if i=a then nth l b else nth l i:=by
 unfold swp;rw [zOi (by simpa using hb),zOi ha]
theorem zK8 {l:List It} {a b:Nat} (ha:a<l.length) (hb:b<l.length):(swp l a b).Perm l:=by
 have:((l.set a l[b]).set b l[a]).Perm l:=List.set_set_perm ha hb;have e1:nth l b=l[b]:=by simp [nth,hb]
 have e2:nth l a=l[a]:=by simp [nth,ha]
 unfold swp;rw [e1,e2];exact this
def Heap (l:List It):Prop:=∀i,0<i->i<l.length->lt (nth l i) (nth l ((i-1)/2))=false
def Low (l:List It) (a:Nat):Prop:=(∀i,0<i->i<l.length->i≠a->lt (nth l i) (nth l ((i-1)/2))=false)/\∀i,0<a->0<i->i<l.length->(i-1)/2=a->lt (nth l i) (nth l ((a-1)/2))=false
theorem Low.next {l:List It} {a:Nat} (h:Low l a) (ha0:0<a) (ha:a<l.length) (hl:lt (nth l a) (nth l ((a-1)/2))=true):Low (swp l a ((a-1)/2)) ((a-1)/2):=by
 have hb:(a-1)/2<l.length:=by omega
 have hn:=zNn ha hb;rw [zGj] at hl;refine ⟨fun i hi hil hne=>?_,fun i hp hi hil hpi=>?_⟩
 ·rw [zBa] at hil;rw [hn,hn,if_neg hne]
  by_cases e1:i=a
  ·subst e1;rw [if_pos rfl,if_pos rfl,zBu];omega
  ·rw [if_neg e1]
   by_cases e2:(i-1)/2=(a-1)/2
   ·rw [if_pos e2];have:=h.1 i hi hil e1;rw [e2] at this;rw [zBu] at this ⊢;omega
   ·rw [if_neg e2]
    by_cases e3:(i-1)/2=a
    ·rw [if_pos e3];exact h.2 i ha0 hi hil e3
    ·rw [if_neg e3];exact h.1 i hi hil e1
 ·rw [zBa] at hil;have e0:¬i=(a-1)/2:=by omega
  have e4:¬((a-1)/2-1)/2=(a-1)/2:=by omega
  have e5:¬((a-1)/2-1)/2=a:=by omega
  rw [hn,hn,if_neg e0,if_neg e4,if_neg e5];have q:=h.1 ((a-1)/2) hp hb (by omega)
  by_cases e1:i=a
  ·rw [if_pos e1];exact q
  ·rw [if_neg e1];have r:=h.1 i hi hil e1;rw [hpi] at r;rw [zBu] at q r ⊢;omega
theorem Low.done {l:List It} {a:Nat} (h:Low l a) (he:a=0\/lt (nth l a) (nth l ((a-1)/2))=false):Heap l:=fun i hi hil=>by
 by_cases e:i=a
 ·subst e;rcases he with e|e
  ·omega
  ·exact e
 ·exact h.1 i hi hil e
theorem Low.push {l:List It} (h:Heap l) (t:It):Low (l++[t]) l.length:=by
 have hn:∀i,i<l.length->nth (l++[t]) i=nth l i:=fun i hi=>by simp [nth,List.getElem?_append_left hi]
 refine ⟨fun i hi hil hne=>?_,fun i _ hi hil hp=>?_⟩
 ·simp at hil;rw [hn i (by omega),hn _ (by omega)];exact h i hi (by omega)
 ·simp at hil;omega
def High (l:List It) (a:Nat):Prop:=(∀i,0<i->i<l.length->(i-1)/2≠a->lt (nth l i) (nth l ((i-1)/2))=false)/\∀i,0<a->0<i->i<l.length->(i-1)/2=a->lt (nth l i) (nth l ((a-1)/2))=false
theorem High.next {l:List It} {a c:Nat} (h:High l a) (hc:c<l.length) (hc0:0<c) (hp:(c-1)/2=a) (hl:lt (nth l c) (nth l a)=true) (hm:∀i,0<i->i<l.length->(i-1)/2=a->lt (nth l i) (nth l c)=false):High (swp l c a) c:=by
 have ha:a<l.length:=by omega
 have hn:=zNn hc ha;rw [zGj] at hl;refine ⟨fun i hi hil hne=>?_,fun i hp' hi hil hpi=>?_⟩
 ·rw [zBa] at hil;rw [hn,hn]
  by_cases e1:i=a
  ·have e2:¬(i-1)/2=a:=by omega
   rw [if_pos e1,if_neg e2,if_neg hne];have:=h.2 c (by omega) hc0 hc hp;rw [<-e1] at this;exact this
  ·rw [if_neg e1]
   by_cases e2:i=c
   ·subst e2;rw [if_pos rfl,if_pos hp,zBu];omega
   ·rw [if_neg e2]
    by_cases e3:(i-1)/2=a
    ·rw [if_pos e3];exact hm i hi hil e3
    ·rw [if_neg e3,if_neg hne];exact h.1 i hi hil e3
 ·rw [zBa] at hil;rw [hn,hn,if_neg (by omega),if_neg (by omega),if_pos hp];have:=h.1 i hi hil (by omega);rw [hpi] at this;exact this
theorem High.done {l:List It} {a:Nat} (h:High l a) (hm:∀i,0<i->i<l.length->(i-1)/2=a->lt (nth l i) (nth l a)=false):Heap l:=fun i hi hil=>by
 by_cases e:(i-1)/2=a
 ·rw [e];exact hm i hi hil e
 ·exact h.1 i hi hil e
def pop (l:List It):List It:=(l.set 0 (nth l (l.length-1))).take (l.length-1)
theorem zJ4 (l:List It):(pop l).length=l.length-1:=by simp [pop]
theorem zN7 {l:List It} {i:Nat} (h0:0<i) (hi:i<l.length-1):nth (pop l) i=nth l i:=by
 unfold pop nth;rw [List.getElem?_take,if_pos hi,List.getElem?_set,if_neg (by omega)]
theorem High.pop {l:List It} (h:Heap l):High (pop l) 0:=by
 refine ⟨fun i hi hil hne=>?_,fun i h0=>by omega⟩;rw [zJ4] at hil;rw [zN7 hi hil,zN7 (by omega) (by omega)];exact h i hi (by omega)
theorem zLm {l:List It} (h:0<l.length):l.Perm (nth l 0::pop l):=by
 cases l with
 |nil=>simp at h
 |cons t r =>
  rcases List.eq_nil_or_concat r with rfl|⟨m,z,rfl⟩
  ·simp [pop,nth]
  ·have e:pop (t::(m++[z]))=z::m:=by
    unfold pop nth;simp
   rw [List.concat_eq_append,e];have e2:nth (t::(m++[z])) 0=t:=rfl;rw [e2];exact List.Perm.cons t (List.perm_append_comm.trans (by simp))
theorem Heap.top {l:List It} (h:Heap l):∀i,i<l.length->lt (nth l i) (nth l 0)=false:=by
 intro i
 induction i using Nat.strongRecOn with
 |_ i ih =>
  intro hi
  by_cases e:i=0
  ·subst e;rw [zBu];omega
  ·have q:=ih ((i-1)/2) (by omega) (by omega);have r:=h i (by omega) hi;rw [zBu] at q r ⊢;omega
theorem Heap.least {l:List It} (h:Heap l) {t:It} (ht:t∈l):lt t (nth l 0)=false:=by
 obtain ⟨i,hi,rfl⟩:=List.getElem_of_mem ht;have:=h.top i hi
 rwa [show nth l i=l[i] by simp [nth,hi]] at this
theorem Heap.nil:Heap []:=fun i _ h=>by simp at h
theorem zDi {x y:Int} (h:x=y):Value.int .i64 x = O ii y:=by rw [h]
def Kp (w:World) (b:Nat) (v:Value) (n:Int) (l:List It) (l':List It) (wr:World):Prop:=
 Its wr v l'/\l'.Perm l/\Hp wr b v n false/\Turns (fun k=>v.ownBlock=some k) w wr
theorem Kp.upto {w wr w':World} {b:Nat} {v:Value} {n:Int} {l l':List It} (h:Kp w b v n l l' wr) (hb:Below wr.heap.size wr w'):Kp w b v n l l' w':=
 ⟨h.1.upto hb,h.2.1,h.2.2.1.upto hb,h.2.2.2.trans (Turns.of_below hb)⟩
theorem Kp.swap {w wr w':World} {b:Nat} {v:Value} {n:Int} {l l':List It} {i j:Nat} (h:Kp w b v n l l' wr) (hi:i<l'.length) (hj:j<l'.length) (h1:Its w' v (swp l' i j)) (h2:Turns (fun k=>v.ownBlock=some k) wr w'):Kp w b v n l (swp l' i j) w':=
 ⟨h1,(zK8 hi hj).trans h.2.1,h.2.2.1.kept h2 (h.2.2.1.ne_row h.1 (by decide)),h.2.2.2.trans (h2.mono (fun _ _ e => .inl e))⟩
theorem Kp.before {w wr:World} {b:Nat} {v:Value} {n:Int} {l l':List It} (h:Kp w b v n l l' wr) {i j:Nat} {I J:Int} {r:Bool} (eI:I=(i:Nat)) (eJ:J=(j:Nat)) (hi:i<l'.length) (hj:j<l'.length) (hr:lt (nth l' i) (nth l' j)=r) :
 Calls pg 166 #[ptr b,O ii I,O ii J] wr fun e w'=>e = .returned (.bool r)/\Kp w b v n l l' w':=by
 subst eI;subst eJ;subst hr;exact (zGr b v n l' i j _ _ wr h.2.2.1 h.1 (zBl hi) (zBl hj)).mono fun e w' q=>⟨q.1,h.upto q.2⟩
theorem Kp.swaps {w wr:World} {b:Nat} {v:Value} {n:Int} {l l':List It} (h:Kp w b v n l l' wr) {i j:Nat} {I J:Int} (eI:I=(i:Nat)) (eJ:J=(j:Nat)) (hi:i<l'.length) (hj:j<l'.length) :
 Calls pg 167 #[ptr b,O ii I,O ii J] wr fun e w'=>e = .returned (.tuple #[])/\Kp w b v n l (swp l' i j) w':=by
 subst eI;subst eJ;exact (zJo b v n false l' i j _ _ wr h.2.2.1 h.1 (zBl hi) (zBl hj)).mono fun e w' q=>⟨q.1,h.swap hi hj q.2.1 q.2.2⟩
theorem zKh (b:Nat) (v:Value) (n:Int) (l:List It) (w:World) (h:Hp w b v n false) (hv:Its w v l) (hl:0<l.length) (hlow:Low l (l.length-1)) :
 Calls pg 145 #[ptr b] w fun e w'=>e = .returned (.tuple #[])/\∃l',Heap l'/\Kp w b v n l l' w':=by
 have hk0:Kp w b v n l l w:=⟨hv,List.Perm.refl _,h,Turns.refl _ _⟩
 obtain ⟨g,cap,hve,hcap,hmax,hg⟩:=hv.form hl;have c1:w.cell? ⟨b,1,none⟩=some (.slice (some ⟨g,0,none⟩) l.length cap):=hve▸h.c 1;have hm:l.length<=9223372036854775807:=by unfold maxLen at hmax;omega
 have HK:=zAb hk0;have HL:=zAb hlow;clear h hv hk0 hlow hve hcap hmax;go_enter func145,ntmps145;go_wp2_with fail;go_loopw [2] (fun i wr=>∃(a:Nat) (l':List It),i = O ii (a:Nat)/\a<l'.length/\l'.length=l.length/\Low l' a/\Kp w b v n l l' wr) (fun i _=>(intOf i).toNat)
 case atStart=>exact ⟨l.length-1,l,by go_num,by omega,rfl,HL.out,HK.out⟩
 case round =>
  obtain ⟨a,l',rfl,hal,hll,hlow,hkp⟩:=hrel;have HKp:=zAb hkp;have HLo:=zAb hlow;clear hkp hlow HK HL
  by_cases ha:a=0
  ·subst ha;go_wp2_with fail;go_end0
   exact ⟨rfl,l',HLo.out.done (.inl rfl),HKp.out⟩
  ·obtain ⟨c,hc⟩:∃c:Nat,(a-1)/2=c:=⟨_,rfl⟩
   have hcl:c<l'.length:=by omega
   have hca:c<a:=by omega
   have hd:((a:Int)-1).tdiv 2=(c:Nat):=by rw [Int.tdiv_eq_ediv_of_nonneg (by omega)];omega
   cases hlt:lt (nth l' a) (nth l' c)
   ·go_wp2_with (go_at_call 166;refine (HKp.out.before rfl rfl hal hcl hlt).mono ?_;rintro e w1 ⟨rfl,hk1⟩);refine bodyPost_ret (results_none rfl _ _ _) rfl ?_;exact ⟨rfl,l',HLo.out.done (.inr (by rw [hc];exact hlt)),hk1⟩
   ·go_wp2_with (go_at_call 166;refine (HKp.out.before rfl rfl hal hcl hlt).mono ?_;rintro e w1 ⟨rfl,hk1⟩);refine (hk1.swaps rfl rfl hal hcl).mono ?_;rintro e w2 ⟨rfl,hk2⟩;have HK2:=zAb hk2;clear hk1 hk2 HKp;go_wp2_with fail;go_roundw
    case rel=>exact ⟨c,_,rfl,by rw [zBa];exact hcl,by rw [zBa];exact hll,by have:=HLo.out.next (by omega) hal (by rw [hc];exact hlt);rw [hc] at this;exact this,HK2.out⟩
    case measure=>simp [intOf];omega
theorem zJq (b:Nat) (v:Value) (n:Int) (l:List It) (w:World) (h:Hp w b v n false) (hv:Its w v l) (hlen:l.length<=1152921504606846976) (hhigh:High l 0) :
 Calls pg 170 #[ptr b] w fun e w'=>e = .returned (.tuple #[])/\∃l',Heap l'/\Kp w b v n l l' w':=by
 have hk0:Kp w b v n l l w:=⟨hv,List.Perm.refl _,h,Turns.refl _ _⟩
 obtain ⟨g,cap,hve,hm⟩:=hv.slice;have HK:=zAb hk0;have HL:=zAb hhigh;have HC:Hid (∀l' wr,Kp w b v n l l' wr->wr.cell? ⟨b,1,none⟩=some (.slice g l.length cap)):=zAb fun l' wr hk=>hve▸hk.2.2.1.c 1;clear h hv hk0 hhigh hve;go_enter func170,ntmps170;go_wp2_with fail;go_loopw [2,3] (fun i j wr=>∃(a m:Nat) (l':List It),i = O ii (a:Nat)/\j = O ii (m:Nat)/\m=2*a+1/\(a<l'.length\/a=0)/\l'.length=l.length/\High l' a/\Kp w b v n l l' wr) (fun i _ _=>l.length-(intOf i).toNat)
 case atStart=>exact ⟨0,1,l,rfl,rfl,rfl,.inr rfl,rfl,HL.out,HK.out⟩
 case round =>
  obtain ⟨a,m,l',rfl,rfl,hma,hal,hll,hhigh,hkp⟩:=hrel;have HKp:=zAb hkp;have HHi:=zAb hhigh;have c1:=HC.out l' _ hkp;clear hkp hhigh HK HL;have hch:∀i,0<i->(i-1)/2=a->i=m\/i=m+1:=fun i h1 h2=>by omega
  have HCh:=zAb hch;clear hch;obtain ⟨A,hA⟩:∃A:Int,(a:Int)=A:=⟨_,rfl⟩
  obtain ⟨M,hM⟩:∃M:Int,(m:Int)=M:=⟨_,rfl⟩
  rw [hA,hM];have HA:=zAb hA;have HM:=zAb hM;have HLN:=zAb hlen;have HLM:=zAb hm
  by_cases hb:m<l.length
  ·have hbi:M<(l.length:Nat):=by omega
   have hM0:0<=M:=by omega
   have hM1:M+1<=1152921504606846976:=by omega
   have hA0:0<=A:=by omega
   have hbl:m<l'.length:=by omega
   have hal':a<l'.length:=by omega
   have HE:Hid ((m-1)/2=a/\(m+1-1)/2=a):=zAb (by omega);have HMA:=zAb hma;have HAL:=zAb hal;have HBL:=zAb hbl;have HALL:=zAb hal';have HLL:=zAb hll
   by_cases hr:m+1<l.length
   ·have hri:M+1<(l.length:Nat):=by omega
    have HRL:Hid (m+1<l'.length):=zAb (by omega);have HM1:Hid (M+1=((m+1:Nat):Int)):=zAb (by omega);clear hma hal hA hM hlen hm hb hr hbl hal' hll;cases hr1:lt (nth l' (m+1)) (nth l' m)
    ·have hmin:Hid (∀i,0<i->i<l'.length->(i-1)/2=a->lt (nth l' i) (nth l' m)=false):=zAb fun i h1 h2 h3=>by
      rcases HCh.out i h1 h3 with rfl|rfl
      ·rw [zBu];omega
      ·exact hr1
     cases hq:lt (nth l' m) (nth l' a)
     ·go_wp2_with fail;refine (HKp.out.before HM1.out HM.out.symm HRL.out HBL.out hr1).mono ?_;rintro e w1 ⟨rfl,hk1⟩;have HK1:=zAb hk1;clear hk1;go_wp2_with fail;refine (HK1.out.before HM.out.symm HA.out.symm HBL.out HALL.out hq).mono ?_;rintro e w2 ⟨rfl,hk2⟩;have HK2:=zAb hk2;clear hk2;go_wp2_with fail;refine bodyPost_ret (results_none rfl _ _ _) rfl ?_;exact ⟨rfl,l',HHi.out.done (fun i h1 h2 h3=>by have:=hmin.out i h1 h2 h3;rw [zBu] at this hq ⊢;omega),HK2.out⟩
     ·go_wp2_with fail;refine (HKp.out.before HM1.out HM.out.symm HRL.out HBL.out hr1).mono ?_;rintro e w1 ⟨rfl,hk1⟩;have HK1:=zAb hk1;clear hk1;go_wp2_with fail;refine (HK1.out.before HM.out.symm HA.out.symm HBL.out HALL.out hq).mono ?_;rintro e w2 ⟨rfl,hk2⟩;have HK2:=zAb hk2;clear hk2;go_wp2_with fail;refine (HK2.out.swaps HM.out.symm HA.out.symm HBL.out HALL.out).mono ?_;rintro e w3 ⟨rfl,hk3⟩;have HK3:=zAb hk3;clear hk3;go_wp2_with fail;go_roundw
      case rel=>exact ⟨m,2*(m)+1,_,zDi (by have:=HM.out;omega),zDi (by have:=HM.out;omega),rfl,.inl (by rw [zBa];exact HBL.out),by rw [zBa];exact HLL.out,HHi.out.next HBL.out (by have:=HMA.out;omega) (by have:=HE.out;omega) hq hmin.out,HK3.out⟩
      case measure=>have:=HMA.out;have:=HA.out;have:=HM.out;have:=HBL.out;have:=HLL.out;simp [intOf];omega
    ·have hmin:Hid (∀i,0<i->i<l'.length->(i-1)/2=a->lt (nth l' i) (nth l' (m+1))=false):=zAb fun i h1 h2 h3=>by
      rcases HCh.out i h1 h3 with rfl|rfl
      ·rw [zGj] at hr1;rw [zBu];omega
      ·rw [zBu];omega
     cases hq:lt (nth l' (m+1)) (nth l' a)
     ·go_wp2_with fail;refine (HKp.out.before HM1.out HM.out.symm HRL.out HBL.out hr1).mono ?_;rintro e w1 ⟨rfl,hk1⟩;have HK1:=zAb hk1;clear hk1;go_wp2_with fail;refine (HK1.out.before HM1.out HA.out.symm HRL.out HALL.out hq).mono ?_;rintro e w2 ⟨rfl,hk2⟩;have HK2:=zAb hk2;clear hk2;go_wp2_with fail;refine bodyPost_ret (results_none rfl _ _ _) rfl ?_;exact ⟨rfl,l',HHi.out.done (fun i h1 h2 h3=>by have:=hmin.out i h1 h2 h3;rw [zBu] at this hq ⊢;omega),HK2.out⟩
     ·go_wp2_with fail;refine (HKp.out.before HM1.out HM.out.symm HRL.out HBL.out hr1).mono ?_;rintro e w1 ⟨rfl,hk1⟩;have HK1:=zAb hk1;clear hk1;go_wp2_with fail;refine (HK1.out.before HM1.out HA.out.symm HRL.out HALL.out hq).mono ?_;rintro e w2 ⟨rfl,hk2⟩;have HK2:=zAb hk2;clear hk2;go_wp2_with fail;refine (HK2.out.swaps HM1.out HA.out.symm HRL.out HALL.out).mono ?_;rintro e w3 ⟨rfl,hk3⟩;have HK3:=zAb hk3;clear hk3;go_wp2_with fail;go_roundw
      case rel=>exact ⟨m+1,2*(m+1)+1,_,zDi (by have:=HM.out;omega),zDi (by have:=HM.out;omega),rfl,.inl (by rw [zBa];exact HRL.out),by rw [zBa];exact HLL.out,HHi.out.next HRL.out (by have:=HMA.out;omega) (by have:=HE.out;omega) hq hmin.out,HK3.out⟩
      case measure=>have:=HMA.out;have:=HA.out;have:=HM.out;have:=HBL.out;have:=HLL.out;simp [intOf];omega
   ·have hri:¬M+1<(l.length:Nat):=by omega
    have hmin:Hid (∀i,0<i->i<l'.length->(i-1)/2=a->lt (nth l' i) (nth l' m)=false):=zAb fun i h1 h2 h3=>by
     rcases HCh.out i h1 h3 with rfl|rfl
     ·rw [zBu];omega
     ·omega
    clear hma hal hA hM hlen hm hb hr hbl hal' hll;cases hq:lt (nth l' m) (nth l' a)
    ·go_wp2_with fail;refine (HKp.out.before HM.out.symm HA.out.symm HBL.out HALL.out hq).mono ?_;rintro e w2 ⟨rfl,hk2⟩;have HK2:=zAb hk2;clear hk2;go_wp2_with fail;refine bodyPost_ret (results_none rfl _ _ _) rfl ?_;exact ⟨rfl,l',HHi.out.done (fun i h1 h2 h3=>by have:=hmin.out i h1 h2 h3;rw [zBu] at this hq ⊢;omega),HK2.out⟩
    ·go_wp2_with fail;refine (HKp.out.before HM.out.symm HA.out.symm HBL.out HALL.out hq).mono ?_;rintro e w2 ⟨rfl,hk2⟩;have HK2:=zAb hk2;clear hk2;go_wp2_with fail;refine (HK2.out.swaps HM.out.symm HA.out.symm HBL.out HALL.out).mono ?_;rintro e w3 ⟨rfl,hk3⟩;have HK3:=zAb hk3;clear hk3;go_wp2_with fail;go_roundw
     case rel=>exact ⟨m,2*(m)+1,_,zDi (by have:=HM.out;omega),zDi (by have:=HM.out;omega),rfl,.inl (by rw [zBa];exact HBL.out),by rw [zBa];exact HLL.out,HHi.out.next HBL.out (by have:=HMA.out;omega) (by have:=HE.out;omega) hq hmin.out,HK3.out⟩
     case measure=>have:=HMA.out;have:=HA.out;have:=HM.out;have:=HBL.out;have:=HLL.out;simp [intOf];omega
  ·have hbi:¬M<(l.length:Nat):=by omega
   clear hA hM;go_wp2_with fail;go_end0
   exact ⟨rfl,l',HHi.out.done (fun i h1 h2 h3=>by rcases HCh.out i h1 h3 with rfl|rfl<;>omega),HKp.out⟩
def zZc:Value:=.agg #[O ii 0,O ii 0,O ii 0,O ii 0,O ii 0]
theorem zKo:(pg.info? 215).map (fun i=>(i.zero,i.size,i.bytes))=some (some zZc,5,40):=by kernel_rfl
theorem zSo {r:It}:∀u∈r.cs,u.oneCell'=true:=by
 intro u hu;simp only [It.cs,List.mem_cons,List.not_mem_nil,or_false] at hu;rcases hu with rfl|rfl|rfl|rfl|rfl<;>rfl
theorem zO2 (w:World) (r:It):∀j u,r.cs[j]? = some u->(w.alloc (.cells #[O ii r.x,O ii r.y,O ii r.c,O ii r.f,O ii r.p] 215)).cell? ((⟨w.heap.size,0,none⟩:Addr).add j)=some u:=by
 intro j u hu;rw [Addr.add_lit,Nat.zero_add,cell_of_row _ w.heap.size j _ _ _ (heap_alloc_new w _)];simpa [It.cs] using hu
theorem zCe {P:Program} {ev:Operand->Value} {o:Oper} {w w':World} {s x:Operand} {t:TypeId} {v xv v':Value} (ho:o.op = .call { callee:=.builtin .append,args:=#[s,x],argTypes:=#[t,t] })
 (hs:ev s=v) (hx:ev x=xv) (hr:(Builtin.append_ #[t,t] o.type #[v,xv]).run P w = .ok v' w'):(execOp ev o).run P w = .ok (.value v') w':=by
 unfold execOp;simp only [ho,resolve,invoke,builtin,Sem.run_bind,Sem.run_pure,Result.andThen_ok,List.map_toArray,List.map_cons,List.map_nil,hs,hx,hr]
theorem zJx {ev:Operand->Value} {o:Oper} {w:World} {x:Operand} {b:Nat} (ho:o.op = .fieldAddr 185 x 2) (hx:ev x = .pointer (some ⟨b,0,none⟩)):(execOp ev o).run pg w = .ok (.value (.pointer (some ⟨b,2,none⟩))) w:=by
 unfold execOp;rw [ho];simp only [hx];go_simp
theorem zXc {ev:Operand->Value} {o:Oper} {w:World} {x:Operand} {ad:Addr} {n:Int} (ho:o.op = .load 3 x) (hx:ev x = .pointer (some ad)) (h0:w.cell? ad=some (O ii n)):(execOp ev o).run pg w = .ok (.value (O ii n)) w:=by
 unfold execOp;rw [ho];simp only [hx];go_simp
theorem zH0 {ev:Operand->Value} {o:Oper} {w:World} {x1 x2:Operand} {x y c f n:Int} (ho:o.op = .build 215 #[(0,x1),(1,x2)]) (h1:ev x1=rv x y c f) (h2:ev x2 = O ii n):(execOp ev o).run pg w = .ok (.value (⟨x,y,c,f,n⟩:It).v) w:=by
 unfold execOp;rw [ho];simp only [List.map_toArray,List.map_cons,List.map_nil,h1,h2];go_simp
theorem zJu {ev:Operand->Value} {o:Oper} {w:World} {x1:Operand} {t:It} (ho:o.op = .buildSlice 183 1 #[(0,x1)]) (h1:ev x1=t.v):(execOp ev o).run pg w = .ok (.value (.slice (some ⟨w.heap.size,0,none⟩) 1 1)) (w.alloc (.cells #[O ii t.x,O ii t.y,O ii t.c,O ii t.f,O ii t.p] 215)):=by
 unfold execOp;rw [ho];simp only [List.map_toArray,List.map_cons,List.map_nil,h1];go_simp
theorem zEv {ev:Operand->Value} {o:Oper} {w:World} {ad:Addr} {x t:Operand} {v v0:Value} (ho:o.op = .store 183 x t) (hx:ev x = .pointer (some ad)) (ht:ev t=v) (hv:∃av n c,v = .slice av n c) (hc:w.cell? ad=some v0) (hf:w.frozen? ad=false) :
 (execOp ev o).run pg w = .ok .skip (w.setCell ad v):=by
 obtain ⟨av,n,c,rfl⟩:=hv;unfold execOp;rw [ho];simp only [hx,ht];go_simp
def Hs (w:World) (b:Nat) (v:Value) (n:Int) (S:List It):Prop:=∃l,Hp w b v n false/\Its w v l/\Heap l/\l.Perm S
theorem Hs.kept {w w':World} {b:Nat} {v:Value} {n:Int} {S:List It} {T:Nat->Prop} (h:Hs w b v n S) (ht:Turns T w w') (h1:¬T b) (h2:∀k,v.ownBlock=some k->¬T k):Hs w' b v n S:=by
 obtain ⟨l,a1,a2,a3,a4⟩:=h;exact ⟨l,a1.kept ht h1,a2.kept ht h2,a3,a4⟩
theorem Hs.upto {w w':World} {b:Nat} {v:Value} {n:Int} {S:List It} (h:Hs w b v n S) (hb:Below w.heap.size w w'):Hs w' b v n S:=h.kept (T:=NoB) (Turns.of_below hb) id (fun _ _=>id)
def zHo (w:World) (b:Nat) (v:Value) (n:Int) (S:List It) (t:It) (w':World):Prop:=
 ∃v',Hs w' b v' (n+1) (t::S)/\Turns (fun k=>k=b\/v.ownBlock=some k) w w'/\∀k,v'.ownBlock=some k->v.ownBlock=some k\/w.heap.size<=k
theorem push_is (b:Nat) (v:Value) (n:Int) (S:List It) (x y c f:Int) (w:World) (h:Hs w b v n S) (hn:0<=n/\n+1<=9223372036854775807) (hlen:(S.length+1)*40<=140737488355328) :
 Calls pg 113 #[ptr b,rv x y c f] w fun e w'=>e = .returned (.tuple #[])/\zHo w b v n S ⟨x,y,c,f,n⟩ w':=by
 obtain ⟨l,hp,hv,hH,hS⟩:=h;have hll:l.length=S.length:=hS.length_eq;obtain ⟨X,hX⟩:=ex (w.alloc (.cells #[O ii x,O ii y,O ii c,O ii f] 146));have B0:Below w.heap.size w X:=hX▸zAh _ _;have F0:Four X w.heap.size x y c f:=by rw [<-hX];simp [Four,go_sem]
 have hpX:=hp.upto B0;have hvX:=hv.upto B0;have hlt:=hp.lt;have hne:=hpX.ne_row hvX (by decide)
 have hvw:∀k,v.ownBlock=some k->k<w.heap.size:=fun k e=>by
  rcases hv.2 with ⟨rfl,_⟩|⟨g,cap,cur,rfl,_,hg,_⟩
  ·simp [Value.ownBlock] at e
  ·simp [Value.ownBlock] at e;subst e;exact (gE.1 hg).1
 have HT:=zAb (zDl b v n false X hpX);obtain ⟨fi,hf,hz,h5,h40⟩:=info_parts zKo;obtain ⟨Y1,hY1⟩:=ex (X.drew.alloc (.cells #[O ii x,O ii y,O ii c,O ii f,O ii n] 215));have B1:Below X.heap.size X Y1:=by rw [<-hY1];exact bt (Below.refl _ _).drew (zAh _ _)
 have hv1:=hvX.upto B1;have hnew:∀j u,(⟨x,y,c,f,n⟩:It).cs[j]? = some u->Y1.cell? ((⟨X.drew.heap.size,0,none⟩:Addr).add j)=some u:=by rw [<-hY1];exact zO2 X.drew ⟨x,y,c,f,n⟩
 obtain ⟨v3,w3,r3,o3,g3,-,l3⟩:=run_append_own_at (P:=pg) Y1 0 183 183 215 fi zZc 5 40 Tryz.underlying183 hf hz h5 h40 rfl (by decide) v l.length _ hv1 ⟨X.drew.heap.size,0,none⟩ 1 1 (⟨x,y,c,f,n⟩:It).cs rfl hnew zSo (by unfold maxLen;omega) (by omega) (Nat.zero_le _);have hr3:Its w3 v3 (l++[⟨x,y,c,f,n⟩]):=by simpa [Its] using o3
 have T1:Turns (fun k=>v.ownBlock=some k) X w3:=(Turns.of_below B1).trans ((Turns.of_grown (S:=fun k=>v.ownBlock=some k) g3 (fun k e=>e)).mono (fun k _ e => .inl e));have hp3:=hpX.kept T1 hne;have hsl3:∃av n c,v3 = .slice av n c:=by obtain ⟨a3,c3,e3,-⟩:=hr3.slice;exact ⟨_,_,_,e3⟩
 have hp4:=hp3.set1 v3;have hp5:=hp4.set2 (n+1)
 have T4:Turns (fun j=>j=b) w3 ((w3.setCell ⟨b,1,none⟩ v3).setCell ⟨b,2,none⟩ (O ii (n+1))):=
  (Turns.set (S:=fun j=>j=b) w3 (p:=⟨b,1,none⟩) rfl _).trans ((Turns.set (S:=fun j=>j=b) _ (p:=⟨b,2,none⟩) rfl _).mono (fun _ _ e => .inl e))
 have hr5:=hr3.kept T4 (fun j e q=>by subst q;exact hp3.ne_row hr3 (by decide) e);have hl5:(l++[(⟨x,y,c,f,n⟩:It)]).length-1=l.length:=by simp
 have HL:=zAb (zKh b v3 (n+1) (l++[⟨x,y,c,f,n⟩]) _ hp5 hr5 (by simp) (by rw [hl5];exact Low.push hH ⟨x,y,c,f,n⟩))
 have TW:Turns (fun j=>j=b\/v.ownBlock=some j) w ((w3.setCell ⟨b,1,none⟩ v3).setCell ⟨b,2,none⟩ (O ii (n+1))):=
  ((Turns.of_below (S:=fun j=>j=b\/v.ownBlock=some j) B0).trans (T1.mono (fun _ _ e => .inl (.inr e)))).trans (T4.mono (fun _ _ e => .inl (.inl e)))
 have hown3:∀k,v3.ownBlock=some k->v.ownBlock=some k\/w.heap.size<=k:=fun k e=>by
  rcases l3 with q|q
  ·exact .inl (q▸e)
  ·rw [q] at e;cases e;have:=(bt B0 B1).size;exact .inr this
 have HEn:Hid (∀l' w',Heap l'->Kp ((w3.setCell ⟨b,1,none⟩ v3).setCell ⟨b,2,none⟩ (O ii (n+1))) b v3 (n+1) (l++[⟨x,y,c,f,n⟩]) l' w'->zHo w b v n S ⟨x,y,c,f,n⟩ w'):=zAb (fun l' w' hh hk=>by
  refine ⟨v3,⟨l',hk.2.2.1,hk.1,hh,hk.2.1.trans ((List.perm_append_comm).trans (List.Perm.cons _ hS))⟩,TW.trans (hk.2.2.2.mono (fun k _ e=>?_)),hown3⟩;rcases hown3 k e with q|q
  ·exact .inl (.inr q)
  ·exact .inr q)
 obtain ⟨va,vc,hve,-⟩:=hv.slice;subst hve;have HS:Hid ((fun wx:World=>wx.cell? ⟨b,1,none⟩=some (.slice va l.length vc)/\wx.cell? ⟨b,2,none⟩=some (O ii n)/\Four wx w.heap.size x y c f) X.drew):=zAb ⟨hpX.c 1,hpX.c 2,F0⟩;have HS1:Hid ((fun wx:World=>wx.cell? ⟨b,1,none⟩=some (.slice va l.length vc)/\wx.cell? ⟨b,2,none⟩=some (O ii n)/\Four wx w.heap.size x y c f) Y1):=zAb ⟨(hpX.upto B1).c 1,(hpX.upto B1).c 2,F0.kept B1⟩;have HS3:Hid ((fun wx:World=>wx.cell? ⟨b,1,none⟩=some (.slice va l.length vc)/\wx.cell? ⟨b,2,none⟩=some (O ii n)/\Four wx w.heap.size x y c f) w3):=zAb ⟨hp3.c 1,hp3.c 2,F0.turned T1 (fun e=>by have:=hvw _ e;omega)⟩;have k1:w3.cell? ⟨b,1,none⟩=some (.slice va l.length vc):=hp3.c 1;have f1:=hp3.f 1;have k2:(w3.setCell ⟨b,1,none⟩ v3).cell? ⟨b,2,none⟩=some (O ii n):=hp4.c 2;have f2:=hp4.f 2;have HX:=zAb hX;have HY1:=zAb hY1;have HA:=zAb r3;clear hX hY1 r3 o3 g3 l3 hr3 T1 hp3 hp4 hp5 T4 hr5 TW hown3 hnew hv1 B1 F0 hpX hvX hv hp B0 hf hz h5 h40;go_enter func113,ntmps113;go_wp2_with (rw [HX.out]);refine HT.out.mono ?_;rintro e w1 ⟨rfl,hw1⟩;have hw2:=hw1.symm;clear hw1;subst hw2;go_wp2_with fail;refine zAj ?_;refine zAe (fun wx:World=>wx.cell? ⟨b,1,none⟩=some (.slice va l.length vc)/\wx.cell? ⟨b,2,none⟩=some (O ii n)/\Four wx w.heap.size x y c f) [15] (by kernel_rfl) ?_;refine zv 0 2 8 [ptr b,ptr b] rfl rfl (by kernel_rfl) HS.out ?_;repeat (refine zo rfl (by rfl) rfl (by rfl) ?_;simp only [zp])
 refine zn ?_;refine zt 2 8 (ptr b) rfl (by kernel_rfl) (by rfl) (fun wx hx=>zA7 (by rfl) (by rfl)) HS.out ?_;try simp only [zp]
 refine zt 3 8 (.pointer (some ⟨b,1,none⟩)) rfl (by kernel_rfl) (by rfl) (fun wx hx=>zAz (by rfl) (by rfl)) HS.out ?_;try simp only [zp]
 refine zt 4 8 (.slice va l.length vc) rfl (by kernel_rfl) (by rfl) (fun wx hx=>zA2 (by rfl) (by rfl) hx.1) HS.out ?_;try simp only [zp]
 refine zt 5 8 (rv x y c f) rfl (by kernel_rfl) (by rfl) (fun wx hx=>zEd (by rfl) (by rfl) hx.2.2.1.1 hx.2.2.1.2.1 hx.2.2.1.2.2.1 hx.2.2.1.2.2.2) HS.out ?_;try simp only [zp]
 refine zm 6 8 (ptr b) rfl (by kernel_rfl) (by rfl) rfl (by rfl) HS.out ?_;try simp only [zp]
 refine zt 7 8 (ptr b) rfl (by kernel_rfl) (by rfl) (fun wx hx=>zA7 (by rfl) (by rfl)) HS.out ?_;try simp only [zp]
 refine zt 8 8 (.pointer (some ⟨b,2,none⟩)) rfl (by kernel_rfl) (by rfl) (fun wx hx=>zJx (by rfl) (by rfl)) HS.out ?_;try simp only [zp]
 refine zt 9 8 (O ii n) rfl (by kernel_rfl) (by rfl) (fun wx hx=>zXc (by rfl) (by rfl) hx.2.1) HS.out ?_;try simp only [zp]
 refine zt 10 8 ((⟨x,y,c,f,n⟩:It).v) rfl (by kernel_rfl) (by rfl) (fun wx hx=>zH0 (by rfl) (by rfl) (by rfl)) HS.out ?_;try simp only [zp]
 refine zq 11 (by kernel_rfl) rfl rfl (zJu (t:=⟨x,y,c,f,n⟩) (by rfl) (by rfl)) (fun _=>by rw [HY1.out];exact HS1.out) ?_;rw [HY1.out];try simp only [zp]
 refine zq 12 (by kernel_rfl) rfl rfl (zCe (by rfl) (by rfl) (by rfl) HA.out) (fun _=>HS3.out) ?_;try simp only [zp]
 refine zt 13 8 (ptr b) rfl (by kernel_rfl) (by rfl) (fun wx hx=>zA7 (by rfl) (by rfl)) HS3.out ?_;try simp only [zp]
 refine zt 14 8 (.pointer (some ⟨b,1,none⟩)) rfl (by kernel_rfl) (by rfl) (fun wx hx=>zAz (by rfl) (by rfl)) HS3.out ?_;try simp only [zp]
 refine zw 15 [] (by kernel_rfl) ?_;refine readyZ.skip rfl rfl (zEv (by rfl) (by rfl) (by rfl) hsl3 k1 f1) (fun h=>absurd (by decide) h) ?_ readyZ.nil;try simp only [zp]
 refine zAd (by kernel_rfl) ?_ _;dsimp only [zAv,Exit.then];go_wp2_with fail;refine HL.out.mono ?_;rintro e w5 ⟨rfl,l',hh,hk⟩;have HQ:=zAb (HEn.out l' w5 hh hk);clear hh hk;go_wp2_with fail;go_end0
 exact ⟨rfl,HQ.out⟩
theorem Its.take {w:World} {g cap q:Nat} {l:List It} (h:Its w (.slice (some ⟨g,0,none⟩) l.length cap) l) (hq:l.length=q+1):Its w (.slice (some ⟨g,0,none⟩) q cap) (l.take q):=by
 have e:l.flatMap It.cs=(l.take q).flatMap It.cs++(l.drop q).flatMap It.cs:=by rw [<-List.flatMap_append,List.take_append_drop]
 have hl:(l.take q).length=q:=by simp;omega
 unfold Its at h ⊢;rw [hq,e] at h;rw [hl];exact ownsRow_pop (by rw [It.cs_len,hl]) h
theorem zLl {l:List It} {q:Nat} (t:It) (hq:l.length=q+1):((l.set 0 (nth l q)).set q t).take q=pop l:=by
 unfold pop;rw [List.take_set_of_le (by omega),hq];simp
def zJk (w:World) (b:Nat) (v:Value) (n:Int) (S:List It) (t:It) (w':World):Prop:=
 ∃v' S',S.Perm (t::S')/\(∀u∈S,lt u t=false)/\Hs w' b v' n S'/\Turns (fun k=>k=b\/v.ownBlock=some k) w w'/\∀k,v'.ownBlock=some k->v.ownBlock=some k
theorem zSm (b:Nat) (a:Option Addr) (cap:Nat) (n:Int) (q:Bool) (w:World) (h:Hp w b (.slice a 0 cap) n q) :
 Calls pg 148 #[ptr b] w fun e w'=>e = .returned (.tuple #[rv 0 0 0 0,.bool false])/\Below w.heap.size w w':=by
 have HL:=zAb (zEk b a 0 cap n q _ (h.upto (zAh w (.cells #[O ii 0,O ii 0,O ii 0,O ii 0] 146))));go_enter func148,ntmps148;go_wp2_with (go_at_call 169;refine HL.out.mono ?_;rintro e w1 ⟨rfl,rfl⟩);refine bodyPost_ret (v:=.tuple #[rv 0 0 0 0,.bool false]) (by simp [results,Tryz.results148,go_sem]) rfl ⟨rfl,zBe _ _ _⟩
theorem zIz {ev:Operand->Value} {o:Oper} {w:World} {x:Operand} {g n cap:Nat} (ho:o.op = .indexAddr 183 x (.const (.int .i64 0))) (hx:ev x = .slice (some ⟨g,0,none⟩) n cap) (hc:ev (.const (.int .i64 0)) = .int .i64 0) (hn:0<n):(execOp ev o).run pg w = .ok (.value (.pointer (some ⟨g,0,none⟩))) w:=by
 have h1:(0:Int)<(n:Nat):=by omega
 unfold execOp;rw [ho];simp only [hx,hc];go_simp
theorem zJw {ev:Operand->Value} {o:Oper} {w:World} {x:Operand} {g k:Nat} (ho:o.op = .fieldAddr 215 x 0) (hx:ev x = .pointer (some ⟨g,k,none⟩)):(execOp ev o).run pg w = .ok (.value (.pointer (some ⟨g,k,none⟩))) w:=by
 unfold execOp;rw [ho];simp only [hx];go_simp
theorem zJv {ev:Operand->Value} {o:Oper} {w:World} {x:Operand} {a:Option Addr} {n c:Nat} (ho:o.op = .call { callee:=.builtin .len,args:=#[x],argTypes:=#[183] }) (hx:ev x = .slice a n c):(execOp ev o).run pg w = .ok (.value (O ii (n:Nat))) w:=by
 unfold execOp;simp only [ho,resolve,invoke,builtin,Sem.run_bind,Sem.run_pure,Result.andThen_ok,List.map_toArray,List.map_cons,List.map_nil,hx];go_simp
theorem zLd {ev:Operand->Value} {o:Oper} {w:World} {x:Operand} {n q:Nat} (ho:o.op = .binOp .sub 3 x (.const (.int .i64 1)) 3) (hx:ev x = .int .i64 (n:Nat)) (hc:ev (.const (.int .i64 1)) = .int .i64 1) (hn:n=q+1) (hb:n<=1152921504606846976):(execOp ev o).run pg w = .ok (.value (.int .i64 (q:Nat))) w:=by
 have h1:((n:Nat):Int)-1=(q:Nat):=by omega
 have h2:IntKind.i64.wrap ((q:Nat):Int)=(q:Nat):=IntWalk.i64_in _ (by omega);unfold execOp;rw [ho];simp only [hx,hc];go_simp
theorem zF6 {ev:Operand->Value} {o:Oper} {w:World} (ho:o.op = .alloc 146):(execOp ev o).run pg w = .ok (.value (.pointer (some ⟨w.heap.size,0,none⟩))) (w.alloc (.cells #[O ii 0,O ii 0,O ii 0,O ii 0] 146)):=by
 unfold execOp;rw [ho];go_simp
theorem zF3 {ev:Operand->Value} {o:Oper} {w:World} {x y:Operand} {k:Nat} {p q c d p0 q0 c0 d0:Int} (ho:o.op = .store 146 x y) (hx:ev x = .pointer (some ⟨k,0,none⟩)) (hy:ev y=rv p q c d) (hc:Four w k p0 q0 c0 d0) :
 (execOp ev o).run pg w = .ok .skip ((((w.setCell ⟨k,0,none⟩ (O ii p)).setCell ⟨k,1,none⟩ (O ii q)).setCell ⟨k,2,none⟩ (O ii c)).setCell ⟨k,3,none⟩ (O ii d)):=by
 obtain ⟨⟨h0,h1,h2,h3⟩,⟨f0,f1,f2,f3⟩,-⟩:=hc;unfold execOp;rw [ho];simp only [hx,hy];go_simp
theorem zB6 {w:World} {k:Nat} {p q c d p0 q0 c0 d0:Int} (h:Four w k p0 q0 c0 d0):Four ((((w.setCell ⟨k,0,none⟩ (O ii p)).setCell ⟨k,1,none⟩ (O ii q)).setCell ⟨k,2,none⟩ (O ii c)).setCell ⟨k,3,none⟩ (O ii d)) k p q c d:=by
 obtain ⟨⟨h0,h1,h2,h3⟩,⟨f0,f1,f2,f3⟩,hz⟩:=h;refine ⟨⟨?_,?_,?_,?_⟩,⟨?_,?_,?_,?_⟩,?_⟩<;>simp [go_sem,h0,h1,h2,h3,f0,f1,f2,f3,hz]
theorem zDu (w:World) (g:Nat) (a b c d:Value):Turns (fun j=>j=g) w ((((w.setCell ⟨g,0,none⟩ a).setCell ⟨g,1,none⟩ b).setCell ⟨g,2,none⟩ c).setCell ⟨g,3,none⟩ d):=
 (((Turns.set (S:=fun j=>j=g) w (p:=⟨g,0,none⟩) rfl a).trans ((Turns.set (S:=fun j=>j=g) _ (p:=⟨g,1,none⟩) rfl b).mono (fun _ _ h => .inl h))).trans ((Turns.set (S:=fun j=>j=g) _ (p:=⟨g,2,none⟩) rfl c).mono (fun _ _ h => .inl h))).trans ((Turns.set (S:=fun j=>j=g) _ (p:=⟨g,3,none⟩) rfl d).mono (fun _ _ h => .inl h))
def it0:It:=⟨0,0,0,0,0⟩
theorem zJ3 (b:Nat) (n:Int) (l:List It) (g cap q L:Nat) (D:World) (hp:Hp D b (.slice (some ⟨g,0,none⟩) L cap) n false) (hv:Its D (.slice (some ⟨g,0,none⟩) L cap) l) (hL:l.length=L) (hq:L=q+1) (hgb:g≠b) :
 ∃(W1 W2 W3:World) (u:It),zBc D g 0 (nth l q)=W1/\((((W1.setCell ⟨g,q*5,none⟩ (O ii 0)).setCell ⟨g,q*5+1,none⟩ (O ii 0)).setCell ⟨g,q*5+2,none⟩ (O ii 0)).setCell ⟨g,q*5+3,none⟩ (O ii 0)).setCell ⟨g,q*5+4,none⟩ (O ii 0)=W2/\W2.setCell ⟨b,1,none⟩ (.slice (some ⟨g,0,none⟩) q cap)=W3/\
  C5 D g 0 (nth l 0)/\C5 D g (q*5) (nth l q)/\(∀o,D.frozen? ⟨g,o,none⟩=false)/\C5 W1 g (q*5) u/\(∀o,W1.frozen? ⟨g,o,none⟩=false)/\W1.cell? ⟨b,1,none⟩=some (.slice (some ⟨g,0,none⟩) L cap)/\W2.cell? ⟨b,1,none⟩=some (.slice (some ⟨g,0,none⟩) L cap)/\W2.frozen? ⟨b,1,none⟩=false/\
  Hp W3 b (.slice (some ⟨g,0,none⟩) q cap) n false/\Its W3 (.slice (some ⟨g,0,none⟩) q cap) (pop l)/\Turns (fun k=>k=b\/k=g) D W3:=by
 subst hL;have hl0:0<l.length:=by omega
 have a0:=hv.at (zBl hl0);have aq:=hv.at (zBl (i:=q) (by omega));have v1:=hv.set hl0 (nth l q);have T1:=zAt D g (0*5) (nth l q);have p1:=hp.kept T1 (fun e=>hgb e.symm);have e1:(l.set 0 (nth l q)).length=l.length:=List.length_set;have v1':Its (zBc D g (0*5) (nth l q)) (.slice (some ⟨g,0,none⟩) (l.set 0 (nth l q)).length cap) (l.set 0 (nth l q)):=by rw [e1];exact v1
 have a1:=v1'.at (zBl (i:=q) (by rw [e1];omega));have v2:=v1'.set (j:=q) (by rw [e1];omega) it0;have T2:=zAt (zBc D g (0*5) (nth l q)) g (q*5) it0;have p2:=p1.kept T2 (fun e=>hgb e.symm);have v2':Its (zBc (zBc D g (0*5) (nth l q)) g (q*5) it0) (.slice (some ⟨g,0,none⟩) ((l.set 0 (nth l q)).set q it0).length cap) ((l.set 0 (nth l q)).set q it0):=by rw [List.length_set];exact v2
 have v3:=v2'.take (q:=q) (by rw [List.length_set,e1];exact hq);rw [zLl _ hq] at v3;have p3:=p2.set1 (.slice (some ⟨g,0,none⟩) q cap);have T3:Turns (fun k=>k=b) (zBc (zBc D g (0*5) (nth l q)) g (q*5) it0) ((zBc (zBc D g (0*5) (nth l q)) g (q*5) it0).setCell ⟨b,1,none⟩ (.slice (some ⟨g,0,none⟩) q cap)):=Turns.set (S:=fun k=>k=b) _ (p:=⟨b,1,none⟩) rfl _;have v4:=v3.kept T3 (fun k e c=>by subst c;simp [Value.ownBlock] at e;exact hgb e);refine ⟨_,_,_,_,rfl,rfl,rfl,?_,aq.1,a0.2,a1.1,a1.2,p1.c 1,p2.c 1,p2.f 1,p3,v4,?_⟩
 ·have:=a0.1;simpa using this
 ·have t1:Turns (fun k=>k=b\/k=g) D (zBc D g (0*5) (nth l q)):=(Turns.refl _ D).trans (T1.mono (fun k _ e => .inl (.inr e)));exact (t1.trans (T2.mono (fun k _ e => .inl (.inr e)))).trans (T3.mono (fun k _ e => .inl (.inl e)))
theorem pop_yes (b:Nat) (v:Value) (n:Int) (S:List It) (w:World) (h:Hs w b v n S) (hl:0<S.length) (hlen:S.length<=1152921504606846976) :
 Calls pg 148 #[ptr b] w fun e w'=>∃t,e = .returned (.tuple #[rv t.x t.y t.c t.f,.bool true])/\zJk w b v n S t w':=by
 obtain ⟨l,hp,hv,hH,hS⟩:=h;have hll:l.length=S.length:=hS.length_eq;obtain ⟨q,hq⟩:∃q,l.length=q+1:=⟨l.length-1,by omega⟩
 have hl0:0<l.length:=by omega
 obtain ⟨X,hX⟩:=ex (w.alloc (.cells #[O ii 0,O ii 0,O ii 0,O ii 0] 146));have B0:Below w.heap.size w X:=hX▸zAh _ _;have F0:Four X w.heap.size 0 0 0 0:=by rw [<-hX];simp [Four,go_sem]
 have zX:X.heap.size=w.heap.size+1:=by rw [<-hX];simp
 have hpX:=hp.upto B0;have hvX:=hv.upto B0;have hgb:=hpX.ne_row hvX (by decide);obtain ⟨g,cap,rfl,hcap,hmax,hg⟩:=hv.form hl0;have hpl:=hp.lt;have hgb':g≠b:=fun e=>hgb (by rw [e];rfl);have HL:=zAb (zEk b _ _ cap n false _ hpX);have HT:=zAb (zDl b _ n false _ hpX);obtain ⟨t,ht⟩:=ex (nth l 0);obtain ⟨z,hz⟩:=ex (nth l q);have hi0:l[0]? = some t:=by rw [<-ht];exact zBl hl0
 have hiq:l[q]? = some z:=by rw [<-hz];exact zBl (by omega)
 have hne:¬((l.length:Nat):Int)=0:=by omega
 have hneb:(((l.length:Nat):Int)==0)=false:=beq_eq_false_iff_ne.2 hne;have HKp:Hid (∀wx,Below X.heap.size X wx->Hp wx b (.slice (some ⟨g,0,none⟩) l.length cap) n false/\Its wx (.slice (some ⟨g,0,none⟩) l.length cap) l/\Four wx w.heap.size 0 0 0 0/\C5 wx g 0 t):=zAb (fun wx hb=>⟨hpX.upto hb,hvX.upto hb,F0.kept hb,by have:=((hvX.upto hb).at hi0).1;simpa using this⟩);have HB0:=zAb B0;have HZ:=zAb zX;have HTop:Hid (∀u∈S,lt u t=false):=zAb (fun u hu=>by rw [<-ht];exact hH.least (hS.mem_iff.2 hu));have HX:=zAb hX;clear hX B0 F0 hpX hvX hv hp zX hgb hi0 hiq hne hneb;have HQ:=zAb hq;generalize hL:l.length=L at HL HKp hq hl0 hcap hll ⊢;have HLe:=zAb hL;have hLz:¬L=0:=by omega
 have hLd:decide (((L:Nat):Int)=0)=false:=by simp;omega
 go_enter func148,ntmps148;go_wp2_with (rw [HX.out]);refine HL.out.mono ?_;rintro e w1 ⟨rfl,hw1⟩;have hw2:=hw1.symm;clear hw1;subst hw2;go_wp2_with fail;refine HT.out.mono ?_;rintro e w1 ⟨rfl,hw1⟩;have hw2:=hw1.symm;clear hw1;subst hw2;go_wp2_with fail;refine Code.wp_mono (Q:=zAv (fun a' Y=>(Below X.heap.size X Y/\Four Y X.heap.size t.x t.y t.c t.f)/\∃u:Nat->Value,a'={ tmps:=#[ptr b,undef,ptr w.heap.size,.bool false,u 4,ptr X.heap.size,O ii (q:Nat),u 7,u 8,u 9,u 10,u 11,u 12,u 13,u 14,u 15,u 16,u 17,u 18,u 19,u 20,u 21,u 22,u 23,u 24,u 25,u 26,u 27,u 28,undef,undef,undef,undef,undef,undef,undef,undef,undef,undef,undef,undef,undef,undef,undef,undef,undef,undef,undef,undef,undef,undef,undef,undef,undef,undef,undef,undef,undef,undef,undef],defers:=[] })) ?rest ?_
 case rest =>
  rintro (_|_|_|_|_) a' Y hO;all_goals first|exact hO.elim|skip
  obtain ⟨⟨hB,hF⟩,u,rfl⟩:=hO;obtain ⟨kp,kv,kf,-⟩:=HKp.out Y hB;obtain ⟨W1,W2,W3,u5,e1,e2,e3,c0,cq,fz,c1,fz1,b1,b2,fb2,p3,v3,T3⟩:=zJ3 b n l g cap q L Y.drew kp kv hL hq hgb';rw [hz] at e1 cq;rw [ht] at c0;have szY:w.heap.size<X.heap.size:=by have:=HZ.out;omega
  have szX:=hB.size;have f0:Four W3 w.heap.size 0 0 0 0:=Four.turned (show Four Y.drew w.heap.size 0 0 0 0 from kf) T3 (by omega);have f1:Four W3 X.heap.size t.x t.y t.c t.f:=Four.turned (show Four Y.drew X.heap.size t.x t.y t.c t.f from hF) T3 (by omega)
  have TV:Turns (fun k=>k=b\/(Value.slice (some ⟨g,0,none⟩) L cap).ownBlock=some k) w W3:=
   (Turns.of_below ((bt HB0.out hB).drew)).trans (T3.mono (fun k _ e => .inl (e.imp id (fun e=>by rw [e];rfl))))
  have HSk:=zAb (zJq b _ n (pop l) W3 p3 v3 (by rw [zJ4];omega) (High.pop hH))
  have HFin:Hid (∀w4 l',Heap l'->Kp W3 b (.slice (some ⟨g,0,none⟩) q cap) n (pop l) l' w4->∀w5,Turns (fun k=>k=w.heap.size) w4 w5->zJk w b (.slice (some ⟨g,0,none⟩) L cap) n S t w5):=zAb fun w4 l' hH4 hk4 w5 ht5=>by
   obtain ⟨k1,k2,k3,k4⟩:=hk4;refine ⟨.slice (some ⟨g,0,none⟩) q cap,pop l,?_,HTop.out,⟨l',k3.kept ht5 (by omega),k1.kept ht5 (fun k e c=>?_),hH4,k2⟩,?_,fun k e=>e⟩
   ·exact hS.symm.trans (ht▸zLm (by omega))
   ·subst c;simp [Value.ownBlock] at e;omega
   ·exact (TV.trans (k4.mono (fun k _ e => .inl (.inr e)))).trans (ht5.mono (fun k hk e => .inr (Nat.le_of_eq e.symm)))
  have HKB:Hid (∀w4 l',Kp W3 b (.slice (some ⟨g,0,none⟩) q cap) n (pop l) l' w4->Four w4 w.heap.size 0 0 0 0/\Four w4 X.heap.size t.x t.y t.c t.f):=zAb fun w4 l' hk=>⟨f0.turned hk.2.2.2 (by simp [Value.ownBlock];omega),f1.turned hk.2.2.2 (by simp [Value.ownBlock];omega)⟩
  have HE1:=zAb e1;have HE2:=zAb e2;have HE3:=zAb e3;have hql:q<L:=by omega
  have hqli:(q:Int)<(L:Nat):=by omega
  have hqc:(q:Int)<=(cap:Nat):=by omega
  have hS5:(fun wx:World=>wx.cell? ⟨b,1,none⟩=some (.slice (some ⟨g,0,none⟩) L cap)/\C5 wx g (q*5) z) Y.drew:=⟨kp.c 1,cq⟩
  obtain ⟨g0,g1,g2,g3,g4⟩:=c1;have z0:=fz1 (q*5);have z1:=fz1 (q*5+1);have z2:=fz1 (q*5+2);have z3:=fz1 (q*5+3);have z4:=fz1 (q*5+4);clear e1 e2 e3 p3 v3 T3 TV f0 f1 kp kv kf hH hS hL hq hll hlen fz1 HKp HTop HL HT HX HQ HLe hl hLz hLd hB hF;dsimp only [Exit.then];rename_i a9;refine a9 _ _ ?_;clear a9;go_wp2_with fail;refine zAj ?_;refine zAe (fun wx:World=>wx.cell? ⟨b,1,none⟩=some (.slice (some ⟨g,0,none⟩) L cap)/\C5 wx g (q*5) z) [12] (by kernel_rfl) ?_;refine zm 0 8 (ptr b) rfl (by kernel_rfl) (by rfl) rfl (by rfl) hS5 ?_;try simp only [zp]
  refine zt 1 8 (ptr b) rfl (by kernel_rfl) (by rfl) (fun wx hx=>zA7 (by rfl) (by rfl)) hS5 ?_;try simp only [zp]
  refine zt 2 8 (.pointer (some ⟨b,1,none⟩)) rfl (by kernel_rfl) (by rfl) (fun wx hx=>zAz (by rfl) (by rfl)) hS5 ?_;try simp only [zp]
  refine zt 3 8 (.slice (some ⟨g,0,none⟩) L cap) rfl (by kernel_rfl) (by rfl) (fun wx hx=>zA2 (by rfl) (by rfl) hx.1) hS5 ?_;try simp only [zp]
  refine zm 4 8 (ptr b) rfl (by kernel_rfl) (by rfl) rfl (by rfl) hS5 ?_;try simp only [zp]
  refine zt 5 8 (ptr b) rfl (by kernel_rfl) (by rfl) (fun wx hx=>zA7 (by rfl) (by rfl)) hS5 ?_;try simp only [zp]
  refine zt 6 8 (.pointer (some ⟨b,1,none⟩)) rfl (by kernel_rfl) (by rfl) (fun wx hx=>zAz (by rfl) (by rfl)) hS5 ?_;try simp only [zp]
  refine zt 7 8 (.slice (some ⟨g,0,none⟩) L cap) rfl (by kernel_rfl) (by rfl) (fun wx hx=>zA2 (by rfl) (by rfl) hx.1) hS5 ?_;try simp only [zp]
  refine zm 8 8 (O ii (q:Nat)) rfl (by kernel_rfl) (by rfl) rfl (by rfl) hS5 ?_;try simp only [zp]
  refine zt 9 8 (.pointer (some ⟨g,q*5,none⟩)) rfl (by kernel_rfl) (by rfl) (fun wx hx=>zBt (by rfl) (by rfl) (by rfl) hql) hS5 ?_;try simp only [zp]
  refine zt 10 8 z.v rfl (by kernel_rfl) (by rfl) (fun wx hx=>zBx (by rfl) (by rfl) hx.2) hS5 ?_;try simp only [zp]
  refine zt 11 8 (.pointer (some ⟨g,0,none⟩)) rfl (by kernel_rfl) (by rfl) (fun wx hx=>zIz (by rfl) (by rfl) (by rfl) hl0) hS5 ?_;try simp only [zp]
  refine zw 12 [] (by kernel_rfl) ?_;refine readyZ.skip rfl rfl (zBs (by rfl) (by rfl) (by rfl) c0 fz) (fun h=>absurd (by decide) h) ?_ readyZ.nil;try simp only [zp]
  rw [HE1.out];refine zAd (by kernel_rfl) ?_ _;dsimp only [zAv,Exit.then];go_wp2_with (first|rw [HE2.out]|rw [HE3.out]);refine HSk.out.mono ?_;rintro e w4 ⟨rfl,l4,hH4,hk4⟩;obtain ⟨n0,n1⟩:=HKB.out w4 l4 hk4;obtain ⟨⟨m0,m1,m2,m3⟩,⟨m4,m5,m6,m7⟩,-⟩:=n0;obtain ⟨⟨o0,o1,o2,o3⟩,-,-⟩:=n1;have HFi:=zAb (HFin.out w4 l4 hH4 hk4 _ (zDu w4 w.heap.size (O ii t.x) (O ii t.y) (O ii t.c) (O ii t.f)));have hne2:¬X.heap.size=w.heap.size:=by omega
  clear hk4 hH4;go_wp2_with fail;refine bodyPost_ret (v:=.tuple #[rv t.x t.y t.c t.f,.bool true]) (by simp [results,Tryz.results148,go_sem,rv,m0,m1,m2,m3]) rfl ?_;exact ⟨t,rfl,HFi.out⟩
 have hvd:=(HKp.out X.drew (Below.refl _ _).drew)
 have hS4:(fun wx:World=>wx.cell? ⟨b,1,none⟩=some (.slice (some ⟨g,0,none⟩) L cap)/\C5 wx g 0 t) X.drew:=⟨hvd.1.c 1,hvd.2.2.2⟩
 refine zAe (fun wx:World=>wx.cell? ⟨b,1,none⟩=some (.slice (some ⟨g,0,none⟩) L cap)/\C5 wx g 0 t) [] (by kernel_rfl) ?_;refine zm 0 8 (ptr b) rfl (by kernel_rfl) (by rfl) rfl (by rfl) hS4 ?_;try simp only [zp]
 refine zt 1 8 (ptr b) rfl (by kernel_rfl) (by rfl) (fun wx hx=>zA7 (by rfl) (by rfl)) hS4 ?_;try simp only [zp]
 refine zt 2 8 (.pointer (some ⟨b,1,none⟩)) rfl (by kernel_rfl) (by rfl) (fun wx hx=>zAz (by rfl) (by rfl)) hS4 ?_;try simp only [zp]
 refine zt 3 8 (.slice (some ⟨g,0,none⟩) L cap) rfl (by kernel_rfl) (by rfl) (fun wx hx=>zA2 (by rfl) (by rfl) hx.1) hS4 ?_;try simp only [zp]
 refine zt 4 8 (.pointer (some ⟨g,0,none⟩)) rfl (by kernel_rfl) (by rfl) (fun wx hx=>zIz (by rfl) (by rfl) (by rfl) hl0) hS4 ?_;try simp only [zp]
 refine zt 5 8 (.pointer (some ⟨g,0,none⟩)) rfl (by kernel_rfl) (by rfl) (fun wx hx=>zJw (by rfl) (by rfl)) hS4 ?_;try simp only [zp]
 refine zt 6 8 (rv t.x t.y t.c t.f) rfl (by kernel_rfl) (by rfl) (fun wx hx=>zEd (by rfl) (by rfl) hx.2.1 hx.2.2.1 hx.2.2.2.1 hx.2.2.2.2.1) hS4 ?_;try simp only [zp]
 refine zm 7 8 (ptr b) rfl (by kernel_rfl) (by rfl) rfl (by rfl) hS4 ?_;try simp only [zp]
 refine zt 8 8 (ptr b) rfl (by kernel_rfl) (by rfl) (fun wx hx=>zA7 (by rfl) (by rfl)) hS4 ?_;try simp only [zp]
 refine zt 9 8 (.pointer (some ⟨b,1,none⟩)) rfl (by kernel_rfl) (by rfl) (fun wx hx=>zAz (by rfl) (by rfl)) hS4 ?_;try simp only [zp]
 refine zt 10 8 (.slice (some ⟨g,0,none⟩) L cap) rfl (by kernel_rfl) (by rfl) (fun wx hx=>zA2 (by rfl) (by rfl) hx.1) hS4 ?_;try simp only [zp]
 refine zt 11 8 (O ii (L:Nat)) rfl (by kernel_rfl) (by rfl) (fun wx hx=>zJv (by rfl) (by rfl)) hS4 ?_;try simp only [zp]
 refine zt 12 8 (O ii (q:Nat)) rfl (by kernel_rfl) (by rfl) (fun wx hx=>zLd (by rfl) (by rfl) (by rfl) hq (by omega)) hS4 ?_;try simp only [zp]
 have hb13:Below X.heap.size X (X.drew.alloc (.cells #[O ii 0,O ii 0,O ii 0,O ii 0] 146)):=bt (Below.refl _ _).drew (zAh _ _);have hF13:Four (X.drew.alloc (.cells #[O ii 0,O ii 0,O ii 0,O ii 0] 146)) X.drew.heap.size 0 0 0 0:=by simp [Four,go_sem]
 have hv13:=HKp.out _ hb13;refine zq 13 (by kernel_rfl) rfl rfl (zF6 (by rfl)) (fun _=>⟨hv13.1.c 1,hv13.2.2.2⟩) ?_;try simp only [zp]
 have t14:=zDu (X.drew.alloc (.cells #[O ii 0,O ii 0,O ii 0,O ii 0] 146)) X.drew.heap.size (O ii t.x) (O ii t.y) (O ii t.c) (O ii t.f);have hb14:=hb13.trans (t14.below (B:=X.heap.size) (fun k e=>by subst e;exact Nat.le_refl _) hb13.size);have hv14:=HKp.out _ hb14;have hF14:=zB6 (p:=t.x) (q:=t.y) (c:=t.c) (d:=t.f) hF13;refine zw 14 [] (by kernel_rfl) ?_;refine readyZ.skip rfl rfl (zF3 (by rfl) (by rfl) (by rfl) hF13) (fun _=>⟨hv14.1.c 1,hv14.2.2.2⟩) ?_ readyZ.nil;try simp only [zp]
 refine zq 15 (by kernel_rfl) rfl rfl (zBd (v:=O ii (q:Nat)) (by rfl) (by rfl)) (fun _=>⟨hv14.1.c 1,hv14.2.2.2⟩) ?_;try simp only [zp]
 exact zAd (by kernel_rfl) ⟨⟨hb14,hF14⟩,mkU _ _ _ rfl⟩ _
end Go.Proofs.YtejjcenhjpjefaaGreatDoor
