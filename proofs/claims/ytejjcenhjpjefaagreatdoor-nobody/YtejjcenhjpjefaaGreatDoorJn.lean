import Init
import Derived.Test.YtejjcenhjpjefaaGreatDoorNr
set_option linter.all false
set_option maxRecDepth 1000000
set_option maxHeartbeats 64000000
open Go.Proofs.Tryz
open Go.Proofs.Tryz renaming prog->pg
open Array renaming getElem?_eq_some_iff->gE
open And renaming intro->ai
open Go.Value renaming int->O
open Go.IntKind renaming i64->ii
namespace Go.Proofs.YtejjcenhjpjefaaGreatDoor
section
section
variable {α:Type} {step:α->α->Nat->Prop} {s goal:α} {left:α->Nat} {C:α->Option Nat} {H:List (α×Nat)}
def Wk (step:α->α->Nat->Prop) (a c:α) (n:Nat):Prop:=∀M:α->Nat->Prop,M a 0->(∀b c n w,M b n->step b c w->M c (n+w))->M c n
theorem Wk.nil {step:α->α->Nat->Prop} (c:α):Wk step c c 0:=fun _ h _=>h
theorem Wk.snoc {step:α->α->Nat->Prop} {a b c:α} {n w:Nat} (h:Wk step a b n) (hs:step b c w):Wk step a c (n+w):=fun M h1 h2=>h2 _ _ _ _ (h M h1 h2) hs
theorem Wk.ind {step:α->α->Nat->Prop} {a:α} {motive:(c:α)->(n:Nat)->Wk step a c n->Prop} (nil:motive a 0 (Wk.nil a)) (snoc:∀{b c:α} {n w:Nat} (h:Wk step a b n) (hs:step b c w),motive b n h->motive c (n+w) (Wk.snoc h hs)) {c:α} {n:Nat} (h:Wk step a c n):motive c n h:=by
 obtain ⟨h',hm⟩:∃h':Wk step a c n,motive c n h':=h (fun c n=>∃h':Wk step a c n,motive c n h') ⟨_,nil⟩ (fun b c n w ⟨h',hm⟩ hs=>⟨_,snoc h' hs hm⟩);exact hm
theorem Wk.cs {step:α->α->Nat->Prop} {a:α} {motive:(c:α)->(n:Nat)->Wk step a c n->Prop} (nil:motive a 0 (Wk.nil a)) (snoc:∀{b c:α} {n w:Nat} (h:Wk step a b n) (hs:step b c w),motive c (n+w) (Wk.snoc h hs)) {c:α} {n:Nat} (h:Wk step a c n):motive c n h:=Wk.ind nil (fun h hs _=>snoc h hs) h
theorem Wk.one {a b:α} {w:Nat} (h:step a b w):Wk step a b w:=by
 have:=Wk.snoc (.nil a) h
 rwa [Nat.zero_add] at this
theorem Wk.trans {a b c:α} {m n:Nat} (h:Wk step a b m) (k:Wk step b c n):Wk step a c (m+n):=by
 induction k using Wk.ind with
 |nil=>exact h
 |snoc _ hs ih=>rw [<-Nat.add_assoc];exact .snoc ih hs
def Least (step:α->α->Nat->Prop) (a b:α) (n:Nat):Prop:=Wk step a b n/\∀m,Wk step a b m->n<=m
theorem Least.eq {a b:α} {m n:Nat} (h:Least step a b m) (k:Least step a b n):m=n:=Nat.le_antisymm (h.2 n k.1) (k.2 m h.1)
theorem Least.exists:∀(n:Nat) {a b:α},Wk step a b n->∃m,m<=n/\Least step a b m:=by
 intro n
 induction n using Nat.strongRecOn with
 |_ n ih =>
  intro a b h
  by_cases hl:∃m,m<n/\Wk step a b m
  ·obtain ⟨m,hm,hw⟩:=hl;obtain ⟨k,hk,hL⟩:=ih m hm hw;exact ⟨k,by omega,hL⟩
  ·exact ⟨n,Nat.le_refl _,h,fun m hm=>by
    rcases Nat.lt_or_ge m n with q|q
    ·exact absurd ⟨m,q,hm⟩ hl
    ·exact q⟩
theorem Least.part {a b c:α} {n w:Nat} (h:Wk step a b n) (hs:step b c w) (hL:Least step a c (n+w)):Least step a b n:=
 ⟨h,fun m hm=>by have:=hL.2 _ (Wk.snoc hm hs);omega⟩
structure Sk (step:α->α->Nat->Prop) (s:α) (C:α->Option Nat) (H:List (α×Nat)):Prop where
 src:C s=some 0
 real:∀c g,C c=some g->Wk step s c g
 rest:∀c g,C c=some g->(∀d w,step c d w->∃h,C d=some h/\h<=g+w)\/(c,g)∈H
theorem Sk.wrong (h:Sk step s C H) {c:α} {n:Nat} (hw:Wk step s c n):Least step s c n->C c=some n\/∃b m k,(b,m)∈H/\Least step s b m/\C b=some m/\Wk step b c k/\m+k=n:=by
 induction hw using Wk.ind with
 |nil=>exact fun _ => .inl h.src
 | @snoc b c n w hb hs ih =>
  intro hL;have hLb:=Least.part hb hs hL;rcases ih hLb with hC|⟨d,m,k,h1,h2,h3,h4,h5⟩
  ·rcases h.rest b n hC with hcl|hin
   ·obtain ⟨g,hg,hle⟩:=hcl c w hs;have:=hL.2 g (h.real c g hg);left;rw [hg]
    congr 1
    omega
   ·exact .inr ⟨b,n,w,hin,hLb,hC,.one hs,rfl⟩
  ·exact .inr ⟨d,m,k+w,h1,h2,h3,.snoc h4 hs,by omega⟩
theorem Sk.done (h:Sk step s C []) {c:α} {n:Nat} (hL:Least step s c n):C c=some n:=by
 rcases h.wrong hL.1 hL with q|⟨b,m,k,hb,-⟩
 ·exact q
 ·cases hb
theorem Sk.no (h:Sk step s C []) {c:α} (hc:C c=none):∀n,¬Wk step s c n:=fun n hw=>by
 obtain ⟨m,-,hL⟩:=Least.exists n hw;have:=h.done hL;rw [hc] at this;cases this
theorem Sk.ends (h:Sk step s C H) {D:Nat} (hadm:∀c n,Wk step c goal n->left c<=n) (hH:∀c g,(c,g)∈H->D<g+left c) {c:α} {m n:Nat} (hL:Least step s c m) (hw:Wk step c goal n) (hmn:m+n<=D):C c=some m:=by
 rcases h.wrong hL.1 hL with q|⟨b,m',k,h1,h2,h3,h4,h5⟩
 ·exact q
 ·have:=hH b m' h1;have:=hadm b (k+n) (h4.trans hw);omega
theorem Sk.told (h:Sk step s C H) {D:Nat} (hD:C goal=some D) (h0:left goal=0) (hadm:∀c n,Wk step c goal n->left c<=n) (hH:∀c g,(c,g)∈H->D<g+left c):Least step s goal D:=by
 obtain ⟨m,hm,hL⟩:=Least.exists D (h.real goal D hD);have:=h.ends hadm hH hL (.nil goal) (by omega);rw [hD] at this;cases this;exact hL
theorem Sk.first (h:Sk step s C H) (hcon:∀c d w,step c d w->left c<=w+left d) {c:α} {g:Nat} (hC:C c=some g) (hmin:∀d k,(d,k)∈H->g+left c<=k+left d):Least step s c g:=by
 have hpath:∀{a b:α} {n:Nat},Wk step a b n->left a<=n+left b:=fun hw=>by
  induction hw using Wk.ind with
  |nil=>omega
  |snoc _ hs ih=>have:=hcon _ _ _ hs;omega
 obtain ⟨m,hm,hL⟩:=Least.exists g (h.real c g hC);rcases h.wrong hL.1 hL with q|⟨b,m',k,h1,h2,h3,h4,h5⟩
 ·rw [hC] at q;cases q;exact hL
 ·have h6:=hmin b m' h1;have h7:=hpath h4;have:m=g:=by omega
  subst this;exact hL
end
section
variable {α:Type} [DecidableEq α] {step:α->α->Nat->Prop} {s:α} {C:α->Option Nat} {H:List (α×Nat)}
def zFe (C:α->Option Nat) (d:α) (g:Nat):Bool:=match C d with
 |some h=>decide (g<h)
 |none=>true
def put (C:α->Option Nat) (d:α) (g:Nat):α->Option Nat:=fun c=>if c=d then some g else C c
theorem Sk.begin (step:α->α->Nat->Prop) (s:α):Sk step s (put (fun _=>none) s 0) [(s,0)] where
 src:=by simp [put]
 real:=fun c g h=>by
  unfold put at h
  split at h
  ·rename_i e;cases h;subst e;exact .nil _
  ·cases h
 rest:=fun c g h=>by
  unfold put at h
  split at h
  ·rename_i e;cases h;subst e;exact .inr (by simp)
  ·cases h
structure Sp (step:α->α->Nat->Prop) (s:α) (C:α->Option Nat) (H:List (α×Nat)) (c:α) (g:Nat) (todo:α->Nat->Prop):Prop where
 src:C s=some 0
 real:∀c g,C c=some g->Wk step s c g
 rest:∀b h,C b=some h->b≠c->(∀d w,step b d w->∃k,C d=some k/\k<=h+w)\/(b,h)∈H
 here:C c=some g
 gone:∀d w,step c d w->todo d w\/∃k,C d=some k/\k<=g+w
theorem Sk.take {c:α} {g:Nat} (h:Sk step s C H) {H':List (α×Nat)} (hc:C c=some g) (hH:∀e∈H,e=(c,g)\/e∈H'):Sp step s C H' c g (step c) where
 src:=h.src
 real:=h.real
 rest:=fun b k hb hne=>(h.rest b k hb).imp id (fun e=>(hH _ e).resolve_left (fun q=>hne (congrArg Prod.fst q)))
 here:=hc
 gone:=fun d w hs => .inl hs
theorem Sk.drop {c:α} {g:Nat} (h:Sk step s C H) {H':List (α×Nat)} (hc:C c≠some g) (hH:∀e∈H,e=(c,g)\/e∈H'):Sk step s C H' where
 src:=h.src
 real:=h.real
 rest:=fun b k hb=>(h.rest b k hb).imp id (fun e=>(hH _ e).resolve_left (fun q=>by cases q;exact hc hb))
theorem Sp.done {c:α} {g:Nat} (h:Sp step s C H c g (fun _ _=>False)):Sk step s C H where
 src:=h.src
 real:=h.real
 rest:=fun b k hb=>by
  by_cases e:b=c
  ·subst e;have:=h.here;rw [hb] at this;cases this;exact .inl (fun d w hs=>(h.gone d w hs).resolve_left id)
  ·exact h.rest b k hb e
theorem Sp.pass {c d:α} {g w:Nat} {todo:α->Nat->Prop} (h:Sp step s C H c g todo) (hd:¬step c d w\/∃k,C d=some k/\k<=g+w) (huniq:∀v,step c d v->v=w):Sp step s C H c g (fun e v=>e≠d/\todo e v) where
 src:=h.src
 real:=h.real
 rest:=h.rest
 here:=h.here
 gone:=fun e v hs=>by
  rcases h.gone e v hs with q|q
  ·by_cases hed:e=d
   ·subst hed;have:=huniq v hs;subst this;rcases hd with hn|hk
    ·exact absurd hs hn
    ·exact .inr hk
   ·exact .inl ⟨hed,q⟩
  ·exact .inr q
theorem Sp.meet {c d:α} {g w:Nat} {todo:α->Nat->Prop} (h:Sp step s C H c g todo) (hs:step c d w) (hb:zFe C d (g+w)=true) (hne:d≠c) (hds:d≠s) (huniq:∀v,step c d v->v=w) {H':List (α×Nat)} (hH:∀e∈H,e∈H') (hin:(d,g+w)∈H'):Sp step s (put C d (g+w)) H' c g (fun e v=>e≠d/\todo e v):=by
 have less:∀e k,C e=some k->∃k',put C d (g+w) e=some k'/\k'<=k:=fun e k he=>by
  unfold put
  by_cases q:e=d
  ·subst q;rw [if_pos rfl];refine ⟨_,rfl,?_⟩;unfold zFe at hb;rw [he] at hb;simp at hb;omega
  ·rw [if_neg q];exact ⟨k,he,Nat.le_refl _⟩
 refine ⟨?_,fun b k hbk=>?_,fun b k hbk hbc=>?_,?_,fun e v hv=>?_⟩
 ·unfold put;rw [if_neg (fun e=>hds e.symm)];exact h.src
 ·unfold put at hbk
  split at hbk
  ·rename_i e;cases hbk;subst e;exact .snoc (h.real c g h.here) hs
  ·exact h.real b k hbk
 ·by_cases q:b=d
  ·subst q;unfold put at hbk;rw [if_pos rfl] at hbk;cases hbk;exact .inr hin
  ·unfold put at hbk;rw [if_neg q] at hbk;rcases h.rest b k hbk hbc with hcl|hi
   ·left;intro e v hv;obtain ⟨k1,hk1,hle⟩:=hcl e v hv;obtain ⟨k2,hk2,hle2⟩:=less e k1 hk1;exact ⟨k2,hk2,by omega⟩
   ·exact .inr (hH _ hi)
 ·unfold put;rw [if_neg (fun e=>hne e.symm)];exact h.here
 ·by_cases hed:e=d
  ·subst hed;have:=huniq v hv;subst this;exact .inr ⟨g+v,by simp [put],Nat.le_refl _⟩
  ·rcases h.gone e v hv with q|⟨k,hk,hle⟩
   ·exact .inl ⟨hed,q⟩
   ·obtain ⟨k2,hk2,hle2⟩:=less e k hk;exact .inr ⟨k2,hk2,by omega⟩
structure Se (step:α->α->Nat->Prop) (s:α) (C:α->Option Nat) (H:List (α×Nat)) (E:List α):Prop where
 nd:H.Nodup
 above:∀c k,(c,k)∈H->∃h,C c=some h/\h<=k
 en:E.Nodup
 fin:∀c∈E,∃g,C c=some g/\Least step s c g/\(c,g) ∉ H
theorem Se.begin (step:α->α->Nat->Prop) (s:α):Se step s (put (fun _=>none) s 0) [(s,0)] [] where
 nd:=by simp
 above:=fun c k h=>by
  simp at h;obtain ⟨rfl,rfl⟩:=h;exact ⟨0,by simp [put],Nat.le_refl _⟩
 en:=List.nodup_nil
 fin:=fun c h=>by cases h
theorem Se.drop {H':List (α×Nat)} {E:List α} {e:α×Nat} (h:Se step s C H E) (hp:H.Perm (e::H')):Se step s C H' E where
 nd:=(List.nodup_cons.1 (hp.nodup_iff.1 h.nd)).2
 above:=fun c k hk=>h.above c k (hp.mem_iff.2 (List.mem_cons_of_mem _ hk))
 en:=h.en
 fin:=fun c hc=>by
  obtain ⟨g,h1,h2,h3⟩:=h.fin c hc;exact ⟨g,h1,h2,fun q=>h3 (hp.mem_iff.2 (List.mem_cons_of_mem _ q))⟩
theorem Se.take {H':List (α×Nat)} {E:List α} {c:α} {g:Nat} (h:Se step s C H E) (hp:H.Perm ((c,g)::H')) (hc:C c=some g) (hL:Least step s c g):c ∉ E/\Se step s C H' (c::E):=by
 have hin:(c,g)∈H:=hp.mem_iff.2 List.mem_cons_self
 have hno:c ∉ E:=fun q=>by
  obtain ⟨g',h1,-,h3⟩:=h.fin c q;rw [hc] at h1;cases h1;exact h3 hin
 have hd:=h.drop hp;refine ⟨hno,hd.nd,hd.above,List.nodup_cons.2 ⟨hno,h.en⟩,fun b hb=>?_⟩;rcases List.mem_cons.1 hb with rfl|hb
 ·exact ⟨g,hc,hL,(List.nodup_cons.1 (hp.nodup_iff.1 h.nd)).1⟩
 ·exact hd.fin b hb
theorem Se.meet {H':List (α×Nat)} {E:List α} {d:α} {k:Nat} (h:Se step s C H E) (hw:Wk step s d k) (hb:zFe C d k=true) (hp:H'.Perm ((d,k)::H)):Se step s (put C d k) H' E:=by
 have hle:∀j,(d,j)∈H->k<j:=fun j hj=>by
  obtain ⟨g,h1,h2⟩:=h.above d j hj;unfold zFe at hb;rw [h1] at hb;simp at hb;omega
 refine ⟨hp.nodup_iff.2 (List.nodup_cons.2 ⟨fun q=>by have:=hle k q;omega,h.nd⟩),fun c j hj=>?_,h.en,fun c hc=>?_⟩
 ·rcases List.mem_cons.1 (hp.mem_iff.1 hj) with q|q
  ·cases q;exact ⟨k,by simp [put],Nat.le_refl _⟩
  ·obtain ⟨g,h1,h2⟩:=h.above c j q;unfold put
   by_cases e:c=d
   ·subst e;rw [if_pos rfl];exact ⟨k,rfl,Nat.le_of_lt (hle j q)⟩
   ·rw [if_neg e];exact ⟨g,h1,h2⟩
 ·obtain ⟨g,h1,h2,h3⟩:=h.fin c hc
  have e:c≠d:=fun e=>by
   subst e;unfold zFe at hb;rw [h1] at hb;simp at hb;have:=h2.2 k hw;omega
  refine ⟨g,by unfold put;rw [if_neg e];exact h1,h2,fun q=>?_⟩;rcases List.mem_cons.1 (hp.mem_iff.1 q) with q|q
  ·cases q;exact e rfl
  ·exact h3 q
end
end
section
open Go.RowKit Go.Shelf
attribute [local go_sem] Oper.semAt_some
theorem zMn:Rcl 119:=zl fun _ _=>by go_simp
theorem readyZ.callG {P:Program} {md:Region.Mode} {ops:Array Oper} {Q:Exit->Act->World->Prop} {S:World->Prop} {zs:List Nat} {n:Nat} {L:Array Bool} {a:Act} {w:World} {i:Nat} {rs:List Nat} {o:Oper} (ho:ops[i]? = some o) (hg:Region.wanted o (yielded ops a.tmps)=true) {f:FuncId}
 {vs:Array Value} (hrun:(execOp a.eval o).run P w = .ok (.enter f vs) w) {R:Ending->World->Prop} (hc:Calls P f vs w R) (hR:∀e w',R e w'->∃v,e = .returned v/\(i ∉ zs->S w')/\zDj P md ops Q S zs n (L.setIfInBounds i true) (a.put o.dst v) w')
 (hrest:readyZ P md ops Q S zs n L a w rs):readyZ P md ops Q S zs n L a w (i::rs):=fun j hj=>by
 rcases List.mem_cons.1 hj with rfl|hj
 ·refine wpOp_step ho (fun K hK=>?_);rw [if_pos hg];unfold Oper.wp;rw [hrun];refine Calls.mono hc (fun e w' h=>?_);obtain ⟨v,rfl,h1,h2⟩:=hR e w' h;exact hK _ _ ⟨h1,h2⟩
 ·exact hrest j hj
def zEp (stp:Nat->Bool) (ix iy iw:Int) (C:List Int) (x y cost:Int) (t:Fin 8):Bool:=decide (C[ij ix iy iw (x+dX t.val) (y+dY t.val)]? = some (cost-co (t.val:Int)))&&stp t.val
structure OnB (w:World) (a k:Nat) (x y cost rx ry rr:Int):Prop where
 l:Boxed w a 108 (ptr k)
 at_:Two w (a+1) x y
 cost:Boxed w (a+2) 3 (O ii cost)
 ra:Two w (a+3) rx ry
 rr:Boxed w (a+4) 3 (O ii rr)
theorem OnB.turned {S:Nat->Prop} {w w':World} {a k:Nat} {x y cost rx ry rr:Int} (h:OnB w a k x y cost rx ry rr) (T:Turns S w w') (hs:∀j,a<=j/\j<a+5->¬S j):OnB w' a k x y cost rx ry rr:=
 ⟨zAg h.l T (hs _ (by omega)),h.at_.turned T (hs _ (by omega)),zAg h.cost T (hs _ (by omega)),h.ra.turned T (hs _ (by omega)),zAg h.rr T (hs _ (by omega))⟩
theorem OnB.upto {w w':World} {a k:Nat} {x y cost rx ry rr:Int} (h:OnB w a k x y cost rx ry rr) (T:Below w.heap.size w w'):OnB w' a k x y cost rx ry rr:=h.turned (S:=NoB) (Turns.of_below T) (fun _ _=>id)
theorem zFx (Z:World) (b:Nat) (v0 v1:Value):Turns (fun j=>j=b) Z ((Z.setCell ⟨b,0,none⟩ v0).setCell ⟨b,1,none⟩ v1):=by
 have t:∀(X:World) (o:Nat) (v:Value),Turns (fun j=>j=b) X (X.setCell ⟨b,o,none⟩ v):=fun X o v=>Turns.set (S:=fun j=>j=b) X (p:=⟨b,o,none⟩) rfl v;exact (t Z 0 v0).trans ((t _ 1 v1).mono (fun j _ e => .inl e))
theorem OnB.put {w:World} {a k:Nat} {x y cost rx ry rr:Int} (h:OnB w a k x y cost rx ry rr) (u v r:Int):OnB (((w.setCell ⟨a+3,0,none⟩ (O ii u)).setCell ⟨a+3,1,none⟩ (O ii v)).setCell ⟨a+4,0,none⟩ (O ii r)) a k x y cost u v r/\Turns (fun j=>j=a+3\/j=a+4) w (((w.setCell ⟨a+3,0,none⟩ (O ii u)).setCell ⟨a+3,1,none⟩ (O ii v)).setCell ⟨a+4,0,none⟩ (O ii r)):=by
 have t1:=zFx w (a+3) (O ii u) (O ii v);have t2:Turns (fun j=>j=a+4) ((w.setCell ⟨a+3,0,none⟩ (O ii u)).setCell ⟨a+3,1,none⟩ (O ii v)) (((w.setCell ⟨a+3,0,none⟩ (O ii u)).setCell ⟨a+3,1,none⟩ (O ii v)).setCell ⟨a+4,0,none⟩ (O ii r)):=Turns.set (S:=fun j=>j=a+4) _ (p:=⟨a+4,0,none⟩) rfl _;refine ⟨⟨zAg (zAg h.l t1 (by omega)) t2 (by omega),(h.at_.turned t1 (by omega)).turned t2 (by omega),zAg (zAg h.cost t1 (by omega)) t2 (by omega),h.ra.set.turned t2 (by omega),(zAg h.rr t1 (by omega)).set _⟩,(t1.mono (fun j _ e => .inl e)).trans (t2.mono (fun j _ e => .inl (.inr e)))⟩
theorem zN9 (w0:World) (k p:Nat) (c s ix iy iw ih:Int) (gv cv:Value) (b:Nat) (lf:Value) (G:List Nat) (C:List Int) (hv:Value) (n:Int) (S:List It) (W H:Int) (tl:List Nat) (f:Int->Int->Option Int) (x y cost:Int) (w:World)
 (h:Sch w0 w k p c s ix iy iw ih gv cv b lf G C hv n S) (hw:Wl w0 p W H tl f) (hg:Grnd w0) (ho:Offs w0) (hok:Gok W H tl f c s ix iy iw ih G) (hC:C.length=(ih*iw).toNat)
 (hx:0<=x-ix/\x-ix<iw) (hy:0<=y-iy/\y-iy<ih) (hi:0<=ix/\0<=iy/\ix+iw<=1048576/\iy+ih<=1048576)
 (hb:∀m∈C,-1<=m/\m<=1099511627776) :
 Calls pg 89 #[ptr k,cel x y,O ii cost] w fun e w'=>(∃G',Sch w0 w' k p c s ix iy iw ih gv cv b lf G' C hv n S/\Gok W H tl f c s ix iy iw ih G')/\Turns (fun j=>gv.ownBlock=some j) w w'/\
  (((∀t∈zAq x y ix iy iw ih 8,zEp (fun d=>stp W H tl f c s x y (d:Int)) ix iy iw C x y cost t=false)/\e = .returned (.tuple #[cel x y,O ii 0]))\/
   ∃pre t,(pre++[t] <+: zAq x y ix iy iw ih 8/\(∀t∈pre,zEp (fun d=>stp W H tl f c s x y (d:Int)) ix iy iw C x y cost t=false)/\zEp (fun d=>stp W H tl f c s x y (d:Int)) ix iy iw C x y cost t=true)/\e = .returned (.tuple #[cel (x+dX t.val) (y+dY t.val),O ii (cost-co (t.val:Int))])):=by
 have hCp:0<C.length:=by
  have h1:0<ih*iw:=Int.mul_pos (by omega) (by omega);omega
 obtain ⟨g,cap,hcv,hgl⟩:=h.ct.form hCp;refine (callsIn_wide (n:=10)).1 ?_;refine callsIn_of_wp_marks func89 rfl trivial ?_ rfl;simp only [ntmps89,List.size_toArray,List.length_cons,List.length_nil,Nat.reduceAdd,Nat.reduceSub,Array.replicate_succ,Array.replicate_zero,List.push_toArray,List.append_toArray,List.nil_append,List.cons_append];obtain ⟨X,hX⟩:=ex (((((w.alloc (.cells #[ptr k] 108)).alloc (.cells #[O ii x,O ii y] 23)).alloc (.cells #[O ii cost] 3)).alloc (.cells #[O ii 0,O ii 0] 23)).alloc (.cells #[O ii 0] 3));have B0:Below w.heap.size w X:=hX▸bt (bt (zBe _ _ _) (zBe _ _ _)) (zAh _ _)
 have K0:OnB X w.heap.size k x y cost 0 0 0:=by
  rw [<-hX];exact ⟨((((Boxed.new w 108 _).alloc _).alloc _).alloc _).alloc _,(((Two.newAt (by simp)).alloc).alloc).alloc,by have:=(((Boxed.new ((w.alloc (.cells #[ptr k] 108)).alloc (.cells #[O ii x,O ii y] 23)) 3 (O ii cost)).alloc (.cells #[O ii 0,O ii 0] 23)).alloc (.cells #[O ii 0] 3));simpa using this,(Two.newAt (by simp)).alloc,by have:=Boxed.new ((((w.alloc (.cells #[ptr k] 108)).alloc (.cells #[O ii x,O ii y] 23)).alloc (.cells #[O ii cost] 3)).alloc (.cells #[O ii 0,O ii 0] 23)) 3 (O ii 0);simpa using this⟩
 have z0:X.heap.size=w.heap.size+5:=by rw [<-hX];simp
 have h0:=h.upto B0;have HS:(fun wx:World=>(wx.cell? ⟨w.heap.size,0,none⟩=some (ptr k)/\wx.cell? ⟨w.heap.size+1,0,none⟩=some (O ii x)/\wx.cell? ⟨w.heap.size+1,1,none⟩=some (O ii y))/\wx.cell? ⟨k,3,none⟩=some (O ii ix)/\wx.cell? ⟨k,4,none⟩=some (O ii iy)/\wx.cell? ⟨k,5,none⟩=some (O ii iw)/\wx.cell? ⟨k,6,none⟩=some (O ii ih)) X.drew:=⟨⟨K0.l.cell,K0.at_.1.1,K0.at_.1.2⟩,h0.sr.cl 3,h0.sr.cl 4,h0.sr.cl 5,h0.sr.cl 6⟩
 have HX:=zAb hX;have Hh:=zAb h;have Hh0:=zAb h0;have HK0:=zAb K0;have HB0:=zAb B0;have HC:=zAb hC;have HCV:=zAb hcv;have HXY:=zAb (ai hx (ai hy hi));clear h h0 K0 B0 hX hC hcv hx hy hi hCp;gi_wp2_with (rw [HX.out]);refine zA1 ?_;refine zBi (fun wx:World=>(wx.cell? ⟨w.heap.size,0,none⟩=some (ptr k)/\wx.cell? ⟨w.heap.size+1,0,none⟩=some (O ii x)/\wx.cell? ⟨w.heap.size+1,1,none⟩=some (O ii y))/\wx.cell? ⟨k,3,none⟩=some (O ii ix)/\wx.cell? ⟨k,4,none⟩=some (O ii iy)/\wx.cell? ⟨k,5,none⟩=some (O ii iw)/\wx.cell? ⟨k,6,none⟩=some (O ii ih)) [5] (by kernel_rfl) ?_;refine zv 0 5 8 [cel x y,ptr k,ptr k,.pointer (some ⟨k,3,none⟩),rct ix iy iw ih] rfl rfl (by kernel_rfl) HS ?_;repeat (refine zc rfl (by rfl) (fun wx hx=>by go_simp) ?_;simp only [zp])
 refine zn ?_;refine zw 5 [] (by kernel_rfl) ?_;have HCa:Hid (Calls pg 118 #[cel x y,rct ix iy iw ih] X.drew fun e w'=>e = .returned (.func (.func 149) #[] #[ptr (w.heap.size+5),ptr (w.heap.size+5+1)])/\w'=(X.drew.alloc (.cells #[O ii x,O ii y] 23)).alloc (.cells #[O ii ix,O ii iy,O ii iw,O ii ih] 65)):=zAb (by have:=zEa x y ix iy iw ih X.drew;rwa [show X.drew.heap.size=w.heap.size+5 from z0] at this);refine readyZ.call rfl rfl (zG7 (by rfl) (by rfl) (by simp only [zj];rfl)) HCa.out ?_ readyZ.nil;rintro e X0 ⟨rfl,hX0⟩;refine ⟨_,rfl,fun h=>absurd (by decide) h,?_⟩;try simp only [zp]
 refine zAd (by kernel_rfl) ?_ _;dsimp only [zAv,Exit.then];have zD:X.drew.heap.size=w.heap.size+5:=z0;have C0:Two X0 (w.heap.size+5) x y:=by rw [hX0];exact (Two.newAt zD.symm).alloc
 have F0:Four X0 (w.heap.size+5+1) ix iy iw ih:=by rw [hX0];exact Four.newAt _ _ _ _ _ (by simp [zD])
 have B1:Below X.heap.size X X0:=by rw [hX0];exact Below.trans (Below.drew (Below.refl X.heap.size X)) (zBe X.drew _ _)
 have zX:X0.heap.size=w.heap.size+7:=by rw [hX0];simp [zD]
 have B2:=bt HB0.out B1;have h1:=Hh0.out.upto B1;have K1:=HK0.out.upto B1;have O1:=ho.kept h1.bel;have hbw:=Hh.out.bel.size;have ho1:=ho.1;have hkl:k<w.heap.size:=(gE.1 Hh.out.sr).1
 have Hno:Hid (∀j,(j=1\/w.heap.size<=j)->¬Own gv cv b hv j):=zAb fun j hj e=>by
  have q1:=Hh.out.own_lt e;have q2:=Hh.out.own_ge e;omega
 clear HS hX0 HCa HX HB0 HK0 Hh0;gi_wp2_with fail
 refine wpIn_rangeFunc_ownH rfl (n:=10) (by omega) (gf:=149) (lb:=#[ptr (w.heap.size+5),ptr (w.heap.size+5+1)]) rfl trivial (enters_of func149 (by kernel_rfl) rfl)
  (zJg (10-1) (w.heap.size+5) (w.heap.size+5+1) x y ix iy iw ih X0 O1 C0 F0) (fun h k=>h.trans k) (qAi (by omega) (by omega) (by omega)) (Below.refl _ _) (fun _=>rfl)
  (fun pre Z=>(∃G',(Sch w0 Z k p c s ix iy iw ih gv cv b lf G' C hv n S/\Gok W H tl f c s ix iy iw ih G')/\Turns (fun j=>gv.ownBlock=some j) w Z/\X0.heap.size<=Z.heap.size)/\OnB Z w.heap.size k x y cost 0 0 0/\∀t∈pre.map (·.1),zEp (fun d=>stp W H tl f c s x y (d:Int)) ix iy iw C x y cost t=false)
  (fun cd xs Z=>∃(pre:List (Nb x y ix iy iw ih)) (t:Nb x y ix iy iw ih),(cd = .ret/\xs=pre++[t]/\(∀t∈pre.map (·.1),zEp (fun d=>stp W H tl f c s x y (d:Int)) ix iy iw C x y cost t=false)/\zEp (fun d=>stp W H tl f c s x y (d:Int)) ix iy iw C x y cost t.1=true)/\(∃G',(Sch w0 Z k p c s ix iy iw ih gv cv b lf G' C hv n S/\Gok W H tl f c s ix iy iw ih G')/\Turns (fun j=>gv.ownBlock=some j) w Z/\X0.heap.size<=Z.heap.size)/\OnB Z w.heap.size k x y cost (x+dX t.1.val) (y+dY t.1.val) (cost-co (t.1.val:Int))) ?own ?ownx
  ⟨⟨G,⟨h1,hok⟩,Turns.of_below B2,Nat.le_refl _⟩,K1,fun t q=>by cases q⟩
  (fun t a' Z=>∃Bx,X0.heap.size<=Bx/\Two Z Bx (x+dX t.1.val) (y+dY t.1.val)/\a'={ tmps:=#[ptr k,cel x y,O ii cost,ptr w.heap.size,ptr (w.heap.size+1),ptr (w.heap.size+2),ptr (w.heap.size+3),ptr (w.heap.size+4),O ii (t.1.val:Int),ptr Bx,undef,cel x y,ptr k,ptr k,.pointer (some ⟨k,3,none⟩),rct ix iy iw ih,.func (.func 149) #[] #[ptr (w.heap.size+5),ptr (w.heap.size+5+1)],O ii (t.1.val:Int),cel (x+dX t.1.val) (y+dY t.1.val),undef,undef,undef,undef,undef,undef,undef,undef,undef,undef,undef,undef,undef,undef,undef,undef,undef,undef,undef,undef,undef,undef,undef,undef,undef],defers:=[] })
  (fun q a' _ X Y row hs hg hr=>by obtain ⟨Bx,e1,e2,e3⟩:=hs;exact ⟨Bx,e1,e2.own hg (fun r e=>(hr r e).2),e3⟩)
  ?assign ?body ?done ?stop
 case own =>
  rintro pre Z Y row ⟨⟨G',⟨a1,a2⟩,a4,a5⟩,a7,a8⟩ hg hr;have T:Turns (fun j=>row=some j) Z Y:=Turns.of_grown hg (fun j e=>e);exact ⟨⟨G',⟨a1.own_from (by omega) hg hr,a2⟩,a4.trans (T.mono (fun j _ e => .inr (by have:=(hr j e).1;omega))),Nat.le_trans a5 hg.size⟩,a7.turned T (fun j hj e=>by have:=(hr _ e).1;omega),a8⟩
 case ownx =>
  rintro cd xs Z Y row ⟨pre,t,q,⟨G',⟨a1,a2⟩,a4,a5⟩,a7⟩ hg hr;have T:Turns (fun j=>row=some j) Z Y:=Turns.of_grown hg (fun j e=>e);exact ⟨pre,t,q,⟨G',⟨a1.own_from (by omega) hg hr,a2⟩,a4.trans (T.mono (fun j _ e => .inr (by have:=(hr j e).1;omega))),Nat.le_trans a5 hg.size⟩,a7.turned T (fun j hj e=>by have:=(hr _ e).1;omega)⟩
 case assign =>
  rintro l pre t Z K ⟨⟨G',⟨a1,a2⟩,a4,a5⟩,a7,a8⟩ hK;gi_wp2
  exact hK _ _ ((KeepsOthers.alloc _ _).from _) (KA.below (zAh _ _) (by omega) (by omega) (by omega)) ⟨⟨G',⟨a1.upto (zAh _ _),a2⟩,a4.trans (Turns.of_below (zAh _ _)),by simp;omega⟩,a7.upto (zAh _ _),a8⟩ ⟨Z.heap.size,by omega,Two.newAt rfl,rfl⟩
 case body =>
  rintro l pre t a' Z hl hlr ⟨⟨G',⟨a1,a2⟩,a4,a5⟩,a7,a8⟩ ⟨Bx,hBx,bX,rfl⟩ hlt;obtain ⟨⟨d,hd8⟩,hin⟩:=t;simp only at bX;have hin':inn x y ix iy iw ih d=true:=hin;rw [inn,Bool.and_eq_true] at hin';have hbox:=(zBz _ _ _ _ _ _).1 hin'.2;obtain ⟨hx,hy,hi⟩:=HXY.out;have hub:0<=x+dX d-ix/\x+dX d-ix<iw:=by omega
  have hvb:0<=y+dY d-iy/\y+dY d-iy<ih:=by omega
  have hz:=a4.size;have HSt:Hid (∀wx,Sch w0 wx k p c s ix iy iw ih gv cv b lf G' C hv n S->Calls pg 119 #[ptr k,cel x y,O ii (d:Int),cel (x+dX d) (y+dY d)] wx fun e w'=>e = .returned (.bool (stp W H tl f c s x y (d:Int)))/\∃G',Gok W H tl f c s ix iy iw ih G'/\Sch w0 w' k p c s ix iy iw ih gv cv b lf G' C hv n S/\Turns (fun j=>gv.ownBlock=some j) wx w'):=zAb fun wx q=>zK9 w0 k p c s ix iy iw ih gv cv b lf G' C hv n S W H tl f x y (d:Int) (x+dX d) (y+dY d) wx q hw hg ho a2 hi hx hy (by omega) (by rw [Int.toNat_natCast]) (by rw [Int.toNat_natCast]) hub hvb;have hI:=zCr (c:=0) (d:=0) hvb.1 hvb.2 hub.1 hub.2;obtain ⟨J,hJ⟩:∃J:Nat,(y+dY d-iy)*iw+(x+dX d-ix)=(J:Int):=⟨((y+dY d-iy)*iw+(x+dX d-ix)).toNat,by omega⟩
  have hJi:ij ix iy iw (x+dX d) (y+dY d)=J:=by unfold ij;omega
  have hJl:J<C.length:=by rw [HC.out];omega
  obtain ⟨m,hm⟩:∃m,C[J]? = some m:=⟨_,List.getElem?_eq_getElem hJl⟩
  have hmb:=hb m (List.mem_of_getElem? hm);have hco:0<=co (d:Int)/\co (d:Int)<=14:=by unfold co;split<;>(try split)<;>omega
  have hfit:zEp (fun d=>stp W H tl f c s x y (d:Int)) ix iy iw C x y cost ⟨d,hd8⟩=((m+co (d:Int)==cost)&&stp W H tl f c s x y (d:Int)):=by
   unfold zEp;simp only;rw [hJi,hm]
   congr 1
   rw [Bool.eq_iff_iff,decide_eq_true_eq,beq_iff_eq,Option.some.injEq];omega
  have hwr:IntKind.i64.wrap (m+co (d:Int))=m+co (d:Int):=IntWalk.i64_in _ (by omega);have hmc:(m+co (d:Int)==cost)=true->cost-co (d:Int)=m:=fun e=>by have:=eq_of_beq e;omega
  have HIx:=zAb (fun wx (q:Below Z.heap.size Z wx)=>zCt k p c s ix iy iw ih gv cv b lf (x+dX d) (y+dY d) wx (a1.sr.upto q) hub hvb hi);rw [hJ] at HIx;have HCg:Hid (∀wx,Cts wx cv C->wx.cell? ⟨g,J,none⟩=some (O ii m)):=zAb fun wx q=>by rw [HCV.out] at q;exact (Cts.got q hm).1
  have HC8:Hid (∀wx,Sr wx k p c s ix iy iw ih gv cv b lf->wx.cell? ⟨k,8,none⟩=some (.slice (some ⟨g,0,none⟩) C.length cap)):=zAb fun wx q=>by rw [<-HCV.out];exact q.cl 8
  generalize hu:x+dX d=u at *;generalize hv2:y+dY d=v at *;have HS2:(fun wx:World=>(wx.cell? ⟨w.heap.size,0,none⟩=some (ptr k)/\wx.cell? ⟨k,8,none⟩=some (.slice (some ⟨g,0,none⟩) C.length cap))/\wx.cell? ⟨Bx,0,none⟩=some (O ii u)/\wx.cell? ⟨Bx,1,none⟩=some (O ii v)/\wx.cell? ⟨g,J,none⟩=some (O ii m)) Z.drew:=⟨⟨a7.l.cell,HC8.out _ a1.sr⟩,bX.1.1,bX.1.2,HCg.out _ a1.ct⟩
  have HK2:Hid (∀wx,Below Z.heap.size Z wx->(fun wx:World=>(wx.cell? ⟨w.heap.size,0,none⟩=some (ptr k)/\wx.cell? ⟨k,8,none⟩=some (.slice (some ⟨g,0,none⟩) C.length cap))/\wx.cell? ⟨Bx,0,none⟩=some (O ii u)/\wx.cell? ⟨Bx,1,none⟩=some (O ii v)/\wx.cell? ⟨g,J,none⟩=some (O ii m)) wx/\Sch w0 wx k p c s ix iy iw ih gv cv b lf G' C hv n S/\OnB wx w.heap.size k x y cost 0 0 0/\Two wx Bx u v):=zAb fun wx q'=>by
   have e1:=a7.upto q';have e2:=bX.kept q';exact ⟨⟨⟨e1.l.cell,HC8.out _ (a1.sr.upto q')⟩,e2.1.1,e2.1.2,HCg.out _ (a1.ct.upto q')⟩,a1.upto q',e1,e2⟩
  have hJli:(0:Int)<=(J:Nat)/\((J:Nat):Int)<(C.length:Nat):=by omega
  have Ha:=zAb (ai a1 (ai a2 (ai a4 (ai a5 a8))));have Huv:=zAb (ai hu hv2);have Hfit:=zAb hfit;have Hmc:=zAb hmc;clear hin' hbox hub hvb hco hu hv2 hlt hI hJ hJi hm hmb hfit a1 a2 a4 a5 a7 a8 bX hx hy hi hmc;gi_wp2_with fail;refine zA1 ?_;refine zAw (fun wx:World=>(wx.cell? ⟨w.heap.size,0,none⟩=some (ptr k)/\wx.cell? ⟨k,8,none⟩=some (.slice (some ⟨g,0,none⟩) C.length cap))/\wx.cell? ⟨Bx,0,none⟩=some (O ii u)/\wx.cell? ⟨Bx,1,none⟩=some (O ii v)/\wx.cell? ⟨g,J,none⟩=some (O ii m)) [] zC7 (by kernel_rfl) (by kernel_rfl) ?_;refine zv 0 6 8 [ptr k,ptr k,.pointer (some ⟨k,8,none⟩),.slice (some ⟨g,0,none⟩) C.length cap,ptr k,cel u v] rfl rfl (by kernel_rfl) HS2 ?_;repeat (refine zc rfl (by rfl) (fun wx hx=>by go_simp) ?_;simp only [zp])
  refine zn ?_;refine zw 6 [] (by kernel_rfl) ?_;refine readyZ.call rfl rfl (zCd (by rfl) (by rfl) (by simp only [zj];rfl)) (HIx.out _ (Below.refl _ _).drew) ?_ readyZ.nil;rintro e Z1 ⟨rfl,hb1⟩;have hb1':Below Z.heap.size Z Z1:=(Below.refl _ Z).drew.trans hb1;have HS2':=(HK2.out _ hb1').1;refine ⟨_,rfl,fun _=>HS2',?_⟩;clear HS2;have HS2:=HS2';clear HS2';try simp only [zp]
  refine zv 7 3 8 [.pointer (some ⟨g,J,none⟩),O ii m,O ii m] rfl rfl (by kernel_rfl) HS2 ?_;repeat (refine zc rfl (by rfl) (fun wx hx=>by go_simp) ?_;simp only [zp])
  refine zn ?_;refine zAd (by kernel_rfl) ?_ _;dsimp only [zAv,Exit.then];have hz1:=hb1'.size;obtain ⟨-,e1,e2,e3⟩:=HK2.out _ hb1';have HS3:(fun wx:World=>wx.cell? ⟨w.heap.size,0,none⟩=some (ptr k)/\(wx.cell? ⟨w.heap.size+1,0,none⟩=some (O ii x)/\wx.cell? ⟨w.heap.size+1,1,none⟩=some (O ii y))/\wx.cell? ⟨w.heap.size+2,0,none⟩=some (O ii cost)/\wx.cell? ⟨Bx,0,none⟩=some (O ii u)/\wx.cell? ⟨Bx,1,none⟩=some (O ii v)) Z1.drew:=⟨e2.l.cell,⟨e2.at_.1.1,e2.at_.1.2⟩,e2.cost.cell,e3.1.1,e3.1.2⟩
  have T1:Turns (fun j=>gv.ownBlock=some j) Z Z1:=Turns.of_below hb1';have He:=zAb (ai e1 (ai e2 e3));have HT1:=zAb T1;clear HS2 hb1 hb1' HIx HK2 HC8 HCg e1 e2 e3 T1 hJli;cases heb:(m+co (d:Int)==cost)
  ·have HE:Hid (∀Z2,Below Z1.heap.size Z1 Z2->KeepsFrom X0.heap.size Z Z2/\KA (w.heap.size+5) (w.heap.size+5+1) Z Z2/\(∃G',(Sch w0 Z2 k p c s ix iy iw ih gv cv b lf G' C hv n S/\Gok W H tl f c s ix iy iw ih G')/\Turns (fun j=>gv.ownBlock=some j) w Z2/\X0.heap.size<=Z2.heap.size)/\OnB Z2 w.heap.size k x y cost 0 0 0/\∀t∈(pre++[(⟨⟨d,hd8⟩,hin⟩:Nb x y ix iy iw ih)]).map (·.1),zEp (fun d=>stp W H tl f c s x y (d:Int)) ix iy iw C x y cost t=false):=zAb fun Z2 hb2=>by
    obtain ⟨a1,a2,a4,a5,a8⟩:=Ha.out;obtain ⟨e1,e2,e3⟩:=He.out;have T2:Turns (fun j=>gv.ownBlock=some j) Z Z2:=HT1.out.trans (Turns.of_below hb2);have no:∀j,(j=1\/w.heap.size<=j)->¬gv.ownBlock=some j:=fun j hj e=>Hno.out j hj (.inl e);refine ⟨a1.keeps (T2.mono (fun j _ e => .inl e)) _,⟨T2.block _ (by omega) (no _ (.inr (by omega))),T2.block _ (by omega) (no _ (.inr (by omega))),T2.block _ (by omega) (no _ (.inl rfl))⟩,⟨_,⟨e1.upto hb2,a2⟩,a4.trans (T2.mono (fun j _ e => .inl e)),by have:=hb2.size;omega⟩,e2.upto hb2,fun t ht=>?_⟩;rw [List.map_append] at ht;rcases List.mem_append.1 ht with q|q
    ·exact a8 t q
    ·simp at q;subst q;rw [Hfit.out,heb];rfl
   have Hs3:=zAb HS3;clear HS3;have HS3:=Hs3.out;gi_wp2_with fail;refine zA1 ?_;refine zAw (fun wx:World=>wx.cell? ⟨w.heap.size,0,none⟩=some (ptr k)/\(wx.cell? ⟨w.heap.size+1,0,none⟩=some (O ii x)/\wx.cell? ⟨w.heap.size+1,1,none⟩=some (O ii y))/\wx.cell? ⟨w.heap.size+2,0,none⟩=some (O ii cost)/\wx.cell? ⟨Bx,0,none⟩=some (O ii u)/\wx.cell? ⟨Bx,1,none⟩=some (O ii v)) [] zC7 (by kernel_rfl) (by kernel_rfl) ?_;refine zv 0 2 8 [O ii m,O ii (d:Int)] rfl rfl (by kernel_rfl) HS3 ?_;repeat (refine zc rfl (by rfl) (fun wx hx=>by go_simp) ?_;simp only [zp])
   refine zn ?_;refine zt 4 8 (O ii cost) rfl (by kernel_rfl) (by rfl) (fun wx hx=>by go_simp) HS3 ?_;try simp only [zp]
   refine zw 2 [] (by kernel_rfl) ?_;refine readyZ.call rfl rfl (zEw (by rfl) (by rfl) (by simp only [zj];rfl)) (zIi (d:Int) _) ?_ readyZ.nil;rintro e w' ⟨rfl,rfl⟩;refine ⟨_,rfl,fun _=>HS3,?_⟩;try simp only [zp]
   refine zt 3 8 (O ii (m+co (d:Int))) rfl (by kernel_rfl) (by rfl) (fun wx hx=>by go_simp) HS3 ?_;try simp only [zp]
   refine zt 5 8 (.bool (m+co (d:Int)==cost)) rfl (by kernel_rfl) (by rfl) (fun wx hx=>by go_simp) HS3 ?_;try simp only [zp]
   rw [heb];refine zt 6 8 (.bool false) rfl (by kernel_rfl) (by rfl) (fun wx hx=>by go_simp) HS3 ?_;try simp only [zp]
   refine zu 7 8 rfl (by kernel_rfl) (by rfl) HS3 ?_;try simp only [zp]
   refine zu 8 8 rfl (by kernel_rfl) (by rfl) HS3 ?_;try simp only [zp]
   refine zu 9 8 rfl (by kernel_rfl) (by rfl) HS3 ?_;try simp only [zp]
   refine zu 10 8 rfl (by kernel_rfl) (by rfl) HS3 ?_;try simp only [zp]
   refine zu 11 8 rfl (by kernel_rfl) (by rfl) HS3 ?_;try simp only [zp]
   refine zt 12 8 (.bool false) rfl (by kernel_rfl) (by rfl) (fun wx hx=>by go_simp) HS3 ?_;try simp only [zp]
   refine zAd (by kernel_rfl) ?_ _;dsimp only [zAv,Exit.then];clear HS3 Hs3;gi_wp2_with fail;exact HE.out _ (Below.refl _ _).drew
  ·gi_wp2_with fail;refine zA1 ?_;refine zAw (fun wx:World=>wx.cell? ⟨w.heap.size,0,none⟩=some (ptr k)/\(wx.cell? ⟨w.heap.size+1,0,none⟩=some (O ii x)/\wx.cell? ⟨w.heap.size+1,1,none⟩=some (O ii y))/\wx.cell? ⟨w.heap.size+2,0,none⟩=some (O ii cost)/\wx.cell? ⟨Bx,0,none⟩=some (O ii u)/\wx.cell? ⟨Bx,1,none⟩=some (O ii v)) [] zC7 (by kernel_rfl) (by kernel_rfl) ?_;refine zv 0 2 8 [O ii m,O ii (d:Int)] rfl rfl (by kernel_rfl) HS3 ?_;repeat (refine zc rfl (by rfl) (fun wx hx=>by go_simp) ?_;simp only [zp])
   refine zn ?_;refine zt 4 8 (O ii cost) rfl (by kernel_rfl) (by rfl) (fun wx hx=>by go_simp) HS3 ?_;try simp only [zp]
   refine zw 2 [] (by kernel_rfl) ?_;refine readyZ.call rfl rfl (zEw (by rfl) (by rfl) (by simp only [zj];rfl)) (zIi (d:Int) _) ?_ readyZ.nil;rintro e w' ⟨rfl,rfl⟩;refine ⟨_,rfl,fun _=>HS3,?_⟩;try simp only [zp]
   refine zt 3 8 (O ii (m+co (d:Int))) rfl (by kernel_rfl) (by rfl) (fun wx hx=>by go_simp) HS3 ?_;try simp only [zp]
   refine zt 5 8 (.bool (m+co (d:Int)==cost)) rfl (by kernel_rfl) (by rfl) (fun wx hx=>by go_simp) HS3 ?_;try simp only [zp]
   rw [heb];refine zv 6 5 8 [.bool true,ptr k,cel x y,O ii (d:Int),cel u v] rfl rfl (by kernel_rfl) HS3 ?_;repeat (refine zc rfl (by rfl) (fun wx hx=>by go_simp) ?_;simp only [zp])
   refine zn ?_;refine zw 11 [] (by kernel_rfl) ?_;refine readyZ.callG rfl (by rfl) (zMn (by rfl) (by rfl) (by simp only [zj];rfl)) (HSt.out _ (He.out.1.upto (Below.refl _ _).drew)) ?_ readyZ.nil;rintro e Z2 ⟨rfl,G2,hk2,h2,T2'⟩;have T2:Turns (fun j=>gv.ownBlock=some j) Z1 Z2:=T2'.undrew;have no:∀j,(j=1\/w.heap.size<=j)->¬gv.ownBlock=some j:=fun j hj e=>Hno.out j hj (.inl e);have f2:=He.out.2.1.turned T2 (fun j hj=>no j (.inr hj.1));have f3:=He.out.2.2.turned T2 (no _ (.inr (by omega)));have HS3':(fun wx:World=>wx.cell? ⟨w.heap.size,0,none⟩=some (ptr k)/\(wx.cell? ⟨w.heap.size+1,0,none⟩=some (O ii x)/\wx.cell? ⟨w.heap.size+1,1,none⟩=some (O ii y))/\wx.cell? ⟨w.heap.size+2,0,none⟩=some (O ii cost)/\wx.cell? ⟨Bx,0,none⟩=some (O ii u)/\wx.cell? ⟨Bx,1,none⟩=some (O ii v)) Z2:=⟨f2.l.cell,⟨f2.at_.1.1,f2.at_.1.2⟩,f2.cost.cell,f3.1.1,f3.1.2⟩
   refine ⟨_,rfl,fun _=>HS3',?_⟩;clear HS3;have HS3:=HS3';clear HS3';try simp only [zp]
   have hz2:=T2.size;have HT2:=zAb (HT1.out.trans (T2.mono (fun j _ e => .inl e)));have Hf:=zAb (ai f2 (ai f3 (ai h2 hk2)));have Hno2:=zAb no;clear T2' T2 f2 f3 h2 hk2 no;cases hst:stp W H tl f c s x y (d:Int)
   ·refine zt 12 8 (.bool false) rfl (by kernel_rfl) (by rfl) (fun wx hx=>by go_simp) HS3 ?_;try simp only [zp]
    refine zAd (by kernel_rfl) ?_ _;dsimp only [zAv,Exit.then];clear HS3
    have HE:Hid (KeepsFrom X0.heap.size Z Z2/\KA (w.heap.size+5) (w.heap.size+5+1) Z Z2/\(∃G',(Sch w0 Z2 k p c s ix iy iw ih gv cv b lf G' C hv n S/\Gok W H tl f c s ix iy iw ih G')/\Turns (fun j=>gv.ownBlock=some j) w Z2/\X0.heap.size<=Z2.heap.size)/\OnB Z2 w.heap.size k x y cost 0 0 0/\∀t∈(pre++[(⟨⟨d,hd8⟩,hin⟩:Nb x y ix iy iw ih)]).map (·.1),zEp (fun d=>stp W H tl f c s x y (d:Int)) ix iy iw C x y cost t=false):=zAb (by
     obtain ⟨a1,a2,a4,a5,a8⟩:=Ha.out;have T2:=HT2.out;refine ⟨a1.keeps (T2.mono (fun j _ e => .inl e)) _,⟨T2.block _ (by omega) (Hno2.out _ (.inr (by omega))),T2.block _ (by omega) (Hno2.out _ (.inr (by omega))),T2.block _ (by omega) (Hno2.out _ (.inl rfl))⟩,⟨_,⟨Hf.out.2.2.1,Hf.out.2.2.2⟩,a4.trans (T2.mono (fun j _ e => .inl e)),by omega⟩,Hf.out.1,fun t ht=>?_⟩;rw [List.map_append] at ht;rcases List.mem_append.1 ht with q|q
     ·exact a8 t q
     ·simp at q;subst q;rw [Hfit.out,heb,hst];rfl)
    gi_wp2_with fail;exact HE.out
   ·refine zt 12 8 (.bool true) rfl (by kernel_rfl) (by rfl) (fun wx hx=>by go_simp) HS3 ?_;try simp only [zp]
    refine zAd (by kernel_rfl) ?_ _;dsimp only [zAv,Exit.then];clear HS3;obtain ⟨hp1,hp2⟩:=Hf.out.1.put u v m;obtain ⟨Y,hY⟩:=ex (((Z2.setCell ⟨w.heap.size+3,0,none⟩ (O ii u)).setCell ⟨w.heap.size+3,1,none⟩ (O ii v)).setCell ⟨w.heap.size+4,0,none⟩ (O ii m));rw [hY] at hp1 hp2
    have HE:Hid (KeepsFrom X0.heap.size Z Y/\KA (w.heap.size+5) (w.heap.size+5+1) Z Y/\∃(pre':List (Nb x y ix iy iw ih)) (t:Nb x y ix iy iw ih),(pre++[(⟨⟨d,hd8⟩,hin⟩:Nb x y ix iy iw ih)]=pre' ++ [t]/\(∀t∈pre'.map (·.1),zEp (fun d=>stp W H tl f c s x y (d:Int)) ix iy iw C x y cost t=false)/\zEp (fun d=>stp W H tl f c s x y (d:Int)) ix iy iw C x y cost t.1=true)/\(∃G',(Sch w0 Y k p c s ix iy iw ih gv cv b lf G' C hv n S/\Gok W H tl f c s ix iy iw ih G')/\Turns (fun j=>gv.ownBlock=some j) w Y/\X0.heap.size<=Y.heap.size)/\OnB Y w.heap.size k x y cost (x+dX t.1.val) (y+dY t.1.val) (cost-co (t.1.val:Int))):=zAb (by
     obtain ⟨a1,a2,a4,a5,a8⟩:=Ha.out;have T2:=HT2.out;have hsz:=hp2.size
     refine ⟨(a1.keeps (T2.mono (fun j _ e => .inl e)) _).trans ⟨hsz,fun j o hj1 hj2 _=>hp2.same (fun e=>by omega) hj2⟩,KA.trans ⟨T2.block _ (by omega) (Hno2.out _ (.inr (by omega))),T2.block _ (by omega) (Hno2.out _ (.inr (by omega))),T2.block _ (by omega) (Hno2.out _ (.inl rfl))⟩ ⟨hp2.block _ (by omega) (by omega),hp2.block _ (by omega) (by omega),hp2.block _ (by omega) (by omega)⟩,
      pre,⟨⟨d,hd8⟩,hin⟩,⟨rfl,a8,by rw [Hfit.out,heb,hst];rfl⟩,⟨_,⟨Hf.out.2.2.1.leave hp2 (fun j e=>by omega) (fun e=>by omega) (fun j e q=>Hno.out j (.inr (by omega)) e),Hf.out.2.2.2⟩,(a4.trans (T2.mono (fun j _ e => .inl e))).trans (hp2.mono (fun j _ e => .inr (by omega))),by omega⟩,?_⟩
     rw [Huv.out.1,Huv.out.2,Hmc.out heb]
     exact hp1)
    have ⟨⟨r0,r1⟩,⟨r2,r3⟩,_⟩:=Hf.out.1.ra;have s0:=Hf.out.1.rr.cell;have s1:=Hf.out.1.rr.frozen;obtain ⟨⟨v0,v1⟩,-,-⟩:=Hf.out.2.1;have hne1:¬w.heap.size+3=w.heap.size+4:=by omega
    have hne2:¬w.heap.size+4=w.heap.size+3:=by omega
    have HY:=zAb hY;clear hp1 hp2 hY;gi_wp2_with fail;rw [HY.out];obtain ⟨x1,x2,pre',t',⟨x3,x4,x5⟩,x6,x7⟩:=HE.out;exact ⟨x1,pre',t',⟨rfl,x3,x4,x5⟩,x6,x7⟩
 case done =>
  rintro D xs Z hD rfl ⟨⟨G',⟨a1,a2⟩,a4,a5⟩,a7,a8⟩ hK;obtain ⟨hp1,hp2⟩:=a7.put x y 0;obtain ⟨Y,hY⟩:=ex (((Z.setCell ⟨w.heap.size+3,0,none⟩ (O ii x)).setCell ⟨w.heap.size+3,1,none⟩ (O ii y)).setCell ⟨w.heap.size+4,0,none⟩ (O ii 0));rw [hY] at hp1 hp2;have hK2:Y.heap[D]? = some (.deferred (some [])):=hp2.same (fun e=>by omega) hK;have TD:Turns (fun j=>j=D) Y (Y.putObj D (.deferred none)):=zCh _ _ _ rfl;have hp3:=hp1.turned TD (fun j hj e=>by omega);have TA:Turns (fun j=>j=w.heap.size+3\/j=w.heap.size+4\/j=D) Z (Y.putObj D (.deferred none)):=(hp2.mono (fun j _ e=>by omega)).trans (TD.mono (fun j _ e => .inl (.inr (.inr e))));have hz:=a4.size;have HE:Hid ((∃G',Sch w0 (Y.putObj D (.deferred none)) k p c s ix iy iw ih gv cv b lf G' C hv n S/\Gok W H tl f c s ix iy iw ih G')/\Turns (fun j=>gv.ownBlock=some j) w (Y.putObj D (.deferred none))/\∀t∈zAq x y ix iy iw ih 8,zEp (fun d=>stp W H tl f c s x y (d:Int)) ix iy iw C x y cost t=false):=zAb ⟨⟨G',a1.leave TA (fun j e=>by omega) (fun e=>by omega) (fun j e q=>Hno.out j (.inr (by omega)) e),a2⟩,a4.trans (TA.mono (fun j _ e => .inr (by omega))),by rw [<-zCw x y ix iy iw ih 8 (Nat.le_refl _)];exact a8⟩;have ⟨⟨r0,r1⟩,⟨r2,r3⟩,_⟩:=a7.ra;have s0:=a7.rr.cell;have s1:=a7.rr.frozen;obtain ⟨⟨v0,v1⟩,-,-⟩:=a7.at_;obtain ⟨⟨y0,y1⟩,-,-⟩:=hp3.ra;have y2:=hp3.rr.cell;have hne1:¬w.heap.size+3=w.heap.size+4:=by omega
  have hne2:¬w.heap.size+4=w.heap.size+3:=by omega
  have HY:=zAb hY;clear a1 a2 a4 a5 a7 a8 hp1 hp2 hp3 TA TD hY;gi_wp2_with fail;rw [HY.out];refine ⟨by simp,.inl ⟨_,_,rfl,run_takeDeferred hK2,?_⟩⟩;exact ⟨.tuple #[cel x y,O ii 0],by simp [results,Tryz.f89,go_sem,y0,y1,y2],HE.out.1,HE.out.2.1,.inl ⟨HE.out.2.2,rfl⟩⟩
 case stop =>
  rintro D cd xs Z hD hpx ⟨pre,t,⟨rfl,rfl,q3,q4⟩,⟨G',⟨a1,a2⟩,a4,a5⟩,a7⟩ hK;have TD:Turns (fun j=>j=D) Z (Z.putObj D (.deferred none)):=zCh _ _ _ rfl;have hp3:=a7.turned TD (fun j hj e=>by omega);have hz:=a4.size
  have HE:Hid ((∃G',Sch w0 (Z.putObj D (.deferred none)) k p c s ix iy iw ih gv cv b lf G' C hv n S/\Gok W H tl f c s ix iy iw ih G')/\Turns (fun j=>gv.ownBlock=some j) w (Z.putObj D (.deferred none))/\pre.map (·.1)++[t.1] <+: zAq x y ix iy iw ih 8):=zAb ⟨⟨G',a1.leave TD (fun j e=>by omega) (fun e=>by omega) (fun j e q=>Hno.out j (.inr (by omega)) e),a2⟩,a4.trans (TD.mono (fun j _ e => .inr (by omega))),by
   rw [<-zCw x y ix iy iw ih 8 (Nat.le_refl _)];obtain ⟨r,hr⟩:=hpx
   exact ⟨r.map (·.1),by rw [<-hr];simp⟩⟩
  obtain ⟨⟨y0,y1⟩,-,-⟩:=hp3.ra;have y2:=hp3.rr.cell;clear a1 a2 a4 a5 a7 hp3 TD;gi_wp2
  refine ⟨by simp,.inl ⟨_,_,rfl,run_takeDeferred hK,?_⟩⟩;exact ⟨.tuple #[cel (x+dX t.1.val) (y+dY t.1.val),O ii (cost-co (t.1.val:Int))],by simp [results,Tryz.f89,go_sem,y0,y1,y2],HE.out.1,HE.out.2.1,.inr ⟨pre.map (·.1),t.1,⟨HE.out.2.2,q3,q4⟩,rfl⟩⟩
end
section
open Go.RowKit Go.Shelf
attribute [local go_sem] Oper.semAt_some
def Nx (ix iy iw:Int) (C:List Int) (S:List It) (tx ty tc tf:Int) (ok:Bool) (R:List It):Prop:=
 ∃xs,Drn S xs R/\((ok=false/\R=[]/\∀u∈xs,hit ix iy iw C u=false)\/(ok=true/\∃pre t,xs=pre++[t]/\(∀u∈pre,hit ix iy iw C u=false)/\hit ix iy iw C t=true/\t.x=tx/\t.y=ty/\t.c=tc/\t.f=tf))
def Stp (ix iy iw gx gy:Int) (C:List Int) (tf:Int):Prop:=∃m,C[ij ix iy iw gx gy]? = some m/\m≠-1/\m<tf
theorem zGh (w0:World) (k p:Nat) (c s ix iy iw ih:Int) (gv cv:Value) (b:Nat) (lf:Value) (G:List Nat) (C:List Int) (hv:Value) (n:Int) (S:List It) (w:World) (h:Sch w0 w k p c s ix iy iw ih gv cv b lf G C hv n S) (hC:C.length=(ih*iw).toNat) (hS:InR ix iy iw ih S) (hi:0<=ix/\0<=iy/\ix+iw<=1048576/\iy+ih<=1048576) (hpos:0<iw/\0<ih) (hlen:S.length<=1152921504606846976) :
 Calls pg 87 #[ptr k] w fun e w'=>∃tx ty tc tf ok R hv',e = .returned (.tuple #[rv tx ty tc tf,.bool ok])/\Nx ix iy iw C S tx ty tc tf ok R/\Sch w0 w' k p c s ix iy iw ih gv cv b lf G C hv' n R/\(∀j,hv'.ownBlock=some j->hv.ownBlock=some j)/\Turns (Own gv cv b hv) w w':=by
 refine (zMy w0 k p c s ix iy iw ih gv cv b lf G C hv n S w h hC hS hi hpos hlen).mono ?_;rintro e w' ⟨xs,R,hv',h1,h2,h3,h4,⟨rfl,h5,h6⟩|⟨pre,t,rfl,h5,h6,h7⟩⟩
 ·exact ⟨_,_,_,_,_,R,hv',rfl,⟨xs,h1,.inl ⟨rfl,h5,h6⟩⟩,h2,h3,h4⟩
 ·exact ⟨_,_,_,_,_,R,hv',rfl,⟨xs,h1,.inr ⟨rfl,pre,t,h5,h6,h7,rfl,rfl,rfl,rfl⟩⟩,h2,h3,h4⟩
theorem Nx.mem {ix iy iw:Int} {C:List Int} {S R:List It} {tx ty tc tf:Int} (h:Nx ix iy iw C S tx ty tc tf true R):∃t∈S,t.x=tx/\t.y=ty/\t.c=tc/\t.f=tf:=by
 obtain ⟨xs,h1,⟨q,_⟩|⟨_,pre,t,rfl,_,_,h2⟩⟩:=h
 ·cases q
 ·exact ⟨t,h1.mem t (.inl (by simp)),h2⟩
theorem Nx.len {ix iy iw:Int} {C:List Int} {S R:List It} {tx ty tc tf:Int} {ok:Bool} (h:Nx ix iy iw C S tx ty tc tf ok R):R.length<=S.length:=by
 obtain ⟨xs,h1,_⟩:=h;have:=h1.len;omega
theorem zIg (w:World) (u v a b:Int):∃Y,w.alloc (.cells #[O ii u,O ii v,O ii a,O ii b] 146)=Y/\Four Y w.heap.size u v a b/\Below w.heap.size w Y:=⟨_,rfl,Four.new w 146 u v a b,zAh _ _⟩
def zIn (Ok:Nat->List Int->Int->List It->Prop) (w0:World) (k p:Nat) (c s ix iy iw ih:Int) (gv cv:Value) (b:Nat) (lf:Value) (hv:Value) (W H:Int) (tl:List Nat) (f:Int->Int->Option Int) (gx gy bud:Int) (w:World) (e:Ending) (w':World):Prop:=
 ∃(r:Bool) (i:Nat) (C':List Int) (n':Int) (S' R:List It) (hv':Value) (G':List Nat),e = .returned (.bool r)/\(Ok i C' n' S'/\(i:Int)<=max bud 0)/\Sch w0 w' k p c s ix iy iw ih gv cv b lf G' C' hv' n' R/\Gok W H tl f c s ix iy iw ih G'/\
  Turns (Own gv cv b hv) w w'/\(∀j,hv'.ownBlock=some j->hv.ownBlock=some j\/w.heap.size<=j)/\
  ∃tx ty tc tf ok,Nx ix iy iw C' S' tx ty tc tf ok R/\((r=true/\(ok=false\/Stp ix iy iw gx gy C' tf))\/(r=false/\ok=true/\¬Stp ix iy iw gx gy C' tf/\bud<=i))
theorem zQw (Ok:Nat->List Int->Int->List It->Prop) (w0:World) (k p:Nat) (c s ix iy iw ih:Int) (gv cv:Value) (b:Nat) (lf:Value) (G:List Nat) (C:List Int) (hv:Value) (n:Int) (S:List It) (W H:Int) (tl:List Nat) (f:Int->Int->Option Int) (L:Int->Int->Int) (gx gy bud:Int) (w:World)
 (h:Sch w0 w k p c s ix iy iw ih gv cv b lf G C hv n S) (hw:Wl w0 p W H tl f) (hg:Grnd w0) (ho:Offs w0) (hok:Gok W H tl f c s ix iy iw ih G) (hlf:Lfo w0 lf L)
 (hx:0<=gx-ix/\gx-ix<iw) (hy:0<=gy-iy/\gy-iy<ih) (hi:0<=ix/\0<=iy/\ix+iw<=1048576/\iy+ih<=1048576) (hbud:-9223372036854775808<=bud/\bud<=9223372036854775807)
 (hL:∀u v,0<=L u v/\L u v<=1099511627776) (hO:Ok 0 C n S)
 (hOb:∀i C n S,Ok i C n S->C.length=(ih*iw).toNat/\InR ix iy iw ih S/\S.length+8<=1099511627776/\(0<=n/\n+8<=1099511627776)/\∀t∈S,0<=t.c/\t.c<=1099511627776)
 (hOs:∀i C n S tx ty tc tf R,Ok i C n S->Nx ix iy iw C S tx ty tc tf true R->¬Stp ix iy iw gx gy C tf->∀a,a=zBj (fun d=>stp W H tl f c s tx ty (d:Int)) ix iy iw L tx ty tc (C,n,R) (zAq tx ty ix iy iw ih 8)->Ok (i+1) a.1 a.2.1 a.2.2) :
 Calls pg 49 #[ptr k,cel gx gy,O ii bud] w (zIn Ok w0 k p c s ix iy iw ih gv cv b lf hv W H tl f gx gy bud w):=by
 have hCl:=(hOb _ _ _ _ hO).1;have hpos:0<iw/\0<ih:=by omega
 have hCp:0<ih*iw:=Int.mul_pos hpos.2 hpos.1;have B0:Below w.heap.size w (w.alloc (.cells #[O ii gx,O ii gy] 23)):=zAh _ _;have F0:Two (w.alloc (.cells #[O ii gx,O ii gy] 23)) w.heap.size gx gy:=Two.newAt rfl;have hbw:=h.bel.size;have hkl:=h.sr.lt;have z0:(w.alloc (.cells #[O ii gx,O ii gy] 23)).heap.size=w.heap.size+1:=by simp
 have Hst:=zAb (ai (h.upto B0) (ai F0 (Turns.of_below (S:=Own gv cv b hv) B0)));have Hno:Hid (∀j,Own gv cv b hv j->j<w.heap.size):=zAb fun j e=>h.own_lt e;have HO:=zAb hO;have HOb:=zAb hOb;have HOs:=zAb hOs;have HL:=zAb hL;have HXY:=zAb (ai hx (ai hy (ai hi (ai hpos (ai hbud hCp)))));have Hk:=zAb (ai hbw (ai hkl z0));have Hgok:=zAb hok;clear h B0 F0 z0 hO hOb hOs hL hx hy hi hpos hbud hCp hbw hkl hok hCl;go_enter func49,ntmps49;go_wp2_with fail;go_loopw [2] (fun v wr=>∃(i:Nat) (C':List Int) (n':Int) (S':List It) (hv':Value) (G':List Nat),v = O ii (bud-i)/\(i=0\/(i:Int)<=bud)/\Ok i C' n' S'/\(Sch w0 wr k p c s ix iy iw ih gv cv b lf G' C' hv' n' S'/\Gok W H tl f c s ix iy iw ih G')/\Two wr w.heap.size gx gy/\(Turns (Own gv cv b hv) w wr/\w.heap.size<wr.heap.size)/\∀j,hv'.ownBlock=some j->hv.ownBlock=some j\/w.heap.size<j) (fun v _=>(intOf v).toNat)
 case atStart=>exact ⟨0,C,n,S,hv,G,by simp,.inl rfl,HO.out,⟨Hst.out.1,Hgok.out⟩,Hst.out.2.1,⟨Hst.out.2.2,by simp⟩,fun j e => .inl e⟩
 case round =>
  clear Hst Hgok HO;obtain ⟨i,C,n,S,hw2,G,rfl,hib,hO,⟨hs,hgo⟩,hF,⟨hT,hz⟩,hfr⟩:=hrel;obtain ⟨hx,hy,hi,hpos,hbud,hCp⟩:=HXY.out;obtain ⟨b1,b2,b3,b4,b5⟩:=HOb.out _ _ _ _ hO
  have hnoh:∀j,Own gv cv b hw2 j->j≠w.heap.size:=fun j e q=>by
   have:=Hno.out j;rcases e with e|e|e|e
   ·have:=this (.inl e);omega
   ·have:=this (.inr (.inl e));omega
   ·have:=this (.inr (.inr (.inl e)));omega
   ·rcases hfr j e with e|e
    ·have:=this (.inr (.inr (.inr e)));omega
    ·omega
  have hN:=zGh w0 k p c s ix iy iw ih gv cv b lf G C hw2 n S _ hs b1 b2 hi hpos (by omega);obtain ⟨g,cap,hcv,hgl⟩:=hs.ct.form (by omega);have HN:=zAb hN;have Hib:=zAb (ai hib hbud);have Hb:=zAb (ai hO (ai b1 (ai b2 (ai b3 (ai b4 b5)))));have Hs:=zAb (ai hgo (ai hF (ai hT (ai hz (ai hfr hnoh)))));clear hN hO b1 b2 b3 b4 b5 hs hgo hF hT hz hfr hnoh hib hbud hx hy hi hpos hCp;go_wp2_with fail;refine HN.out.mono ?_;rintro e w1 ⟨tx,ty,tc,tf,ok,R,hv1,rfl,hnx,h1,hf1,T1⟩;have hF1:=Hs.out.2.1.turned T1 (fun e=>Hs.out.2.2.2.2.2 _ e rfl);have hz1:=T1.size;obtain ⟨Y,hY,hFY,BY⟩:=zIg w1 tx ty tc tf;have HY:=zAb hY;have h2:=h1.upto BY;have hF2:=hF1.kept BY;have hzY:=BY.size;obtain ⟨⟨hx1,hx2⟩,⟨hy1,hy2⟩,hi,hpos,hbud,hCp⟩:=HXY.out;have hI:=zCr (c:=0) (d:=0) hy1 hy2 hx1 hx2;obtain ⟨J,hJ⟩:∃J:Nat,(gy-iy)*iw+(gx-ix)=(J:Int):=⟨((gy-iy)*iw+(gx-ix)).toNat,by omega⟩
  have hJi:ij ix iy iw gx gy=J:=by unfold ij;omega
  have hJl:J<C.length:=by rw [Hb.out.2.1];omega
  obtain ⟨m,hm⟩:∃m,C[J]? = some m:=⟨_,List.getElem?_eq_getElem hJl⟩
  have Hstp:Hid (Stp ix iy iw gx gy C tf↔m≠-1/\m<tf):=zAb (by
   unfold Stp;rw [hJi,hm];constructor
   ·rintro ⟨m',e,q⟩;cases e;exact q
   ·exact fun q=>⟨m,rfl,q⟩)
  have HCg:Hid (∀wx,Cts wx cv C->wx.cell? ⟨g,J,none⟩=some (O ii m)):=zAb fun wx q=>by rw [hcv] at q;exact (Cts.got q hm).1
  have HC8:Hid (∀wx,Sr wx k p c s ix iy iw ih gv cv b lf->wx.cell? ⟨k,8,none⟩=some (.slice (some ⟨g,0,none⟩) C.length cap)):=zAb fun wx q=>by rw [<-hcv];exact q.cl 8
  have HIx:=zAb (fun wx (q:Below Y.heap.size Y wx)=>zCt k p c s ix iy iw ih gv cv b lf gx gy wx (h2.sr.upto q) ⟨hx1,hx2⟩ ⟨hy1,hy2⟩ hi);rw [hJ] at HIx;have HS2:(fun wx:World=>wx.cell? ⟨k,8,none⟩=some (.slice (some ⟨g,0,none⟩) C.length cap)/\wx.cell? ⟨w.heap.size,0,none⟩=some (O ii gx)/\wx.cell? ⟨w.heap.size,1,none⟩=some (O ii gy)/\wx.cell? ⟨g,J,none⟩=some (O ii m)) Y.drew:=⟨HC8.out _ h2.sr,hF2.1.1,hF2.1.2,HCg.out _ h2.ct⟩
  have HK2:Hid (∀wx,Below Y.heap.size Y wx->(fun wx:World=>wx.cell? ⟨k,8,none⟩=some (.slice (some ⟨g,0,none⟩) C.length cap)/\wx.cell? ⟨w.heap.size,0,none⟩=some (O ii gx)/\wx.cell? ⟨w.heap.size,1,none⟩=some (O ii gy)/\wx.cell? ⟨g,J,none⟩=some (O ii m)) wx/\Sch w0 wx k p c s ix iy iw ih gv cv b lf G C hv1 n R/\Two wx w.heap.size gx gy/\Four wx w1.heap.size tx ty tc tf):=zAb fun wx q'=>by
   have e1:=hF2.kept q';exact ⟨⟨HC8.out _ (h2.sr.upto q'),e1.1.1,e1.1.2,HCg.out _ (h2.ct.upto q')⟩,h2.upto q',e1,hFY.kept q'⟩
  have hJli:(0:Int)<=(J:Nat)/\((J:Nat):Int)<(C.length:Nat):=by omega
  have HTY:=zAb (ai hf1 (T1.trans (Turns.of_below BY)));have Hnx:=zAb hnx;have Hz:=zAb (ai hz1 hzY);clear hx1 hx2 hy1 hy2 hi hpos hbud hCp hI hJ hJi hJl hm hnx h1 h2 hF1 hF2 hFY BY T1 hf1 hz1 hzY hY HN hcv hgl;go_wp2_with (rw [HY.out]);refine zAj ?_;refine zAe (fun wx:World=>wx.cell? ⟨k,8,none⟩=some (.slice (some ⟨g,0,none⟩) C.length cap)/\wx.cell? ⟨w.heap.size,0,none⟩=some (O ii gx)/\wx.cell? ⟨w.heap.size,1,none⟩=some (O ii gy)/\wx.cell? ⟨g,J,none⟩=some (O ii m)) [] (by kernel_rfl) ?_;refine zv 0 6 8 [ptr k,ptr k,.pointer (some ⟨k,8,none⟩),.slice (some ⟨g,0,none⟩) C.length cap,ptr k,cel gx gy] rfl rfl (by kernel_rfl) HS2 ?_;repeat (refine zc rfl (by rfl) (fun wx hx=>by go_simp) ?_;simp only [zp])
  refine zn ?_;refine zw 6 [] (by kernel_rfl) ?_;refine readyZ.call rfl rfl (zCd (by rfl) (by rfl) (by simp only [zj];rfl)) (HIx.out _ (Below.refl _ _).drew) ?_ readyZ.nil;rintro e w2 ⟨rfl,hb1⟩;have hb1':Below Y.heap.size Y w2:=(Below.refl _ Y).drew.trans hb1;have HS2':=(HK2.out _ hb1').1;refine ⟨_,rfl,fun _=>HS2',?_⟩;clear HS2;have HS2:=HS2';clear HS2';try simp only [zp]
  refine zv 7 3 8 [.pointer (some ⟨g,J,none⟩),O ii m,O ii m] rfl rfl (by kernel_rfl) HS2 ?_;repeat (refine zc rfl (by rfl) (fun wx hx=>by go_simp) ?_;simp only [zp])
  refine zn ?_;refine zAd (by kernel_rfl) ?_ _;dsimp only [zAv,Exit.then];have Hw2:=zAb (ai (HK2.out _ hb1').2 (ai (HTY.out.2.trans (Turns.of_below hb1')) (ai hb1'.size Hz.out)));clear HS2 hb1 hb1' HIx HK2 HC8 HCg hJli HY
  have Hend:Hid (∀r,((r=true/\(ok=false\/Stp ix iy iw gx gy C tf))\/(r=false/\ok=true/\¬Stp ix iy iw gx gy C tf/\bud<=i))->zIn Ok w0 k p c s ix iy iw ih gv cv b lf hv W H tl f gx gy bud w (.returned (.bool r)) w2):=zAb fun r hr=>by
   obtain ⟨hgo,hF,hT,hz,hfr,hnoh⟩:=Hs.out;obtain ⟨⟨e1,e2,e3⟩,e4,e5⟩:=Hw2.out;have hib:=Hib.out.1;refine ⟨r,i,C,n,S,R,hv1,G,rfl,⟨Hb.out.1,by omega⟩,e1,hgo,hT.trans (e4.mono (fun j _ e=>?_)),fun j e=>(hfr j (HTY.out.1 j e)).imp id Nat.le_of_lt,tx,ty,tc,tf,ok,Hnx.out,hr⟩;rcases e with e|e|e|e
   ·exact .inl (.inl e)
   ·exact .inl (.inr (.inl e))
   ·exact .inl (.inr (.inr (.inl e)))
   ·exact (hfr j e).imp (fun q => .inr (.inr (.inr q))) Nat.le_of_lt
  cases ok
  ·have Hq:=zAb (Hend.out true (.inl ⟨rfl,.inl rfl⟩));go_wp2_with fail;refine bodyPost_ret (v:=.bool true) (by simp [results,Tryz.results49,go_sem]) rfl ?_;exact Hq.out
  ·by_cases hm1:m = -1
   ·have hns:¬Stp ix iy iw gx gy C tf:=fun q=>(Hstp.out.1 q).1 hm1;have Hns:=zAb hns;clear hns;obtain ⟨⟨f0,f1,f2,f3⟩,-,-⟩:=Hw2.out.1.2.2
    by_cases hbz:bud-(i:Int)<=0
    ·have Hq:=zAb (Hend.out false (.inr ⟨rfl,rfl,Hns.out,by omega⟩));go_wp2_with fail;refine bodyPost_ret (v:=.bool false) (by simp [results,Tryz.results49,go_sem]) rfl ?_;exact Hq.out
    ·obtain ⟨t,ht,rfl,rfl,rfl,rfl⟩:=Hnx.out.mem;obtain ⟨hO,c1,c2,c3,c4,c5⟩:=Hb.out;obtain ⟨hx,hy,hi,hpos,hbud,hCp⟩:=HXY.out;have HSp:=zAb (zF1 w0 k p c s ix iy iw ih gv cv b lf G C hv1 n R W H tl f L t.x t.y t.c t.f w2 Hw2.out.1.1 hw hg ho Hs.out.1 hlf c1 (c2 t ht).1 (c2 t ht).2 hi (c5 t ht) HL.out c4 (by have:=Hnx.out.len;omega));have hwr:IntKind.i64.wrap (bud-(i:Int)-1)=bud-(i:Int)-1:=IntWalk.i64_in _ (by omega);have HO2:=zAb (HOs.out _ _ _ _ _ _ _ _ _ hO Hnx.out Hns.out);have HF2:=zAb (ai Hw2.out.1.2.1 (ai Hw2.out.2.1 (ai Hw2.out.2.2.1 (ai Hw2.out.2.2.2.1 Hw2.out.2.2.2.2))));have Hbz:=zAb hbz;have Hib2:=zAb (ai Hib.out hbud);clear hO c1 c2 c3 c4 c5 hx hy hi hpos hbud hCp Hend Hw2 ht;go_wp2_with fail;refine HSp.out.mono ?_;rintro e w4 ⟨rfl,G',C',hv',n',S',s1,s2,s3,s4,s5⟩
     have HE:Hid (∃(i2:Nat) (C':List Int) (n':Int) (S':List It) (hv':Value) (G':List Nat),Value.int .i64 (bud-(i:Int)-1) = O ii (bud-i2)/\(i2=0\/(i2:Int)<=bud)/\Ok i2 C' n' S'/\(Sch w0 w4 k p c s ix iy iw ih gv cv b lf G' C' hv' n' S'/\Gok W H tl f c s ix iy iw ih G')/\Two w4 w.heap.size gx gy/\(Turns (Own gv cv b hv) w w4/\w.heap.size<w4.heap.size)/\∀j,hv'.ownBlock=some j->hv.ownBlock=some j\/w.heap.size<j):=zAb (by
      obtain ⟨hgo,hF,hT,hz,hfr,hnoh⟩:=Hs.out;obtain ⟨e1,e2,e3,e4,e5⟩:=HF2.out;have hb3:=Hbz.out;have hOk:=HO2.out _ s3;have hz4:=s4.size;have own1:∀j,Own gv cv b hv1 j->Own gv cv b hw2 j:=fun j e=>e.imp id (fun e=>e.imp id (fun e=>e.imp id (HTY.out.1 j)))
      have own2:∀j,Own gv cv b hw2 j->Own gv cv b hv j\/w.heap.size<=j:=fun j e=>by
       rcases e with e|e|e|e
       ·exact .inl (.inl e)
       ·exact .inl (.inr (.inl e))
       ·exact .inl (.inr (.inr (.inl e)))
       ·exact (hfr j e).imp (fun q => .inr (.inr (.inr q))) Nat.le_of_lt
      refine ⟨i+1,C',n',S',hv',G',by congr 1;omega,.inr (by omega),hOk,⟨s1,s2⟩,e1.turned s4 (fun e=>hnoh _ (own1 _ e) rfl),⟨(hT.trans (e2.mono (fun j _ e=>own2 j e))).trans (s4.mono (fun j _ e=>own2 j (own1 j e))),by omega⟩,fun j e=>?_⟩;rcases s5 j e with q|q
      ·exact hfr j (HTY.out.1 j q)
      ·exact .inr (by omega))
     clear s1 s2 s3 s4 s5;go_wp2_with fail;go_roundw
     case rel=>exact HE.out
     case measure=>simp [intOf];omega
   ·by_cases hm2:m<tf
    ·have Hq:=zAb (Hend.out true (.inl ⟨rfl,.inr (Hstp.out.2 ⟨hm1,hm2⟩)⟩));obtain ⟨⟨f0,f1,f2,f3⟩,-,-⟩:=Hw2.out.1.2.2;go_wp2_with fail;refine bodyPost_ret (v:=.bool true) (by simp [results,Tryz.results49,go_sem]) rfl ?_;exact Hq.out
    ·have hns:¬Stp ix iy iw gx gy C tf:=fun q=>hm2 (Hstp.out.1 q).2;have Hns:=zAb hns;clear hns;obtain ⟨⟨f0,f1,f2,f3⟩,-,-⟩:=Hw2.out.1.2.2
     by_cases hbz:bud-(i:Int)<=0
     ·have Hq:=zAb (Hend.out false (.inr ⟨rfl,rfl,Hns.out,by omega⟩));go_wp2_with fail;refine bodyPost_ret (v:=.bool false) (by simp [results,Tryz.results49,go_sem]) rfl ?_;exact Hq.out
     ·obtain ⟨t,ht,rfl,rfl,rfl,rfl⟩:=Hnx.out.mem;obtain ⟨hO,c1,c2,c3,c4,c5⟩:=Hb.out;obtain ⟨hx,hy,hi,hpos,hbud,hCp⟩:=HXY.out;have HSp:=zAb (zF1 w0 k p c s ix iy iw ih gv cv b lf G C hv1 n R W H tl f L t.x t.y t.c t.f w2 Hw2.out.1.1 hw hg ho Hs.out.1 hlf c1 (c2 t ht).1 (c2 t ht).2 hi (c5 t ht) HL.out c4 (by have:=Hnx.out.len;omega));have hwr:IntKind.i64.wrap (bud-(i:Int)-1)=bud-(i:Int)-1:=IntWalk.i64_in _ (by omega);have HO2:=zAb (HOs.out _ _ _ _ _ _ _ _ _ hO Hnx.out Hns.out);have HF2:=zAb (ai Hw2.out.1.2.1 (ai Hw2.out.2.1 (ai Hw2.out.2.2.1 (ai Hw2.out.2.2.2.1 Hw2.out.2.2.2.2))));have Hbz:=zAb hbz;have Hib2:=zAb (ai Hib.out hbud);clear hO c1 c2 c3 c4 c5 hx hy hi hpos hbud hCp Hend Hw2 ht;go_wp2_with fail;refine HSp.out.mono ?_;rintro e w4 ⟨rfl,G',C',hv',n',S',s1,s2,s3,s4,s5⟩
      have HE:Hid (∃(i2:Nat) (C':List Int) (n':Int) (S':List It) (hv':Value) (G':List Nat),Value.int .i64 (bud-(i:Int)-1) = O ii (bud-i2)/\(i2=0\/(i2:Int)<=bud)/\Ok i2 C' n' S'/\(Sch w0 w4 k p c s ix iy iw ih gv cv b lf G' C' hv' n' S'/\Gok W H tl f c s ix iy iw ih G')/\Two w4 w.heap.size gx gy/\(Turns (Own gv cv b hv) w w4/\w.heap.size<w4.heap.size)/\∀j,hv'.ownBlock=some j->hv.ownBlock=some j\/w.heap.size<j):=zAb (by
       obtain ⟨hgo,hF,hT,hz,hfr,hnoh⟩:=Hs.out;obtain ⟨e1,e2,e3,e4,e5⟩:=HF2.out;have hb3:=Hbz.out;have hOk:=HO2.out _ s3;have hz4:=s4.size;have own1:∀j,Own gv cv b hv1 j->Own gv cv b hw2 j:=fun j e=>e.imp id (fun e=>e.imp id (fun e=>e.imp id (HTY.out.1 j)))
       have own2:∀j,Own gv cv b hw2 j->Own gv cv b hv j\/w.heap.size<=j:=fun j e=>by
        rcases e with e|e|e|e
        ·exact .inl (.inl e)
        ·exact .inl (.inr (.inl e))
        ·exact .inl (.inr (.inr (.inl e)))
        ·exact (hfr j e).imp (fun q => .inr (.inr (.inr q))) Nat.le_of_lt
       refine ⟨i+1,C',n',S',hv',G',by congr 1;omega,.inr (by omega),hOk,⟨s1,s2⟩,e1.turned s4 (fun e=>hnoh _ (own1 _ e) rfl),⟨(hT.trans (e2.mono (fun j _ e=>own2 j e))).trans (s4.mono (fun j _ e=>own2 j (own1 j e))),by omega⟩,fun j e=>?_⟩;rcases s5 j e with q|q
       ·exact hfr j (HTY.out.1 j q)
       ·exact .inr (by omega))
      clear s1 s2 s3 s4 s5;go_wp2_with fail;go_roundw
      case rel=>exact HE.out
      case measure=>simp [intOf];omega
end
section
open Go.RowKit Go.Shelf
attribute [local go_sem] Oper.semAt_some
def zZg (q:Int×Int):List Value:=[O ii q.1,O ii q.2]
theorem zVc:(pg.info? 23).map (fun i=>(i.zero,i.size,i.bytes))=some (some (.agg #[O ii 0,O ii 0]),2,16):=by kernel_rfl
theorem zEq {P:Program} {w:World} {ops:Array Oper} {rest:List Oper} {o:Oper} {a:Act} {Q:Exit->Act->World->Prop}
 (hgd:o.guard=none) (s x:Operand) (t:TypeId) (ho:o.op = .call { callee:=.builtin .append,args:=#[s,x],argTypes:=#[t,t] })
 (v xv:Value) (hs:a.eval s=v) (hx:a.eval x=xv) {v':Value} {w':World} (hr:(Builtin.append_ #[t,t] o.type #[v,xv]).run P w = .ok v' w') (h:wpList P ops Q rest (a.put o.dst v') w') :
 wpList P ops Q (o::rest) a w:=by
 refine wpList_plain hgd fun K hK=>?_;unfold Oper.wp;simp [execOp,ho,resolve,invoke,builtin,hs,hx,hr,Result.andThen];exact hK _ _ h
def Cn (w:World) (v:Value) (P:List (Int×Int)):Prop:=w.ownsRow 0 23 2 v P.length (P.flatMap zZg)
theorem Cn.slice {w:World} {v:Value} {P:List (Int×Int)} (h:Cn w v P):∃a n c,v = .slice a n c:=by
 rcases h.2 with ⟨e,_⟩|⟨g,cap,cur,e,hb,hg,r⟩
 ·exact ⟨_,_,_,e⟩
 ·exact ⟨_,_,_,e⟩
theorem Cn.nil (w:World):Cn w (.slice none 0 0) []:=⟨rfl,.inl ⟨rfl,rfl⟩⟩
theorem Cn.turned {S:Nat->Prop} {w w':World} {v:Value} {P:List (Int×Int)} (h:Cn w v P) (T:Turns S w w') (hs:∀k,v.ownBlock=some k->¬S k):Cn w' v P:=zA3 h T hs
theorem Cn.push {w:World} {v:Value} {P:List (Int×Int)} {N:Nat} (h:Cn w v P) (ho:∀k,v.ownBlock=some k->N<k) (hN:N<w.heap.size) (x y:Int) (hlen:P.length<=1000000000) :
 ∃v' w',(Builtin.append_ #[34,34] 34 #[v,.slice (some ⟨w.heap.size,0,none⟩) 1 1]).run pg (w.alloc (.cells #[O ii x,O ii y] 23)) = .ok v' w'/\(∃a n c,v' = .slice a n c)/\Cn w' v' (P++[(x,y)])/\(∀k,v'.ownBlock=some k->N<k)/\Turns (fun k=>v.ownBlock=some k) w w':=by
 obtain ⟨fi,hf,hz,h1,h8⟩:=info_parts zVc
 obtain ⟨v',w',q1,q2,q3,q4,q5⟩:=run_append_own_at (P:=pg) (w.alloc (.cells #[O ii x,O ii y] 23)) 0 34 34 23 fi (.agg #[O ii 0,O ii 0]) 2 16 Tryz.underlying34 hf hz h1 h8 rfl (by decide) v P.length _ (World.ownsRow.alloc h _) ⟨w.heap.size,0,none⟩ 1 1 (zZg (x,y)) rfl (fun j u hu=>by
  rw [Addr.add_lit,Nat.zero_add,cell_of_row _ w.heap.size j _ _ _ (heap_alloc_new w _)]
  simpa [zZg] using hu) (by intro u hu;simp [zZg] at hu;rcases hu with rfl|rfl<;>rfl) (by unfold maxLen;omega) (by omega) (Nat.zero_le _)
 have n1:Cn w' v' (P++[(x,y)]):=by
  unfold Cn;rw [List.flatMap_append,List.length_append];simpa using q2
 refine ⟨v',w',q1,n1.slice,n1,fun k e=>?_,(Turns.of_below (zAh w _)).trans ((Turns.of_grown (S:=fun k=>v.ownBlock=some k) q3 (fun k e=>e)).mono (fun k _ e => .inl e))⟩;rcases q5 with q|q
 ·exact ho k (q▸e)
 ·rw [q] at e;cases e;simp;omega
theorem zKe {x y p q c d:Int} {k:Nat} {t:Fin 8} (h:t∈zAq x y p q c d k):inn x y p q c d t.val=true:=(List.mem_filter.1 h).2
theorem zLz {x y p q c d:Int} {k:Nat} (h:inn x y p q c d k=true):(0<=x+dX k-p/\x+dX k-p<c)/\0<=y+dY k-q/\y+dY k-q<d:=by
 rw [inn,Bool.and_eq_true] at h;have hbox:=(zBz _ _ _ _ _ _).1 h.2;omega
theorem zFd (t:Fin 8):10<=co (t.val:Int)/\co (t.val:Int)<=14:=by
 revert t
 decide
def Wy (W H:Int) (tl:List Nat) (f:Int->Int->Option Int) (c s ix iy iw ih:Int) (C:List Int) (x y cost:Int) (l:List (Int×Int)):Prop:=∀M:Int->Int->Int->List (Int×Int)->Prop,(∀x y cost,cost<=0->M x y cost [])->(∀x y cost,0<cost->(∀t∈zAq x y ix iy iw ih 8,zEp (fun d=>stp W H tl f c s x y (d:Int)) ix iy iw C x y cost t=false)->M x y cost [(x,y)])->(∀(x y cost:Int) (pre:List (Fin 8)) (t:Fin 8) (l:List (Int×Int)),0<cost->pre++[t] <+: zAq x y ix iy iw ih 8->(∀t∈pre,zEp (fun d=>stp W H tl f c s x y (d:Int)) ix iy iw C x y cost t=false)->zEp (fun d=>stp W H tl f c s x y (d:Int)) ix iy iw C x y cost t=true->M (x+dX t.val) (y+dY t.val) (cost-co (t.val:Int)) l->M x y cost ((x+dX t.val,y+dY t.val)::l))->M x y cost l
theorem Wy.ends {W H:Int} {tl:List Nat} {f:Int->Int->Option Int} {c s ix iy iw ih:Int} {C:List Int} {x y cost:Int} (h:cost<=0):Wy W H tl f c s ix iy iw ih C x y cost []:=fun _ m1 _ _=>m1 _ _ _ h
theorem Wy.lost {W H:Int} {tl:List Nat} {f:Int->Int->Option Int} {c s ix iy iw ih:Int} {C:List Int} {x y cost:Int} (h:0<cost) (h1:(∀t∈zAq x y ix iy iw ih 8,zEp (fun d=>stp W H tl f c s x y (d:Int)) ix iy iw C x y cost t=false)):Wy W H tl f c s ix iy iw ih C x y cost [(x,y)]:=fun _ _ m2 _=>m2 _ _ _ h h1
theorem Wy.next {W H:Int} {tl:List Nat} {f:Int->Int->Option Int} {c s ix iy iw ih:Int} {C:List Int} {x y cost:Int} {pre:List (Fin 8)} {t:Fin 8} {l:List (Int×Int)} (h:0<cost) (h1:pre++[t] <+: zAq x y ix iy iw ih 8) (h2:(∀t∈pre,zEp (fun d=>stp W H tl f c s x y (d:Int)) ix iy iw C x y cost t=false)) (h3:zEp (fun d=>stp W H tl f c s x y (d:Int)) ix iy iw C x y cost t=true) (h4:Wy W H tl f c s ix iy iw ih C (x+dX t.val) (y+dY t.val) (cost-co (t.val:Int)) l):Wy W H tl f c s ix iy iw ih C x y cost ((x+dX t.val,y+dY t.val)::l):=fun M m1 m2 m3=>m3 _ _ _ _ _ _ h h1 h2 h3 (h4 M m1 m2 m3)
theorem Wy.ind {W H:Int} {tl:List Nat} {f:Int->Int->Option Int} {c s ix iy iw ih:Int} {C:List Int} {motive:(x y cost:Int)->(l:List (Int×Int))->Wy W H tl f c s ix iy iw ih C x y cost l->Prop} (ends:∀{x y cost:Int} (h:cost<=0),motive x y cost [] (Wy.ends h)) (lost:∀{x y cost:Int} (h:0<cost) (h1:(∀t∈zAq x y ix iy iw ih 8,zEp (fun d=>stp W H tl f c s x y (d:Int)) ix iy iw C x y cost t=false)),motive x y cost [(x,y)] (Wy.lost h h1)) (next:∀{x y cost:Int} {pre:List (Fin 8)} {t:Fin 8} {l:List (Int×Int)} (h:0<cost) (h1:pre++[t] <+: zAq x y ix iy iw ih 8) (h2:(∀t∈pre,zEp (fun d=>stp W H tl f c s x y (d:Int)) ix iy iw C x y cost t=false)) (h3:zEp (fun d=>stp W H tl f c s x y (d:Int)) ix iy iw C x y cost t=true) (h4:Wy W H tl f c s ix iy iw ih C (x+dX t.val) (y+dY t.val) (cost-co (t.val:Int)) l),motive (x+dX t.val) (y+dY t.val) (cost-co (t.val:Int)) l h4->motive x y cost ((x+dX t.val,y+dY t.val)::l) (Wy.next h h1 h2 h3 h4)) {x y cost:Int} {l:List (Int×Int)} (h:Wy W H tl f c s ix iy iw ih C x y cost l):motive x y cost l h:=by
 obtain ⟨h',hm⟩:∃h':Wy W H tl f c s ix iy iw ih C x y cost l,motive x y cost l h':=h (fun x y cost l=>∃h':Wy W H tl f c s ix iy iw ih C x y cost l,motive x y cost l h') (fun x y cost h=>⟨_,ends h⟩) (fun x y cost h h1=>⟨_,lost h h1⟩) (fun x y cost pre t l h h1 h2 h3 ⟨h',hm⟩=>⟨_,next h h1 h2 h3 h' hm⟩);exact hm
theorem Wy.inv {W H:Int} {tl:List Nat} {f:Int->Int->Option Int} {c s ix iy iw ih:Int} {C:List Int} {x y cost:Int} {l:List (Int×Int)} (h:Wy W H tl f c s ix iy iw ih C x y cost l):(cost<=0/\l=[])\/(0<cost/\(∀t∈zAq x y ix iy iw ih 8,zEp (fun d=>stp W H tl f c s x y (d:Int)) ix iy iw C x y cost t=false)/\l=[(x,y)])\/∃(pre:List (Fin 8)) (t:Fin 8) (m:List (Int×Int)),0<cost/\pre++[t] <+: zAq x y ix iy iw ih 8/\(∀t∈pre,zEp (fun d=>stp W H tl f c s x y (d:Int)) ix iy iw C x y cost t=false)/\zEp (fun d=>stp W H tl f c s x y (d:Int)) ix iy iw C x y cost t=true/\Wy W H tl f c s ix iy iw ih C (x+dX t.val) (y+dY t.val) (cost-co (t.val:Int)) m/\l=(x+dX t.val,y+dY t.val)::m:=by
 induction h using Wy.ind with
 |ends h=>exact .inl ⟨h,rfl⟩
 |lost h h1=>exact .inr (.inl ⟨h,h1,rfl⟩)
 |next h h1 h2 h3 h4 _=>exact .inr (.inr ⟨_,_,_,h,h1,h2,h3,h4,rfl⟩)
theorem zQx (w0:World) (k p:Nat) (c s ix iy iw ih:Int) (gv cv:Value) (b:Nat) (lf:Value) (G:List Nat) (C:List Int) (hv:Value) (n:Int) (S:List It) (W H:Int) (tl:List Nat) (f:Int->Int->Option Int) (x y cost:Int) (w:World)
 (h:Sch w0 w k p c s ix iy iw ih gv cv b lf G C hv n S) (hw:Wl w0 p W H tl f) (hg:Grnd w0) (ho:Offs w0) (hok:Gok W H tl f c s ix iy iw ih G) (hC:C.length=(ih*iw).toNat)
 (hx:0<=x-ix/\x-ix<iw) (hy:0<=y-iy/\y-iy<ih) (hi:0<=ix/\0<=iy/\ix+iw<=1048576/\iy+ih<=1048576)
 (hb:∀m∈C,-1<=m/\m<=1099511627776) (hc:0<cost) :
 Calls pg 89 #[ptr k,cel x y,O ii cost] w fun e w'=>∃u v r,e = .returned (.tuple #[cel u v,O ii r])/\(∃G',Sch w0 w' k p c s ix iy iw ih gv cv b lf G' C hv n S/\Gok W H tl f c s ix iy iw ih G')/\Turns (fun j=>gv.ownBlock=some j) w w'/\
  ((0<=u-ix/\u-ix<iw)/\0<=v-iy/\v-iy<ih)/\(∀l,Wy W H tl f c s ix iy iw ih C u v r l->Wy W H tl f c s ix iy iw ih C x y cost ((u,v)::l))/\(r=0\/r+10<=cost):=by
 refine (zN9 w0 k p c s ix iy iw ih gv cv b lf G C hv n S W H tl f x y cost w h hw hg ho hok hC hx hy hi hb).mono ?_;rintro e w' ⟨h1,h2,⟨h3,rfl⟩|⟨pre,t,⟨h3,h4,h5⟩,rfl⟩⟩
 ·refine ⟨x,y,0,rfl,h1,h2,⟨hx,hy⟩,fun l hl=>?_,.inl rfl⟩;rcases Wy.inv hl with ⟨q,hq⟩|⟨q,-⟩|⟨_,_,_,q,-⟩
  ·subst hq;exact .lost hc h3
  ·omega
  ·omega
 ·have hm:t∈zAq x y ix iy iw ih 8:=by obtain ⟨r,hr⟩:=h3;rw [<-hr];simp
  have hco:=zFd t;exact ⟨_,_,_,rfl,h1,h2,zLz (zKe hm),fun l hl => .next hc h3 h4 h5 hl,.inr (by omega)⟩
def zP8 (w0:World) (k p:Nat) (c s ix iy iw ih:Int) (gv cv:Value) (b:Nat) (lf:Value) (C:List Int) (hv:Value) (n:Int) (S:List It) (W H:Int) (tl:List Nat) (f:Int->Int->Option Int) (x y cost:Int) (w:World) (e:Ending) (w':World):Prop:=
 ∃v P,e = .returned v/\Wy W H tl f c s ix iy iw ih C x y cost P/\(Cn w' v P/\∀j,v.ownBlock=some j->w.heap.size<=j)/\(∃G',Sch w0 w' k p c s ix iy iw ih gv cv b lf G' C hv n S/\Gok W H tl f c s ix iy iw ih G')/\Turns (fun j=>gv.ownBlock=some j) w w'
theorem zWv (w0:World) (k p:Nat) (c s ix iy iw ih:Int) (gv cv:Value) (b:Nat) (lf:Value) (G:List Nat) (C:List Int) (hv:Value) (n:Int) (S:List It) (W H:Int) (tl:List Nat) (f:Int->Int->Option Int) (x y cost:Int) (w:World)
 (h:Sch w0 w k p c s ix iy iw ih gv cv b lf G C hv n S) (hw:Wl w0 p W H tl f) (hg:Grnd w0) (ho:Offs w0) (hok:Gok W H tl f c s ix iy iw ih G) (hC:C.length=(ih*iw).toNat)
 (hx:0<=x-ix/\x-ix<iw) (hy:0<=y-iy/\y-iy<ih) (hi:0<=ix/\0<=iy/\ix+iw<=1048576/\iy+ih<=1048576)
 (hb:∀m∈C,-1<=m/\m<=1099511627776) (hc:cost<=1000000000) :
 Calls pg 51 #[ptr k,cel x y,O ii cost] w (zP8 w0 k p c s ix iy iw ih gv cv b lf C hv n S W H tl f x y cost w):=by
 have B0:Below w.heap.size w (w.alloc (.cells #[O ii x,O ii y] 23)):=zAh _ _;have Hst:Hid (∃(ax ay ac:Int) (P:List (Int×Int)) (G':List Nat),((Value.int .i64 cost) = O ii ac/\(∃a n c,(Value.slice none 0 0) = .slice a n c))/\(∀l,Wy W H tl f c s ix iy iw ih C ax ay ac l->Wy W H tl f c s ix iy iw ih C x y cost (P++l))/\((0<=ax-ix/\ax-ix<iw)/\0<=ay-iy/\ay-iy<ih)/\Two (w.alloc (.cells #[O ii x,O ii y] 23)) w.heap.size ax ay/\(Sch w0 (w.alloc (.cells #[O ii x,O ii y] 23)) k p c s ix iy iw ih gv cv b lf G' C hv n S/\Gok W H tl f c s ix iy iw ih G')/\(Cn (w.alloc (.cells #[O ii x,O ii y] 23)) (Value.slice none 0 0) P/\∀j,(Value.slice none 0 0).ownBlock=some j->w.heap.size<j)/\(Turns (fun j=>gv.ownBlock=some j) w (w.alloc (.cells #[O ii x,O ii y] 23))/\w.heap.size<(w.alloc (.cells #[O ii x,O ii y] 23)).heap.size)/\(((P.length:Nat):Int)*10+ac<=cost\/(ac<=0/\P.length<=100000001))/\ac<=1000000000):=zAb ⟨x,y,cost,[],G,⟨rfl,_,_,_,rfl⟩,fun l hl=>hl,⟨hx,hy⟩,Two.newAt rfl,⟨h.upto B0,hok⟩,⟨Cn.nil _,fun j e=>by simp [Value.ownBlock] at e⟩,⟨Turns.of_below B0,by simp⟩,.inl (by simp),hc⟩;have Hno:Hid (∀j,Own gv cv b hv j->j<w.heap.size):=zAb fun j e=>h.own_lt e;have Hk:=zAb (ai h.bel.size h.sr.lt);have Hb:=zAb (ai hi (ai hC (ai hb hc)));clear h B0 hok hx hy hi hC hb hc;go_enter func51,ntmps51;go_wp2_with fail;go_loopw [2,7] (fun vc vv wr=>∃(ax ay ac:Int) (P:List (Int×Int)) (G':List Nat),(vc = O ii ac/\(∃a n c,vv = .slice a n c))/\(∀l,Wy W H tl f c s ix iy iw ih C ax ay ac l->Wy W H tl f c s ix iy iw ih C x y cost (P++l))/\((0<=ax-ix/\ax-ix<iw)/\0<=ay-iy/\ay-iy<ih)/\Two wr w.heap.size ax ay/\(Sch w0 wr k p c s ix iy iw ih gv cv b lf G' C hv n S/\Gok W H tl f c s ix iy iw ih G')/\(Cn wr vv P/\∀j,vv.ownBlock=some j->w.heap.size<j)/\(Turns (fun j=>gv.ownBlock=some j) w wr/\w.heap.size<wr.heap.size)/\(((P.length:Nat):Int)*10+ac<=cost\/(ac<=0/\P.length<=100000001))/\ac<=1000000000) (fun vc _ _=>(intOf vc).toNat)
 case atStart=>exact Hst.out
 case round =>
  clear Hst;obtain ⟨ax,ay,ac,P,G',⟨rfl,a1,a2,a3,rfl⟩,hWy,⟨hx,hy⟩,hF,⟨hs,hgo⟩,⟨hcn,hown⟩,⟨hT,hz⟩,hlen,hac⟩:=hrel
  by_cases hpos:0<ac
  ·obtain ⟨hi,hC,hb,hc⟩:=Hb.out;have hl10:((P.length:Nat):Int)*10+ac<=cost:=by omega
   have HOn:=zAb (zQx w0 k p c s ix iy iw ih gv cv b lf G' C hv n S W H tl f ax ay ac _ hs hw hg ho hgo hC hx hy hi hb hpos);obtain ⟨⟨f0,f1⟩,⟨f2,f3⟩,-⟩:=id hF;have Hwy:=zAb hWy;have Hr:=zAb (ai hF (ai hcn (ai hown (ai hT (ai hz (ai hl10 hac))))));have Hpos:=zAb hpos;clear hi hC hb hc hWy hx hy hF hs hgo hcn hown hT hz hlen hac hl10 f2 f3;go_wp2_with fail;refine HOn.out.mono ?_;rintro e w1 ⟨u,v,r,rfl,⟨G2,s1,s2⟩,T1,hin,hwy,hr⟩;obtain ⟨hF,hcn,hown,hT,hz,hl10,hac⟩:=Hr.out;have hcc:=Hb.out.2.2.2;have hno:∀j,w.heap.size<=j->¬gv.ownBlock=some j:=fun j hj e=>by have:=Hno.out j (.inl e);omega
   have hF1:=hF.turned T1 (hno _ (Nat.le_refl _));have hz1:=T1.size;obtain ⟨Y,hY⟩:=ex ((w1.setCell ⟨w.heap.size,0,none⟩ (O ii u)).setCell ⟨w.heap.size,1,none⟩ (O ii v));have FY:Two Y w.heap.size u v:=hY▸hF1.set;have TY:Turns (fun j=>j=w.heap.size) w1 Y:=hY▸zFx _ _ _ _;have hzY:=TY.size;have sY:=s1.leave TY (fun j e=>by have:=Hk.out.1;omega) (fun e=>by have:=Hk.out.2;omega) (fun j e q=>by have:=Hno.out j e;omega);have hcY:=(hcn.turned T1 (fun j e=>hno j (by have:=hown j e;omega))).turned TY (fun j e q=>by have:=hown j e;omega);obtain ⟨v9,w9,r9,⟨q1,q2,q3,rfl⟩,hC9,ho9,T9⟩:=hcY.push hown (by omega) u v (by omega);have hz9:=T9.size;have F9:=FY.turned T9 (fun e=>by have:=hown _ e;omega);have s9:=sY.leave T9 (fun j e=>by have:=hown j e;have:=Hk.out.1;omega) (fun e=>by have:=hown _ e;have:=Hk.out.2;omega) (fun j e q=>by have:=hown j q;have:=Hno.out j e;omega);have hpp:=Hpos.out
   have HE:Hid (∃(ax ay ac:Int) (P:List (Int×Int)) (G':List Nat),((Value.int .i64 r) = O ii ac/\(∃a n c,(Value.slice q1 q2 q3) = .slice a n c))/\(∀l,Wy W H tl f c s ix iy iw ih C ax ay ac l->Wy W H tl f c s ix iy iw ih C x y cost (P++l))/\((0<=ax-ix/\ax-ix<iw)/\0<=ay-iy/\ay-iy<ih)/\Two w9 w.heap.size ax ay/\(Sch w0 w9 k p c s ix iy iw ih gv cv b lf G' C hv n S/\Gok W H tl f c s ix iy iw ih G')/\(Cn w9 (Value.slice q1 q2 q3) P/\∀j,(Value.slice q1 q2 q3).ownBlock=some j->w.heap.size<j)/\(Turns (fun j=>gv.ownBlock=some j) w w9/\w.heap.size<w9.heap.size)/\(((P.length:Nat):Int)*10+ac<=cost\/(ac<=0/\P.length<=100000001))/\ac<=1000000000):=zAb ⟨u,v,r,P++[(u,v)],G2,⟨rfl,_,_,_,rfl⟩,fun l hl=>by
    rw [List.append_assoc];exact Hwy.out _ (hwy l hl),hin,F9,⟨s9,s2⟩,⟨hC9,ho9⟩,⟨((hT.trans (T1.mono (fun j _ e => .inl e))).trans (TY.mono (fun j _ e => .inr (by omega)))).trans (T9.mono (fun j _ e => .inr (by have:=hown j e;omega))),by omega⟩,by
    rcases hr with rfl|hr
    ·exact .inr ⟨by omega,by simp;omega⟩
    ·exact .inl (by simp;omega),by omega⟩
   have Hr2:=zAb hr;have HA:=zAb r9;have HY:=zAb hY;obtain ⟨⟨g0,g1⟩,⟨g2,g3⟩,-⟩:=id hF1;obtain ⟨⟨y0,y1⟩,-,-⟩:=id FY;clear hF hcn hown hT hz hl10 hac hF1 hz1 hY FY TY hzY sY hcY r9 hC9 ho9 T9 hz9 F9 s9 s1 s2 T1 hin hwy hr f0 f1;go_wp2_with (first|rw [HY.out]|(at_builtin;refine zEq rfl _ _ 34 rfl _ _ rfl rfl HA.out ?_));go_roundw
   case rel=>exact HE.out
   case measure=>have:=Hr2.out;simp [intOf];omega
  ·have HE:Hid (zP8 w0 k p c s ix iy iw ih gv cv b lf C hv n S W H tl f x y cost w (.returned (.slice a1 a2 a3)) wr):=zAb ⟨_,P,rfl,by have:=hWy [] (.ends (by omega));rwa [List.append_nil] at this,⟨hcn,fun j e=>Nat.le_of_lt (hown j e)⟩,⟨G',hs,hgo⟩,hT⟩;clear hWy hx hy hF hs hgo hcn hown hT hz hlen hac;go_wp2_with fail;refine bodyPost_ret (v:=.slice a1 a2 a3) (by simp [results,Tryz.results51,go_sem]) rfl ?_;exact HE.out
end
section
open Go.RowKit Go.Shelf
abbrev inB (ix iy iw ih:Int) (q:Int×Int):Prop:=(0<=q.1-ix/\q.1-ix<iw)/\0<=q.2-iy/\q.2-iy<ih
def zAx (W H:Int) (tl:List Nat) (f:Int->Int->Option Int) (c s ix iy iw ih:Int) (a b:Int×Int) (k:Nat):Prop:=
 ∃t:Fin 8,inn a.1 a.2 ix iy iw ih t.val=true/\stp W H tl f c s a.1 a.2 ((t.val:Nat):Int)=true/\b=(a.1+dX t.val,a.2+dY t.val)/\(k:Int)=co ((t.val:Nat):Int)
def tab (ix iy iw ih:Int) (C:List Int) (q:Int×Int):Option Nat:=
 if inB ix iy iw ih q then (match C[ij ix iy iw q.1 q.2]? with
  |some m=>if m = -1 then none else some m.toNat
  |none=>none) else none
def qu (S:List It):List ((Int×Int)×Nat):=S.map fun t=>((t.x,t.y),t.c.toNat)
theorem zSs:∀t u:Fin 8,dX t.val=dX u.val->dY t.val=dY u.val->t=u:=by decide
theorem zZ0:∀t:Fin 8,¬(dX t.val=0/\dY t.val=0):=by decide
theorem zS0 {ix iy iw ih:Int} {p q:Int×Int} (hp:inB ix iy iw ih p) (hq:inB ix iy iw ih q) (h:ij ix iy iw p.1 p.2=ij ix iy iw q.1 q.2):p=q:=by
 obtain ⟨⟨p1,p2⟩,p3,p4⟩:=hp;obtain ⟨⟨q1,q2⟩,q3,q4⟩:=hq;have a:=zCr (c:=0) (d:=0) p3 p4 p1 p2;have b:=zCr (c:=0) (d:=0) q3 q4 q1 q2;unfold ij at h;have e:(p.2-iy)*iw+(p.1-ix)=(q.2-iy)*iw+(q.1-ix):=by omega
 have hy:p.2-iy=q.2-iy:=by
  rcases Int.lt_trichotomy (p.2-iy) (q.2-iy) with h1|h1|h1
  ·have:(p.2-iy+1)*iw<=(q.2-iy)*iw:=Int.mul_le_mul_of_nonneg_right (by omega) (by omega);rw [Int.add_mul] at this;omega
  ·exact h1
  ·have:(q.2-iy+1)*iw<=(p.2-iy)*iw:=Int.mul_le_mul_of_nonneg_right (by omega) (by omega);rw [Int.add_mul] at this;omega
 rw [hy] at e;exact Prod.ext (by omega) (by omega)
theorem zGy {ix iy iw ih:Int} {p:Int×Int} (hp:inB ix iy iw ih p):ij ix iy iw p.1 p.2<(ih*iw).toNat:=by
 obtain ⟨⟨p1,p2⟩,p3,p4⟩:=hp;have a:=zCr (c:=0) (d:=0) p3 p4 p1 p2;unfold ij;omega
theorem few:∀(N:Nat) (l:List Nat),l.Nodup->(∀x∈l,x<N)->l.length<=N
 |0,l,_,h=>by cases l with
  |nil=>simp
  |cons a l=>have:=h a (by simp);omega
 |N+1,l,hn,h=>by
  by_cases hm:N∈l
  ·have h1:=few N (l.erase N) (hn.erase N) (fun x hx=>by
    have h2:=(hn.mem_erase_iff).1 hx;have:=h x h2.2;have:=h2.1
    omega)
   have:=List.length_erase_of_mem hm;have:0<l.length:=List.length_pos_of_mem hm;omega
  ·have:=few N l hn (fun x hx=>by
    have:=h x hx;have:x≠N:=fun e=>hm (e▸hx)
    omega)
   omega
theorem zPn {ix iy iw ih:Int} {E:List (Int×Int)} (hn:E.Nodup) (h:∀q∈E,inB ix iy iw ih q):E.length<=(ih*iw).toNat:=by
 have h1:(E.map fun q=>ij ix iy iw q.1 q.2).Nodup:=by
  rw [List.Nodup,List.pairwise_map];exact hn.imp_of_mem (fun ha hb hne e=>hne (zS0 (h _ ha) (h _ hb) e))
 have:=few (ih*iw).toNat _ h1 (fun x hx=>by
  obtain ⟨q,hq,rfl⟩:=List.mem_map.1 hx
  exact zGy (h q hq))
 simpa using this
theorem zFy {ix iy iw ih:Int} {C:List Int} {q:Int×Int} {m:Int} (hq:inB ix iy iw ih q) (hm:C[ij ix iy iw q.1 q.2]? = some m):tab ix iy iw ih C q=if m = -1 then none else some m.toNat:=by
 unfold tab;rw [if_pos hq,hm]
theorem zNl {ix iy iw ih:Int} {C:List Int} {d:Int×Int} {g:Int} (hd:inB ix iy iw ih d) (hC:C.length=(ih*iw).toNat) (hg:0<=g):tab ix iy iw ih (C.set (ij ix iy iw d.1 d.2) g)=put (tab ix iy iw ih C) d g.toNat:=by
 funext q
 unfold put
 by_cases e:q=d
 ·subst e;rw [if_pos rfl,zFy hd (m:=g) (by rw [List.getElem?_set_self];rw [hC];exact zGy hd),if_neg (by omega)]
 ·rw [if_neg e];unfold tab
  by_cases hq:inB ix iy iw ih q
  ·rw [if_pos hq,if_pos hq,List.getElem?_set_ne (fun h=>e (zS0 hd hq h).symm)]
  ·rw [if_neg hq,if_neg hq]
theorem Sp.weaken {α:Type} {step:α->α->Nat->Prop} {s:α} {C:α->Option Nat} {H:List (α×Nat)} {c:α} {g:Nat} {P Q:α->Nat->Prop} (h:Sp step s C H c g P) (hpq:∀d w,step c d w->P d w->Q d w):Sp step s C H c g Q:=
 ⟨h.src,h.real,h.rest,h.here,fun d w hs=>(h.gone d w hs).imp (hpq d w hs) id⟩
theorem Drn.last {S xs R:List It} {t:It} (h:Drn S (xs++[t]) R):∃R0,Drn S xs R0/\R0.Perm (t::R)/\∀u∈R0,lt u t=false:=by
 generalize he:xs++[t]=ys at h
 cases h using Drn.cs with
 |start=>simp at he
 | @next xs' R0 R' t' h1 h2 h3 =>
  obtain ⟨e1,e2⟩:=List.append_inj' he rfl;simp at e2;subst e1;subst e2;exact ⟨R0,h1,h2,h3⟩
section
variable {W H:Int} {tl:List Nat} {f:Int->Int->Option Int} {c s ix iy iw ih:Int} {L:Int->Int->Int} {sx sy:Int}
structure Okk (W H:Int) (tl:List Nat) (f:Int->Int->Option Int) (c s ix iy iw ih:Int) (L:Int->Int->Int) (sx sy:Int) (i:Nat) (C:List Int) (n:Int) (S:List It):Prop where
 len:C.length=(ih*iw).toNat
 inr:InR ix iy iw ih S
 cst:∀t∈S,0<=t.c/\t.c<=14*i
 whole:∀t∈S,t.f=t.c+L t.x t.y
 tb:∀m∈C,-1<=m/\m<=14*i
 cnt:0<=n/\n<=8*i+1
 few:S.length<=8*i+1
 sk:Sk (zAx W H tl f c s ix iy iw ih) (sx,sy) (tab ix iy iw ih C) (qu S)
 se:∃E,Se (zAx W H tl f c s ix iy iw ih) (sx,sy) (tab ix iy iw ih C) (qu S) E/\E.length=i/\∀q∈E,inB ix iy iw ih q
theorem Okk.small {i:Nat} {C:List Int} {n:Int} {S:List It} (h:Okk W H tl f c s ix iy iw ih L sx sy i C n S):i<=(ih*iw).toNat:=by
 obtain ⟨E,h1,h2,h3⟩:=h.se;rw [<-h2];exact zPn h1.en h3
theorem Okk.drops {i:Nat} {C:List Int} {n:Int} {S xs R:List It} (h:Okk W H tl f c s ix iy iw ih L sx sy i C n S) (hd:Drn S xs R) (hx:∀u∈xs,hit ix iy iw C u=false):Okk W H tl f c s ix iy iw ih L sx sy i C n R:=by
 induction hd using Drn.ind with
 |start=>exact h
 | @next xs R R' u h1 h2 h3 ih2 =>
  have ho:=ih2 (fun v hv=>hx v (List.mem_append_left _ hv));have hu:=hx u (by simp);have hm:u∈R:=h2.mem_iff.2 List.mem_cons_self;have sub:∀t∈R',t∈R:=fun t ht=>h2.mem_iff.2 (List.mem_cons_of_mem _ ht);have hp:(qu R).Perm (((u.x,u.y),u.c.toNat)::qu R'):=h2.map _;obtain ⟨E,e1,e2,e3⟩:=ho.se;refine ⟨ho.len,fun t ht=>ho.inr t (sub t ht),fun t ht=>ho.cst t (sub t ht),fun t ht=>ho.whole t (sub t ht),ho.tb,ho.cnt,by have:=h2.length_eq;simp at this;have:=ho.few;omega,ho.sk.drop (c:=(u.x,u.y)) (g:=u.c.toNat) (fun q=>?_) (fun e he=>List.mem_cons.1 (hp.mem_iff.1 he)),E,e1.drop hp,e2,e3⟩;have hin:inB ix iy iw ih (u.x,u.y):=ho.inr u hm;have hl:=zGy hin;rw [<-ho.len] at hl;have hg:C[ij ix iy iw u.x u.y]? = some (C[ij ix iy iw u.x u.y]'hl):=List.getElem?_eq_getElem hl;have hb:=ho.tb _ (List.getElem_mem hl);generalize (C[ij ix iy iw u.x u.y]'hl)=m at hg hb;rw [zFy hin hg] at q;unfold hit at hu;rw [hg] at hu;simp at hu;have hc:=(ho.cst u hm).1
  split at q
  ·cases q
  ·injection q with q
   omega
structure Okm (W H:Int) (tl:List Nat) (f:Int->Int->Option Int) (c s ix iy iw ih:Int) (L:Int->Int->Int) (sx sy:Int) (x y g:Int) (i:Nat) (a:AS) (rest:List (Fin 8)):Prop where
 len:a.1.length=(ih*iw).toNat
 inr:InR ix iy iw ih a.2.2
 cst:∀t∈a.2.2,0<=t.c/\t.c<=14*i+14
 whole:∀t∈a.2.2,t.f=t.c+L t.x t.y
 tb:∀m∈a.1,-1<=m/\m<=14*i+14
 sp:Sp (zAx W H tl f c s ix iy iw ih) (sx,sy) (tab ix iy iw ih a.1) (qu a.2.2) (x,y) g.toNat (fun d v=>∃t∈rest,d=(x+dX t.val,y+dY t.val))
 se:∃E,Se (zAx W H tl f c s ix iy iw ih) (sx,sy) (tab ix iy iw ih a.1) (qu a.2.2) E/\E.length=i+1/\∀q∈E,inB ix iy iw ih q
theorem Okm.go {x y g:Int} {i:Nat} {a:AS} {t:Fin 8} {rest:List (Fin 8)} (hg:0<=g/\g<=14*i) (hin:inn x y ix iy iw ih t.val=true) (h:Okm W H tl f c s ix iy iw ih L sx sy x y g i a (t::rest)):Okm W H tl f c s ix iy iw ih L sx sy x y g i (goF (fun d=>stp W H tl f c s x y (d:Int)) ix iy iw L x y g a t) rest:=by
 obtain ⟨C,n,S⟩:=a;have hco:=zFd t;have hd:inB ix iy iw ih (x+dX t.val,y+dY t.val):=zLz hin
 have huniq:∀v,zAx W H tl f c s ix iy iw ih (x,y) (x+dX t.val,y+dY t.val) v->v=(co ((t.val:Nat):Int)).toNat:=by
  rintro v ⟨u,u1,u2,u3,u4⟩;simp only [Prod.mk.injEq] at u3;have e:t=u:=zSs t u (by omega) (by omega);subst e;omega
 have hweak:∀{P:Int×Int->Nat->Prop},∀d v,zAx W H tl f c s ix iy iw ih (x,y) d v->(d≠(x+dX t.val,y+dY t.val)/\∃u∈t::rest,d=(x+dX u.val,y+dY u.val))->∃u∈rest,d=(x+dX u.val,y+dY u.val):=by
  rintro P d v - ⟨h1,u,hu,rfl⟩;rcases List.mem_cons.1 hu with rfl|hu
  ·exact absurd rfl h1
  ·exact ⟨u,hu,rfl⟩
 unfold goF
 by_cases hs:stp W H tl f c s x y ((t.val:Nat):Int)=true
 ·rw [if_pos hs];have hst:zAx W H tl f c s ix iy iw ih (x,y) (x+dX t.val,y+dY t.val) (co ((t.val:Nat):Int)).toNat:=⟨t,hin,hs,rfl,by omega⟩
  have hl:=zGy hd;rw [<-h.len] at hl;have hgt:C[ij ix iy iw (x+dX t.val) (y+dY t.val)]? = some (C[ij ix iy iw (x+dX t.val) (y+dY t.val)]'hl):=List.getElem?_eq_getElem hl;have hb:=h.tb _ (List.getElem_mem hl);simp only at hb;generalize (C[ij ix iy iw (x+dX t.val) (y+dY t.val)]'hl)=m at hgt hb;have htab:=zFy hd hgt;unfold zH9;simp only [hgt,Option.getD_some]
  by_cases hm:m≠-1/\m<=g+co ((t.val:Nat):Int)
  ·rw [if_pos hm];refine ⟨h.len,h.inr,h.cst,h.whole,h.tb,(h.sp.pass (d:=(x+dX t.val,y+dY t.val)) (.inr ⟨m.toNat,by simp only;rw [htab,if_neg hm.1],by omega⟩) huniq).weaken (hweak (P:=fun _ _=>True)),h.se⟩
  ·rw [if_neg hm]
   have hbt:zFe (tab ix iy iw ih C) (x+dX t.val,y+dY t.val) (g.toNat+(co ((t.val:Nat):Int)).toNat)=true:=by
    unfold zFe;rw [htab]
    split
    ·rename_i q
     split at q
     ·cases q
     ·injection q with q;simp;omega
    ·rfl
   have hsum:(g+co ((t.val:Nat):Int)).toNat=g.toNat+(co ((t.val:Nat):Int)).toNat:=by omega
   have hset:=zNl (C:=C) (g:=g+co ((t.val:Nat):Int)) hd h.len (by omega);rw [hsum] at hset;have hne:(x+dX t.val,y+dY t.val)≠(x,y):=fun e=>zZ0 t (by simp only [Prod.mk.injEq] at e;omega)
   have hds:(x+dX t.val,y+dY t.val)≠(sx,sy):=fun e=>by
    rw [e] at hbt;unfold zFe at hbt;rw [h.sp.src] at hbt;simp at hbt
   have hqu:qu (⟨x+dX t.val,y+dY t.val,g+co ((t.val:Nat):Int),g+co ((t.val:Nat):Int)+L (x+dX t.val) (y+dY t.val),n⟩ :: S)=((x+dX t.val,y+dY t.val),g.toNat+(co ((t.val:Nat):Int)).toNat)::qu S:=by simp only [qu,List.map_cons,hsum]
   obtain ⟨E,e1,e2,e3⟩:=h.se;refine ⟨by simp only [List.length_set];exact h.len,fun u hu=>?_,fun u hu=>?_,fun u hu=>?_,fun k hk=>?_,?_,E,?_,e2,e3⟩
   ·rcases List.mem_cons.1 hu with rfl|hu
    ·exact hd
    ·exact h.inr u hu
   ·rcases List.mem_cons.1 hu with rfl|hu
    ·simp only;omega
    ·exact h.cst u hu
   ·rcases List.mem_cons.1 hu with rfl|hu
    ·rfl
    ·exact h.whole u hu
   ·rcases List.mem_or_eq_of_mem_set hk with hk|rfl
    ·exact h.tb k hk
    ·omega
   ·simp only;rw [hset,hqu];exact (h.sp.meet hst hbt hne hds huniq (fun e he=>List.mem_cons_of_mem _ he) List.mem_cons_self).weaken (hweak (P:=fun _ _=>True))
   ·simp only;rw [hset,hqu];exact e1.meet ((h.sp.real _ _ h.sp.here).snoc hst) hbt (List.Perm.refl _)
 ·rw [if_neg hs];refine ⟨h.len,h.inr,h.cst,h.whole,h.tb,(h.sp.pass (d:=(x+dX t.val,y+dY t.val)) (w:=(co ((t.val:Nat):Int)).toNat) (.inl ?_) huniq).weaken (hweak (P:=fun _ _=>True)),h.se⟩;rintro ⟨u,u1,u2,u3,u4⟩;simp only [Prod.mk.injEq] at u3;have e:t=u:=zSs t u (by omega) (by omega);subst e;exact hs u2
theorem Okm.goes {x y g:Int} {i:Nat} (hg:0<=g/\g<=14*i):∀(l:List (Fin 8)) (a:AS),(∀t∈l,inn x y ix iy iw ih t.val=true)->Okm W H tl f c s ix iy iw ih L sx sy x y g i a l->Okm W H tl f c s ix iy iw ih L sx sy x y g i (zBj (fun d=>stp W H tl f c s x y (d:Int)) ix iy iw L x y g a l) []
 | [],a,_,h=>h
 |t::l,a,hi,h=>Okm.goes hg l _ (fun u hu=>hi u (List.mem_cons_of_mem _ hu)) (h.go hg (hi t List.mem_cons_self))
theorem Okk.next (hcon:∀a b k,zAx W H tl f c s ix iy iw ih a b k->(L a.1 a.2).toNat<=k+(L b.1 b.2).toNat) (hL:∀u v,0<=L u v) {i:Nat} {C:List Int} {n:Int} {S R:List It} {tx ty tc tf:Int} (h:Okk W H tl f c s ix iy iw ih L sx sy i C n S) (hx:Nx ix iy iw C S tx ty tc tf true R) {a:AS}
 (ha:a=zBj (fun d=>stp W H tl f c s tx ty (d:Int)) ix iy iw L tx ty tc (C,n,R) (zAq tx ty ix iy iw ih 8)):Okk W H tl f c s ix iy iw ih L sx sy (i+1) a.1 a.2.1 a.2.2:=by
 obtain ⟨xs,h1,⟨q,-⟩|⟨-,pre,t,rfl,h2,h3,rfl,rfl,rfl,rfl⟩⟩:=hx
 ·cases q
 obtain ⟨R0,d1,d2,d3⟩:=h1.last;have ho:=h.drops d1 h2;have hm:t∈R0:=d2.mem_iff.2 List.mem_cons_self;have sub:∀u∈R,u∈R0:=fun u hu=>d2.mem_iff.2 (List.mem_cons_of_mem _ hu);have hp:(qu R0).Perm (((t.x,t.y),t.c.toNat)::qu R):=d2.map _;have hin:inB ix iy iw ih (t.x,t.y):=ho.inr t hm;have hc:=ho.cst t hm;have hg:C[ij ix iy iw t.x t.y]? = some t.c:=by simpa [hit] using h3
 have htab:tab ix iy iw ih C (t.x,t.y)=some t.c.toNat:=by rw [zFy hin hg,if_neg (by omega)]
 have hLe:Least (zAx W H tl f c s ix iy iw ih) (sx,sy) (t.x,t.y) t.c.toNat:=by
  refine ho.sk.first (left:=fun q=>(L q.1 q.2).toNat) hcon htab (fun d k hd=>?_);obtain ⟨u,hu,e⟩:=List.mem_map.1 hd;simp only [Prod.mk.injEq] at e;obtain ⟨rfl,rfl⟩:=e;have e1:=ho.whole t hm;have e2:=ho.whole u hu;have e3:=d3 u hu
  have e4:t.f<=u.f:=by
   by_cases q:u.f<t.f
   ·rw [(zGj u t).2 (.inl q)] at e3;cases e3
   ·omega
  have:=ho.cst u hu;have:=hL t.x t.y;have:=hL u.x u.y;simp only;omega
 obtain ⟨E,e1,e2,e3⟩:=ho.se;obtain ⟨k1,k2⟩:=e1.take hp htab hLe;have hsp:=ho.sk.take (c:=(t.x,t.y)) (g:=t.c.toNat) htab (fun e he=>List.mem_cons.1 (hp.mem_iff.1 he))
 have hk:Okm W H tl f c s ix iy iw ih L sx sy t.x t.y t.c i (C,n,R) (zAq t.x t.y ix iy iw ih 8):=⟨ho.len,fun u hu=>ho.inr u (sub u hu),fun u hu=>by have:=ho.cst u (sub u hu);omega,fun u hu=>ho.whole u (sub u hu),fun m hm=>by have:=ho.tb m hm;omega,hsp.weaken (fun d v hs _=>by
  obtain ⟨u,u1,u2,u3,u4⟩:=hs
  exact ⟨u,List.mem_filter.2 ⟨by simp [List.mem_take_iff_getElem];exact ⟨u.val,u.isLt,rfl⟩,u1⟩,u3⟩),_,k2,by simp [e2],fun q hq=>by
  rcases List.mem_cons.1 hq with rfl|hq
  ·exact hin
  ·exact e3 q hq⟩
 have hf:=hk.goes hc _ _ (fun u hu=>zKe hu);have hle:=zEt (fun d=>stp W H tl f c s t.x t.y (d:Int)) ix iy iw L t.x t.y t.c (zAq t.x t.y ix iy iw ih 8) (C,n,R);rw [<-ha] at hf hle;have hl8:=zHa t.x t.y ix iy iw ih 8;have hR:=d2.length_eq;simp only [List.length_cons] at hR hle;have hf1:=ho.few;have hn:=ho.cnt;exact ⟨hf.len,hf.inr,fun u hu=>by have:=hf.cst u hu;push_cast;omega,hf.whole,fun m hm=>by have:=hf.tb m hm;push_cast;omega,by push_cast;omega,by omega,(hf.sp.weaken (Q:=fun _ _=>False) (fun d v _ hd=>by obtain ⟨u,hu,-⟩:=hd;cases hu)).done,hf.se⟩
end
end
end Go.Proofs.YtejjcenhjpjefaaGreatDoor
