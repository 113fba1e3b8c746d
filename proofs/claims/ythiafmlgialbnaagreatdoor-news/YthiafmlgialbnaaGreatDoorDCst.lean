import Init
import Derived.Test.YthiafmlgialbnaaGreatDoorNr
import Derived.Test.YthiafmlgialbnaaGreatDoorBg
import Derived.Deep.LoopGhost
import Derived.Test.YthiafmlgialbnaaGreatDoorGSt
set_option linter.all false
set_option maxRecDepth 1000000
set_option maxHeartbeats 64000000
open Go.Proofs.Tryz
open Go.Proofs.Tryz renaming prog->pg
open Array renaming getElem?_eq_some_iff->gE
open And renaming intro->ai
open Go.Value renaming int->O
open Go.IntKind renaming i64->ii
namespace Go.Proofs.YthiafmlgialbnaaGreatDoor
section
section
variable {α:Type} {step:α->α->Nat->Prop} {s goal:α} {left:α->Nat} {C:α->Option Nat} {H:List (α×Nat)}
def Wk (step : α → α → Nat → Prop) (a c : α) (n : Nat) : Prop := ∀ M : α → Nat → Prop, M a 0 → (∀ b c n w, M b n → step b c w → M c (n + w)) → M c n
theorem Wk.nil {step : α → α → Nat → Prop} (c : α) : Wk step c c 0 := fun _ h _ => h
theorem Wk.snoc {step : α → α → Nat → Prop} {a b c : α} {n w : Nat} (h : Wk step a b n) (hs : step b c w) : Wk step a c (n + w) := fun M h1 h2 => h2 _ _ _ _ (h M h1 h2) hs
theorem Wk.ind {step : α → α → Nat → Prop} {a : α} {motive : (c : α) → (n : Nat) → Wk step a c n → Prop} (nil : motive a 0 (Wk.nil a)) (snoc : ∀ {b c : α} {n w : Nat} (h : Wk step a b n) (hs : step b c w), motive b n h → motive c (n + w) (Wk.snoc h hs)) {c : α} {n : Nat} (h : Wk step a c n) : motive c n h := by
  obtain ⟨h', hm⟩ : ∃ h' : Wk step a c n, motive c n h' := h (fun c n => ∃ h' : Wk step a c n, motive c n h') ⟨_, nil⟩ (fun b c n w ⟨h', hm⟩ hs => ⟨_, snoc h' hs hm⟩)
  exact hm
theorem Wk.cs {step : α → α → Nat → Prop} {a : α} {motive : (c : α) → (n : Nat) → Wk step a c n → Prop} (nil : motive a 0 (Wk.nil a)) (snoc : ∀ {b c : α} {n w : Nat} (h : Wk step a b n) (hs : step b c w), motive c (n + w) (Wk.snoc h hs)) {c : α} {n : Nat} (h : Wk step a c n) : motive c n h := Wk.ind nil (fun h hs _ => snoc h hs) h
theorem Wk.one {a b:α} {w:Nat} (h:step a b w):Wk step a b w:=by
 have:=Wk.snoc (.nil a) h
 rwa [Nat.zero_add] at this
theorem Wk.trans {a b c:α} {m n:Nat} (h:Wk step a b m) (k:Wk step b c n):Wk step a c (m+n):=by
 induction k using Wk.ind with
 |nil=>exact h
 |snoc _ hs ih=>rw [<-Nat.add_assoc];exact .snoc ih hs
theorem Wk.rev (hsym:∀a b w,step a b w->step b a w) {a b:α} {n:Nat} (h:Wk step a b n):Wk step b a n:=by
 induction h using Wk.ind with
 |nil=>exact .nil _
 |snoc _ hs ih=>rw [Nat.add_comm];exact (Wk.one (hsym _ _ _ hs)).trans ih
def Least (step:α->α->Nat->Prop) (a b:α) (n:Nat):Prop:=Wk step a b n/\∀m,Wk step a b m->n<=m
theorem Least.eq {a b:α} {m n:Nat} (h:Least step a b m) (k:Least step a b n):m=n:=Nat.le_antisymm (h.2 n k.1) (k.2 m h.1)
theorem Least.exists:∀(n:Nat) {a b:α},Wk step a b n->∃m,m<=n/\Least step a b m:=by
 intro n
 induction n using Nat.strongRecOn with
 |_ n ih =>
  intro a b h
  by_cases hl:∃m,m<n/\Wk step a b m
  ·obtain ⟨m,hm,hw⟩:=hl;obtain ⟨k,hk,hL⟩:=ih m hm hw;exact ⟨k,by omega,hL⟩
  ·exact ⟨n,Nat.le_refl _,h,fun m hm=>by
    rcases Nat.lt_or_ge m n with q|q
    ·exact absurd ⟨m,q,hm⟩ hl
    ·exact q⟩
theorem Least.part {a b c:α} {n w:Nat} (h:Wk step a b n) (hs:step b c w) (hL:Least step a c (n+w)):Least step a b n:=
 ⟨h,fun m hm=>by have:=hL.2 _ (Wk.snoc hm hs);omega⟩
structure Sk (step:α->α->Nat->Prop) (s:α) (C:α->Option Nat) (H:List (α×Nat)):Prop where
 src:C s=some 0
 real:∀c g,C c=some g->Wk step s c g
 rest:∀c g,C c=some g->(∀d w,step c d w->∃h,C d=some h/\h<=g+w)\/(c,g)∈H
theorem Sk.wrong (h:Sk step s C H) {c:α} {n:Nat} (hw:Wk step s c n):Least step s c n->C c=some n\/∃b m k,(b,m)∈H/\Least step s b m/\C b=some m/\Wk step b c k/\m+k=n:=by
 induction hw using Wk.ind with
 |nil=>exact fun _ => .inl h.src
 | @snoc b c n w hb hs ih =>
  intro hL;have hLb:=Least.part hb hs hL;rcases ih hLb with hC|⟨d,m,k,h1,h2,h3,h4,h5⟩
  ·rcases h.rest b n hC with hcl|hin
   ·obtain ⟨g,hg,hle⟩:=hcl c w hs;have:=hL.2 g (h.real c g hg);left;rw [hg]
    congr 1
    omega
   ·exact .inr ⟨b,n,w,hin,hLb,hC,.one hs,rfl⟩
  ·exact .inr ⟨d,m,k+w,h1,h2,h3,.snoc h4 hs,by omega⟩
theorem Sk.done (h:Sk step s C []) {c:α} {n:Nat} (hL:Least step s c n):C c=some n:=by
 rcases h.wrong hL.1 hL with q|⟨b,m,k,hb,-⟩
 ·exact q
 ·cases hb
theorem Sk.no (h:Sk step s C []) {c:α} (hc:C c=none):∀n,¬Wk step s c n:=fun n hw=>by
 obtain ⟨m,-,hL⟩:=Least.exists n hw;have:=h.done hL;rw [hc] at this;cases this
theorem Sk.first (h:Sk step s C H) (hcon:∀c d w,step c d w->left c<=w+left d) {c:α} {g:Nat} (hC:C c=some g) (hmin:∀d k,(d,k)∈H->g+left c<=k+left d):Least step s c g:=by
 have hpath:∀{a b:α} {n:Nat},Wk step a b n->left a<=n+left b:=fun hw=>by
  induction hw using Wk.ind with
  |nil=>omega
  |snoc _ hs ih=>have:=hcon _ _ _ hs;omega
 obtain ⟨m,hm,hL⟩:=Least.exists g (h.real c g hC);rcases h.wrong hL.1 hL with q|⟨b,m',k,h1,h2,h3,h4,h5⟩
 ·rw [hC] at q;cases q;exact hL
 ·have h6:=hmin b m' h1;have h7:=hpath h4;have:m=g:=by omega
  subst this;exact hL
end
section
variable {α:Type} [DecidableEq α] {step:α->α->Nat->Prop} {s:α} {C:α->Option Nat} {H:List (α×Nat)}
def zF7 (C:α->Option Nat) (d:α) (g:Nat):Bool:=match C d with
 |some h=>decide (g<h)
 |none=>true
def put (C:α->Option Nat) (d:α) (g:Nat):α->Option Nat:=fun c=>if c=d then some g else C c
theorem Sk.begin (step:α->α->Nat->Prop) (s:α):Sk step s (put (fun _=>none) s 0) [(s,0)] where
 src:=by simp [put]
 real:=fun c g h=>by
  unfold put at h
  split at h
  ·rename_i e;cases h;subst e;exact .nil _
  ·cases h
 rest:=fun c g h=>by
  unfold put at h
  split at h
  ·rename_i e;cases h;subst e;exact .inr (by simp)
  ·cases h
structure Sp (step:α->α->Nat->Prop) (s:α) (C:α->Option Nat) (H:List (α×Nat)) (c:α) (g:Nat) (todo:α->Nat->Prop):Prop where
 src:C s=some 0
 real:∀c g,C c=some g->Wk step s c g
 rest:∀b h,C b=some h->b≠c->(∀d w,step b d w->∃k,C d=some k/\k<=h+w)\/(b,h)∈H
 here:C c=some g
 gone:∀d w,step c d w->todo d w\/∃k,C d=some k/\k<=g+w
theorem Sk.take {c:α} {g:Nat} (h:Sk step s C H) {H':List (α×Nat)} (hc:C c=some g) (hH:∀e∈H,e=(c,g)\/e∈H'):Sp step s C H' c g (step c) where
 src:=h.src
 real:=h.real
 rest:=fun b k hb hne=>(h.rest b k hb).imp id (fun e=>(hH _ e).resolve_left (fun q=>hne (congrArg Prod.fst q)))
 here:=hc
 gone:=fun d w hs => .inl hs
theorem Sk.drop {c:α} {g:Nat} (h:Sk step s C H) {H':List (α×Nat)} (hc:C c≠some g) (hH:∀e∈H,e=(c,g)\/e∈H'):Sk step s C H' where
 src:=h.src
 real:=h.real
 rest:=fun b k hb=>(h.rest b k hb).imp id (fun e=>(hH _ e).resolve_left (fun q=>by cases q;exact hc hb))
theorem Sp.done {c:α} {g:Nat} (h:Sp step s C H c g (fun _ _=>False)):Sk step s C H where
 src:=h.src
 real:=h.real
 rest:=fun b k hb=>by
  by_cases e:b=c
  ·subst e;have:=h.here;rw [hb] at this;cases this;exact .inl (fun d w hs=>(h.gone d w hs).resolve_left id)
  ·exact h.rest b k hb e
theorem Sp.pass {c d:α} {g w:Nat} {todo:α->Nat->Prop} (h:Sp step s C H c g todo) (hd:¬step c d w\/∃k,C d=some k/\k<=g+w) (huniq:∀v,step c d v->v=w):Sp step s C H c g (fun e v=>e≠d/\todo e v) where
 src:=h.src
 real:=h.real
 rest:=h.rest
 here:=h.here
 gone:=fun e v hs=>by
  rcases h.gone e v hs with q|q
  ·by_cases hed:e=d
   ·subst hed;have:=huniq v hs;subst this;rcases hd with hn|hk
    ·exact absurd hs hn
    ·exact .inr hk
   ·exact .inl ⟨hed,q⟩
  ·exact .inr q
theorem Sp.meet {c d:α} {g w:Nat} {todo:α->Nat->Prop} (h:Sp step s C H c g todo) (hs:step c d w) (hb:zF7 C d (g+w)=true) (hne:d≠c) (hds:d≠s) (huniq:∀v,step c d v->v=w) {H':List (α×Nat)} (hH:∀e∈H,e∈H') (hin:(d,g+w)∈H'):Sp step s (put C d (g+w)) H' c g (fun e v=>e≠d/\todo e v):=by
 have less:∀e k,C e=some k->∃k',put C d (g+w) e=some k'/\k'<=k:=fun e k he=>by
  unfold put
  by_cases q:e=d
  ·subst q;rw [if_pos rfl];refine ⟨_,rfl,?_⟩;unfold zF7 at hb;rw [he] at hb;simp at hb;omega
  ·rw [if_neg q];exact ⟨k,he,Nat.le_refl _⟩
 refine ⟨?_,fun b k hbk=>?_,fun b k hbk hbc=>?_,?_,fun e v hv=>?_⟩
 ·unfold put;rw [if_neg (fun e=>hds e.symm)];exact h.src
 ·unfold put at hbk
  split at hbk
  ·rename_i e;cases hbk;subst e;exact .snoc (h.real c g h.here) hs
  ·exact h.real b k hbk
 ·by_cases q:b=d
  ·subst q;unfold put at hbk;rw [if_pos rfl] at hbk;cases hbk;exact .inr hin
  ·unfold put at hbk;rw [if_neg q] at hbk;rcases h.rest b k hbk hbc with hcl|hi
   ·left;intro e v hv;obtain ⟨k1,hk1,hle⟩:=hcl e v hv;obtain ⟨k2,hk2,hle2⟩:=less e k1 hk1;exact ⟨k2,hk2,by omega⟩
   ·exact .inr (hH _ hi)
 ·unfold put;rw [if_neg (fun e=>hne e.symm)];exact h.here
 ·by_cases hed:e=d
  ·subst hed;have:=huniq v hv;subst this;exact .inr ⟨g+v,by simp [put],Nat.le_refl _⟩
  ·rcases h.gone e v hv with q|⟨k,hk,hle⟩
   ·exact .inl ⟨hed,q⟩
   ·obtain ⟨k2,hk2,hle2⟩:=less e k hk;exact .inr ⟨k2,hk2,by omega⟩
structure Se (step:α->α->Nat->Prop) (s:α) (C:α->Option Nat) (H:List (α×Nat)) (E:List α):Prop where
 nd:H.Nodup
 above:∀c k,(c,k)∈H->∃h,C c=some h/\h<=k
 en:E.Nodup
 fin:∀c∈E,∃g,C c=some g/\Least step s c g/\(c,g) ∉ H
theorem Se.begin (step:α->α->Nat->Prop) (s:α):Se step s (put (fun _=>none) s 0) [(s,0)] [] where
 nd:=by simp
 above:=fun c k h=>by
  simp at h;obtain ⟨rfl,rfl⟩:=h;exact ⟨0,by simp [put],Nat.le_refl _⟩
 en:=List.nodup_nil
 fin:=fun c h=>by cases h
theorem Se.drop {H':List (α×Nat)} {E:List α} {e:α×Nat} (h:Se step s C H E) (hp:H.Perm (e::H')):Se step s C H' E where
 nd:=(List.nodup_cons.1 (hp.nodup_iff.1 h.nd)).2
 above:=fun c k hk=>h.above c k (hp.mem_iff.2 (List.mem_cons_of_mem _ hk))
 en:=h.en
 fin:=fun c hc=>by
  obtain ⟨g,h1,h2,h3⟩:=h.fin c hc;exact ⟨g,h1,h2,fun q=>h3 (hp.mem_iff.2 (List.mem_cons_of_mem _ q))⟩
theorem Se.take {H':List (α×Nat)} {E:List α} {c:α} {g:Nat} (h:Se step s C H E) (hp:H.Perm ((c,g)::H')) (hc:C c=some g) (hL:Least step s c g):c ∉ E/\Se step s C H' (c::E):=by
 have hin:(c,g)∈H:=hp.mem_iff.2 List.mem_cons_self
 have hno:c ∉ E:=fun q=>by
  obtain ⟨g',h1,-,h3⟩:=h.fin c q;rw [hc] at h1;cases h1;exact h3 hin
 have hd:=h.drop hp;refine ⟨hno,hd.nd,hd.above,List.nodup_cons.2 ⟨hno,h.en⟩,fun b hb=>?_⟩;rcases List.mem_cons.1 hb with rfl|hb
 ·exact ⟨g,hc,hL,(List.nodup_cons.1 (hp.nodup_iff.1 h.nd)).1⟩
 ·exact hd.fin b hb
theorem Se.meet {H':List (α×Nat)} {E:List α} {d:α} {k:Nat} (h:Se step s C H E) (hw:Wk step s d k) (hb:zF7 C d k=true) (hp:H'.Perm ((d,k)::H)):Se step s (put C d k) H' E:=by
 have hle:∀j,(d,j)∈H->k<j:=fun j hj=>by
  obtain ⟨g,h1,h2⟩:=h.above d j hj;unfold zF7 at hb;rw [h1] at hb;simp at hb;omega
 refine ⟨hp.nodup_iff.2 (List.nodup_cons.2 ⟨fun q=>by have:=hle k q;omega,h.nd⟩),fun c j hj=>?_,h.en,fun c hc=>?_⟩
 ·rcases List.mem_cons.1 (hp.mem_iff.1 hj) with q|q
  ·cases q;exact ⟨k,by simp [put],Nat.le_refl _⟩
  ·obtain ⟨g,h1,h2⟩:=h.above c j q;unfold put
   by_cases e:c=d
   ·subst e;rw [if_pos rfl];exact ⟨k,rfl,Nat.le_of_lt (hle j q)⟩
   ·rw [if_neg e];exact ⟨g,h1,h2⟩
 ·obtain ⟨g,h1,h2,h3⟩:=h.fin c hc
  have e:c≠d:=fun e=>by
   subst e;unfold zF7 at hb;rw [h1] at hb;simp at hb;have:=h2.2 k hw;omega
  refine ⟨g,by unfold put;rw [if_neg e];exact h1,h2,fun q=>?_⟩;rcases List.mem_cons.1 (hp.mem_iff.1 q) with q|q
  ·cases q;exact e rfl
  ·exact h3 q
end
end
section
open Go.RowKit Go.Shelf
attribute [local go_sem] Oper.semAt_some
theorem readyZ.callG {P:Program} {md:Region.Mode} {ops:Array Oper} {Q:Exit->Act->World->Prop} {S:World->Prop} {zs:List Nat} {n:Nat} {L:Array Bool} {a:Act} {w:World} {i:Nat} {rs:List Nat} {o:Oper} (ho:ops[i]? = some o) (hg:Region.wanted o (yielded ops a.tmps)=true) {f:FuncId}
 {vs:Array Value} (hrun:(execOp a.eval o).run P w = .ok (.enter f vs) w) {R:Ending->World->Prop} (hc:Calls P f vs w R) (hR:∀e w',R e w'->∃v,e = .returned v/\(i ∉ zs->S w')/\zEb P md ops Q S zs n (L.setIfInBounds i true) (a.put o.dst v) w')
 (hrest:readyZ P md ops Q S zs n L a w rs):readyZ P md ops Q S zs n L a w (i::rs):=fun j hj=>by
 rcases List.mem_cons.1 hj with rfl|hj
 ·refine wpOp_step ho (fun K hK=>?_);rw [if_pos hg];unfold Oper.wp;rw [hrun];refine Calls.mono hc (fun e w' h=>?_);obtain ⟨v,rfl,h1,h2⟩:=hR e w' h;exact hK _ _ ⟨h1,h2⟩
 ·exact hrest j hj
def qDb (stp:Nat->Bool) (ix iy iw:Int) (C:List Int) (x y cost:Int) (t:Fin 8):Bool:=decide (C[ij ix iy iw (x+dX t.val) (y+dY t.val)]? = some (cost-co (t.val:Int)))&&stp t.val
structure OnB (w:World) (a k:Nat) (x y cost rx ry rr:Int):Prop where
 l:Boxed w a 180 (ptr k)
 at_:Two w (a+1) x y
 cost:Boxed w (a+2) 3 (O ii cost)
 ra:Two w (a+3) rx ry
 rr:Boxed w (a+4) 3 (O ii rr)
end
section
open Go.RowKit Go.Shelf
attribute [local go_sem] Oper.semAt_some
def Nx (ix iy iw:Int) (C:List Int) (S:List It) (tx ty tc tf:Int) (ok:Bool) (R:List It):Prop:=
 ∃xs,Drn S xs R/\((ok=false/\R=[]/\∀u∈xs,hit ix iy iw C u=false)\/(ok=true/\∃pre t,xs=pre++[t]/\(∀u∈pre,hit ix iy iw C u=false)/\hit ix iy iw C t=true/\t.x=tx/\t.y=ty/\t.c=tc/\t.f=tf))
def Stp (ix iy iw gx gy:Int) (C:List Int) (tf:Int):Prop:=∃m,C[ij ix iy iw gx gy]? = some m/\m≠-1/\m<tf
theorem zKi (w0:World) (k p:Nat) (c s ix iy iw ih:Int) (gv cv:Value) (b:Nat) (lf:Value) (G:List Nat) (C:List Int) (hv:Value) (n:Int) (S:List It) (w:World) (h:Sch w0 w k p c s ix iy iw ih gv cv b lf G C hv n S) (hC:C.length=(ih*iw).toNat) (hS:InR ix iy iw ih S) (hi:0<=ix/\0<=iy/\ix+iw<=1048576/\iy+ih<=1048576) (hpos:0<iw/\0<ih) (hlen:S.length<=1152921504606846976) :
 Calls pg 130 #[ptr k] w fun e w'=>∃tx ty tc tf ok R hv',e = .returned (.tuple #[rv tx ty tc tf,.bool ok])/\Nx ix iy iw C S tx ty tc tf ok R/\Sch w0 w' k p c s ix iy iw ih gv cv b lf G C hv' n R/\(∀j,hv'.ownBlock=some j->hv.ownBlock=some j)/\Turns (Own gv cv b hv) w w':=by
 refine (zOs w0 k p c s ix iy iw ih gv cv b lf G C hv n S w h hC hS hi hpos hlen).mono ?_;rintro e w' ⟨xs,R,hv',h1,h2,h3,h4,⟨rfl,h5,h6⟩|⟨pre,t,rfl,h5,h6,h7⟩⟩
 ·exact ⟨_,_,_,_,_,R,hv',rfl,⟨xs,h1,.inl ⟨rfl,h5,h6⟩⟩,h2,h3,h4⟩
 ·exact ⟨_,_,_,_,_,R,hv',rfl,⟨xs,h1,.inr ⟨rfl,pre,t,h5,h6,h7,rfl,rfl,rfl,rfl⟩⟩,h2,h3,h4⟩
theorem Nx.mem {ix iy iw:Int} {C:List Int} {S R:List It} {tx ty tc tf:Int} (h:Nx ix iy iw C S tx ty tc tf true R):∃t∈S,t.x=tx/\t.y=ty/\t.c=tc/\t.f=tf:=by
 obtain ⟨xs,h1,⟨q,_⟩|⟨_,pre,t,rfl,_,_,h2⟩⟩:=h
 ·cases q
 ·exact ⟨t,h1.mem t (.inl (by simp)),h2⟩
theorem Nx.len {ix iy iw:Int} {C:List Int} {S R:List It} {tx ty tc tf:Int} {ok:Bool} (h:Nx ix iy iw C S tx ty tc tf ok R):R.length<=S.length:=by
 obtain ⟨xs,h1,_⟩:=h;have:=h1.len;omega
theorem zNm (w:World) (u v a b:Int):∃Y,w.alloc (.cells #[O ii u,O ii v,O ii a,O ii b] 184)=Y/\Four Y w.heap.size u v a b/\Below w.heap.size w Y:=⟨_,rfl,Four.new w 184 u v a b,zAk _ _⟩
def qCs (Ok:Nat->List Int->Int->List It->Prop) (w0:World) (k p:Nat) (c s ix iy iw ih:Int) (gv cv:Value) (b:Nat) (lf:Value) (hv:Value) (W H:Int) (tl:List Nat) (f:Int->Int->Option Int) (gx gy bud:Int) (w:World) (e:Ending) (w':World):Prop:=
 ∃(r:Bool) (i:Nat) (C':List Int) (n':Int) (S' R:List It) (hv':Value) (G':List Nat),e = .returned (.bool r)/\(Ok i C' n' S'/\(i:Int)<=max bud 0)/\Sch w0 w' k p c s ix iy iw ih gv cv b lf G' C' hv' n' R/\Gok W H tl f c s ix iy iw ih G'/\
  Turns (Own gv cv b hv) w w'/\(∀j,hv'.ownBlock=some j->hv.ownBlock=some j\/w.heap.size<=j)/\
  ∃tx ty tc tf ok,Nx ix iy iw C' S' tx ty tc tf ok R/\((r=true/\(ok=false\/Stp ix iy iw gx gy C' tf))\/(r=false/\ok=true/\¬Stp ix iy iw gx gy C' tf/\bud<=i))
end
section
open Go.RowKit Go.Shelf
attribute [local go_sem] Oper.semAt_some
def qDw (q:Int×Int):List Value:=[O ii q.1,O ii q.2]
def Cn (w:World) (v:Value) (P:List (Int×Int)):Prop:=w.ownsRow 0 47 2 v P.length (P.flatMap qDw)
theorem zYa {x y p q c d:Int} {k:Nat} {t:Fin 8} (h:t∈zA4 x y p q c d k):inn x y p q c d t.val=true:=(List.mem_filter.1 h).2
theorem zVx {x y p q c d:Int} {k:Nat} (h:inn x y p q c d k=true):(0<=x+dX k-p/\x+dX k-p<c)/\0<=y+dY k-q/\y+dY k-q<d:=by
 rw [inn,Bool.and_eq_true] at h;have hbox:=(zAy _ _ _ _ _ _).1 h.2;omega
theorem zNr (t:Fin 8):10<=co (t.val:Int)/\co (t.val:Int)<=14:=by
 revert t
 decide
def Wy (W H : Int) (tl : List Nat) (f : Int → Int → Option Int) (c s ix iy iw ih : Int) (C : List Int) (x y cost : Int) (l : List (Int × Int)) : Prop := ∀ M : Int → Int → Int → List (Int × Int) → Prop, (∀ x y cost, cost ≤ 0 → M x y cost []) → (∀ x y cost, 0 < cost → (∀ t ∈ zA4 x y ix iy iw ih 8, qDb (fun d => stp W H tl f c s x y (d : Int)) ix iy iw C x y cost t = false) → M x y cost [(x, y)]) → (∀ (x y cost : Int) (pre : List (Fin 8)) (t : Fin 8) (l : List (Int × Int)), 0 < cost → pre ++ [t] <+: zA4 x y ix iy iw ih 8 → (∀ t ∈ pre, qDb (fun d => stp W H tl f c s x y (d : Int)) ix iy iw C x y cost t = false) → qDb (fun d => stp W H tl f c s x y (d : Int)) ix iy iw C x y cost t = true → M (x + dX t.val) (y + dY t.val) (cost - co (t.val : Int)) l → M x y cost ((x + dX t.val, y + dY t.val) :: l)) → M x y cost l
def qDp (w0:World) (k p:Nat) (c s ix iy iw ih:Int) (gv cv:Value) (b:Nat) (lf:Value) (C:List Int) (hv:Value) (n:Int) (S:List It) (W H:Int) (tl:List Nat) (f:Int->Int->Option Int) (x y cost:Int) (w:World) (e:Ending) (w':World):Prop:=
 ∃v P,e = .returned v/\Wy W H tl f c s ix iy iw ih C x y cost P/\(Cn w' v P/\∀j,v.ownBlock=some j->w.heap.size<=j)/\(∃G',Sch w0 w' k p c s ix iy iw ih gv cv b lf G' C hv n S/\Gok W H tl f c s ix iy iw ih G')/\Turns (fun j=>gv.ownBlock=some j) w w'
end
section
open Go.RowKit Go.Shelf
abbrev inB (ix iy iw ih:Int) (q:Int×Int):Prop:=(0<=q.1-ix/\q.1-ix<iw)/\0<=q.2-iy/\q.2-iy<ih
def zBh (W H:Int) (tl:List Nat) (f:Int->Int->Option Int) (c s ix iy iw ih:Int) (a b:Int×Int) (k:Nat):Prop:=
 ∃t:Fin 8,inn a.1 a.2 ix iy iw ih t.val=true/\stp W H tl f c s a.1 a.2 ((t.val:Nat):Int)=true/\b=(a.1+dX t.val,a.2+dY t.val)/\(k:Int)=co ((t.val:Nat):Int)
def tab (ix iy iw ih:Int) (C:List Int) (q:Int×Int):Option Nat:=
 if inB ix iy iw ih q then (match C[ij ix iy iw q.1 q.2]? with
  |some m=>if m = -1 then none else some m.toNat
  |none=>none) else none
def qu (S:List It):List ((Int×Int)×Nat):=S.map fun t=>((t.x,t.y),t.c.toNat)
theorem zVp:∀t u:Fin 8,dX t.val=dX u.val->dY t.val=dY u.val->t=u:=by decide
theorem qC4:∀t:Fin 8,¬(dX t.val=0/\dY t.val=0):=by decide
theorem zQ6 {ix iy iw ih:Int} {p q:Int×Int} (hp:inB ix iy iw ih p) (hq:inB ix iy iw ih q) (h:ij ix iy iw p.1 p.2=ij ix iy iw q.1 q.2):p=q:=by
 obtain ⟨⟨p1,p2⟩,p3,p4⟩:=hp;obtain ⟨⟨q1,q2⟩,q3,q4⟩:=hq;have a:=zDs (c:=0) (d:=0) p3 p4 p1 p2;have b:=zDs (c:=0) (d:=0) q3 q4 q1 q2;unfold ij at h;have e:(p.2-iy)*iw+(p.1-ix)=(q.2-iy)*iw+(q.1-ix):=by omega
 have hy:p.2-iy=q.2-iy:=by
  rcases Int.lt_trichotomy (p.2-iy) (q.2-iy) with h1|h1|h1
  ·have:(p.2-iy+1)*iw<=(q.2-iy)*iw:=Int.mul_le_mul_of_nonneg_right (by omega) (by omega);rw [Int.add_mul] at this;omega
  ·exact h1
  ·have:(q.2-iy+1)*iw<=(p.2-iy)*iw:=Int.mul_le_mul_of_nonneg_right (by omega) (by omega);rw [Int.add_mul] at this;omega
 rw [hy] at e;exact Prod.ext (by omega) (by omega)
theorem zHg {ix iy iw ih:Int} {p:Int×Int} (hp:inB ix iy iw ih p):ij ix iy iw p.1 p.2<(ih*iw).toNat:=by
 obtain ⟨⟨p1,p2⟩,p3,p4⟩:=hp;have a:=zDs (c:=0) (d:=0) p3 p4 p1 p2;unfold ij;omega
theorem few:∀(N:Nat) (l:List Nat),l.Nodup->(∀x∈l,x<N)->l.length<=N
 |0,l,_,h=>by cases l with
  |nil=>simp
  |cons a l=>have:=h a (by simp);omega
 |N+1,l,hn,h=>by
  by_cases hm:N∈l
  ·have h1:=few N (l.erase N) (hn.erase N) (fun x hx=>by
    have h2:=(hn.mem_erase_iff).1 hx;have:=h x h2.2;have:=h2.1
    omega)
   have:=List.length_erase_of_mem hm;have:0<l.length:=List.length_pos_of_mem hm;omega
  ·have:=few N l hn (fun x hx=>by
    have:=h x hx;have:x≠N:=fun e=>hm (e▸hx)
    omega)
   omega
theorem zRf {ix iy iw ih:Int} {E:List (Int×Int)} (hn:E.Nodup) (h:∀q∈E,inB ix iy iw ih q):E.length<=(ih*iw).toNat:=by
 have h1:(E.map fun q=>ij ix iy iw q.1 q.2).Nodup:=by
  rw [List.Nodup,List.pairwise_map];exact hn.imp_of_mem (fun ha hb hne e=>hne (zQ6 (h _ ha) (h _ hb) e))
 have:=few (ih*iw).toNat _ h1 (fun x hx=>by
  obtain ⟨q,hq,rfl⟩:=List.mem_map.1 hx
  exact zHg (h q hq))
 simpa using this
theorem zGs {ix iy iw ih:Int} {C:List Int} {q:Int×Int} {m:Int} (hq:inB ix iy iw ih q) (hm:C[ij ix iy iw q.1 q.2]? = some m):tab ix iy iw ih C q=if m = -1 then none else some m.toNat:=by
 unfold tab;rw [if_pos hq,hm]
theorem zPf {ix iy iw ih:Int} {C:List Int} {d:Int×Int} {g:Int} (hd:inB ix iy iw ih d) (hC:C.length=(ih*iw).toNat) (hg:0<=g):tab ix iy iw ih (C.set (ij ix iy iw d.1 d.2) g)=put (tab ix iy iw ih C) d g.toNat:=by
 funext q
 unfold put
 by_cases e:q=d
 ·subst e;rw [if_pos rfl,zGs hd (m:=g) (by rw [List.getElem?_set_self];rw [hC];exact zHg hd),if_neg (by omega)]
 ·rw [if_neg e];unfold tab
  by_cases hq:inB ix iy iw ih q
  ·rw [if_pos hq,if_pos hq,List.getElem?_set_ne (fun h=>e (zQ6 hd hq h).symm)]
  ·rw [if_neg hq,if_neg hq]
theorem Sp.weaken {α:Type} {step:α->α->Nat->Prop} {s:α} {C:α->Option Nat} {H:List (α×Nat)} {c:α} {g:Nat} {P Q:α->Nat->Prop} (h:Sp step s C H c g P) (hpq:∀d w,step c d w->P d w->Q d w):Sp step s C H c g Q:=
 ⟨h.src,h.real,h.rest,h.here,fun d w hs=>(h.gone d w hs).imp (hpq d w hs) id⟩
theorem Drn.last {S xs R:List It} {t:It} (h:Drn S (xs++[t]) R):∃R0,Drn S xs R0/\R0.Perm (t::R)/\∀u∈R0,lt u t=false:=by
 generalize he:xs++[t]=ys at h
 cases h using Drn.cs with
 |start=>simp at he
 | @next xs' R0 R' t' h1 h2 h3 =>
  obtain ⟨e1,e2⟩:=List.append_inj' he rfl;simp at e2;subst e1;subst e2;exact ⟨R0,h1,h2,h3⟩
section
variable {W H:Int} {tl:List Nat} {f:Int->Int->Option Int} {c s ix iy iw ih:Int} {L:Int->Int->Int} {sx sy:Int}
structure Okk (W H:Int) (tl:List Nat) (f:Int->Int->Option Int) (c s ix iy iw ih:Int) (L:Int->Int->Int) (sx sy:Int) (i:Nat) (C:List Int) (n:Int) (S:List It):Prop where
 len:C.length=(ih*iw).toNat
 inr:InR ix iy iw ih S
 cst:∀t∈S,0<=t.c/\t.c<=14*i
 whole:∀t∈S,t.f=t.c+L t.x t.y
 tb:∀m∈C,-1<=m/\m<=14*i
 cnt:0<=n/\n<=8*i+1
 few:S.length<=8*i+1
 sk:Sk (zBh W H tl f c s ix iy iw ih) (sx,sy) (tab ix iy iw ih C) (qu S)
 se:∃E,Se (zBh W H tl f c s ix iy iw ih) (sx,sy) (tab ix iy iw ih C) (qu S) E/\E.length=i/\∀q∈E,inB ix iy iw ih q
theorem Okk.small {i:Nat} {C:List Int} {n:Int} {S:List It} (h:Okk W H tl f c s ix iy iw ih L sx sy i C n S):i<=(ih*iw).toNat:=by
 obtain ⟨E,h1,h2,h3⟩:=h.se;rw [<-h2];exact zRf h1.en h3
theorem Okk.drops {i:Nat} {C:List Int} {n:Int} {S xs R:List It} (h:Okk W H tl f c s ix iy iw ih L sx sy i C n S) (hd:Drn S xs R) (hx:∀u∈xs,hit ix iy iw C u=false):Okk W H tl f c s ix iy iw ih L sx sy i C n R:=by
 induction hd using Drn.ind with
 |start=>exact h
 | @next xs R R' u h1 h2 h3 ih2 =>
  have ho:=ih2 (fun v hv=>hx v (List.mem_append_left _ hv));have hu:=hx u (by simp);have hm:u∈R:=h2.mem_iff.2 List.mem_cons_self;have sub:∀t∈R',t∈R:=fun t ht=>h2.mem_iff.2 (List.mem_cons_of_mem _ ht);have hp:(qu R).Perm (((u.x,u.y),u.c.toNat)::qu R'):=h2.map _;obtain ⟨E,e1,e2,e3⟩:=ho.se;refine ⟨ho.len,fun t ht=>ho.inr t (sub t ht),fun t ht=>ho.cst t (sub t ht),fun t ht=>ho.whole t (sub t ht),ho.tb,ho.cnt,by have:=h2.length_eq;simp at this;have:=ho.few;omega,ho.sk.drop (c:=(u.x,u.y)) (g:=u.c.toNat) (fun q=>?_) (fun e he=>List.mem_cons.1 (hp.mem_iff.1 he)),E,e1.drop hp,e2,e3⟩;have hin:inB ix iy iw ih (u.x,u.y):=ho.inr u hm;have hl:=zHg hin;rw [<-ho.len] at hl;have hg:C[ij ix iy iw u.x u.y]? = some (C[ij ix iy iw u.x u.y]'hl):=List.getElem?_eq_getElem hl;have hb:=ho.tb _ (List.getElem_mem hl);generalize (C[ij ix iy iw u.x u.y]'hl)=m at hg hb;rw [zGs hin hg] at q;unfold hit at hu;rw [hg] at hu;simp at hu;have hc:=(ho.cst u hm).1
  split at q
  ·cases q
  ·injection q with q
   omega
structure Okm (W H:Int) (tl:List Nat) (f:Int->Int->Option Int) (c s ix iy iw ih:Int) (L:Int->Int->Int) (sx sy:Int) (x y g:Int) (i:Nat) (a:AS) (rest:List (Fin 8)):Prop where
 len:a.1.length=(ih*iw).toNat
 inr:InR ix iy iw ih a.2.2
 cst:∀t∈a.2.2,0<=t.c/\t.c<=14*i+14
 whole:∀t∈a.2.2,t.f=t.c+L t.x t.y
 tb:∀m∈a.1,-1<=m/\m<=14*i+14
 sp:Sp (zBh W H tl f c s ix iy iw ih) (sx,sy) (tab ix iy iw ih a.1) (qu a.2.2) (x,y) g.toNat (fun d v=>∃t∈rest,d=(x+dX t.val,y+dY t.val))
 se:∃E,Se (zBh W H tl f c s ix iy iw ih) (sx,sy) (tab ix iy iw ih a.1) (qu a.2.2) E/\E.length=i+1/\∀q∈E,inB ix iy iw ih q
theorem Okm.go {x y g:Int} {i:Nat} {a:AS} {t:Fin 8} {rest:List (Fin 8)} (hg:0<=g/\g<=14*i) (hin:inn x y ix iy iw ih t.val=true) (h:Okm W H tl f c s ix iy iw ih L sx sy x y g i a (t::rest)):Okm W H tl f c s ix iy iw ih L sx sy x y g i (goF (fun d=>stp W H tl f c s x y (d:Int)) ix iy iw L x y g a t) rest:=by
 obtain ⟨C,n,S⟩:=a;have hco:=zNr t;have hd:inB ix iy iw ih (x+dX t.val,y+dY t.val):=zVx hin
 have huniq:∀v,zBh W H tl f c s ix iy iw ih (x,y) (x+dX t.val,y+dY t.val) v->v=(co ((t.val:Nat):Int)).toNat:=by
  rintro v ⟨u,u1,u2,u3,u4⟩;simp only [Prod.mk.injEq] at u3;have e:t=u:=zVp t u (by omega) (by omega);subst e;omega
 have hweak:∀{P:Int×Int->Nat->Prop},∀d v,zBh W H tl f c s ix iy iw ih (x,y) d v->(d≠(x+dX t.val,y+dY t.val)/\∃u∈t::rest,d=(x+dX u.val,y+dY u.val))->∃u∈rest,d=(x+dX u.val,y+dY u.val):=by
  rintro P d v - ⟨h1,u,hu,rfl⟩;rcases List.mem_cons.1 hu with rfl|hu
  ·exact absurd rfl h1
  ·exact ⟨u,hu,rfl⟩
 unfold goF
 by_cases hs:stp W H tl f c s x y ((t.val:Nat):Int)=true
 ·rw [if_pos hs];have hst:zBh W H tl f c s ix iy iw ih (x,y) (x+dX t.val,y+dY t.val) (co ((t.val:Nat):Int)).toNat:=⟨t,hin,hs,rfl,by omega⟩
  have hl:=zHg hd;rw [<-h.len] at hl;have hgt:C[ij ix iy iw (x+dX t.val) (y+dY t.val)]? = some (C[ij ix iy iw (x+dX t.val) (y+dY t.val)]'hl):=List.getElem?_eq_getElem hl;have hb:=h.tb _ (List.getElem_mem hl);simp only at hb;generalize (C[ij ix iy iw (x+dX t.val) (y+dY t.val)]'hl)=m at hgt hb;have htab:=zGs hd hgt;unfold zJc;simp only [hgt,Option.getD_some]
  by_cases hm:m≠-1/\m<=g+co ((t.val:Nat):Int)
  ·rw [if_pos hm];refine ⟨h.len,h.inr,h.cst,h.whole,h.tb,(h.sp.pass (d:=(x+dX t.val,y+dY t.val)) (.inr ⟨m.toNat,by simp only;rw [htab,if_neg hm.1],by omega⟩) huniq).weaken (hweak (P:=fun _ _=>True)),h.se⟩
  ·rw [if_neg hm]
   have hbt:zF7 (tab ix iy iw ih C) (x+dX t.val,y+dY t.val) (g.toNat+(co ((t.val:Nat):Int)).toNat)=true:=by
    unfold zF7;rw [htab]
    split
    ·rename_i q
     split at q
     ·cases q
     ·injection q with q;simp;omega
    ·rfl
   have hsum:(g+co ((t.val:Nat):Int)).toNat=g.toNat+(co ((t.val:Nat):Int)).toNat:=by omega
   have hset:=zPf (C:=C) (g:=g+co ((t.val:Nat):Int)) hd h.len (by omega);rw [hsum] at hset;have hne:(x+dX t.val,y+dY t.val)≠(x,y):=fun e=>qC4 t (by simp only [Prod.mk.injEq] at e;omega)
   have hds:(x+dX t.val,y+dY t.val)≠(sx,sy):=fun e=>by
    rw [e] at hbt;unfold zF7 at hbt;rw [h.sp.src] at hbt;simp at hbt
   have hqu:qu (⟨x+dX t.val,y+dY t.val,g+co ((t.val:Nat):Int),g+co ((t.val:Nat):Int)+L (x+dX t.val) (y+dY t.val),n⟩ :: S)=((x+dX t.val,y+dY t.val),g.toNat+(co ((t.val:Nat):Int)).toNat)::qu S:=by simp only [qu,List.map_cons,hsum]
   obtain ⟨E,e1,e2,e3⟩:=h.se;refine ⟨by simp only [List.length_set];exact h.len,fun u hu=>?_,fun u hu=>?_,fun u hu=>?_,fun k hk=>?_,?_,E,?_,e2,e3⟩
   ·rcases List.mem_cons.1 hu with rfl|hu
    ·exact hd
    ·exact h.inr u hu
   ·rcases List.mem_cons.1 hu with rfl|hu
    ·simp only;omega
    ·exact h.cst u hu
   ·rcases List.mem_cons.1 hu with rfl|hu
    ·rfl
    ·exact h.whole u hu
   ·rcases List.mem_or_eq_of_mem_set hk with hk|rfl
    ·exact h.tb k hk
    ·omega
   ·simp only;rw [hset,hqu];exact (h.sp.meet hst hbt hne hds huniq (fun e he=>List.mem_cons_of_mem _ he) List.mem_cons_self).weaken (hweak (P:=fun _ _=>True))
   ·simp only;rw [hset,hqu];exact e1.meet ((h.sp.real _ _ h.sp.here).snoc hst) hbt (List.Perm.refl _)
 ·rw [if_neg hs];refine ⟨h.len,h.inr,h.cst,h.whole,h.tb,(h.sp.pass (d:=(x+dX t.val,y+dY t.val)) (w:=(co ((t.val:Nat):Int)).toNat) (.inl ?_) huniq).weaken (hweak (P:=fun _ _=>True)),h.se⟩;rintro ⟨u,u1,u2,u3,u4⟩;simp only [Prod.mk.injEq] at u3;have e:t=u:=zVp t u (by omega) (by omega);subst e;exact hs u2
theorem Okm.goes {x y g:Int} {i:Nat} (hg:0<=g/\g<=14*i):∀(l:List (Fin 8)) (a:AS),(∀t∈l,inn x y ix iy iw ih t.val=true)->Okm W H tl f c s ix iy iw ih L sx sy x y g i a l->Okm W H tl f c s ix iy iw ih L sx sy x y g i (zBd (fun d=>stp W H tl f c s x y (d:Int)) ix iy iw L x y g a l) []
 | [],a,_,h=>h
 |t::l,a,hi,h=>Okm.goes hg l _ (fun u hu=>hi u (List.mem_cons_of_mem _ hu)) (h.go hg (hi t List.mem_cons_self))
theorem Okk.next (hcon:∀a b k,zBh W H tl f c s ix iy iw ih a b k->(L a.1 a.2).toNat<=k+(L b.1 b.2).toNat) (hL:∀u v,0<=L u v) {i:Nat} {C:List Int} {n:Int} {S R:List It} {tx ty tc tf:Int} (h:Okk W H tl f c s ix iy iw ih L sx sy i C n S) (hx:Nx ix iy iw C S tx ty tc tf true R) {a:AS}
 (ha:a=zBd (fun d=>stp W H tl f c s tx ty (d:Int)) ix iy iw L tx ty tc (C,n,R) (zA4 tx ty ix iy iw ih 8)):Okk W H tl f c s ix iy iw ih L sx sy (i+1) a.1 a.2.1 a.2.2:=by
 obtain ⟨xs,h1,⟨q,-⟩|⟨-,pre,t,rfl,h2,h3,rfl,rfl,rfl,rfl⟩⟩:=hx
 ·cases q
 obtain ⟨R0,d1,d2,d3⟩:=h1.last;have ho:=h.drops d1 h2;have hm:t∈R0:=d2.mem_iff.2 List.mem_cons_self;have sub:∀u∈R,u∈R0:=fun u hu=>d2.mem_iff.2 (List.mem_cons_of_mem _ hu);have hp:(qu R0).Perm (((t.x,t.y),t.c.toNat)::qu R):=d2.map _;have hin:inB ix iy iw ih (t.x,t.y):=ho.inr t hm;have hc:=ho.cst t hm;have hg:C[ij ix iy iw t.x t.y]? = some t.c:=by simpa [hit] using h3
 have htab:tab ix iy iw ih C (t.x,t.y)=some t.c.toNat:=by rw [zGs hin hg,if_neg (by omega)]
 have hLe:Least (zBh W H tl f c s ix iy iw ih) (sx,sy) (t.x,t.y) t.c.toNat:=by
  refine ho.sk.first (left:=fun q=>(L q.1 q.2).toNat) hcon htab (fun d k hd=>?_);obtain ⟨u,hu,e⟩:=List.mem_map.1 hd;simp only [Prod.mk.injEq] at e;obtain ⟨rfl,rfl⟩:=e;have e1:=ho.whole t hm;have e2:=ho.whole u hu;have e3:=d3 u hu
  have e4:t.f<=u.f:=by
   by_cases q:u.f<t.f
   ·rw [(zKp u t).2 (.inl q)] at e3;cases e3
   ·omega
  have:=ho.cst u hu;have:=hL t.x t.y;have:=hL u.x u.y;simp only;omega
 obtain ⟨E,e1,e2,e3⟩:=ho.se;obtain ⟨k1,k2⟩:=e1.take hp htab hLe;have hsp:=ho.sk.take (c:=(t.x,t.y)) (g:=t.c.toNat) htab (fun e he=>List.mem_cons.1 (hp.mem_iff.1 he))
 have hk:Okm W H tl f c s ix iy iw ih L sx sy t.x t.y t.c i (C,n,R) (zA4 t.x t.y ix iy iw ih 8):=⟨ho.len,fun u hu=>ho.inr u (sub u hu),fun u hu=>by have:=ho.cst u (sub u hu);omega,fun u hu=>ho.whole u (sub u hu),fun m hm=>by have:=ho.tb m hm;omega,hsp.weaken (fun d v hs _=>by
  obtain ⟨u,u1,u2,u3,u4⟩:=hs
  exact ⟨u,List.mem_filter.2 ⟨by simp [List.mem_take_iff_getElem];exact ⟨u.val,u.isLt,rfl⟩,u1⟩,u3⟩),_,k2,by simp [e2],fun q hq=>by
  rcases List.mem_cons.1 hq with rfl|hq
  ·exact hin
  ·exact e3 q hq⟩
 have hf:=hk.goes hc _ _ (fun u hu=>zYa hu);have hle:=zE8 (fun d=>stp W H tl f c s t.x t.y (d:Int)) ix iy iw L t.x t.y t.c (zA4 t.x t.y ix iy iw ih 8) (C,n,R);rw [<-ha] at hf hle;have hl8:=zH6 t.x t.y ix iy iw ih 8;have hR:=d2.length_eq;simp only [List.length_cons] at hR hle;have hf1:=ho.few;have hn:=ho.cnt;exact ⟨hf.len,hf.inr,fun u hu=>by have:=hf.cst u hu;push_cast;omega,hf.whole,fun m hm=>by have:=hf.tb m hm;push_cast;omega,by push_cast;omega,by omega,(hf.sp.weaken (Q:=fun _ _=>False) (fun d v _ hd=>by obtain ⟨u,hu,-⟩:=hd;cases hu)).done,hf.se⟩
end
end
section
open Go.RowKit Go.Shelf
section
variable {W H:Int} {tl:List Nat} {f:Int->Int->Option Int} {c s ix iy iw ih:Int} {L:Int->Int->Int} {sx sy gx gy:Int}
theorem Okk.begin {N:Nat} (hN:N=(ih*iw).toNat) (hs:inB ix iy iw ih (sx,sy)):Okk W H tl f c s ix iy iw ih L sx sy 0 ((List.replicate N (-1)).set (ij ix iy iw sx sy) 0) 1 [⟨sx,sy,0,L sx sy,0⟩]:=by
 have hemp:tab ix iy iw ih (List.replicate N (-1))=fun _=>none:=by
  funext q
  unfold tab
  split
  ·rename_i hq;rw [List.getElem?_replicate,if_pos (by rw [hN];exact zHg hq)];simp
  ·rfl
 have ht:tab ix iy iw ih ((List.replicate N (-1)).set (ij ix iy iw sx sy) 0)=put (fun _=>none) (sx,sy) 0:=by
  have:=zPf (C:=List.replicate N (-1)) (g:=0) hs (by simp [hN]) (by omega);rw [hemp] at this;exact this
 refine ⟨by simp [hN],fun t ht=>?_,fun t ht=>?_,fun t ht=>?_,fun m hm=>?_,by omega,by simp,?_,[],?_,rfl,fun q hq=>by cases hq⟩
 ·simp at ht;subst ht;exact hs
 ·simp at ht;subst ht;simp
 ·simp at ht;subst ht;simp
 ·rcases List.mem_or_eq_of_mem_set hm with hm|rfl
  ·have:=List.eq_of_mem_replicate hm;subst this;omega
  ·omega
 ·rw [ht];exact Sk.begin _ _
 ·rw [ht];exact Se.begin _ _
end
end
section
open Go.RowKit Go.Shelf
def bkF (t:Fin 8):Fin 8:=match t with
 |0=>2|1=>3|2=>0|3=>1|4=>6|5=>7|6=>4|7=>5
theorem zZr:∀t:Fin 8,dX (bkF t).val = - dX t.val:=by decide
theorem zZq:∀t:Fin 8,dY (bkF t).val = - dY t.val:=by decide
theorem qCd:∀t:Fin 8,co (((bkF t).val:Nat):Int)=co ((t.val:Nat):Int):=by decide
theorem qCc:∀t:Fin 8,oc (((bkF t).val:Nat):Int)=oc ((t.val:Nat):Int):=by decide
theorem qB2 (t:Fin 8):isD ((t.val:Nat):Int)=true:=(zB7 _).2 (by have:=t.isLt;omega)
theorem zZh:∀t:Fin 8,co ((t.val:Nat):Int)%2=0:=by decide
section
variable {W H:Int} {tl:List Nat} {f:Int->Int->Option Int} {c s ix iy iw ih:Int}
def Std (W H:Int) (tl:List Nat) (f:Int->Int->Option Int) (c s ix iy iw ih:Int) (a:Int×Int):Prop:=has ix iy iw ih a.1 a.2=true/\stB W H tl f c s a.1 a.2=true
def zPj (W H:Int) (tl:List Nat) (f:Int->Int->Option Int) (c s ix iy iw ih:Int) (a b:Int×Int) (k:Nat):Prop:=Std W H tl f c s ix iy iw ih a/\zBh W H tl f c s ix iy iw ih a b k
theorem zGt {a b:Int×Int} {k:Nat} (h:zBh W H tl f c s ix iy iw ih a b k):Std W H tl f c s ix iy iw ih b:=by
 obtain ⟨t,h1,h2,rfl,h4⟩:=h;unfold inn at h1;unfold stp at h2;rw [Bool.and_eq_true] at h1 h2;exact ⟨h1.2,h2.1⟩
theorem zJu {a b:Int×Int} {k:Nat} (h:zBh W H tl f c s ix iy iw ih a b k):10<=k/\k<=14/\k%2=0:=by
 obtain ⟨t,h1,h2,h3,h4⟩:=h;have:=zNr t;have:=zZh t;omega
theorem zPi {a b:Int×Int} {k:Nat} (h:zPj W H tl f c s ix iy iw ih a b k):zPj W H tl f c s ix iy iw ih b a k:=by
 obtain ⟨ha,hs⟩:=h;have hb:=zGt hs;obtain ⟨t,h1,h2,rfl,h4⟩:=hs;obtain ⟨x,y⟩:=a;refine ⟨hb,bkF t,?_,?_,?_,by rw [qCd];exact h4⟩
 ·unfold inn sB at h1 ⊢;have e1:x+dX t.val+dX (bkF t).val=x:=by rw [zZr];omega
  have e2:y+dY t.val+dY (bkF t).val=y:=by rw [zZq];omega
  simp only [Bool.and_eq_true,Int.toNat_natCast] at h1 ⊢;rw [e1,e2];exact ⟨⟨⟨qB2 _,h1.1.2⟩,h1.1.1.2⟩,ha.1⟩
 ·unfold stp at h2 ⊢;have e1:x+dX t.val+dX (bkF t).val=x:=by rw [zZr];omega
  have e2:y+dY t.val+dY (bkF t).val=y:=by rw [zZq];omega
  simp only [Int.toNat_natCast,qCc] at h2 ⊢;rw [e1,e2];have h3:stB W H tl f c s x y=true:=ha.2;rw [Bool.and_eq_true] at h2 ⊢;refine ⟨h3,?_⟩;have h5:=h2.2;rw [Bool.or_eq_true,Bool.and_eq_true] at h5 ⊢;rcases h5 with h5|h5
  ·exact .inl h5
  ·exact .inr ⟨h5.2,h5.1⟩
 ·simp only [zZr,zZq,Prod.mk.injEq];omega
theorem Wk.toS {a b:Int×Int} {n:Nat} (ha:Std W H tl f c s ix iy iw ih a) (h:Wk (zBh W H tl f c s ix iy iw ih) a b n):Wk (zPj W H tl f c s ix iy iw ih) a b n/\Std W H tl f c s ix iy iw ih b:=by
 induction h using Wk.ind with
 |nil=>exact ⟨.nil _,ha⟩
 |snoc _ hs ih=>exact ⟨.snoc ih.1 ⟨ih.2,hs⟩,zGt hs⟩
theorem Wk.toR {a b:Int×Int} {n:Nat} (h:Wk (zPj W H tl f c s ix iy iw ih) a b n):Wk (zBh W H tl f c s ix iy iw ih) a b n:=by
 induction h using Wk.ind with
 |nil=>exact .nil _
 |snoc _ hs ih=>exact .snoc ih hs.2
theorem Wk.back {a b:Int×Int} {n:Nat} (ha:Std W H tl f c s ix iy iw ih a) (h:Wk (zBh W H tl f c s ix iy iw ih) a b n):Wk (zBh W H tl f c s ix iy iw ih) b a n:=Wk.toR (Wk.rev (step:=zPj W H tl f c s ix iy iw ih) (fun a b k h=>zPi h) (h.toS ha).1)
theorem Wk.zero {a b:Int×Int} {n:Nat} (h:Wk (zBh W H tl f c s ix iy iw ih) a b n) (hn:n=0):a=b:=by
 cases h using Wk.cs with
 |nil=>rfl
 |snoc _ hs=>have:=zJu hs;omega
end
end
section
open Go.RowKit Go.Shelf
theorem zZu {ix iy iw ih W H:Int} (h:0<=ix/\0<=iy/\ix+iw<=W/\iy+ih<=H) (h1:0<iw) (h2:0<ih) (hW:W<=128) (hH:H<=128):0<iw*ih/\iw*ih<=16384:=by
 have e1:0<iw*ih:=Int.mul_pos h1 h2;have e2:iw*ih<=128*128:=Int.mul_le_mul (by omega) (by omega) (by omega) (by omega);omega
theorem zY6 {W H:Int} {tl:List Nat} {f:Int->Int->Option Int} {c s ix iy iw ih:Int} {N:Nat} (hN:N=(ih*iw).toNat):Gok W H tl f c s ix iy iw ih (List.replicate N 0):=by
 refine ⟨by simp [hN],fun x y hx hy=>⟨0,?_,.inl rfl⟩⟩;rw [List.getElem?_replicate,if_pos];rw [hN];exact zHg (p:=(x,y)) ⟨hx,hy⟩
end
section
open Go.RowKit Go.Shelf
attribute [local go_sem] Oper.semAt_some
section
variable {W H:Int} {tl:List Nat} {f:Int->Int->Option Int} {c s ix iy iw ih:Int}
def Tbl (W H:Int) (tl:List Nat) (f:Int->Int->Option Int) (c s ix iy iw ih:Int) (s0:Int×Int) (C:List Int):Prop:=
 C.length=(ih*iw).toNat/\∀q:Int×Int,inB ix iy iw ih q->(∃n:Nat,C[ij ix iy iw q.1 q.2]? = some (n:Int)/\n<=229376/\Std W H tl f c s ix iy iw ih s0/\Least (zBh W H tl f c s ix iy iw ih) s0 q n)\/
  (C[ij ix iy iw q.1 q.2]? = some (-1)/\∀n,¬(Std W H tl f c s ix iy iw ih s0/\Wk (zBh W H tl f c s ix iy iw ih) s0 q n))
theorem Tbl.of {s0:Int×Int} {C:List Int} (hl:C.length=(ih*iw).toNat) (hb:∀m∈C,-1<=m/\m<=229376) (h0:Std W H tl f c s ix iy iw ih s0) (hsk:Sk (zBh W H tl f c s ix iy iw ih) s0 (tab ix iy iw ih C) []):Tbl W H tl f c s ix iy iw ih s0 C:=by
 refine ⟨hl,fun q hq=>?_⟩;have hj:=zHg hq;rw [<-hl] at hj;have hg:C[ij ix iy iw q.1 q.2]? = some (C[ij ix iy iw q.1 q.2]'hj):=List.getElem?_eq_getElem hj;have hm:=hb _ (List.getElem_mem hj);generalize (C[ij ix iy iw q.1 q.2]'hj)=m at hg hm;have ht:=zGs hq hg
 by_cases h1:m = -1
 ·rw [if_pos h1] at ht;subst h1;exact .inr ⟨hg,fun n k=>hsk.no ht n k.2⟩
 ·rw [if_neg h1] at ht;refine .inl ⟨m.toNat,by rw [hg];congr 1;omega,by omega,h0,?_⟩;obtain ⟨k,hk,hL⟩:=Least.exists _ (hsk.real _ _ ht);have:=hsk.done hL;rw [ht] at this;injection this with e
  rw [e];exact hL
theorem Tbl.none {s0:Int×Int} {N:Nat} (hN:N=(ih*iw).toNat) (h0:¬Std W H tl f c s ix iy iw ih s0):Tbl W H tl f c s ix iy iw ih s0 (List.replicate N (-1)):=by
 refine ⟨by simp [hN],fun q hq => .inr ⟨?_,fun n k=>h0 k.1⟩⟩;rw [List.getElem?_replicate,if_pos (by rw [hN];exact zHg hq)]
end
theorem zNp (w0:World):Lfo w0 (.func (.func 129) #[] #[]) (fun _ _=>0):=fun x y=>by
 refine ⟨129,#[cel x y],?_,fun w hb=>?_⟩
 ·intro ev o w c ar ts hop hf hvs;unfold execOp;simp only [hop,resolve,hf,hvs];go_simp
 ·go_enter func129,ntmps129;go_wp2_with fail;go_ret;exact ⟨rfl,zAk _ _⟩
theorem zZf {w:World} {g N:Nat} (hN:N<=16384) (h:w.heap[g]? = some (.cells (zG4 (-1) N N).toArray 3)):Cts w (.slice (some ⟨g,0,none⟩) N N) (List.replicate N (-1)):=by
 refine ⟨by simp,.inr ⟨g,N,_,by simp,Nat.zero_le _,h,by simp,by unfold maxLen;omega,by simp [zI0],?_⟩⟩;simp [zI0]
theorem zWk {ix iy iw ih W H:Int} (hW:W<=128) (hH:H<=128) (h:wi ix iy iw ih 0 0 W H=true):0<=ix/\0<=iy/\ix+iw<=W/\iy+ih<=H/\0<iw/\0<ih:=by
 unfold wi at h;rw [Bool.and_eq_true,Bool.and_eq_true] at h;have h1:=(zAy _ _ _ _ _ _).1 h.2.1;have h2:=(zAy _ _ _ _ _ _).1 h.2.2;have h3:=(zA0 _ _ _ _).1 h.1;omega
def zGn (W H:Int) (tl:List Nat) (f:Int->Int->Option Int) (c s ix iy iw ih fx fy:Int) (w:World) (e:Ending) (w':World):Prop:=
 ∃va vn vc C,e = .returned (.tuple #[.slice va vn vc,O ii 0])/\Below w.heap.size w w'/\(Cts w' (.slice va vn vc) C/\∀j,(Value.slice va vn vc).ownBlock=some j->w.heap.size<=j)/\Tbl W H tl f c s ix iy iw ih (fx,fy) C
def Cl (w0:World) (k p:Nat) (c s ix iy iw ih:Int) (gv cv:Value) (b:Nat) (W H:Int) (tl:List Nat) (f:Int->Int->Option Int) (fx fy:Int) (gk:Nat) (s11 s12:Value) (wr:World):Prop:=
 ∃(i kb:Nat) (C:List Int) (n:Int) (S R:List It) (hv:Value) (G:List Nat) (tx ty tc tf:Int) (ok:Bool),(s11=ptr kb/\s12 = .bool ok/\i+gk=(ih*iw).toNat+1)/\Okk W H tl f c s ix iy iw ih (fun _ _=>0) fx fy i C n S/\Nx ix iy iw C S tx ty tc tf ok R/\
  (Sch w0 wr k p c s ix iy iw ih gv cv b (.func (.func 129) #[] #[]) G C hv n R/\Gok W H tl f c s ix iy iw ih G)/\Four wr kb tx ty tc tf/\(∀j,Own gv cv b hv j->j≠kb)/\w0.heap.size<=kb/\k≠kb
theorem zOq (p:Nat) (W H:Int) (tl:List Nat) (f:Int->Int->Option Int) (c s fx fy ix iy iw ih:Int) (w:World) (hw:Wl w p W H tl f) (hg:Grnd w) (ho:Offs w) (hW:W<=128) (hH:H<=128) (hwi:wi ix iy iw ih 0 0 W H=true) (hh:has ix iy iw ih fx fy=true) :
 Calls pg 91 #[ptr p,shv c s,cel fx fy,rct ix iy iw ih] w (zGn W H tl f c s ix iy iw ih fx fy w):=by
 obtain ⟨X,hX⟩:=ex (((w.alloc (.cells #[O ii c,O ii s] 27)).alloc (.cells #[O ii fx,O ii fy] 47)).alloc (.cells #[O ii ix,O ii iy,O ii iw,O ii ih] 49));have B0:Below w.heap.size w X:=hX▸bt (zA5 _ _ _) (zAk _ _);have F0:Two X w.heap.size c s:=by rw [<-hX];exact ((Two.newAt rfl).alloc).alloc
 have F1:Two X (w.heap.size+1) fx fy:=by rw [<-hX];exact (Two.newAt (by simp)).alloc
 have F2:Four X (w.heap.size+2) ix iy iw ih:=by rw [<-hX];exact Four.newAt _ _ _ _ _ (by simp)
 obtain ⟨hr1,hr2,hr3,hr4,hr5,hr6⟩:=zWk hW hH hwi;have har:=zZu (ix:=ix) (iy:=iy) (iw:=iw) (ih:=ih) ⟨hr1,hr2,hr3,hr4⟩ hr5 hr6 hW hH;have hf:=(zAy _ _ _ _ _ _).1 hh;have hfx:0<=fx-ix/\fx-ix<iw:=by omega
 have hfy:0<=fy-iy/\fy-iy<ih:=by omega
 have hi:0<=ix/\0<=iy/\ix+iw<=1048576/\iy+ih<=1048576:=by omega
 have hcm:ih*iw=iw*ih:=Int.mul_comm _ _;obtain ⟨N,hN⟩:∃N:Nat,iw*ih=(N:Nat):=⟨(iw*ih).toNat,by omega⟩
 have hN':N=(ih*iw).toNat:=by omega
 have HX:=zAc hX;obtain ⟨d0,d1⟩:=F1.lat;obtain ⟨g0,g1,g2,g3⟩:=F2.lat;have hne:=zAq X;have HAl:Hid (∀n:Lat X,Calls pg 26 #[ptr p] n.w fun e w'=>e = .returned (rct 0 0 W H)/\Below n.w.heap.size n.w w'):=zAc fun n=>zHr (hw.kept (bt B0 n.h));have HHa:Hid (∀n:Lat X,Calls pg 122 #[rct ix iy iw ih,cel fx fy] n.w fun e w'=>e = .returned (.bool true)/\Below n.w.heap.size n.w w'):=zAc fun n=>by have:=zNj ix iy iw ih fx fy n.w;rwa [hh] at this
 have HWi:=zAc hwi
 have HB:Hid (∀wx,Below X.heap.size X wx->(Two wx w.heap.size c s/\Two wx (w.heap.size+1) fx fy/\Four wx (w.heap.size+2) ix iy iw ih)/\(Below w.heap.size w wx/\Wl wx p W H tl f/\Grnd wx/\Offs wx)):=zAc fun wx q =>
  ⟨⟨F0.kept q,F1.kept q,F2.kept q⟩,bt B0 q,hw.kept (bt B0 q),hg.kept (bt B0 q),ho.kept (bt B0 q)⟩
 have HSt:Hid (∀wx,Below X.heap.size X wx->Calls pg 126 #[ptr p,shv c s,cel fx fy] wx fun e w'=>e = .returned (.bool (stB W H tl f c s fx fy))/\Below wx.heap.size wx w'):=zAc fun wx q=>zE7 p W H tl f c s fx fy wx (hw.kept (bt B0 q)) (hg.kept (bt B0 q));have Hnum:=zAc (ai hfx (ai hfy (ai hi (ai hN (ai hN' har)))));have hwN:IntKind.i64.wrap (iw*ih)=(N:Nat):=by rw [hN];exact IntWalk.i64_in _ (by omega)
 have Hhh:=zAc hh;have Hpo:Hid (0<iw/\0<ih):=zAc ⟨hr5,hr6⟩;clear hX B0 F0 F1 F2 hw hg ho hwi hh hr1 hr2 hr3 hr4 hr5 hr6 har hf hfx hfy hi hcm hN hN' hW hH;go_enter func91,ntmps91;go_wp2_with (rw [HX.out]);refine zAh (by kernel_rfl) (by kernel_rfl) ?_;repeat (go_big_quiet_step (first|(go_at_call 26;exact zAi (HAl.out _))|(go_at_call 113;exact zAi (zGp _ HWi.out))|(go_at_call 122;exact zAi (HHa.out _))))
 refine wpQuiet_nil ?_;rintro _ ⟨m,rfl⟩;have Hm:=zAc m.h;obtain ⟨⟨b0,b1,-⟩,-⟩:=HB.out m.w m.h;obtain ⟨w1,hw1⟩:=ex (m.w);rw [hw1] at Hm b0 b1;rw [hw1];obtain ⟨⟨c0,c1⟩,-,-⟩:=b0;obtain ⟨⟨e0,e1⟩,-,-⟩:=b1;have HS1:=zAc (HSt.out w1 Hm.out);clear d0 d1 g0 g1 g2 g3 hw1 hne HAl HHa HWi HSt;go_wp2_with fail;refine HS1.out.mono ?_;rintro e w2 ⟨rfl,hb2⟩;have HB2:=zAc (bt Hm.out hb2);obtain ⟨⟨b0,b1,b2⟩,hB2,hWl,hGr,hOf⟩:=HB.out w2 HB2.out;have Hw2:=zAc (ai hB2 (ai hWl (ai hGr hOf)));clear c0 c1 e0 e1 hb2 HS1 hB2 hWl hGr hOf;cases hst:stB W H tl f c s fx fy
 ·have Hns:Hid (¬Std W H tl f c s ix iy iw ih (fx,fy)):=zAc fun q=>by have:=q.2;simp only at this;rw [hst] at this;cases this
  obtain ⟨Y3,hY3⟩:∃Y,w2.alloc (.cells #[O ii (-1)] 3)=Y:=⟨_,rfl⟩
  have B3:Below w2.heap.size w2 Y3:=hY3▸zAk _ _;have c3:Y3.heap[w2.heap.size]? = some (.cells #[O ii (-1)] 3):=hY3▸heap_alloc_new w2 _;have HR:=zAc (zJ8 w2.heap.size (-1) N (by have:=Hnum.out;omega) Y3 (by rw [cell_of_row _ _ 0 _ _ _ c3];rfl) (gE.1 c3).1);have HB3:=zAc B3;obtain ⟨⟨g0,g1,g2,g3⟩,-,-⟩:=b2.kept B3;have HY3:=zAc hY3;clear b0 b1 b2 B3 hst c3 hY3;go_wp2_with (first|rw [HY3.out]|fail);refine HR.out.mono ?_;rintro e w3 ⟨rfl,hr3,hb3⟩
  have HE:Hid (zGn W H tl f c s ix iy iw ih fx fy w (.returned (.tuple #[.slice (some ⟨Y3.heap.size,0,none⟩) N N,O ii 0])) w3):=zAc (by
   obtain ⟨-,-,-,h4,h5,h6⟩:=Hnum.out;refine ⟨_,_,_,List.replicate N (-1),rfl,bt Hw2.out.1 (bt HB3.out hb3),⟨zZf (by omega) hr3,fun j e=>?_⟩,Tbl.none h5 Hns.out⟩;simp only [Value.ownBlock,Option.some.injEq] at e;have:=Hw2.out.1.size;have:=HB3.out.size
   omega)
  clear hr3 hb3 g0 g1 g2 g3 HR;go_wp2_with fail;refine bodyPost_ret (v:=.tuple #[.slice (some ⟨Y3.heap.size,0,none⟩) N N,O ii 0]) (by simp [results,Tryz.f91,go_sem]) rfl ?_;exact HE.out
 ·have Hst:Hid (Std W H tl f c s ix iy iw ih (fx,fy)):=zAc ⟨Hhh.out,hst⟩;obtain ⟨⟨c0,c1⟩,-,-⟩:=b0;obtain ⟨⟨e0,e1⟩,-,-⟩:=b1;obtain ⟨⟨g0,g1,g2,g3⟩,-,-⟩:=b2;have HBg:=zAc (zUy w2 p c s ix iy iw ih (.func 129) #[] #[] N (fun _ _=>0) fx fy w2 (Below.refl _ _) (zNp w2) Hnum.out.2.2.2.1 (by have:=Hnum.out;omega) Hnum.out.1 Hnum.out.2.1 Hnum.out.2.2.1 (by omega));clear hst;go_wp2_with fail;refine HBg.out.mono ?_;rintro e w3 ⟨k,gv,cv,b,hv,rfl,hS3,hb3⟩;obtain ⟨hfx,hfy,hi,hN,hN',har⟩:=Hnum.out;have hO:Okk W H tl f c s ix iy iw ih (fun _ _=>0) fx fy 0 ((List.replicate N (-1)).set (ij ix iy iw fx fy) 0) 1 [⟨fx,fy,0,0,0⟩]:=Okk.begin hN' ⟨hfx,hfy⟩;have hG:=zY6 (W:=W) (H:=H) (tl:=tl) (f:=f) (c:=c) (s:=s) (ix:=ix) (iy:=iy) (iw:=iw) (ih:=ih) hN';have hNe:=zKi w2 k p c s ix iy iw ih gv cv b _ _ _ hv 1 _ w3 hS3 hO.len hO.inr hi (by omega) (by simp);have HNe:=zAc hNe;have HO:=zAc (ai hO hG);have Hk3:=zAc hS3.sr.lt;clear hfx hfy hi hN hN' har hO hG hNe hb3 hS3 c0 c1 e0 e1 g0 g1 g2 g3 HBg;go_wp2_with fail;refine HNe.out.mono ?_;rintro e w4 ⟨tx,ty,tc,tf,ok,R,hv4,rfl,hnx,hS4,how4,hT4⟩;obtain ⟨Y,hY,hFY,BY⟩:=zNm w4 tx ty tc tf;have HY:=zAc hY;have Hcl:Hid (Cl w2 k p c s ix iy iw ih gv cv b W H tl f fx fy ((ih*iw).toNat+1) (ptr w4.heap.size) (.bool ok) Y):=zAc ⟨0,w4.heap.size,_,_,_,R,hv4,_,tx,ty,tc,tf,ok,⟨rfl,rfl,by omega⟩,HO.out.1,hnx,⟨hS4.upto BY,HO.out.2⟩,hFY,fun j e q=>by have:=hS4.own_lt e;omega,hS4.bel.size,by have:=Hk3.out;have:=hT4.size;omega⟩;clear hY hFY BY hnx hS4 how4 hT4 HNe HO;go_wp2_with (rw [HY.out]);go_loopg [11,12] ((ih*iw).toNat+1) (fun gk s11 s12 wr=>Cl w2 k p c s ix iy iw ih gv cv b W H tl f fx fy gk s11 s12 wr)
  case atStart=>exact Hcl.out
  case round =>
   clear Hcl HY;obtain ⟨i,kb,C,n,S,R,hv,G,tx,ty,tc,tf,ok,⟨rfl,rfl,hgk⟩,hO,hnx,⟨hS,hG⟩,hF,hown,hkb,hkk⟩:=hrel;have hsm:=hO.small;obtain ⟨hfx,hfy,hi,hN,hN',har⟩:=Hnum.out;have hcm:ih*iw=iw*ih:=Int.mul_comm _ _;cases ok
   ·obtain ⟨xs,h1,⟨-,rfl,h2⟩|⟨q,-⟩⟩:=hnx
    ·have hD:=hO.drops h1 h2;have hsk:Sk (zBh W H tl f c s ix iy iw ih) (fx,fy) (tab ix iy iw ih C) []:=hD.sk;have hT:Tbl W H tl f c s ix iy iw ih (fx,fy) C:=Tbl.of hD.len (fun m hm=>by have:=hD.tb m hm;omega) Hst.out hsk;obtain ⟨g,cap,hcv,hgl⟩:=hS.ct.form (by rw [hD.len];omega);subst hcv;have HE:Hid (zGn W H tl f c s ix iy iw ih fx fy w (.returned (.tuple #[.slice (some ⟨g,0,none⟩) C.length cap,O ii 0])) wr):=zAc ⟨_,_,_,C,rfl,Hw2.out.1.trans (hS.bel.mono Hw2.out.1.size),⟨hS.ct,fun j e=>by have:=hS.cn j e;have:=Hw2.out.1.size;omega⟩,hT⟩;have c8:wr.cell? ⟨k,8,none⟩=some (.slice (some ⟨g,0,none⟩) C.length cap):=hS.sr.cl 8;clear hO hS hG hF hown hkb hkk hD hsk hT h1 h2 hsm hfx hfy hi hN hN' har hcm hgk hgl;go_wp2_with fail;refine bodyPost_ret (v:=.tuple #[.slice (some ⟨g,0,none⟩) C.length cap,O ii 0]) (by simp [results,Tryz.f91,go_sem]) rfl ?_;exact HE.out
    ·cases q
   ·obtain ⟨t,ht,rfl,rfl,rfl,rfl⟩:=hnx.mem;have hcs:=hO.cst t ht;have hcn:=hO.cnt;have hfw:=hO.few;have hRl:=hnx.len;have HSp:=zAc (zPl w2 k p c s ix iy iw ih gv cv b _ G C hv n R W H tl f (fun _ _=>0) t.x t.y t.c t.f wr hS Hw2.out.2.1 Hw2.out.2.2.1 Hw2.out.2.2.2 hG (zNp w2) hO.len (hO.inr t ht).1 (hO.inr t ht).2 hi (by omega) (by intro u v;omega) (by omega) (by omega));have HN:=zAc (fun a ha=>Okk.next (a:=a) (L:=fun _ _=>0) (fun a b k hk=>by omega) (fun u v=>by omega) hO hnx ha);obtain ⟨⟨f0,f1,f2,f3⟩,-,-⟩:=id hF;have Hst2:=zAc (ai hF (ai hown (ai hkb (ai hkk hgk))));have Hbig:=zAc (ai hi (ai hN (ai hN' har)));have hkl:=hS.sr.lt;have Hkl:=zAc hkl;clear hO hnx hS hG hF hown hkb hkk hsm hfx hfy hi hN hN' har hcm hgk hcs hcn hfw hRl ht hkl;obtain ⟨tx,htx⟩:=ex (t.x);obtain ⟨ty,hty⟩:=ex (t.y);obtain ⟨tc,htc⟩:=ex (t.c);obtain ⟨tf,htf⟩:=ex (t.f);rw [htx,hty,htc,htf] at HSp Hst2;rw [htx,hty,htc] at HN;rw [htx] at f0;rw [hty] at f1;rw [htc] at f2;rw [htf] at f3;clear htx hty htc htf t;go_wp2_with fail;refine HSp.out.mono ?_;rintro e w5 ⟨rfl,G5,C5,hv5,n5,S5,s1,s2,s3,s4,s5⟩;obtain ⟨hF,hown,hkb,hkk,hgk⟩:=Hst2.out;have hF5:=hF.turned s4 (fun e=>hown _ e rfl);have hO5:=HN.out _ s3;obtain ⟨hi,hN,hN',har⟩:=Hbig.out;have hcm:ih*iw=iw*ih:=Int.mul_comm _ _;have hsm5:=hO5.small;have hpos:0<iw/\0<ih:=Hpo.out;obtain ⟨Y,hY,hFY,BY⟩:=zNm w5 tx ty tc tf;have hSY:=s1.upto BY;have hf5:=hO5.few;have HNe:=zAc (zKi w2 k p c s ix iy iw ih gv cv b _ G5 C5 hv5 n5 S5 Y hSY hO5.len hO5.inr hi hpos (by simp only at hf5 ⊢;omega));have HY:=zAc hY;obtain ⟨⟨f0,f1,f2,f3⟩,-,-⟩:=id hF5;have H5:=zAc (ai hO5 (ai s2 (ai hFY (ai (fun j (e:Own gv cv b hv5 j)=>s1.own_lt e) (ai s1.bel.size hsm5)))));have Hgk:=zAc (ai hgk (ai BY.size (s4.size)));clear s1 s2 s3 s4 s5 hF hown hkb hkk hgk hF5 hO5 hi hN hN' har hcm hsm5 hY hFY BY hSY hf5 HSp HN;go_wp2_with (first|rw [HY.out]|fail);refine HNe.out.mono ?_;rintro e w6 ⟨tx',ty',tc',tf',ok',R',hv6,rfl,hnx6,hS6,how6,hT6⟩;obtain ⟨hO5,hG5,hFY,hol,hbz,hsm5⟩:=H5.out;obtain ⟨hgk,hz1,hz2⟩:=Hgk.out;have hno5:∀j,Own gv cv b hv5 j->j≠w5.heap.size:=fun j e q=>by have:=hol j e;omega
    have hF6:=hFY.turned hT6 (fun e=>hno5 _ e rfl);obtain ⟨Z,hZ⟩:=ex ((((w6.setCell ⟨w5.heap.size,0,none⟩ (O ii tx')).setCell ⟨w5.heap.size,1,none⟩ (O ii ty')).setCell ⟨w5.heap.size,2,none⟩ (O ii tc')).setCell ⟨w5.heap.size,3,none⟩ (O ii tf'));have hFZ:Four Z w5.heap.size tx' ty' tc' tf':=hZ▸hF6.set tx' ty' tc' tf';have TZ:Turns (fun j=>j=w5.heap.size) w6 Z:=hZ▸zC2 w6 w5.heap.size _ _ _ _;have hno6:∀j,Own gv cv b hv6 j->j≠w5.heap.size:=fun j e=>hno5 j (e.imp id (fun e=>e.imp id (fun e=>e.imp id (how6 j))));have hkl:=Hkl.out;have hSZ:=hS6.leave TZ (fun j e=>by omega) (fun e=>by omega) (fun j e q=>hno6 j e q);have HE:Hid (∀gk',gk' + 1=gk->Cl w2 k p c s ix iy iw ih gv cv b W H tl f fx fy gk' (ptr w5.heap.size) (.bool ok') Z):=zAc fun gk' hg'=>⟨i+1,w5.heap.size,_,_,_,R',hv6,G5,tx',ty',tc',tf',ok',⟨rfl,rfl,by omega⟩,hO5,hnx6,⟨hSZ,hG5⟩,hFZ,hno6,hbz,by omega⟩
    have Hpos:Hid (0<gk):=zAc (by omega);obtain ⟨⟨y0,y1,y2,y3⟩,⟨y4,y5,y6,y7⟩,-⟩:=id hF6;have HZ:=zAc hZ;clear hO5 hG5 hFY hol hbz hsm5 hgk hz1 hz2 hno5 hF6 hFZ TZ hno6 hkl hSZ hZ hnx6 hS6 how6 hT6 f0 f1 f2 f3;go_wp2_with (first|rw [HZ.out]|fail);go_roundg (gk-1)
    case measure=>have:=Hpos.out;omega
    case rel=>exact HE.out (gk-1) (by have:=Hpos.out;omega)
end
section
open Go.RowKit Go.Shelf
theorem zLt (d:Int) (w:World):Calls pg 147 #[O ii d] w fun e w'=>e = .returned (O ii (co d))/\w'=w:=by
 cases h:isD d
 ·rw [show co d=0 by simp [co,h]];have h':=(zL8 d).1 h
  by_cases h0:d<0
  all_goals
   go_enter func147,ntmps147;go_wp2
   go_ret;exact ⟨rfl,rfl⟩
 ·obtain ⟨h0,h1⟩:=(zB7 d).1 h
  by_cases h4:4<=d
  ·rw [show co d=14 by simp [co,h,oc,h4]];go_enter func147,ntmps147;go_wp2
   go_ret;exact ⟨rfl,rfl⟩
  ·rw [show co d=10 by simp [co,h,oc,h4]];go_enter func147,ntmps147;go_wp2
   go_ret;exact ⟨rfl,rfl⟩
end
section
open Go.RowKit Go.Shelf
theorem qAj {W H:Int} {tl:List Nat} {f:Int->Int->Option Int} {c s u v:Int} (h:stB W H tl f c s u v=true):has 0 0 W H u v=true:=by
 simp only [stB,stU,wi,Bool.and_eq_true] at h;obtain ⟨⟨hm,h1,-⟩,-⟩:=h;cases hb:fB c s u v
 ·rw [zE5 hb] at hm;have:=((zA0 _ _ _ _).1 hm).2.1;rw [zE5 hb] at this;omega
 ·rw [zF6 hb,zF6 hb] at h1;exact h1
theorem zSu {W H:Int} {tl:List Nat} {f:Int->Int->Option Int} {c s:Int} (hW:1<=W/\W<=128) (hH:1<=H/\H<=128) (u v:Int) (h:stB W H tl f c s u v=true):(0<=u/\u<W)/\0<=v/\v<H:=by
 have:=(zAy _ _ _ _ _ _).1 (qAj h);omega
theorem zRl {W H:Int} {tl:List Nat} {L:List Bd} (hc:zEl W H tl L=0):∃wd ht:Nat,W=(wd:Int)/\H=(ht:Int)/\(1<=wd/\wd<=128)/\1<=ht/\ht<=128:=by
 have h:=(zHl hc).1;simp only [mt,gs,Bool.and_eq_true,decide_eq_true_eq] at h;exact ⟨W.toNat,H.toNat,by omega,by omega,by omega,by omega⟩
theorem qBz {wd ht:Nat} {tl:List Nat} {f:Int->Int->Option Int} {c s:Int} (hd:(1<=wd/\wd<=128)/\1<=ht/\ht<=128) :
 gS wd ht (fun k=>stB wd ht tl f c s ((k%wd:Nat):Int) ((k/wd:Nat):Int))=stB wd ht tl f c s:=by
 funext x y
 unfold gS
 by_cases h:(0<=x/\x<(wd:Nat))/\0<=y/\y<(ht:Nat)
 ·rw [decide_eq_true h,Bool.true_and];have e:=zDr (w:=wd) (x:=x.toNat) (y:=y.toNat) (by omega);simp only [e.1,e.2];rw [Int.toNat_of_nonneg h.1.1,Int.toNat_of_nonneg h.2.1]
 ·rw [decide_eq_false h,Bool.false_and];cases hs:stB wd ht tl f c s x y
  ·rfl
  ·exact absurd (zSu (by omega) (by omega) x y hs) h
theorem zWb {w:World} {wd ht N:Nat} {tl:List Nat} {f:Int->Int->Option Int} {c s:Int} {a:Option Addr} {n cap:Nat} (hd:(1<=wd/\wd<=128)/\1<=ht/\ht<=128) (hN:N=wd*ht)
 (h:Rw 4 1 cB w (.slice a n cap) ((List.range N).map (fun k=>stB wd ht tl f c s ((k%wd:Nat):Int) ((k/wd:Nat):Int)))) (d:Int) :
 ∀wx,Below w.heap.size w wx->∀x y,Calls pg 146 #[gdv wd ht (.slice a n cap),cel x y,O ii d] wx fun e w'=>e = .returned (.tuple #[cel (if lg (stB wd ht tl f c s) x y d=true then sX x y d else 0) (if lg (stB wd ht tl f c s) x y d=true then sY x y d else 0),.bool (lg (stB wd ht tl f c s) x y d)])/\Below wx.heap.size wx w':=fun wx q x y=>by
 have h1:=zQ9 (w:=wx) (wd:=wd) (ht:=ht) (iv:=.slice a n cap) (gS wd ht (fun k=>stB wd ht tl f c s ((k%wd:Nat):Int) ((k/wd:Nat):Int))) x y d a n cap rfl (fun wy k u v=>zHh u v (show Gd wy wd ht N _ _ from (h.upto q).upto k) ⟨hd.1.2,hd.2.2⟩ hN)
 rwa [qBz hd] at h1
def Nmz (w:World) (b n:Nat) (C:Nat->Int):Prop:=w.heap[b]? = some (.cells ((List.range n).map (fun k=>Value.int .i64 (C k))).toArray 3 (0,0))
section
variable {w w':World} {b n:Nat} {C C':Nat->Int}
theorem Nmz.lt (h:Nmz w b n C):b<w.heap.size:=(gE.1 h).1
theorem Nmz.upto (h:Nmz w b n C) (hb:Below w.heap.size w w'):Nmz w' b n C:=(hb.block b h.lt).trans h
theorem Nmz.c (h:Nmz w b n C) {j:Nat} (hj:j<n):w.cell? ⟨b,j,none⟩=some (O ii (C j)):=by
 rw [cell_of_row w b j _ _ _ h];simp [hj]
theorem Nmz.fz (h:Nmz w b n C) (j:Nat):w.frozen? ⟨b,j,none⟩=false:=by
 have h':w.heap[b]? = _:=h;simp [World.frozen?,h']
theorem Nmz.congr (h:Nmz w b n C) (e:∀k,k<n->C k=C' k):Nmz w b n C':=by
 have h':w.heap[b]? = _:=h;unfold Nmz;rw [h',List.map_congr_left (fun k hk=>by rw [e k (List.mem_range.1 hk)])]
theorem Nmz.set (h:Nmz w b n C) {j:Nat} (hj:j<n) (x:Int):Nmz (w.setCell ⟨b,j,none⟩ (O ii x)) b n (fun i=>if i=j then x else C i):=by
 have h':w.heap[b]? = _:=h;unfold Nmz
 have e:((List.range n).map (fun k=>Value.int .i64 (C k))).set j (O ii x)=(List.range n).map (fun i=>Value.int .i64 (if i=j then x else C i)):=by
  refine List.ext_getElem (by simp) (fun i h1 h2=>?_);simp only [List.getElem_set,List.getElem_map,List.getElem_range]
  by_cases hik:j=i
  ·subst hik;simp
  ·rw [if_neg hik,if_neg (fun e=>hik e.symm)]
 simp [World.setCell,Array.getElem?_modify,h',e]
end
def zO9 (N:Nat) (P:Nat->Bool):Nat:=((List.range N).filter P).length
theorem zIk {N:Nat} {P Q:Nat->Bool} (h:∀i,i<N->P i=Q i):zO9 N P=zO9 N Q:=by
 unfold zO9;rw [List.filter_congr (fun i hi=>h i (List.mem_range.1 hi))]
theorem zKy (N:Nat) (P:Nat->Bool):zO9 (N+1) P=zO9 N P+(if P N=true then 1 else 0):=by
 unfold zO9;rw [List.range_succ,List.filter_append,List.length_append];cases h:P N<;>simp [h]
theorem zHk {P Q:Nat->Bool} {j:Nat}:∀{N:Nat},j<N->P j=true->Q j=false->(∀i,i≠j->Q i=P i)->zO9 N Q+1=zO9 N P
 |0,h,_,_,_=>by omega
 |N+1,h,hp,hq,he=>by
  rw [zKy,zKy]
  by_cases e:j=N
  ·subst e;rw [hp,hq,zIk (fun i hi=>he i (by omega))];simp
  ·have:=zHk (N:=N) (by omega) hp hq he;rw [he N (fun x=>e x.symm)];omega
def zC (N:Nat) (C:Nat->Int):Nat:=zO9 N (fun k=>decide (C k<0))
def sC:Nat->(Nat->Int)->Nat
 |0,_=>0
 |N+1,C=>sC N C+(if C N<0 then 20001 else (C N).toNat)
theorem zMx {C C':Nat->Int}:∀{N:Nat},(∀k,k<N->C k=C' k)->sC N C=sC N C'
 |0,_=>rfl
 |N+1,h=>by
  have:=zMx (N:=N) (fun k hk=>h k (by omega));simp only [sC,this,h N (by omega)]
theorem zPr {C:Nat->Int} {j:Nat} {x:Int}:∀{N:Nat},j<N->0<=x->x<=20000->(C j<0\/x<C j)->sC N (fun i=>if i=j then x else C i)<sC N C
 |0,h,_,_,_=>by omega
 |N+1,h,h0,h1,h2=>by
  by_cases e:j=N
  ·subst e;have:=zMx (N:=j) (C:=fun i=>if i=j then x else C i) (C':=C) (fun k hk=>by rw [if_neg (by omega)]);simp only [sC,this,if_true];rw [if_neg (by omega)]
   split<;>omega
  ·have:=zPr (C:=C) (N:=N) (by omega) h0 h1 h2;simp only [sC,if_neg (Ne.symm e)];omega
def vN:Value->Nat
 |.int _ z=>if z<0 then 20001 else z.toNat
 |_=>0
def sW (w:World) (b:Nat):Nat:=match w.heap[b]? with
 |some (.cells c _ _)=>(c.toList.map vN).sum
 |_=>0
theorem zVb (C:Nat->Int):∀n:Nat,(((List.range n).map (fun k=>Value.int .i64 (C k))).map vN).sum=sC n C
 |0=>rfl
 |n+1=>by
  rw [List.range_succ,List.map_append,List.map_append,List.sum_append,zVb C n];simp [sC,vN]
theorem qAm {w:World} {b n:Nat} {C:Nat->Int} (h:Nmz w b n C):sW w b=sC n C:=by
 have h':w.heap[b]? = _:=h;unfold sW;rw [h'];exact zVb C n
def qDa:Value->Nat
 |.bool true=>1
 |_=>0
section
variable {W H:Int} {tl:List Nat} {f:Int->Int->Option Int} {c s ix iy:Int} {rw rh:Nat}
def cl (ix iy:Int) (rw:Nat) (j:Nat):Int×Int:=(ix+((j%rw:Nat):Int),iy+((j/rw:Nat):Int))
theorem zUn {j:Nat} (hj:j<rw*rh):inB ix iy rw rh (cl ix iy rw j):=by
 have hr:0<rw:=by
  rcases Nat.eq_zero_or_pos rw with h|h
  ·subst h;simp at hj
  ·exact h
 have h1:=Nat.mod_lt j hr;have h2:j/rw<rh:=by rw [Nat.div_lt_iff_lt_mul hr,Nat.mul_comm];exact hj
 unfold cl inB;simp only;generalize j%rw=X at *;generalize j/rw=Y at *;omega
theorem zZl (ix iy:Int) (hr:0<rw) (j:Nat):ij ix iy rw (cl ix iy rw j).1 (cl ix iy rw j).2=j:=by
 have e:=Nat.div_add_mod j rw;unfold cl ij;simp only;generalize j%rw=X at *;generalize j/rw=Y at *;rw [show iy+(Y:Int)-iy=Y by omega,show ix+(X:Int)-ix=X by omega];have hc:((rw*Y:Nat):Int)=(Y:Int)*(rw:Int):=by push_cast;exact Int.mul_comm _ _
 omega
theorem zJp (rw rh:Nat):((rh:Int)*(rw:Int)).toNat=rw*rh:=by rw [Int.mul_comm,<-Int.natCast_mul];rfl
theorem zTu {q:Int×Int} (hq:inB ix iy rw rh q):ij ix iy rw q.1 q.2<rw*rh/\cl ix iy rw (ij ix iy rw q.1 q.2)=q:=by
 have hl:=zHg hq;rw [zJp] at hl;have hr:0<rw:=by obtain ⟨⟨h1,h2⟩,-⟩:=hq;omega
 exact ⟨hl,zQ6 (zUn hl) hq (zZl ix iy hr _)⟩
theorem zQv {x y:Int} {d:Nat} {iw ih:Int} (hd:d<8) (hs:stB W H tl f c s x y=true):(lg (stB W H tl f c s) x y (d:Nat)=true/\has ix iy iw ih (x+dX d) (y+dY d)=true)↔(inn x y ix iy iw ih d=true/\stp W H tl f c s x y (d:Nat)=true):=by
 unfold lg inn stp;cases hB:sB x y (d:Nat)
 ·simp
 ·rw [zEr hB,zEq hB,hs];unfold siX siY si0 siB;rw [hB];simp only [Int.toNat_natCast,Bool.true_and];cases ho:oc (d:Nat)
  ·simp [and_comm]
  ·simp only [Bool.not_true,Bool.false_or,if_true,Bool.and_eq_true];constructor
   ·rintro ⟨⟨h1,h2,h3⟩,h4⟩;exact ⟨h4,h1,h2,h3⟩
   ·rintro ⟨h4,h1,h2,h3⟩;exact ⟨⟨h1,h2,h3⟩,h4⟩
structure Bf (W H:Int) (tl:List Nat) (f:Int->Int->Option Int) (c s ix iy:Int) (rw rh tg:Nat) (C:Nat->Int):Prop where
 c0:C tg=0
 ge:∀i,i<rw*rh->-1<=C i
 wk:∀i,i<rw*rh->0<=C i->Wk (zBh W H tl f c s ix iy rw rh) (cl ix iy rw tg) (cl ix iy rw i) (C i).toNat
 bd:∀i,i<rw*rh->0<=C i->C i+14*(zC (rw*rh) C:Nat)+14<=14*(rw*rh:Nat)
variable {tg:Nat} {C:Nat->Int}
theorem Bf.le (h:Bf W H tl f c s ix iy rw rh tg C) {i:Nat} (hi:i<rw*rh):C i<=14*(rw*rh:Nat):=by
 by_cases h0:0<=C i
 ·have:=h.bd i hi h0;omega
 ·omega
theorem Bf.start (hto:tg<rw*rh):Bf W H tl f c s ix iy rw rh tg (fun i=>if i=tg then 0 else -1):=by
 refine ⟨by simp,fun i _=>by show (-1:Int)<=(if i=tg then 0 else -1);split<;>omega,fun i _ h=>?_,fun i hi h=>?_⟩
 ·by_cases e:i=tg
  ·subst e;simp only [if_true];exact .nil _
  ·simp only [if_neg e] at h;omega
 ·have e:i=tg:=by
   by_cases e:i=tg
   ·exact e
   ·simp only [if_neg e] at h;omega
  subst e;have hz:zC (rw*rh) (fun j=>if j=i then (0:Int) else -1)+1=zO9 (rw*rh) (fun _=>true):=zHk hi rfl (by simp) (fun j hj=>by simp [hj]);have hN:zO9 (rw*rh) (fun _=>true)=rw*rh:=by unfold zO9;rw [List.filter_eq_self.2 (fun _ _=>rfl),List.length_range]
  simp only [if_true];omega
theorem Bf.turn (h:Bf W H tl f c s ix iy rw rh tg C) {i k:Nat} {co:Int} (hi:i<rw*rh) (hk:k<rw*rh) (hco:10<=co/\co<=14) (hs:zBh W H tl f c s ix iy rw rh (cl ix iy rw i) (cl ix iy rw k) co.toNat) (h0:0<=C i) (hv:C k<0\/C i+co<C k):Bf W H tl f c s ix iy rw rh tg (fun j=>if j=k then C i+co else C j):=by
 have hkt:k≠tg:=by
  rintro rfl;rw [h.c0] at hv;omega
 have hki:i≠k:=by
  rintro rfl;omega
 refine ⟨by rw [if_neg (Ne.symm hkt)];exact h.c0,fun j hj=>?_,fun j hj hj0=>?_,fun j hj hj0=>?_⟩
 ·by_cases e:j=k
  ·simp only [if_pos e];omega
  ·simp only [if_neg e];exact h.ge j hj
 ·by_cases e:j=k
  ·subst e;simp only [if_true];rw [show (C i+co).toNat=(C i).toNat+co.toNat by omega];exact (h.wk i hi h0).snoc hs
  ·simp only [if_neg e] at hj0 ⊢;exact h.wk j hj hj0
 ·have hz:zC (rw*rh) (fun j=>if j=k then C i+co else C j)=(if C k<0 then zC (rw*rh) C-1 else zC (rw*rh) C)/\(C k<0->1<=zC (rw*rh) C):=by
   by_cases hk0:C k<0
   ·have:=zHk (P:=fun m=>decide (C m<0)) (Q:=fun m=>decide ((if m=k then C i+co else C m)<0)) hk (by simp [hk0]) (by simp;omega) (fun m hm=>by simp [hm]);have e1:zC (rw*rh) (fun j=>if j=k then C i+co else C j)+1=zC (rw*rh) C:=this;rw [if_pos hk0];omega
   ·rw [if_neg hk0];refine ⟨zIk (fun m _=>?_),fun h=>absurd h hk0⟩
    by_cases e:m=k
    ·subst e;simp only [if_true];rw [decide_eq_false (by omega),decide_eq_false hk0]
    ·simp only [if_neg e]
  have hbi:=h.bd i hi h0
  by_cases e:j=k
  ·subst e;simp only [if_true];rw [hz.1]
   by_cases hk0:C j<0
   ·rw [if_pos hk0];have:=hz.2 hk0;omega
   ·rw [if_neg hk0];have hbk:=h.bd j hj (by omega);omega
  ·simp only [if_neg e] at hj0 ⊢;have:=h.bd j hj hj0;rw [hz.1]
   split<;>omega
def Fn (W H:Int) (tl:List Nat) (f:Int->Int->Option Int) (c s ix iy:Int) (rw rh:Nat) (C:Nat->Int) (i d:Nat):Prop:=0<=C i->∀k,k<rw*rh->lg (stB W H tl f c s) (cl ix iy rw i).1 (cl ix iy rw i).2 (d:Nat)=true->cl ix iy rw k=((cl ix iy rw i).1+dX d,(cl ix iy rw i).2+dY d)->0<=C k/\C k<=C i+co (d:Nat)
theorem Bf.tbl (h:Bf W H tl f c s ix iy rw rh tg C) (hf:∀i,i<rw*rh->∀d,d<8->Fn W H tl f c s ix iy rw rh C i d) (hto:tg<rw*rh) (h0:Std W H tl f c s ix iy rw rh (cl ix iy rw tg)) (hN:rw*rh<=16384) :
 Tbl W H tl f c s ix iy rw rh (cl ix iy rw tg) ((List.range (rw*rh)).map C):=by
 have hr:0<rw:=by
  rcases Nat.eq_zero_or_pos rw with h|h
  ·subst h;simp at hto
  ·exact h
 have hget:∀j,j<rw*rh->((List.range (rw*rh)).map C)[j]? = some (C j):=fun j hj=>by simp [hj]
 have htab:∀q g,tab ix iy rw rh ((List.range (rw*rh)).map C) q=some g->∃j,j<rw*rh/\cl ix iy rw j=q/\0<=C j/\(C j).toNat=g:=fun q g hq=>by
  by_cases hin:inB ix iy rw rh q
  ·obtain ⟨e1,e2⟩:=zTu hin;rw [zGs hin (hget _ e1)] at hq
   split at hq
   ·cases hq
   ·injection hq with hq
    have:=h.ge _ e1;exact ⟨_,e1,e2,by omega,hq⟩
  ·unfold tab at hq;rw [if_neg hin] at hq;cases hq
 have hput:∀j,j<rw*rh->0<=C j->tab ix iy rw rh ((List.range (rw*rh)).map C) (cl ix iy rw j)=some (C j).toNat:=fun j hj h0=>by
  rw [zGs (zUn hj) (by rw [zZl ix iy hr];exact hget j hj),if_neg (by omega)]
 refine Tbl.of (by simp [zJp]) (fun m hm=>?_) h0 ⟨?_,fun q g hq=>?_,fun q g hq => .inl ?_⟩
 ·obtain ⟨j,hj,rfl⟩:=List.mem_map.1 hm;have hj:=List.mem_range.1 hj;have:=h.ge j hj;have:=h.le hj;omega
 ·rw [hput tg hto (by rw [h.c0];omega),h.c0];rfl
 ·obtain ⟨j,hj,rfl,h1,rfl⟩:=htab q g hq;exact h.wk j hj h1
 ·obtain ⟨j,hj,rfl,h1,rfl⟩:=htab q g hq;have hst:=((h.wk j hj h1).toS h0).2;rintro d w hs;have hd:=zGt hs;obtain ⟨t,t1,t2,rfl,t4⟩:=hs;have hin:inB ix iy rw rh ((cl ix iy rw j).1+dX t.val,(cl ix iy rw j).2+dY t.val):=zVx t1;obtain ⟨e1,e2⟩:=zTu hin;obtain ⟨f1,f2⟩:=hf j hj t.val t.isLt h1 _ e1 ((zQv (ix:=ix) (iy:=iy) (iw:=rw) (ih:=rh) t.isLt hst.2).2 ⟨t1,t2⟩).1 e2;refine ⟨_,by rw [<-e2];exact hput _ e1 f1,?_⟩;have:=zNr t;omega
end
end
end Go.Proofs.YthiafmlgialbnaaGreatDoor
