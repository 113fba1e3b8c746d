import Derived.OrdersHeld
import Derived.Deep.RegionHeld
set_option linter.all false
set_option maxRecDepth 1000000
set_option maxHeartbeats 64000000
open Array renaming getElem?_eq_some_iff->gE
namespace Go.Proofs.YtejjcenhjpjefaaGreatDoor
section
variable {P:Program} {ops:Array Oper} {Q:Exit->Act->World->Prop} {md:Region.Mode} {S:World->Prop} {zs:List Nat}
def zRc (md:Region.Mode) (ops:Array Oper) (i j:Nat):Bool:=match ops[j]? with
 |none=>false
 |some o=>o.after.any (fun e=>Region.binds md e&&e.on==i)
def zHs (md:Region.Mode) (ops:Array Oper) (z:Nat):Nat->Nat->Bool
 |0,_=>false
 |n+1,i=>zRc md ops i z || (List.range ops.size).any (fun j=>zRc md ops i j&&zHs md ops z n j)
def zMk (md:Region.Mode) (ops:Array Oper) (L:Array Bool):Bool:=
 (List.range ops.size).all (fun k=>!(L.getD k false) || match ops[k]? with
  |none=>true
  |some o=>o.after.all (fun e=>!(Region.binds md e) || L.getD e.on false))
def ShutL (md:Region.Mode) (ops:Array Oper) (L:Array Bool):Prop:=
 ∀k o,ops[k]? = some o->L.getD k false=true->∀e∈o.after,Region.binds md e=true->L.getD e.on false=true
theorem zTs {L:Array Bool} (h:zMk md ops L=true):ShutL md ops L:=by
 intro k o ho hk e he hb;have h1:=List.all_eq_true.1 h k (List.mem_range.2 (gE.1 ho).1);simp only [hk,ho,Bool.not_true,Bool.false_or] at h1;have h2:=Array.all_eq_true_iff_forall_mem.1 h1 e he;simpa [hb] using h2
theorem zO0 {i j:Nat} (h:zRc md ops i j=true):∃o,ops[j]? = some o/\∃e∈o.after,Region.binds md e=true/\e.on=i:=by
 unfold zRc at h
 split at h
 ·cases h
 ·rename_i o ho;obtain ⟨e,he,hb⟩:=Array.any_eq_true'.1 h;simp only [Bool.and_eq_true,beq_iff_eq] at hb;exact ⟨o,ho,e,he,hb.1,hb.2⟩
theorem ShutL.next {L:Array Bool} (h:ShutL md ops L) {j:Nat} (hj:j∈Region.ready md ops L):ShutL md ops (L.setIfInBounds j true):=by
 intro k o ho hk e he hb;refine getD_set_true ?_
 by_cases hjk:j=k
 ·subst hjk;obtain ⟨-,o',ho',hall⟩:=mem_ready.1 hj;rw [ho] at ho';cases ho';exact hall e he hb
 ·rw [getD_set_ne false hjk] at hk;exact h k o ho hk e he hb
theorem ShutL.waits {z:Nat} {L:Array Bool} (h:ShutL md ops L) (hz:z∈Region.ready md ops L):∀(n i:Nat),zHs md ops z n i=true->L.getD i false=true
 |0,_,hw=>by cases hw
 |n+1,i,hw=>by
  unfold zHs at hw;rcases Bool.or_eq_true_iff.1 hw with hw|hw
  ·obtain ⟨o,ho,e,he,hb,rfl⟩:=zO0 hw;obtain ⟨-,o',ho',hall⟩:=mem_ready.1 hz;rw [ho] at ho';cases ho';exact hall e he hb
  ·obtain ⟨j,-,hj⟩:=List.any_eq_true.1 hw;simp only [Bool.and_eq_true] at hj;have h1:=h.waits hz n j hj.2;obtain ⟨o,ho,e,he,hb,rfl⟩:=zO0 hj.1;exact h j o ho h1 e he hb
def zDj (P:Program) (md:Region.Mode) (ops:Array Oper) (Q:Exit->Act->World->Prop) (S:World->Prop) (zs:List Nat):Nat->Array Bool->Act->World->Prop
 |0,L,a,w=>Region.ready md ops L=[]/\Q .normal a w
 |n+1,L,a,w=>(Region.ready md ops L=[]->Q .normal a w)/\
    ∀i∈Region.ready md ops L,wpOp P ops Q i (fun a' w'=>(i ∉ zs->S w')/\zDj P md ops Q S zs n (L.setIfInBounds i true) a' w') a w
theorem zGs:∀(n:Nat) (L:Array Bool) (a:Act) (w:World),zDj P md ops Q S zs n L a w->wpAny P md ops Q n L a w:=by
 intro n
 induction n with
 |zero=>exact fun _ _ _ h=>h
 |succ n ih=>exact fun L a w h=>⟨h.1,fun i hi=>wpOp_mono (fun a' w' h'=>ih _ a' w' h'.2) (h.2 i hi)⟩
theorem zFk {L:Array Bool} {i:Nat} (h:L.getD i true=false):L.getD i false=false:=by
 rcases Nat.lt_or_ge i L.size with h'|h'
 ·simpa [h'] using h
 ·simp [Array.getElem?_eq_none h'] at h
theorem zM9 {i:Nat} {oi:Oper} {v:Value} (hi:ops[i]? = some oi) (hsel:∀(j:Nat) (o:Oper) cs b,ops[j]? = some o->o.op≠.select cs b)
 (hQ:∀c a w,Q (.panic c) (a.put oi.dst v) w->Q (.panic c) a w) {m:Nat} (n:Nat) :
 ∀(L:Array Bool) (a:Act) (w:World),ShutL md ops L->(∀z∈zs,L.getD z false=true\/zHs md ops z m i=true)->(∀j oj,ops[j]? = some oj->j≠i->L.getD j true=false->(∀e∈oj.after,Region.binds md e=true->e.on≠i)->oi.apart ops oj=true)->
  i∈Region.ready md ops L->YieldsIf P ops S oi v a->S w->zDj P md ops Q S zs n (L.setIfInBounds i true) (a.put oi.dst v) w->zDj P md ops Q S zs (n+1) L a w:=by
 induction n with
 |zero =>
  intro L a w hL hw hfree hr hy hS H;refine ⟨fun h=>absurd (h▸hr) List.not_mem_nil,fun j hj=>?_⟩
  by_cases hji:j=i
  ·subst hji;exact hy.wpOp hi hS ⟨fun _=>hS,H⟩
  ·exact absurd (H.1▸ready_mono hj hji) List.not_mem_nil
 |succ n ih =>
  intro L a w hL hw hfree hr hy hS H;have hun:=(mem_ready.1 hr).1;refine ⟨fun h=>absurd (h▸hr) List.not_mem_nil,fun j hj=>?_⟩
  by_cases hji:j=i
  ·subst hji;exact hy.wpOp hi hS ⟨fun _=>hS,H⟩
  ·have hjz:j ∉ zs:=fun e=>by
    rcases hw j e with q|q
    ·rw [zFk (mem_ready.1 hj).1] at q;cases q
    ·have:=hL.waits hj m i q;rw [zFk hun] at this;cases this
   obtain ⟨hjun,oj,hoj,hall⟩:=mem_ready.1 hj
   have hno:∀e∈oj.after,Region.binds md e=true->e.on≠i:=fun e he hb q=>by
    have h1:=hall e he hb;rw [q,zFk hun] at h1;cases h1
   refine wpOp_mono ?_ (wpOp_putIf hoj (hfree j oj hoj hji hjun hno) (fun cs b=>hsel i oi cs b hi) (fun cs b=>hsel j oj cs b hoj) hQ hy (H.2 j (ready_mono hj hji)));rintro a' w' ⟨hy',hS',hH'⟩;refine ⟨hS',ih _ a' w' (hL.next hj) (fun z hz=>(hw z hz).imp getD_set_true id) (fun k ok hk hki hkun hkno=>hfree k ok hk hki ?_ hkno) (ready_mono hr (Ne.symm hji)) hy' (hS' hjz) ?_⟩
   ·by_cases hjk:j=k
    ·subst hjk;exact hjun
    ·rwa [getD_set_ne true hjk] at hkun
   ·rw [Array.setIfInBounds_comm _ _ hji];exact hH'
theorem zAa (i m:Nat) {oi:Oper} {v:Value} {n:Nat} {L:Array Bool} {a:Act} {w:World} (hi:ops[i]? = some oi)
 (hb:(Region.noSelect ops&&Region.free md ops L i&&(Region.ready md ops L).contains i&&zs.all (fun z=>L.getD z false || zHs md ops z m i)&&zMk md ops L)=true)
 (hQ:∀c a w,Q (.panic c) (a.put oi.dst v) w->Q (.panic c) a w) (hy:YieldsIf P ops S oi v a) (hS:S w)
 (h:zDj P md ops Q S zs n (L.setIfInBounds i true) (a.put oi.dst v) w):zDj P md ops Q S zs (n+1) L a w:=by
 simp only [Bool.and_eq_true] at hb;exact zM9 (m:=m) hi (Region.noSelect_spec hb.1.1.1.1) hQ n L a w (zTs hb.2) (fun z hz=>by have:=List.all_eq_true.1 hb.1.2 z hz;simpa using this) (Region.free_spec hi hb.1.1.1.2) (by simpa using hb.1.1.2) hy hS h
theorem zPz {i:Nat} {oi:Oper} {v:Value} (hi:ops[i]? = some oi) (hsel:∀(j:Nat) (o:Oper) cs b,ops[j]? = some o->o.op≠.select cs b)
 (hQ:∀c a w,Q (.panic c) (a.put oi.dst v) w->Q (.panic c) a w) (n:Nat) :
 ∀(L:Array Bool) (a:Act) (w:World),(∀j oj,ops[j]? = some oj->j≠i->L.getD j true=false->(∀e∈oj.after,Region.binds md e=true->e.on≠i)->oi.apart ops oj=true)->
  i∈Region.ready md ops L->YieldsIf P ops (fun _=>True) oi v a->(i ∉ zs->S w)->(i ∉ zs->∀(a':Act) (w':World),S w')->zDj P md ops Q S zs n (L.setIfInBounds i true) (a.put oi.dst v) w->zDj P md ops Q S zs (n+1) L a w:=by
 induction n with
 |zero =>
  intro L a w hfree hr hy hS hS2 H;refine ⟨fun h=>absurd (h▸hr) List.not_mem_nil,fun j hj=>?_⟩
  by_cases hji:j=i
  ·subst hji;exact hy.wpOp hi trivial ⟨hS,H⟩
  ·exact absurd (H.1▸ready_mono hj hji) List.not_mem_nil
 |succ n ih =>
  intro L a w hfree hr hy hS hS2 H;have hun:=(mem_ready.1 hr).1;refine ⟨fun h=>absurd (h▸hr) List.not_mem_nil,fun j hj=>?_⟩
  by_cases hji:j=i
  ·subst hji;exact hy.wpOp hi trivial ⟨hS,H⟩
  ·obtain ⟨hjun,oj,hoj,hall⟩:=mem_ready.1 hj
   have hno:∀e∈oj.after,Region.binds md e=true->e.on≠i:=fun e he hb q=>by
    have h1:=hall e he hb;rw [q,zFk hun] at h1;cases h1
   refine wpOp_mono ?_ (wpOp_putIf hoj (hfree j oj hoj hji hjun hno) (fun cs b=>hsel i oi cs b hi) (fun cs b=>hsel j oj cs b hoj) hQ hy (H.2 j (ready_mono hj hji)));rintro a' w' ⟨hy',hS',hH'⟩;refine ⟨hS',ih _ a' w' (fun k ok hk hki hkun hkno=>hfree k ok hk hki ?_ hkno) (ready_mono hr (Ne.symm hji)) hy' (fun q=>hS2 q a' w') hS2 ?_⟩
   ·by_cases hjk:j=k
    ·subst hjk;exact hjun
    ·rwa [getD_set_ne true hjk] at hkun
   ·rw [Array.setIfInBounds_comm _ _ hji];exact hH'
theorem zJh (i:Nat) {oi:Oper} {v:Value} {n:Nat} {L:Array Bool} {a:Act} {w:World} (hi:ops[i]? = some oi) (hz:zs.contains i=true)
 (hb:(Region.noSelect ops&&Region.free md ops L i&&(Region.ready md ops L).contains i)=true)
 (hQ:∀c a w,Q (.panic c) (a.put oi.dst v) w->Q (.panic c) a w) (hy:YieldsIf P ops (fun _=>True) oi v a)
 (h:zDj P md ops Q S zs n (L.setIfInBounds i true) (a.put oi.dst v) w):zDj P md ops Q S zs (n+1) L a w:=by
 simp only [Bool.and_eq_true] at hb;have hm:i∈zs:=by simpa using hz
 exact zPz hi (Region.noSelect_spec hb.1.1) hQ n L a w (Region.free_spec hi hb.1.2) (by simpa using hb.2) hy (fun q=>absurd hm q) (fun q=>absurd hm q) h
def readyZ (P:Program) (md:Region.Mode) (ops:Array Oper) (Q:Exit->Act->World->Prop) (S:World->Prop) (zs:List Nat) (n:Nat) (L:Array Bool) (a:Act) (w:World) (rs:List Nat):Prop:=
 ∀i∈rs,wpOp P ops Q i (fun a' w'=>(i ∉ zs->S w')/\zDj P md ops Q S zs n (L.setIfInBounds i true) a' w') a w
theorem readyZ.nil {n:Nat} {L:Array Bool} {a:Act} {w:World}:readyZ P md ops Q S zs n L a w []:=fun i h=>absurd h List.not_mem_nil
theorem readyZ.cons {n:Nat} {L:Array Bool} {a:Act} {w:World} {i:Nat} {rs:List Nat} {o:Oper} (ho:ops[i]? = some o) (hg:o.guard=none) {v':Value} {w':World}
 (hr:(execOp a.eval o).run P w = .ok (.value v') w') (hS:i ∉ zs->S w') (h:zDj P md ops Q S zs n (L.setIfInBounds i true) (a.put o.dst v') w')
 (hrest:readyZ P md ops Q S zs n L a w rs):readyZ P md ops Q S zs n L a w (i::rs):=fun j hj=>by
 rcases List.mem_cons.1 hj with rfl|hj
 ·refine wpOp_step ho (fun K hK=>?_);have hw:Region.wanted o (yielded ops a.tmps)=true:=by simp [Region.wanted,hg]
  rw [if_pos hw];unfold Oper.wp;rw [hr];exact hK _ _ ⟨hS,h⟩
 ·exact hrest j hj
theorem readyZ.skip {n:Nat} {L:Array Bool} {a:Act} {w:World} {i:Nat} {rs:List Nat} {o:Oper} (ho:ops[i]? = some o) (hg:o.guard=none) {w':World}
 (hr:(execOp a.eval o).run P w = .ok .skip w') (hS:i ∉ zs->S w') (h:zDj P md ops Q S zs n (L.setIfInBounds i true) (a.put o.dst undef) w')
 (hrest:readyZ P md ops Q S zs n L a w rs):readyZ P md ops Q S zs n L a w (i::rs):=fun j hj=>by
 rcases List.mem_cons.1 hj with rfl|hj
 ·refine wpOp_step ho (fun K hK=>?_);have hw:Region.wanted o (yielded ops a.tmps)=true:=by simp [Region.wanted,hg]
  rw [if_pos hw];unfold Oper.wp;rw [hr];exact hK _ _ ⟨hS,h⟩
 ·exact hrest j hj
theorem readyZ.call {n:Nat} {L:Array Bool} {a:Act} {w:World} {i:Nat} {rs:List Nat} {o:Oper} (ho:ops[i]? = some o) (hg:o.guard=none) {f:FuncId}
 {vs:Array Value} (hrun:(execOp a.eval o).run P w = .ok (.enter f vs) w) {R:Ending->World->Prop} (hc:Calls P f vs w R) (hR:∀e w',R e w'->∃v,e = .returned v/\(i ∉ zs->S w')/\zDj P md ops Q S zs n (L.setIfInBounds i true) (a.put o.dst v) w')
 (hrest:readyZ P md ops Q S zs n L a w rs):readyZ P md ops Q S zs n L a w (i::rs):=fun j hj=>by
 rcases List.mem_cons.1 hj with rfl|hj
 ·refine wpOp_step ho (fun K hK=>?_);have hw:Region.wanted o (yielded ops a.tmps)=true:=by simp [Region.wanted,hg]
  rw [if_pos hw];unfold Oper.wp;rw [hrun];refine Calls.mono hc (fun e w' h=>?_);obtain ⟨v,rfl,h1,h2⟩:=hR e w' h;exact hK _ _ ⟨h1,h2⟩
 ·exact hrest j hj
theorem zAc {rs:List Nat} {n:Nat} {L:Array Bool} {a:Act} {w:World} (hr:Region.ready md ops L=rs) (hne:rs≠[])
 (h:readyZ P md ops Q S zs n L a w rs):zDj P md ops Q S zs (n+1) L a w:=⟨fun h0=>absurd (hr▸h0) hne,hr▸h⟩
theorem zAd {L:Array Bool} {a:Act} {w:World} (hr:Region.ready md ops L=[]) (h:Q .normal a w):∀n,zDj P md ops Q S zs n L a w
 |0=>⟨hr,h⟩
 |_+1=>⟨fun _=>h,fun i hi=>absurd (hr▸hi) List.not_mem_nil⟩
theorem zAe (S:World->Prop) (zs:List Nat) {id:Nat} {a:Act} {w:World} (hm:P.follows .mixedOrders=true)
 (h:zDj P .any ops Q S zs ops.size (Array.replicate ops.size false) a w.drew):(Code.region id ops true).wp P Q a w:=
 wp_region_any hm (zGs _ _ _ _ h)
end
end Go.Proofs.YtejjcenhjpjefaaGreatDoor
