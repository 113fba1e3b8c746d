import Derived.Test.YtejjcenhjpjefaaGreatDoorStand
import Derived.Test.YtejjcenhjpjefaaGreatDoorSpan
import Derived.Test.YtejjcenhjpjefaaGreatDoorZlast
import Derived.Defers
import Derived.Recover
import Derived.Laws.Pointers
set_option linter.all false
set_option maxRecDepth 1000000
set_option maxHeartbeats 64000000
open Go.Proofs.Tryz
open Go.Proofs.Tryz renaming prog->pg
open Array renaming getElem?_eq_some_iff->gE
open Go.Value renaming int->O
open Go.IntKind renaming i64->ii
namespace Go.Proofs.YtejjcenhjpjefaaGreatDoor
open Go.RowKit
theorem zAs {P:Program} {ev:Operand->Value} {o:Oper} {w:World} {x:Operand} {v:Value} (ho:o.op = .move x) (hx:ev x=v):(execOp ev o).run P w = .ok (.value v) w:=by
 unfold execOp;rw [ho,<-hx];rfl
theorem zBd {P:Program} {ev:Operand->Value} {o:Oper} {w:World} {x:Operand} {v:Value} (ho:o.op = .assign x) (hx:ev x=v):(execOp ev o).run P w = .ok (.value v) w:=by
 unfold execOp;rw [ho,<-hx];rfl
theorem zA7 {P:Program} {ev:Operand->Value} {o:Oper} {w:World} {x:Operand} {ad:Addr} (ho:o.op = .nilCheck x) (hx:ev x = .pointer (some ad)):(execOp ev o).run P w = .ok (.value (.pointer (some ad))) w:=by
 unfold execOp;rw [ho];simp only [hx];rfl
theorem zAj {c:Code} {Q:Exit->Act->World->Prop} {a:Act} {w:World} (h:Code.wp pg c (zAv (fun a' w'=>Q .normal a' w')) a w):Code.wp pg c Q a w:=by
 refine Code.wp_mono ?_ h;rintro (_|_|_|_|_) a' w' hO;all_goals first|exact hO.elim|exact hO
section
variable {P:Program} {ops:Array Oper} {R:Act->World->Prop} {md:Region.Mode} {S:World->Prop} {zs:List Nat} {n:Nat} {L:Array Bool} {a:Act} {w:World} {oi:Oper}
theorem zt (i m:Nat) (v:Value) (hi:ops[i]? = some oi)
 (hb:(Region.noSelect ops&&Region.free md ops L i&&(Region.ready md ops L).contains i&&zs.all (fun z=>L.getD z false || zHs md ops z m i)&&zMk md ops L)=true)
 (hg:Region.wanted oi (yielded ops a.tmps)=true) (hr:∀wx,S wx->(execOp a.eval oi).run P wx = .ok (.value v) wx) (hS:S w)
 (h:zDj P md ops (zAv R) S zs n (L.setIfInBounds i true) (a.put oi.dst v) w):zDj P md ops (zAv R) S zs (n+1) L a w:=
 zAa i m hi hb (fun _ _ _ h=>h.elim) (.inl ⟨hg,hr⟩) hS h
theorem zm (i m:Nat) (v:Value) {x:Operand} (hi:ops[i]? = some oi)
 (hb:(Region.noSelect ops&&Region.free md ops L i&&(Region.ready md ops L).contains i&&zs.all (fun z=>L.getD z false || zHs md ops z m i)&&zMk md ops L)=true)
 (hg:Region.wanted oi (yielded ops a.tmps)=true) (ho:oi.op = .move x) (hx:a.eval x=v) (hS:S w)
 (h:zDj P md ops (zAv R) S zs n (L.setIfInBounds i true) (a.put oi.dst v) w):zDj P md ops (zAv R) S zs (n+1) L a w:=
 zt i m v hi hb hg (fun _ _=>zAs ho hx) hS h
theorem zu (i m:Nat) (hi:ops[i]? = some oi)
 (hb:(Region.noSelect ops&&Region.free md ops L i&&(Region.ready md ops L).contains i&&zs.all (fun z=>L.getD z false || zHs md ops z m i)&&zMk md ops L)=true)
 (hg:Region.wanted oi (yielded ops a.tmps)=false) (hS:S w)
 (h:zDj P md ops (zAv R) S zs n (L.setIfInBounds i true) (a.put oi.dst undef) w):zDj P md ops (zAv R) S zs (n+1) L a w:=
 zAa i m hi hb (fun _ _ _ h=>h.elim) (.inr ⟨hg,rfl⟩) hS h
def Gz (P:Program) (ops:Array Oper) (S:World->Prop) (K:Act->Prop):Nat->List Value->Act->Prop
 |_,[],a=>K a
 |i,v::r,a=>∃oi,ops[i]? = some oi/\Region.wanted oi (yielded ops a.tmps)=true/\(∀wx,S wx->(execOp a.eval oi).run P wx = .ok (.value v) wx)/\Gz P ops S K (i+1) r (a.put oi.dst v)
theorem zn {i:Nat} {K:Act->Prop} (h:K a):Gz P ops S K i [] a:=h
theorem zc {i:Nat} {v:Value} {r:List Value} {K:Act->Prop} (hi:ops[i]? = some oi) (hg:Region.wanted oi (yielded ops a.tmps)=true) (hr:∀wx,S wx->(execOp a.eval oi).run P wx = .ok (.value v) wx) (h:Gz P ops S K (i+1) r (a.put oi.dst v)):Gz P ops S K i (v::r) a:=⟨oi,hi,hg,hr,h⟩
theorem zo {i:Nat} {v:Value} {r:List Value} {K:Act->Prop} {x:Operand} (hi:ops[i]? = some oi) (hg:Region.wanted oi (yielded ops a.tmps)=true) (ho:oi.op = .move x) (hx:a.eval x=v) (h:Gz P ops S K (i+1) r (a.put oi.dst v)):Gz P ops S K i (v::r) a:=⟨oi,hi,hg,fun _ _=>zAs ho hx,h⟩
def Lz:Nat->Nat->Array Bool->Array Bool
 |_,0,L=>L
 |i,k+1,L=>Lz (i+1) k (L.setIfInBounds i true)
def Bz (md:Region.Mode) (ops:Array Oper) (zs:List Nat) (m:Nat):Nat->Nat->Array Bool->Bool
 |_,0,_=>true
 |i,k+1,L=>(Region.noSelect ops&&Region.free md ops L i&&(Region.ready md ops L).contains i&&zs.all (fun z=>L.getD z false || zHs md ops z m i)&&zMk md ops L)&&Bz md ops zs m (i+1) k (L.setIfInBounds i true)
theorem zWq (m:Nat) (hS:S w) {M:Array Bool}:∀(l:List Value) (i:Nat) (L:Array Bool) (a:Act),Bz md ops zs m i l.length L=true->Lz i l.length L=M->Gz P ops S (fun b=>zDj P md ops (zAv R) S zs n M b w) i l a->zDj P md ops (zAv R) S zs (n+l.length) L a w
 | [],i,L,a,_,hM,h=>by subst hM;exact h
 |v::r,i,L,a,hb,hM,⟨oi,hi,hw,hr,hg⟩=>by
  obtain ⟨h1,h2⟩:=(Bool.and_eq_true _ _).mp hb;exact zt i m v hi h1 hw hr hS (zWq m hS r (i+1) _ _ h2 hM hg)
theorem zv (i k m:Nat) (l:List Value) {N:Nat} (hN:N=n+k) (hk:k=l.length) (hb:Bz md ops zs m i k L=true) (hS:S w) (h:Gz P ops S (fun b=>zDj P md ops (zAv R) S zs n (Lz i k L) b w) i l a):zDj P md ops (zAv R) S zs N L a w:=by
 subst hN hk;exact zWq m hS l i L a hb rfl h
theorem zq {Q:Exit->Act->World->Prop} (i:Nat) (hr:Region.ready md ops L=[i]) (ho:ops[i]? = some oi) (hg:oi.guard=none) {v':Value} {w':World} (hx:(execOp a.eval oi).run P w = .ok (.value v') w') (hS:i ∉ zs->S w') (h:zDj P md ops Q S zs n (L.setIfInBounds i true) (a.put oi.dst v') w'):zDj P md ops Q S zs (n+1) L a w:=
 zAc hr (by simp) (readyZ.cons ho hg hx hS h readyZ.nil)
theorem zw {Q:Exit->Act->World->Prop} (r:Nat) (rs:List Nat) (hr:Region.ready md ops L=r::rs) (h:readyZ P md ops Q S zs n L a w (r::rs)):zDj P md ops Q S zs (n+1) L a w:=
 zAc hr (by simp) h
end
theorem zj:(∀(f:Operand->Value) (l:List Operand),l.toArray.map f=(l.map f).toArray)/\(∀(f:Operand->Value) (a:Operand) (l:List Operand),(a::l).map f=f a::l.map f)/\(∀(f:Operand->Value),([]:List Operand).map f=[]):=⟨fun _ _=>List.map_toArray ..,fun _ _ _=>rfl,fun _=>rfl⟩
def Rcl (f:FuncId):Prop:=∀{ev:Operand->Value} {o:Oper} {w:World} {ar:Array Operand} {ts:Array TypeId} {vs:Array Value},o.op = .call { callee:=.value (.func f),args:=ar,argTypes:=ts }->ev (.func f) = .func (.func f) #[] #[]->ar.map ev=vs->(execOp ev o).run pg w = .ok (.enter f vs) w
theorem zl {f:FuncId} (h:∀vs w,(callFunc f vs).run pg w = .ok (.enter f vs) w):Rcl f:=by
 intro ev o w ar ts vs hop hf hvs;unfold execOp;simp only [hop,resolve,hf,hvs];go_simp
theorem zp:(∀(a:Act) (d:Tmp) (v:Value),a.put (some d) v={ a with tmps:=a.tmps.setIfInBounds d v })/\(∀(a:Act) (v:Value),a.put none v=a)/\(∀(l:List Value) (i:Nat) (x:Value),l.toArray.setIfInBounds i x=(l.set i x).toArray)/\(∀(a:Value) (l:List Value) (b:Value),(a::l).set 0 b=b::l)/\(∀(a:Value) (l:List Value) (i:Nat) (b:Value),(a::l).set (i+1) b=a::l.set i b)/\(∀(l:List Oper) (i:Nat) (h:i<l.toArray.size),l.toArray[i]=l[i]'(by simpa using h))/\(∀(a:Oper) (l:List Oper) (h:0<(a::l).length),(a::l)[0]=a)/\(∀(a:Oper) (l:List Oper) (i:Nat) (h:i+1<(a::l).length),(a::l)[i+1]=l[i]'(Nat.lt_of_succ_lt_succ h)):=
 ⟨fun _ _ _=>rfl,fun _ _=>rfl,fun _ _ _=>List.setIfInBounds_toArray ..,fun _ _ _=>rfl,fun _ _ _ _=>rfl,fun _ _ _=>rfl,fun _ _ _=>rfl,fun _ _ _ _=>rfl⟩
theorem Four.turned {S:Nat->Prop} {W W':World} {k:Nat} {x y a b:Int} (h:Four W k x y a b) (ht:Turns S W W') (hs:¬S k):Four W' k x y a b:=by
 have hb:=ht.block k h.2.2 hs;have hc:=fun o=>World.cell?_of_block (a:=⟨k,o,none⟩) hb;have hf:=fun o=>World.frozen?_of_block (a:=⟨k,o,none⟩) hb;exact ⟨⟨(hc 0).trans h.1.1,(hc 1).trans h.1.2.1,(hc 2).trans h.1.2.2.1,(hc 3).trans h.1.2.2.2⟩,⟨(hf 0).trans h.2.1.1,(hf 1).trans h.2.1.2.1,(hf 2).trans h.2.1.2.2.1,(hf 3).trans h.2.1.2.2.2⟩,Nat.lt_of_lt_of_le h.2.2 ht.size⟩
structure It where
 x:Int
 y:Int
 c:Int
 f:Int
 p:Int
def It.cs (t:It):List Value:=[O ii t.x,O ii t.y,O ii t.c,O ii t.f,O ii t.p]
abbrev It.v (t:It):Value:=.agg #[O ii t.x,O ii t.y,O ii t.c,O ii t.f,O ii t.p]
abbrev rv (x y c f:Int):Value:=.agg #[O ii x,O ii y,O ii c,O ii f]
abbrev fn31:Value:=.func (.func 84) #[] #[]
def Hp (w:World) (b:Nat) (v:Value) (n:Int) (q:Bool):Prop:=w.heap[b]? = some (.cells #[fn31,v,O ii n,.bool q] 185 (0,0))
section
variable {w w':World} {b:Nat} {v:Value} {n:Int} {q:Bool}
theorem Hp.lt (h:Hp w b v n q):b<w.heap.size:=(gE.1 h).1
theorem Hp.kept {S:Nat->Prop} (h:Hp w b v n q) (ht:Turns S w w') (hs:¬S b):Hp w' b v n q:=ht.same hs h
theorem Hp.c (h:Hp w b v n q) (j:Nat):w.cell? ⟨b,j,none⟩=(#[fn31,v,O ii n,.bool q]:Array Value)[j]? := cell_of_row w b j _ _ _ h
theorem Hp.f (h:Hp w b v n q) (j:Nat):w.frozen? ⟨b,j,none⟩=false:=by
 have h':w.heap[b]? = _:=h;simp [World.frozen?,h']
theorem Hp.ne_row (h:Hp w b v n q) {u:Value} {e:TypeId} {k m:Nat} {xs:List Value} (hv:w.ownsRow 0 e k u m xs) (he:e≠185):u.ownBlock≠some b:=by
 intro hh;rcases hv.2 with ⟨rfl,_⟩|⟨g,cap,cur,rfl,hb,hg,_⟩
 ·simp [Value.ownBlock] at hh
 ·simp [Value.ownBlock] at hh;subst hh;rw [show w.heap[g]? = _ from h] at hg;simp at hg;exact he hg.2.symm
theorem Hp.set1 (h:Hp w b v n q) (u:Value):Hp (w.setCell ⟨b,1,none⟩ u) b u n q:=by
 have h':w.heap[b]? = _:=h;have hlt:=h.lt;unfold Hp;simp [World.setCell,Array.getElem?_modify,h']
theorem Hp.set2 (h:Hp w b v n q) (m:Int):Hp (w.setCell ⟨b,2,none⟩ (O ii m)) b v m q:=by
 have h':w.heap[b]? = _:=h;have hlt:=h.lt;unfold Hp;simp [World.setCell,Array.getElem?_modify,h']
theorem Hp.set3 (h:Hp w b v n q) (r:Bool):Hp (w.setCell ⟨b,3,none⟩ (.bool r)) b v n r:=by
 have h':w.heap[b]? = _:=h;have hlt:=h.lt;unfold Hp;simp [World.setCell,Array.getElem?_modify,h']
end
theorem zKc (w:World):Sem.run pg (binOp .neq 147 fn31 .nilFunc) w = .ok (.bool true) w:=by kernel_rfl
theorem zKt (w:World):Sem.run pg (binOp .eql 147 fn31 .nilFunc) w = .ok (.bool false) w:=by kernel_rfl
theorem zGu (x y c f x2 y2 c2 f2:Int) (w:World):Calls pg 84 #[rv x y c f,rv x2 y2 c2 f2] w fun e w'=>e = .returned (.bool (decide (f<f2)))/\w'=(w.alloc (.cells #[O ii x,O ii y,O ii c,O ii f] 146)).alloc (.cells #[O ii x2,O ii y2,O ii c2,O ii f2] 146):=by
 go_enter func84,ntmps84;go_wp2
 go_ret;exact ⟨rfl,rfl⟩
theorem zEr (b c:Nat) (v:Value) (n:Int) (q:Bool) (w:World) (h:Hp w b v n q) (hc:w.cell? ⟨c,0,none⟩=some (ptr b)) :
 CallsD pg 188 #[.pointer (some ⟨c,0,none⟩)] .returning w fun e u' w'=>e = .returned (.tuple #[])/\u' = .returning/\w'=w.setCell ⟨b,3,none⟩ (.bool false):=by
 have c3:w.cell? ⟨b,3,none⟩=some (.bool q):=h.c 3;have f3:=h.f 3;refine callsD_of_wpS func188 rfl fun c₀ cs hu=>?_;apply wpS_seq;apply wpS_region;simp [wpOpsS,go_sem,recoverD,hu,hc,c3,f3,ntmps188,Exit.thenS];apply wpS_region;cases c₀
 simp_all [wpOpsS,go_sem,recoverD,bodyPostS,results,Tryz.results188,ntmps188,Exit.thenS]
theorem zDl (b:Nat) (v:Value) (n:Int) (q:Bool) (w:World) (h:Hp w b v n q) :
 Calls pg 144 #[ptr b] w fun e w'=>e = .returned (.bool (!q))/\w'=w:=by
 have c0:w.cell? ⟨b,0,none⟩=some fn31:=h.c 0;have c3:w.cell? ⟨b,3,none⟩=some (.bool q):=h.c 3;have hq:=zKc;go_enter func144,ntmps144;go_wp2
 go_ret;exact ⟨rfl,rfl⟩
theorem zEk (b:Nat) (a:Option Addr) (m cap:Nat) (n:Int) (q:Bool) (w:World) (h:Hp w b (.slice a m cap) n q) :
 Calls pg 169 #[ptr b] w fun e w'=>e = .returned (O ii (m:Nat))/\w'=w:=by
 have c1:w.cell? ⟨b,1,none⟩=some (.slice a m cap):=h.c 1;go_enter func169,ntmps169;go_wp2
 go_ret;exact ⟨rfl,rfl⟩
theorem hnew_any (w:World):Calls pg 83 #[fn31] w fun e w'=>e = .returned (ptr w.heap.size)/\w'=w.alloc (.cells #[fn31,.slice none 0 0,O ii 0,.bool false] 185):=by
 have hq:=zKt;go_enter func83,ntmps83;go_wp2
 go_ret;exact ⟨rfl,rfl⟩
end Go.Proofs.YtejjcenhjpjefaaGreatDoor
