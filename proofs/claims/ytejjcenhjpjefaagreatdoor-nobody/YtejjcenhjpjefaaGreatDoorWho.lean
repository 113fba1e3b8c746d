import Derived.Test.YtejjcenhjpjefaaGreatDoorBase
import Derived.Maps.OwnSet
import Derived.Maps.OwnIn
import Derived.DeepKeys4
set_option linter.all false
set_option maxRecDepth 1000000
set_option maxHeartbeats 64000000
namespace Go.Proofs.YtejjcenhjpjefaaGreatDoor
open Go.RowKit
structure Turns (S:Nat->Prop) (w w':World):Prop where
 os:w'.os=w.os
 tape:w'.tape=w.tape
 output:w'.output=w.output
 size:w.heap.size<=w'.heap.size
 block:∀k,k<w.heap.size->¬S k->w'.heap[k]? = w.heap[k]?
def NoB:Nat->Prop:=fun _=>False
theorem Turns.refl (S:Nat->Prop) (w:World):Turns S w w:=⟨rfl,rfl,rfl,Nat.le_refl _,fun _ _ _=>rfl⟩
theorem Turns.mono {S T:Nat->Prop} {w w':World} (h:Turns S w w') (hs:∀k,k<w.heap.size->S k->T k):Turns T w w':=⟨h.os,h.tape,h.output,h.size,fun k hk hn=>h.block k hk (fun s=>hn (hs k hk s))⟩
theorem Turns.trans {S:Nat->Prop} {a b c:World} (h:Turns S a b) (k:Turns (fun j=>S j\/a.heap.size<=j) b c):Turns S a c:=
 ⟨k.os.trans h.os,k.tape.trans h.tape,k.output.trans h.output,Nat.le_trans h.size k.size,fun i hi hn=>(k.block i (Nat.lt_of_lt_of_le hi h.size) (fun e=>e.elim hn (fun e=>absurd hi (by omega)))).trans (h.block i hi hn)⟩
theorem Turns.of_below {S:Nat->Prop} {w w':World} (h:Below w.heap.size w w'):Turns S w w':=⟨h.os,h.tape,h.output,h.size,fun k hk _=>h.block k hk⟩
theorem Turns.of_grown {S:Nat->Prop} {w w':World} {row:Option Nat} (h:w.grownBy w' row) (hr:∀k,row=some k->S k):Turns S w w':=⟨h.os,h.tape,h.output,h.size,fun k hk hn=>h.block k hk (fun e=>hn (hr k e.symm))⟩
theorem Turns.set {S:Nat->Prop} (w:World) {p:Addr} (hp:S p.block) (u:Value):Turns S w (w.setCell p u):=⟨rfl,rfl,rfl,by simp [World.setCell],fun k hk hn=>Below.heap_setCell _ _ _ _ (fun e=>hn (by rw [e];exact hp))⟩
theorem Turns.drew {S:Nat->Prop} {a w:World} (h:Turns S a w):Turns S a w.drew:=⟨h.os,h.tape,h.output,h.size,h.block⟩
theorem Turns.below {S:Nat->Prop} {w w':World} {B:Nat} (h:Turns S w w') (hB:∀k,S k->B<=k) (hs:B<=w.heap.size):Below B w w':=
 ⟨h.os,h.tape,h.output,h.size,fun k hk=>h.block k (by omega) (fun s=>absurd (hB k s) (by omega))⟩
theorem Turns.same {S:Nat->Prop} {w w':World} (h:Turns S w w') {k:Nat} {o:Obj} (hn:¬S k) (ho:w.heap[k]? = some o):w'.heap[k]? = some o:=
 (h.block k (Array.getElem?_eq_some_iff.1 ho).1 hn).trans ho
theorem Turns.cell {S:Nat->Prop} {w w':World} (h:Turns S w w') {b o:Nat} {v:Value} (hn:¬S b) (hc:w.cell? ⟨b,o,none⟩=some v):w'.cell? ⟨b,o,none⟩=some v:=
 (World.cell?_of_block (a:=⟨b,o,none⟩) (h.block b (World.block_lt_of_cell? w _ hc) hn)).trans hc
abbrev W64 (x:Int):Prop:=(Lit.int .i64 x).wf=true
theorem zBr {x:Int} (h:-9223372036854775808<=x/\x<=9223372036854775807):W64 x:=WalkArith.wf_i64 h
theorem zNg {x:Int} (h:W64 x):-9223372036854775808<=x/\x<=9223372036854775807:=by
 have h':(decide (IntKind.i64.min<=x)&&decide (x<=IntKind.i64.max))=true:=h;rw [Bool.and_eq_true,decide_eq_true_iff,decide_eq_true_iff] at h';exact h'
theorem zKi:laidOutB Tryz.prog=true:=by kernel_rfl
theorem zXe:(23:TypeId)<Tryz.prog.types.size:=of_decide_eq_true (by kernel_rfl)
theorem zSe:(match Tryz.prog.underlying 23 with|some (.array _ _)|some (.struct _)=>true|_=>false)=true:=by rw [Tryz.underlying23]
theorem zDk:Maps.Keyed Tryz.prog 23:=Maps.Keyed.of_law (deep_law_laid zKi (m:=2) (by omega) zXe (by kernel_rfl) zSe)
abbrev cel (x y:Int):Value:=.agg #[.int .i64 x,.int .i64 y]
def ck (x y:Int):Lit:=.string (keyBytes [.int .i64 x,.int .i64 y])
theorem zIl:Tryz.prog.cellsOf 23=2:=by kernel_rfl
theorem zS7:Tryz.prog.cellsOf 3=1:=by kernel_rfl
theorem zO1:Tryz.prog.keyType 23=true:=by kernel_rfl
theorem zRr (x y:Int):(cel x y).formed Tryz.prog 23=true:=by simp [Value.formed,Tryz.underlying23,zIl]
theorem zG2:Tryz.prog.types.size=261+1+1:=by kernel_rfl
theorem zX7 {d:Nat} {x:Int} (hx:W64 x):Tryz.prog.keyLits (d+1) 3 [.int .i64 x]=some [.int .i64 x]:=by
 unfold Program.keyLits;rw [Tryz.underlying3];simp only [true_and];rw [if_pos hx]
theorem hck {x y:Int} (hx:W64 x) (hy:W64 y):keyOf Tryz.prog 23 (cel x y)=some (ck x y):=by
 have hl:Tryz.prog.keyLits (Tryz.prog.types.size+1) 23 (cel x y).cells.toList=some [.int .i64 x,.int .i64 y]:=by
  rw [zG2];unfold Program.keyLits;rw [Tryz.underlying23];simp [zIl,zS7,Value.cells,zX7 hx,zX7 hy]
 unfold keyOf;rw [Tryz.underlying23];simp only [zO1,zRr,Bool.and_self,if_true,hl];rfl
theorem zL9 {x y u v:Int} (hx:W64 x) (hy:W64 y) (hu:W64 u) (hv:W64 v) (h:ck x y=ck u v):x=u/\y=v:=by
 have:=zDk.inj (hck hx hy) (h▸hck hu hv);simpa [cel] using this
theorem zGx (w:World):(zeroValue 3).run Tryz.prog w = .ok (.int .i64 0) w:=by kernel_rfl
def Who (w:World) (b n:Nat) (f:Int->Int->Option Int):Prop:=
 ∃D:DataW Unit,w.ownsMap Tryz.prog 23 (plainElem Tryz.prog 3) b n D/\∀x y,W64 x->W64 y->Maps.has D (ck x y)=(f x y).isSome/\D.atKey (ck x y) (.lit (.int .i64 0)) = .lit (.int .i64 ((f x y).getD 0))
theorem Who.lt {w:World} {b n:Nat} {f:Int->Int->Option Int} (h:Who w b n f):b<w.heap.size:=by obtain ⟨D,h,_⟩:=h;exact h.lt
theorem Who.kept {w w':World} {b n:Nat} {f:Int->Int->Option Int} {S:Nat->Prop} (h:Who w b n f) (ht:Turns S w w') (hb:¬S b):Who w' b n f:=by
 obtain ⟨D,⟨es,clock,h1,h2⟩,h3⟩:=h;exact ⟨D,⟨es,clock,ht.same hb h1,h2⟩,h3⟩
theorem Who.mono {w:World} {b n m:Nat} {f:Int->Int->Option Int} (h:Who w b n f) (hn:n<=m):Who w b m f:=by obtain ⟨D,h,h3⟩:=h;exact ⟨D,h.mono hn,h3⟩
theorem Who.look {w:World} {b n:Nat} {f:Int->Int->Option Int} (h:Who w b n f) {x y:Int} (hx:W64 x) (hy:W64 y) :
 (Instr.lookup 50 (.map (some b)) (cel x y) true).run Tryz.prog w = .ok (.tuple #[.int .i64 ((f x y).getD 0),.bool (f x y).isSome]) w:=by
 obtain ⟨D,h,hD⟩:=h;obtain ⟨h1,h2⟩:=hD x y hx hy;obtain ⟨v,ps,hrun,hR⟩:=h.look_ok zDk Tryz.underlying50 (zGx w) (plainElem_int Tryz.underlying3 (by decide)) (hck hx hy);rw [h2] at hR;obtain ⟨a,rfl,hz,_⟩:=plainElem_int_inv Tryz.underlying3 hR;simp only [Prod.mk.injEq,DataW.lit.injEq,Lit.int.injEq,true_and] at hz;rw [hrun,h1,<-hz.1]
theorem Who.put {w:World} {b n:Nat} {f:Int->Int->Option Int} (h:Who w b n f) {x y i:Int} (hx:W64 x) (hy:W64 y) (hi:W64 i) (hn:n<maxLen) :
 ∃w',(Instr.mapUpdate 50 (.map (some b)) (cel x y) (.int .i64 i)).run Tryz.prog w = .ok () w'/\Who w' b (n+1) (fun u v=>if u=x/\v=y then some i else f u v)/\w.grownBy w' (some b):=by
 obtain ⟨D,h,hD⟩:=h;obtain ⟨w',hrun,hown,hg⟩:=h.update zDk Tryz.underlying50 hn (hck hx hy) (plainElem_int Tryz.underlying3 hi);refine ⟨w',hrun,⟨_,hown,fun u v hu hv=>?_⟩,hg⟩;dsimp only
 by_cases e:u=x/\v=y
 ·rw [if_pos e,e.1,e.2];exact ⟨Maps.has_put_same h.isMap (zDk.key (hck hx hy)) _,Maps.atKey_put_same h.isMap (zDk.key (hck hx hy)) _ _⟩
 ·rw [if_neg e];have hne:ck u v≠ck x y:=fun hh=>e (zL9 hu hv hx hy hh);rw [Maps.has_put_other hne,Maps.atKey_put_other hne];exact hD u v hu hv
theorem Who.made (w:World):Who (w.alloc (.map #[] 0)) w.heap.size 0 (fun _ _=>none):=
 ⟨.map [],World.ownsMap_made w _ _ _,fun x y _ _=>⟨rfl,rfl⟩⟩
end Go.Proofs.YtejjcenhjpjefaaGreatDoor
