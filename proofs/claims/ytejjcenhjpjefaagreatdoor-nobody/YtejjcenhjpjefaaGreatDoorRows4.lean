import Derived.Test.YtejjcenhjpjefaaGreatDoorPure
import Derived.Test.YtejjcenhjpjefaaGreatDoorNew
import Derived.Test.YtejjcenhjpjefaaGreatDoorStands
import Derived.Test.YtejjcenhjpjefaaGreatDoorAwake
import Derived.Test.YtejjcenhjpjefaaGreatDoorHq
import Derived.Deep.RegionHeld
set_option linter.all false
set_option maxRecDepth 1000000
set_option maxHeartbeats 64000000
open Array renaming getElem?_eq_some_iff->gE
open Go.Value renaming int->O
open Go.IntKind renaming i64->ii
namespace Go.Proofs.YtejjcenhjpjefaaGreatDoor
open Go.RowKit
def qBz (W H:Int) (L:List Bd) (k:Nat):Prop:=∀(i:Nat) t,L[i]? = some t->i<k->mb W H t=true/\∀(j:Nat) s,L[j]? = some s->j<i->s.id<t.id/\s.mt t=false
def qB3 (W H:Int) (tl:List Nat) (L:List Bd):Int:=if (mt W H tl&&(decide (L.length<=256)&&chk W H [] L))=true then 0 else 1
def qA3 (w:World) (W H:Int) (tl:List Nat) (L:List Bd) (r:Nat) (w':World):Prop:=
 ∃tv bv,Rd w' r W H tv bv (.slice none 0 0)/\Tls w' tv tl/\Bds w' bv L/\Below w.heap.size w w'/\(w.heap.size<=r/\(∀b,tv.ownBlock=some b->w.heap.size<=b)/\∀b,bv.ownBlock=some b->w.heap.size<=b)
def Rl (w:World) (r:Nat) (W H:Int) (tl:List Nat) (L:List Bd):Prop:=
 ((mt W H tl=true/\∀n∈tl,n<256)/\L.length<=256)/\∃(tv bv ev:Value),Rd w r W H tv bv ev/\Tls w tv tl/\Bds w bv L
def MB (w:World) (k:Nat) (W H:Int) (tv bv:Value):Prop:=w.heap[k]? = some (.cells #[O ii W,O ii H,tv,bv] 60 (0,0))
section
theorem zYd {w h x y:Nat} (hx:x<w) (hy:y<h):y*w+x<w*h:=by
 have h1:(y+1)*w<=h*w:=Nat.mul_le_mul_right w hy;rw [Nat.succ_mul,Nat.mul_comm h w] at h1;omega
theorem zPa {w x y:Nat} (hx:x<w):(y*w+x)%w=x/\(y*w+x)/w=y:=by
 rw [Nat.mul_comm y w,Nat.mul_add_mod,Nat.mod_eq_of_lt hx,Nat.mul_add_div (by omega),Nat.div_eq_of_lt hx];exact ⟨rfl,rfl⟩
section
variable {α:Type} {t k:Nat} {cs:α->List Value} {w w':World} {v:Value} {l:List α}
def Rw (t k:Nat) (cs:α->List Value) (w:World) (v:Value) (l:List α):Prop:=w.ownsRow 0 t k v l.length (l.flatMap cs)
theorem zIw (hk:∀a,(cs a).length=k):∀(l:List α) (i:Nat) (x:α) (j:Nat),l[i]? = some x->j<k->(l.flatMap cs)[i*k+j]? = (cs x)[j]?
 | [],i,x,j,h,_=>by simp at h
 |s::r,0,x,j,h,hj=>by
  simp at h;subst h;rw [List.flatMap_cons,Nat.zero_mul,Nat.zero_add,List.getElem?_append_left (by rw [hk];exact hj)]
 |s::r,i+1,x,j,h,hj=>by
  simp at h;have e:(i+1)*k=i*k+k:=Nat.succ_mul i k;rw [List.flatMap_cons,List.getElem?_append_right (by rw [hk];omega)];rw [<-zIw hk r i x j h hj,hk]
  congr 1
  omega
theorem Rw.kept {S:Nat->Prop} (h:Rw t k cs w v l) (ht:Turns S w w') (hs:∀g,v.ownBlock=some g->¬S g):Rw t k cs w' v l:=by
 refine ⟨h.1,?_⟩;rcases h.2 with h1|⟨g,cap,cur,e,hb,hg,r⟩
 ·exact .inl h1
 ·exact .inr ⟨g,cap,cur,e,hb,ht.same (hs g (by rw [e];rfl)) hg,r⟩
theorem Rw.upto (h:Rw t k cs w v l) (hb:Below w.heap.size w w'):Rw t k cs w' v l:=h.kept (Turns.of_below (S:=NoB) hb) (fun _ _ s=>s)
theorem Rw.blk (h:Rw t k cs w v l) {g:Nat} (hg:v.ownBlock=some g):∃cur,w.heap[g]? = some (.cells cur t (0,0)):=by
 rcases h.2 with ⟨e,-⟩|⟨g',cap,cur,e,-,hc,-⟩
 ·rw [e] at hg;cases hg
 ·rw [e] at hg;cases hg;exact ⟨cur,hc⟩
theorem Rw.form (hk:∀a,(cs a).length=k) (h:Rw t k cs w v l):∃a cap,v = .slice a l.length cap/\l.length<=cap/\∀i x,l[i]? = some x->∃g,a=some ⟨g,0,none⟩/\g<w.heap.size/\∀j u,(cs x)[j]? = some u->w.cell? ⟨g,i*k+j,none⟩=some u:=by
 rcases h.2 with ⟨e,h0⟩|⟨g,cap,cur,e,hb,hg,hn,hm,hs,ht⟩
 ·exact ⟨none,0,by rw [h0];exact e,by omega,fun i x hi=>by
   have:=List.eq_nil_of_length_eq_zero h0;subst this;simp at hi⟩
 ·refine ⟨_,cap,e,hn,fun i x hi=>⟨g,rfl,(gE.1 hg).1,fun j u hu=>?_⟩⟩;have hj:j<k:=by rw [<-hk x];exact (List.getElem?_eq_some_iff.1 hu).1
  have:=h.cells (g:=g) (by rw [e];rfl) (i*k+j) u (by rw [zIw hk l i x j hi hj];exact hu);simpa [Addr.add_lit] using this
theorem Rw.nil (t k:Nat) (cs:α->List Value) (w:World):Rw t k cs w (.slice none 0 0) []:=World.ownsRow_nil _ _ _ _
end
theorem zAy {S:Nat->Prop} {W W':World} {k:Nat} {u v:Int} (h:Two W k u v) (ht:Turns S W W') (hs:¬S k):Two W' k u v:=by
 have hb:=ht.block k h.2.2 hs;have hf:∀o,W'.frozen? ⟨k,o,none⟩=W.frozen? ⟨k,o,none⟩:=fun o=>by simp [World.frozen?,hb]
 exact ⟨⟨ht.cell hs h.1.1,ht.cell hs h.1.2⟩,⟨(hf 0).trans h.2.1.1,(hf 1).trans h.2.1.2⟩,Nat.lt_of_lt_of_le h.2.2 ht.size⟩
end
end Go.Proofs.YtejjcenhjpjefaaGreatDoor
