import Derived.Test.YtejjcenhjpjefaaGreatDoorWho
import Derived.WalkLawsBesides
set_option linter.all false
set_option maxRecDepth 1000000
set_option maxHeartbeats 64000000
open Go.Proofs.Tryz
open Go.Proofs.Tryz renaming prog->pg
open Array renaming getElem?_eq_some_iff->gE
open Go.Value renaming int->O
open Go.IntKind renaming i64->ii
namespace Go.Proofs.YtejjcenhjpjefaaGreatDoor
open Go.RowKit
structure Bd where
 id:Int
 x:Int
 y:Int
 a:Int
 b:Int
def Bd.cs (t:Bd):List Value:=[O ii t.id,O ii t.x,O ii t.y,O ii t.a,O ii t.b]
abbrev Bd.v (t:Bd):Value:=.agg #[O ii t.id,O ii t.x,O ii t.y,O ii t.a,O ii t.b]
theorem cs_len (l:List Bd):(l.flatMap Bd.cs).length=l.length*5:=by
 induction l with
 |nil=>rfl
 |cons t r ih=>rw [List.flatMap_cons,List.length_append,ih];simp [Bd.cs];omega
theorem cs_get:∀(l:List Bd) (i:Nat) (t:Bd) (j:Nat),l[i]? = some t->j<5->(l.flatMap Bd.cs)[i*5+j]? = t.cs[j]?
 | [],i,t,j,h,_=>by simp at h
 |s::r,0,t,j,h,hj=>by
  simp at h;subst h;rw [List.flatMap_cons,Nat.zero_mul,Nat.zero_add,List.getElem?_append_left (by simp [Bd.cs];omega)]
 |s::r,i+1,t,j,h,hj=>by
  simp at h;rw [List.flatMap_cons,List.getElem?_append_right (by simp [Bd.cs];omega)];rw [<-cs_get r i t j h hj]
  congr 1
  simp [Bd.cs];omega
def Bds (w:World) (v:Value) (l:List Bd):Prop:=w.ownsRow 0 95 5 v l.length (l.flatMap Bd.cs)
theorem Bds.kept {w w':World} {v:Value} {l:List Bd} {S:Nat->Prop} (h:Bds w v l) (ht:Turns S w w') (hs:∀k,v.ownBlock=some k->¬S k):Bds w' v l:=by
 refine ⟨h.1,?_⟩;rcases h.2 with h1|⟨g,cap,cur,e,hb,hg,r⟩
 ·exact .inl h1
 ·exact .inr ⟨g,cap,cur,e,hb,ht.same (hs g (by rw [e];rfl)) hg,r⟩
def BdAt (w:World) (a:Option Addr) (i:Nat) (t:Bd):Prop:=
 ∃g,a=some ⟨g,0,none⟩/\g<w.heap.size/\w.cell? ⟨g,i*5,none⟩=some (O ii t.id)/\w.cell? ⟨g,i*5+1,none⟩=some (O ii t.x)/\w.cell? ⟨g,i*5+2,none⟩=some (O ii t.y)/\
  w.cell? ⟨g,i*5+3,none⟩=some (O ii t.a)/\w.cell? ⟨g,i*5+4,none⟩=some (O ii t.b)
theorem Bds.form {w:World} {v:Value} {l:List Bd} (h:Bds w v l) :
 ∃a cap,v = .slice a l.length cap/\l.length<=cap/\cap<=maxLen/\∀i t,l[i]? = some t->BdAt w a i t:=by
 rcases h.2 with ⟨e,h0⟩|⟨g,cap,cur,e,hb,hg,hn,hm,hs,ht⟩
 ·exact ⟨none,0,by rw [h0];exact e,by omega,by decide,fun i t hi=>by
   have:=List.eq_nil_of_length_eq_zero h0;subst this;simp at hi⟩
 ·refine ⟨_,cap,e,hn,hm,fun i t hi=>?_⟩
  have hc:∀j u,t.cs[j]? = some u->j<5->w.cell? ⟨g,i*5+j,none⟩=some u:=fun j u hu hj=>by
   have:=h.cells (g:=g) (by rw [e];rfl) (i*5+j) u (by rw [cs_get l i t j hi hj];exact hu);simpa [Addr.add_lit] using this
  exact ⟨g,rfl,(gE.1 hg).1,hc 0 _ rfl (by omega),hc 1 _ rfl (by omega),hc 2 _ rfl (by omega),hc 3 _ rfl (by omega),hc 4 _ rfl (by omega)⟩
theorem BdAt.kept {w w':World} {a:Option Addr} {i:Nat} {t:Bd} (h:BdAt w a i t) (hb:Below w.heap.size w w'):BdAt w' a i t:=by
 obtain ⟨g,e1,e2,c0,c1,c2,c3,c4⟩:=h;have hc:=fun o=>hb.cell (p:=⟨g,o,none⟩) e2;exact ⟨g,e1,Nat.lt_of_lt_of_le e2 hb.size,(hc _).trans c0,(hc _).trans c1,(hc _).trans c2,(hc _).trans c3,(hc _).trans c4⟩
def zD0 (x y:Int):Int:=if x<y then -1 else if y<x then 1 else 0
theorem zKd (x:Int) (w:World):Calls pg 134 #[O ii x] w fun e w'=>e = .returned (.bool false)/\w'=w:=by
 go_enter func134,ntmps134;go_wp2
 go_ret;exact ⟨rfl,rfl⟩
theorem zGp (x y:Int) (w:World):Calls pg 101 #[O ii x,O ii y] w fun e w'=>e = .returned (O ii (zD0 x y))/\w'=w:=by
 by_cases h1:x<y
 ·rw [show zD0 x y = -1 by simp [zD0,h1]];go_enter func101,ntmps101;go_wp2_with (go_at_call 134;refine (zKd _ _).mono ?_;rintro e w' ⟨rfl,rfl⟩);go_ret;exact ⟨rfl,rfl⟩
 ·by_cases h2:y<x
  ·rw [show zD0 x y=1 by simp [zD0,h1,h2]];go_enter func101,ntmps101;go_wp2_with (go_at_call 134;refine (zKd _ _).mono ?_;rintro e w' ⟨rfl,rfl⟩);go_ret;exact ⟨rfl,rfl⟩
  ·rw [show zD0 x y=0 by simp [zD0,h1,h2]];go_enter func101,ntmps101;go_wp2_with (go_at_call 134;refine (zKd _ _).mono ?_;rintro e w' ⟨rfl,rfl⟩);go_ret;exact ⟨rfl,rfl⟩
theorem zKv (t:Bd) (i:Int) (w:World):Calls pg 103 #[t.v,O ii i] w fun e w'=>e = .returned (O ii (zD0 t.id i))/\Below w.heap.size w w':=by
 go_enter func103,ntmps103;go_wp2_with (go_at_call 101;refine (zGp _ _ _).mono ?_;rintro e w' ⟨rfl,rfl⟩);go_ret;exact ⟨rfl,zAh _ _⟩
end Go.Proofs.YtejjcenhjpjefaaGreatDoor
