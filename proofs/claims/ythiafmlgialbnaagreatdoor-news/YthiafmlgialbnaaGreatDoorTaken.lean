import Derived.Test.YthiafmlgialbnaaGreatDoorWho
import Derived.WalkLawsBesides
import Derived.Test.YthiafmlgialbnaaGreatDoorCellsSeq
set_option linter.all false
set_option maxRecDepth 1000000
set_option maxHeartbeats 64000000
open Go.Proofs.Tryz
open Go.Proofs.Tryz renaming prog->pg
open Array renaming getElem?_eq_some_iff->gE
open Go.Value renaming int->O
open Go.IntKind renaming i64->ii
namespace Go.Proofs.YthiafmlgialbnaaGreatDoor
open Go.RowKit
structure Bd where
 id:Int
 x:Int
 y:Int
 a:Int
 b:Int
def Bd.cs (t:Bd):List Value:=[O ii t.id,O ii t.x,O ii t.y,O ii t.a,O ii t.b]
abbrev Bd.v (t:Bd):Value:=.agg #[O ii t.id,O ii t.x,O ii t.y,O ii t.a,O ii t.b]
theorem cs_len (l:List Bd):(l.flatMap Bd.cs).length=l.length*5:=by
 induction l with
 |nil=>rfl
 |cons t r ih=>rw [List.flatMap_cons,List.length_append,ih];simp [Bd.cs];omega
theorem cs_get:∀(l:List Bd) (i:Nat) (t:Bd) (j:Nat),l[i]? = some t->j<5->(l.flatMap Bd.cs)[i*5+j]? = t.cs[j]?
 | [],i,t,j,h,_=>by simp at h
 |s::r,0,t,j,h,hj=>by
  simp at h;subst h;rw [List.flatMap_cons,Nat.zero_mul,Nat.zero_add,List.getElem?_append_left (by simp [Bd.cs];omega)]
 |s::r,i+1,t,j,h,hj=>by
  simp at h;rw [List.flatMap_cons,List.getElem?_append_right (by simp [Bd.cs];omega)];rw [<-cs_get r i t j h hj]
  congr 1
  simp [Bd.cs];omega
def Bds (w:World) (v:Value) (l:List Bd):Prop:=w.ownsRow 0 51 5 v l.length (l.flatMap Bd.cs)
theorem Bds.kept {w w':World} {v:Value} {l:List Bd} {S:Nat->Prop} (h:Bds w v l) (ht:Turns S w w') (hs:∀k,v.ownBlock=some k->¬S k):Bds w' v l:=by
 refine ⟨h.1,?_⟩;rcases h.2 with h1|⟨g,cap,cur,e,hb,hg,r⟩
 ·exact .inl h1
 ·exact .inr ⟨g,cap,cur,e,hb,ht.same (hs g (by rw [e];rfl)) hg,r⟩
def BdAt (w:World) (a:Option Addr) (i:Nat) (t:Bd):Prop:=
 ∃g,a=some ⟨g,0,none⟩/\g<w.heap.size/\w.cell? ⟨g,i*5,none⟩=some (O ii t.id)/\w.cell? ⟨g,i*5+1,none⟩=some (O ii t.x)/\w.cell? ⟨g,i*5+2,none⟩=some (O ii t.y)/\
  w.cell? ⟨g,i*5+3,none⟩=some (O ii t.a)/\w.cell? ⟨g,i*5+4,none⟩=some (O ii t.b)
theorem Bds.form {w:World} {v:Value} {l:List Bd} (h:Bds w v l) :
 ∃a cap,v = .slice a l.length cap/\l.length<=cap/\cap<=maxLen/\∀i t,l[i]? = some t->BdAt w a i t:=by
 rcases h.2 with ⟨e,h0⟩|⟨g,cap,cur,e,hb,hg,hn,hm,hs,ht⟩
 ·exact ⟨none,0,by rw [h0];exact e,by omega,by decide,fun i t hi=>by
   have:=List.eq_nil_of_length_eq_zero h0;subst this;simp at hi⟩
 ·refine ⟨_,cap,e,hn,hm,fun i t hi=>?_⟩
  have hc:∀j u,t.cs[j]? = some u->j<5->w.cell? ⟨g,i*5+j,none⟩=some u:=fun j u hu hj=>by
   have:=h.cells (g:=g) (by rw [e];rfl) (i*5+j) u (by rw [cs_get l i t j hi hj];exact hu);simpa [Addr.add_lit] using this
  exact ⟨g,rfl,(gE.1 hg).1,hc 0 _ rfl (by omega),hc 1 _ rfl (by omega),hc 2 _ rfl (by omega),hc 3 _ rfl (by omega),hc 4 _ rfl (by omega)⟩
theorem BdAt.kept {w w':World} {a:Option Addr} {i:Nat} {t:Bd} (h:BdAt w a i t) (hb:Below w.heap.size w w'):BdAt w' a i t:=by
 obtain ⟨g,e1,e2,c0,c1,c2,c3,c4⟩:=h;have hc:=fun o=>hb.cell (p:=⟨g,o,none⟩) e2;exact ⟨g,e1,Nat.lt_of_lt_of_le e2 hb.size,(hc _).trans c0,(hc _).trans c1,(hc _).trans c2,(hc _).trans c3,(hc _).trans c4⟩
def zFp (x y:Int):Int:=if x<y then -1 else if y<x then 1 else 0
theorem zL3 (x:Int) (w:World):Calls pg 150 #[O ii x] w fun e w'=>e = .returned (.bool false)/\w'=w:=by
 go_enter func150,ntmps150;go_wp2
 go_ret;exact ⟨rfl,rfl⟩
theorem zMk (x y:Int) (w:World):Calls pg 107 #[O ii x,O ii y] w fun e w'=>e = .returned (O ii (zFp x y))/\w'=w:=by
 by_cases h1:x<y
 ·rw [show zFp x y = -1 by simp [zFp,h1]];go_enter func107,ntmps107;go_wp2_with (go_at_call 150;refine (zL3 _ _).mono ?_;rintro e w' ⟨rfl,rfl⟩);go_ret;exact ⟨rfl,rfl⟩
 ·by_cases h2:y<x
  ·rw [show zFp x y=1 by simp [zFp,h1,h2]];go_enter func107,ntmps107;go_wp2_with (go_at_call 150;refine (zL3 _ _).mono ?_;rintro e w' ⟨rfl,rfl⟩);go_ret;exact ⟨rfl,rfl⟩
  ·rw [show zFp x y=0 by simp [zFp,h1,h2]];go_enter func107,ntmps107;go_wp2_with (go_at_call 150;refine (zL3 _ _).mono ?_;rintro e w' ⟨rfl,rfl⟩);go_ret;exact ⟨rfl,rfl⟩
theorem zMl (t:Bd) (i:Int) (w:World):Calls pg 106 #[t.v,O ii i] w fun e w'=>e = .returned (O ii (zFp t.id i))/\Below w.heap.size w w':=by
 go_enter func106,ntmps106;go_wp2_with (go_at_call 107;refine (zMk _ _ _).mono ?_;rintro e w' ⟨rfl,rfl⟩);go_ret;exact ⟨rfl,zAk _ _⟩
section
open Go.Shelf
attribute [local go_sem] Oper.semAt_some
abbrev rct (x y a b:Int):Value:=.agg #[O ii x,O ii y,O ii a,O ii b]
abbrev ptr (p:Nat):Value:=.pointer (some ⟨p,0,none⟩)
theorem zDu (x y a b:Int) (w:World) :
 Calls pg 56 #[rct x y a b] w fun e w'=>e = .returned (.func (.func 86) #[] #[ptr w.heap.size])/\w'=w.alloc (.cells #[O ii x,O ii y,O ii a,O ii b] 49):=by
 go_enter func56,ntmps56;go_wp2_with fail;go_ret;exact ⟨rfl,rfl⟩
theorem zDi {W W':World} (h:Below W.heap.size W W'):KeepsOthers W W':=⟨h.size,fun k o hk _=>(h.block k (gE.1 hk).1).trans hk⟩
theorem zAn {n₀:Nat} {W W':World} {k:Nat} {t:TypeId} {v:Value} (h:Boxed W k t v) (hB:Below n₀ W W') (hk:k<n₀):Boxed W' k t v:=(hB.block k hk).trans h
theorem Two.own {W W':World} {row:Option Nat} {k:Nat} {u v:Int} (h:Two W k u v) (hg:W.grownBy W' row) (hr:∀r,row=some r->∃o:Obj,W.heap[r]? = some o/\o.isCells=false):Two W' k u v:=
 ⟨⟨cell_kept h.1.1 hg hr,cell_kept h.1.2 hg hr⟩,⟨(frozen_kept h.1.1 hg hr).trans h.2.1.1,(frozen_kept h.1.2 hg hr).trans h.2.1.2⟩,Nat.lt_of_lt_of_le h.2.2 hg.size⟩
theorem Who.upto {w w':World} {b n:Nat} {f:Int->Int->Option Int} {N:Nat} (h:Who w b n f) (hB:Below N w w') (hb:b<N):Who w' b n f:=by
 obtain ⟨D,⟨es,clock,h1,h2⟩,h3⟩:=h;exact ⟨D,⟨es,clock,(hB.block b hb).trans h1,h2⟩,h3⟩
def zDl (f:Int->Int->Option Int) (x y a b:Int):Bool:=(zEe x y a b).any (fun q=>(f q.1.1 q.1.2).isSome)
abbrev WT (w:World) (p:Nat) (x y a b:Int):World:=(((w.alloc (.cells #[ptr p] 29)).alloc (.cells #[O ii x,O ii y,O ii a,O ii b] 49)).alloc (.cells #[.bool false] 4)).alloc (.cells #[O ii x,O ii y,O ii a,O ii b] 49)
theorem zSg (w:World) (p:Nat) (x y a b:Int):Below w.heap.size w (WT w p x y a b):=bt (zA5 _ _ _) (zA5 _ _ _)
theorem zWi (w:World) (p:Nat) (x y a b:Int):(WT w p x y a b).heap.size=w.heap.size+4:=by simp
theorem qAe (w:World) (p:Nat) (x y a b:Int):Boxed (WT w p x y a b) w.heap.size 29 (ptr p):=(((Boxed.new w 29 (ptr p)).alloc _).alloc _).alloc _
theorem qAd (w:World) (p:Nat) (x y a b:Int):Boxed (WT w p x y a b) (w.heap.size+1+1) 4 (.bool false):=by
 have:=(Boxed.new ((w.alloc (.cells #[ptr p] 29)).alloc (.cells #[O ii x,O ii y,O ii a,O ii b] 49)) 4 (.bool false)).alloc (.cells #[O ii x,O ii y,O ii a,O ii b] 49);simpa using this
theorem qAf (w:World) (p:Nat) (x y a b:Int):Four (WT w p x y a b) (w.heap.size+1+1+1) x y a b:=by
 have:=zA2 (w:=((w.alloc (.cells #[ptr p] 29)).alloc (.cells #[O ii x,O ii y,O ii a,O ii b] 49)).alloc (.cells #[.bool false] 4)) (a:=O ii x) (b:=O ii y) (c:=O ii a) (d:=O ii b) (t:=49) (Below.refl _ _);simpa [Four] using this
theorem zPd (p bm n:Nat) (f:Int->Int->Option Int) (x y a b:Int) (w:World) (hc:w.cell? ⟨p,6,none⟩=some (.map (some bm))) (hw:Who w bm n f) :
 Calls pg 81 #[ptr p,rct x y a b] w fun e w'=>e = .returned (.bool (zDl f x y a b))/\Below w.heap.size w w':=by
 refine (callsIn_wide (n:=10)).1 ?_;refine callsIn_of_wp_marks func81 rfl trivial ?_ rfl;simp only [ntmps81,List.size_toArray,List.length_cons,List.length_nil,Nat.reduceAdd,Nat.reduceSub,Array.replicate_succ,Array.replicate_zero,List.push_toArray,List.append_toArray,List.nil_append,List.cons_append];gi_wp2_with fail;refine ⟨trivial,?_⟩;refine (callsIn_wide.2 (zDu _ _ _ _ _)).mono ?_;rintro e w1 ⟨rfl,rfl⟩;gi_wp2_with fail;have HB0:=zSg w p x y a b;have hsz:=zWi w p x y a b;have P0:=qAe w p x y a b;have R0:=qAd w p x y a b;have F3:=qAf w p x y a b;unfold WT at HB0 hsz P0 R0 F3;obtain ⟨W0,hW0⟩:=ex ((((w.alloc (.cells #[ptr p] 29)).alloc (.cells #[O ii x,O ii y,O ii a,O ii b] 49)).alloc (.cells #[.bool false] 4)).alloc (.cells #[O ii x,O ii y,O ii a,O ii b] 49));rw [hW0] at HB0 hsz P0 R0 F3 ⊢;clear hW0;have hbl:=hw.lt;have hpl:=World.block_lt_of_cell? w _ hc
 refine wpIn_rangeFunc_ownH rfl (by omega) (gf:=86) (lb:=#[ptr (w.heap.size+1+1+1)]) rfl trivial (enters_of func86 (by kernel_rfl) rfl)
  (zCs (10-1) (w.heap.size+1+1+1) (b.toNat*a.toNat+1) x y a b W0 F3 (fun _=>by omega)) zZ8 (zZ9 (by omega)) (Below.refl _ _) (fun _=>rfl)
  (fun pre W=>(∀q∈pre,(f q.1.1 q.1.2).isSome=false)/\Below (w.heap.size+1+1+1+1) W0 W)
  (fun c pre W=>((c = .ret/\∃q∈pre,(f q.1.1 q.1.2).isSome=true)/\Boxed W (w.heap.size+1+1) 4 (.bool true))/\Below w.heap.size w W)
  (OwnFrom.and (ownFrom_pure _ _) (ownFrom_below (by omega) (by omega)))
  (fun c=>OwnFrom.and (OwnFrom.and (ownFrom_pure _ _) (Own.from (boxed_own _ _ _) _)) (ownFrom_below (Nat.le_refl _) (by omega)))
  ⟨fun q h=>by simp at h,Below.refl _ _⟩
  (fun q a' W=>∃Bx,w.heap.size+1+1+1+1<=Bx/\Two W Bx q.1.1 q.1.2/\a'={ tmps:=#[ptr p,rct x y a b,ptr w.heap.size,ptr (w.heap.size+1),ptr (w.heap.size+1+1),ptr Bx,undef,undef,rct x y a b,.func (.func 86) #[] #[ptr (w.heap.size+1+1+1)],cel q.1.1 q.1.2,undef,undef,undef,undef,undef,undef,undef,undef,undef,undef],defers:=[] })
  (fun q a' _ X Y row hs hg hr=>by obtain ⟨Bx,e1,e2,e3⟩:=hs;exact ⟨Bx,e1,e2.own hg (fun r e=>(hr r e).2),e3⟩)
  ?assign ?body ?done ?stop
 case assign =>
  rintro l pre q W K ⟨hp,hB⟩ hK;have hsB:=hB.size;gi_wp2
  exact hK _ _ ((KeepsOthers.alloc _ _).from _) (Below.heap_alloc _ _ _ (by omega)) ⟨hp,hB.alloc (by omega) _⟩ ⟨W.heap.size,by omega,Two.newAt rfl,rfl⟩
 case body =>
  rintro l pre q a' W hl ⟨r,hr⟩ ⟨hp,hB⟩ ⟨Bx,hBx,bX,rfl⟩ hlt;have hsB:=hB.size;have bP:=zAn P0 hB (by omega);have bR:=zAn R0 hB (by omega);have hne:=zAq W;have HBW:Below w.heap.size w W:=HB0.trans (hB.mono (by omega));have hwW:=hw.upto HBW hbl;obtain ⟨d0,d1⟩:=bX.lat;have c0:∀n:Lat W,n.w.cell? ⟨w.heap.size,0,none⟩=some (ptr p):=fun n=>(n.h.cell (p:=⟨w.heap.size,0,none⟩) bP.lt).trans bP.cell;have c6:∀n:Lat W,n.w.cell? ⟨p,6,none⟩=some (.map (some bm)):=fun n=>(n.h.cell (p:=⟨p,6,none⟩) (Nat.lt_of_lt_of_le hpl HBW.size)).trans ((HBW.cell (p:=⟨p,6,none⟩) hpl).trans hc);have hlook:∀n:Lat W,(Instr.lookup 87 (.map (some bm)) (cel q.1.1 q.1.2) true).run pg n.w = .ok (.tuple #[O ii ((f q.1.1 q.1.2).getD 0),.bool (f q.1.1 q.1.2).isSome]) n.w:=fun n=>(hwW.upto n.h hwW.lt).look q.2.1 q.2.2;obtain ⟨z,hz⟩:=ex ((f q.1.1 q.1.2).getD 0);rw [hz] at hlook;cases hs:(f q.1.1 q.1.2).isSome
  ·rw [hs] at hlook;have Hp:=zAc hp;have Hs:=zAc hs;clear hp hs hz;gi_wp2_with fail;refine zBn (by kernel_rfl) (by kernel_rfl) (by kernel_rfl) ?_;repeat (refine wpQuietIn_step (fun _ _ _ _=>trivial) (fun K hK=>?_);go_simp;refine hK _ ?_;clear hK K)
   refine wpQuietIn_nil ?_;rintro _ ⟨n,rfl⟩;gi_wp2_with fail;refine ⟨(zDi n.h).from _,zJg n.h (by omega),⟨fun q' hq'=>?_,hB.trans (n.h.mono (by omega))⟩⟩;rcases List.mem_append.1 hq' with h|h
   ·exact Hp.out q' h
   ·simp at h;subst h;exact Hs.out
  ·rw [hs] at hlook;have Hs:=zAc hs;clear hp hs hz;gi_wp2_with fail;refine zBn (by kernel_rfl) (by kernel_rfl) (by kernel_rfl) ?_;repeat (refine wpQuietIn_step (fun _ _ _ _=>trivial) (fun K hK=>?_);go_simp;refine hK _ ?_;clear hK K)
   refine wpQuietIn_nil ?_;rintro _ ⟨n,rfl⟩;have bRn:=zAn bR n.h bR.lt;have cR:=bRn.cell;have fR:=bRn.frozen;gi_wp2_with fail;exact ⟨((zDi n.h).trans (KeepsOthers.setCell _ _ _)).from _,⟨⟨rfl,q,by simp,Hs.out⟩,bRn.set _⟩,(bt HBW n.h).setCell (p:=⟨w.heap.size+1+1,0,none⟩) (by simp;omega) _⟩
 case done =>
  rintro D xs W hD rfl ⟨hp,hB⟩ hK;have hsW:=hB.size;have HBW:Below w.heap.size w W:=HB0.trans (hB.mono (by omega));have bR:=zAn R0 hB (by omega);have cR:=bR.cell;have fR:=bR.frozen
  have ht:zDl f x y a b=false:=by
   rw [zDl,Bool.eq_false_iff];intro h;obtain ⟨q,h1,h2⟩:=List.any_eq_true.1 h;rw [hp q h1] at h2;cases h2
  have Ht:=zAc ht;clear ht hp;gi_wp2_with fail;have hK3:=(KeepsOthers.setCell _ ⟨w.heap.size+1+1,0,none⟩ (.bool false)).same D _ hK rfl;refine ⟨by simp,.inl ⟨_,_,rfl,run_takeDeferred hK3,?_⟩⟩;have hc5:=cell_kept (bR.set (.bool false)).cell (grownBy_putObj' _ D (.deferred none)) (fun r e=>by cases e;exact ⟨_,hK3,rfl⟩);refine ⟨.bool false,?_,by rw [Ht.out],(HBW.setCell (p:=⟨w.heap.size+1+1,0,none⟩) (by simp;omega) _).trans (belowK_b (w:=w) (Nat.le_refl _) _ D _ _ (by omega) hK3 rfl rfl)⟩;simp [results,Tryz.f81,go_sem,hc5]
 case stop =>
  rintro D c pre W hD hpre ⟨⟨⟨rfl,q,hq,hs⟩,bR⟩,hB⟩ hK;have cR:=bR.cell;have ht:zDl f x y a b=true:=List.any_eq_true.2 ⟨q,hpre.subset hq,hs⟩;have Ht:=zAc ht;clear hs ht;gi_wp2
  refine ⟨by simp,.inl ⟨_,_,rfl,run_takeDeferred hK,?_⟩⟩;have hc5:=cell_kept bR.cell (grownBy_putObj' _ D (.deferred none)) (fun r e=>by cases e;exact ⟨_,hK,rfl⟩);refine ⟨.bool true,?_,by rw [Ht.out],hB.trans (belowK_b (w:=w) (Nat.le_refl _) W D _ _ (by omega) hK rfl rfl)⟩;simp [results,Tryz.f81,go_sem,hc5]
end
end Go.Proofs.YthiafmlgialbnaaGreatDoor
