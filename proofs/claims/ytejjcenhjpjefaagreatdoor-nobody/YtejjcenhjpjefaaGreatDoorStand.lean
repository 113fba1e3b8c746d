import Derived.Test.YtejjcenhjpjefaaGreatDoorCellsSeq
import Derived.Test.YtejjcenhjpjefaaGreatDoorSearch
import Derived.Maps.AppendAt
import Derived.Laws.CopyOwn
import Derived.Deep.RegionLaw
import Derived.Lib.Overlaps
import Derived.Deep.RegionHeld3
import Derived.BigRegionIn
import Derived.RegionIn
set_option linter.all false
set_option maxRecDepth 1000000
set_option maxHeartbeats 64000000
open Go.Proofs.Tryz
open Go.Proofs.Tryz renaming prog->pg
open Array renaming getElem?_eq_some_iff->gE
open Go.Value renaming int->O
open Go.IntKind renaming i64->ii
namespace Go.Proofs.YtejjcenhjpjefaaGreatDoor
open Go.RowKit
section
open Go.Shelf
attribute [local go_sem] Oper.semAt_some
abbrev rct (x y a b:Int):Value:=.agg #[O ii x,O ii y,O ii a,O ii b]
abbrev ptr (p:Nat):Value:=.pointer (some ⟨p,0,none⟩)
theorem zDq (x y a b:Int) (w:World) :
 Calls pg 22 #[rct x y a b] w fun e w'=>e = .returned (.func (.func 54) #[] #[ptr w.heap.size])/\w'=w.alloc (.cells #[O ii x,O ii y,O ii a,O ii b] 65):=by
 go_enter func22,ntmps22;go_wp2_with fail;go_ret;exact ⟨rfl,rfl⟩
theorem zDa {W W':World} (h:Below W.heap.size W W'):KeepsOthers W W':=⟨h.size,fun k o hk _=>(h.block k (gE.1 hk).1).trans hk⟩
theorem zAi {n₀:Nat} {W W':World} {k:Nat} {t:TypeId} {v:Value} (h:Boxed W k t v) (hB:Below n₀ W W') (hk:k<n₀):Boxed W' k t v:=(hB.block k hk).trans h
theorem Two.own {W W':World} {row:Option Nat} {k:Nat} {u v:Int} (h:Two W k u v) (hg:W.grownBy W' row) (hr:∀r,row=some r->∃o:Obj,W.heap[r]? = some o/\o.isCells=false):Two W' k u v:=
 ⟨⟨cell_kept h.1.1 hg hr,cell_kept h.1.2 hg hr⟩,⟨(frozen_kept h.1.1 hg hr).trans h.2.1.1,(frozen_kept h.1.2 hg hr).trans h.2.1.2⟩,Nat.lt_of_lt_of_le h.2.2 hg.size⟩
theorem Who.upto {w w':World} {b n:Nat} {f:Int->Int->Option Int} {N:Nat} (h:Who w b n f) (hB:Below N w w') (hb:b<N):Who w' b n f:=by
 obtain ⟨D,⟨es,clock,h1,h2⟩,h3⟩:=h;exact ⟨D,⟨es,clock,(hB.block b hb).trans h1,h2⟩,h3⟩
def zD1 (f:Int->Int->Option Int) (x y a b:Int):Bool:=(zFg x y a b).any (fun q=>(f q.1.1 q.1.2).isSome)
abbrev WT (w:World) (p:Nat) (x y a b:Int):World:=(((w.alloc (.cells #[ptr p] 27)).alloc (.cells #[O ii x,O ii y,O ii a,O ii b] 65)).alloc (.cells #[.bool false] 4)).alloc (.cells #[O ii x,O ii y,O ii a,O ii b] 65)
theorem zQe (w:World) (p:Nat) (x y a b:Int):Below w.heap.size w (WT w p x y a b):=bt (zBe _ _ _) (zBe _ _ _)
theorem zTd (w:World) (p:Nat) (x y a b:Int):(WT w p x y a b).heap.size=w.heap.size+4:=by simp
theorem zWs (w:World) (p:Nat) (x y a b:Int):Boxed (WT w p x y a b) w.heap.size 27 (ptr p):=(((Boxed.new w 27 (ptr p)).alloc _).alloc _).alloc _
theorem zWr (w:World) (p:Nat) (x y a b:Int):Boxed (WT w p x y a b) (w.heap.size+1+1) 4 (.bool false):=by
 have:=(Boxed.new ((w.alloc (.cells #[ptr p] 27)).alloc (.cells #[O ii x,O ii y,O ii a,O ii b] 65)) 4 (.bool false)).alloc (.cells #[O ii x,O ii y,O ii a,O ii b] 65);simpa using this
theorem zWt (w:World) (p:Nat) (x y a b:Int):Four (WT w p x y a b) (w.heap.size+1+1+1) x y a b:=by
 have:=zBo (w:=((w.alloc (.cells #[ptr p] 27)).alloc (.cells #[O ii x,O ii y,O ii a,O ii b] 65)).alloc (.cells #[.bool false] 4)) (a:=O ii x) (b:=O ii y) (c:=O ii a) (d:=O ii b) (t:=65) (Below.refl _ _);simpa [Four] using this
theorem zNk (p bm n:Nat) (f:Int->Int->Option Int) (x y a b:Int) (w:World) (hc:w.cell? ⟨p,6,none⟩=some (.map (some bm))) (hw:Who w bm n f) :
 Calls pg 71 #[ptr p,rct x y a b] w fun e w'=>e = .returned (.bool (zD1 f x y a b))/\Below w.heap.size w w':=by
 refine (callsIn_wide (n:=10)).1 ?_;refine callsIn_of_wp_marks func71 rfl trivial ?_ rfl;simp only [ntmps71,List.size_toArray,List.length_cons,List.length_nil,Nat.reduceAdd,Nat.reduceSub,Array.replicate_succ,Array.replicate_zero,List.push_toArray,List.append_toArray,List.nil_append,List.cons_append];gi_wp2_with fail;refine ⟨trivial,?_⟩;refine (callsIn_wide.2 (zDq _ _ _ _ _)).mono ?_;rintro e w1 ⟨rfl,rfl⟩;gi_wp2_with fail;have HB0:=zQe w p x y a b;have hsz:=zTd w p x y a b;have P0:=zWs w p x y a b;have R0:=zWr w p x y a b;have F3:=zWt w p x y a b;unfold WT at HB0 hsz P0 R0 F3;obtain ⟨W0,hW0⟩:=ex ((((w.alloc (.cells #[ptr p] 27)).alloc (.cells #[O ii x,O ii y,O ii a,O ii b] 65)).alloc (.cells #[.bool false] 4)).alloc (.cells #[O ii x,O ii y,O ii a,O ii b] 65));rw [hW0] at HB0 hsz P0 R0 F3 ⊢;clear hW0;have hbl:=hw.lt;have hpl:=World.block_lt_of_cell? w _ hc
 refine wpIn_rangeFunc_ownH rfl (by omega) (gf:=54) (lb:=#[ptr (w.heap.size+1+1+1)]) rfl trivial (enters_of func54 (by kernel_rfl) rfl)
  (zCm (10-1) (w.heap.size+1+1+1) (b.toNat*a.toNat+1) x y a b W0 F3 (fun _=>by omega)) zWl (zWm (by omega)) (Below.refl _ _) (fun _=>rfl)
  (fun pre W=>(∀q∈pre,(f q.1.1 q.1.2).isSome=false)/\Below (w.heap.size+1+1+1+1) W0 W)
  (fun c pre W=>((c = .ret/\∃q∈pre,(f q.1.1 q.1.2).isSome=true)/\Boxed W (w.heap.size+1+1) 4 (.bool true))/\Below w.heap.size w W)
  (OwnFrom.and (ownFrom_pure _ _) (ownFrom_below (by omega) (by omega)))
  (fun c=>OwnFrom.and (OwnFrom.and (ownFrom_pure _ _) (Own.from (boxed_own _ _ _) _)) (ownFrom_below (Nat.le_refl _) (by omega)))
  ⟨fun q h=>by simp at h,Below.refl _ _⟩
  (fun q a' W=>∃Bx,w.heap.size+1+1+1+1<=Bx/\Two W Bx q.1.1 q.1.2/\a'={ tmps:=#[ptr p,rct x y a b,ptr w.heap.size,ptr (w.heap.size+1),ptr (w.heap.size+1+1),ptr Bx,undef,undef,rct x y a b,.func (.func 54) #[] #[ptr (w.heap.size+1+1+1)],cel q.1.1 q.1.2,undef,undef,undef,undef,undef,undef,undef,undef,undef,undef],defers:=[] })
  (fun q a' _ X Y row hs hg hr=>by obtain ⟨Bx,e1,e2,e3⟩:=hs;exact ⟨Bx,e1,e2.own hg (fun r e=>(hr r e).2),e3⟩)
  ?assign ?body ?done ?stop
 case assign =>
  rintro l pre q W K ⟨hp,hB⟩ hK;have hsB:=hB.size;gi_wp2
  exact hK _ _ ((KeepsOthers.alloc _ _).from _) (Below.heap_alloc _ _ _ (by omega)) ⟨hp,hB.alloc (by omega) _⟩ ⟨W.heap.size,by omega,Two.newAt rfl,rfl⟩
 case body =>
  rintro l pre q a' W hl ⟨r,hr⟩ ⟨hp,hB⟩ ⟨Bx,hBx,bX,rfl⟩ hlt;have hsB:=hB.size;have bP:=zAi P0 hB (by omega);have bR:=zAi R0 hB (by omega);have hne:=zA8 W;have HBW:Below w.heap.size w W:=HB0.trans (hB.mono (by omega));have hwW:=hw.upto HBW hbl;obtain ⟨d0,d1⟩:=bX.lat;have c0:∀n:Lat W,n.w.cell? ⟨w.heap.size,0,none⟩=some (ptr p):=fun n=>(n.h.cell (p:=⟨w.heap.size,0,none⟩) bP.lt).trans bP.cell;have c6:∀n:Lat W,n.w.cell? ⟨p,6,none⟩=some (.map (some bm)):=fun n=>(n.h.cell (p:=⟨p,6,none⟩) (Nat.lt_of_lt_of_le hpl HBW.size)).trans ((HBW.cell (p:=⟨p,6,none⟩) hpl).trans hc);have hlook:∀n:Lat W,(Instr.lookup 50 (.map (some bm)) (cel q.1.1 q.1.2) true).run pg n.w = .ok (.tuple #[O ii ((f q.1.1 q.1.2).getD 0),.bool (f q.1.1 q.1.2).isSome]) n.w:=fun n=>(hwW.upto n.h hwW.lt).look q.2.1 q.2.2;obtain ⟨z,hz⟩:=ex ((f q.1.1 q.1.2).getD 0);rw [hz] at hlook;cases hs:(f q.1.1 q.1.2).isSome
  ·rw [hs] at hlook;have Hp:=zAb hp;have Hs:=zAb hs;clear hp hs hz;gi_wp2_with fail;refine zBw (by kernel_rfl) (by kernel_rfl) (by kernel_rfl) ?_;repeat (refine wpQuietIn_step (fun _ _ _ _=>trivial) (fun K hK=>?_);go_simp;refine hK _ ?_;clear hK K)
   refine wpQuietIn_nil ?_;rintro _ ⟨n,rfl⟩;gi_wp2_with fail;refine ⟨(zDa n.h).from _,zIb n.h (by omega),⟨fun q' hq'=>?_,hB.trans (n.h.mono (by omega))⟩⟩;rcases List.mem_append.1 hq' with h|h
   ·exact Hp.out q' h
   ·simp at h;subst h;exact Hs.out
  ·rw [hs] at hlook;have Hs:=zAb hs;clear hp hs hz;gi_wp2_with fail;refine zBw (by kernel_rfl) (by kernel_rfl) (by kernel_rfl) ?_;repeat (refine wpQuietIn_step (fun _ _ _ _=>trivial) (fun K hK=>?_);go_simp;refine hK _ ?_;clear hK K)
   refine wpQuietIn_nil ?_;rintro _ ⟨n,rfl⟩;have bRn:=zAi bR n.h bR.lt;have cR:=bRn.cell;have fR:=bRn.frozen;gi_wp2_with fail;exact ⟨((zDa n.h).trans (KeepsOthers.setCell _ _ _)).from _,⟨⟨rfl,q,by simp,Hs.out⟩,bRn.set _⟩,(bt HBW n.h).setCell (p:=⟨w.heap.size+1+1,0,none⟩) (by simp;omega) _⟩
 case done =>
  rintro D xs W hD rfl ⟨hp,hB⟩ hK;have hsW:=hB.size;have HBW:Below w.heap.size w W:=HB0.trans (hB.mono (by omega));have bR:=zAi R0 hB (by omega);have cR:=bR.cell;have fR:=bR.frozen
  have ht:zD1 f x y a b=false:=by
   rw [zD1,Bool.eq_false_iff];intro h;obtain ⟨q,h1,h2⟩:=List.any_eq_true.1 h;rw [hp q h1] at h2;cases h2
  have Ht:=zAb ht;clear ht hp;gi_wp2_with fail;have hK3:=(KeepsOthers.setCell _ ⟨w.heap.size+1+1,0,none⟩ (.bool false)).same D _ hK rfl;refine ⟨by simp,.inl ⟨_,_,rfl,run_takeDeferred hK3,?_⟩⟩;have hc5:=cell_kept (bR.set (.bool false)).cell (grownBy_putObj' _ D (.deferred none)) (fun r e=>by cases e;exact ⟨_,hK3,rfl⟩);refine ⟨.bool false,?_,by rw [Ht.out],(HBW.setCell (p:=⟨w.heap.size+1+1,0,none⟩) (by simp;omega) _).trans (belowK_b (w:=w) (Nat.le_refl _) _ D _ _ (by omega) hK3 rfl rfl)⟩;simp [results,Tryz.f71,go_sem,hc5]
 case stop =>
  rintro D c pre W hD hpre ⟨⟨⟨rfl,q,hq,hs⟩,bR⟩,hB⟩ hK;have cR:=bR.cell;have ht:zD1 f x y a b=true:=List.any_eq_true.2 ⟨q,hpre.subset hq,hs⟩;have Ht:=zAb ht;clear hs ht;gi_wp2
  refine ⟨by simp,.inl ⟨_,_,rfl,run_takeDeferred hK,?_⟩⟩;have hc5:=cell_kept bR.cell (grownBy_putObj' _ D (.deferred none)) (fun r e=>by cases e;exact ⟨_,hK,rfl⟩);refine ⟨.bool true,?_,by rw [Ht.out],hB.trans (belowK_b (w:=w) (Nat.le_refl _) W D _ _ (by omega) hK rfl rfl)⟩;simp [results,Tryz.f71,go_sem,hc5]
end
def zCn (l:List Bd):Prop:=l.Pairwise (fun s t=>s.id<t.id)
def pos (l:List Bd) (i:Int):Nat:=(l.takeWhile (fun t=>decide (t.id<i))).length
def zCk (l:List Bd) (i:Int):Bool:=l.any (fun t=>decide (t.id=i))
theorem zLk:∀(l:List Bd) (i:Int),pos l i<=l.length
 | [],_=>Nat.le_refl _
 |t::r,i=>by
  unfold pos;rw [List.takeWhile_cons]
  split
  ·have:=zLk r i;unfold pos at this;simpa using this
  ·simp
theorem zH7:∀{l:List Bd},zCn l->∀(i:Int) (k:Nat) (t:Bd),l[k]? = some t->(t.id<i↔k<pos l i)
 | [],_,_,_,_,h=>by simp at h
 |s::r,hs,i,0,t,h=>by
  simp at h;subst h;unfold pos;rw [List.takeWhile_cons]
  split<;>simp_all
 |s::r,hs,i,k+1,t,h=>by
  simp at h;obtain ⟨h1,h2⟩:=List.pairwise_cons.1 hs;have hm:t∈r:=List.mem_of_getElem? h;have ih:=zH7 h2 i k t h;have:=h1 t hm;unfold pos at ih ⊢;rw [List.takeWhile_cons]
  split
  ·rename_i hd;rw [ih];simp
  ·rename_i hd;simp at hd;simp;omega
theorem zJe {l:List Bd} (hs:zCn l) (i:Int):zCk l i=true↔∃t,l[pos l i]? = some t/\t.id=i:=by
 unfold zCk;rw [List.any_eq_true];constructor
 ·rintro ⟨t,hm,ht⟩;simp at ht;obtain ⟨k,hk⟩:=List.getElem?_of_mem hm;have h1:=zH7 hs i k t hk;refine ⟨t,?_,ht⟩;have hle:pos l i<=k:=by omega
  by_cases he:pos l i=k
  ·rw [he];exact hk
  ·have hlt:pos l i<l.length:=by have:=(List.getElem?_eq_some_iff.1 hk).1;omega
   have h2:=zH7 hs i (pos l i) l[pos l i] (List.getElem?_eq_getElem hlt)
   have h3:l[pos l i].id<t.id:=by
    have:=List.pairwise_iff_getElem.1 hs (pos l i) k hlt (List.getElem?_eq_some_iff.1 hk).1 (by omega)
    rwa [(List.getElem?_eq_some_iff.1 hk).2] at this
   omega
 ·rintro ⟨t,h1,h2⟩;exact ⟨t,List.mem_of_getElem? h1,by simp [h2]⟩
theorem zRq {l:List Bd} (hs:zCn l) {i:Int} {t:Bd} (h:l[pos l i]? = some t):zCk l i=decide (t.id=i):=by
 rw [Bool.eq_iff_iff,zJe hs,decide_eq_true_iff];exact ⟨fun ⟨u,h1,h2⟩=>by rw [h] at h1;cases h1;exact h2,fun e=>⟨t,h,e⟩⟩
theorem zPl {l:List Bd} (hs:zCn l) {i:Int} (h:pos l i=l.length):zCk l i=false:=by
 rw [Bool.eq_false_iff];intro hf;obtain ⟨t,h1,_⟩:=(zJe hs i).1 hf;rw [h] at h1;simp at h1
theorem zSj {a b:Int} {c d:Bool} (h1:a=b) (h2:c=d):Ending.returned (.tuple #[O ii a,.bool c]) = .returned (.tuple #[O ii b,.bool d]):=by rw [h1,h2]
theorem zPw {x y:Int}:zD0 x y<0↔x<y:=by unfold zD0;split<;>(try split)<;>omega
theorem zR1 {x y:Int}:zD0 x y=0↔x=y:=by unfold zD0;split<;>(try split)<;>omega
theorem zMl (l:List Bd) (v:Value) (i:Int) (w:World) (hv:Bds w v l) (hs:zCn l) (hl:l.length<=256) :
 Calls pg 102 #[v,O ii i,.func (.func 103) #[] #[]] w fun e w'=>e = .returned (.tuple #[O ii (pos l i),.bool (zCk l i)])/\Below w.heap.size w w':=by
 obtain ⟨a,cap,rfl,hcap,hmax,hat⟩:=hv.form;have hlen:(0:Int)<=(l.length:Nat)/\((l.length:Nat):Int)<=256:=by omega
 go_enter func102,ntmps102;go_wp2_with fail;go_loopw [9,10,11] (fun p q r wr=>∃m n:Nat,m<=pos l i/\pos l i<=n/\n<=l.length/\p = O ii m/\q = O ii n/\Below w.heap.size w wr) (fun p q r _=>(intOf q).toNat-(intOf p).toNat)
 case atStart =>
  exact ⟨0,l.length,Nat.zero_le _,zLk l i,Nat.le_refl _,rfl,rfl,Below.refl _ _⟩
 case round =>
  obtain ⟨m,n,hm,hn,hn2,rfl,rfl,hb⟩:=hrel
  by_cases hlt:m<n
  ·obtain ⟨h,hh,hmh,hhn⟩:∃h:Nat,((m:Int)+n)/2=(h:Int)/\m<=h/\h<n:=⟨(m+n)/2,by omega,by omega,by omega⟩
   have hk:l[h]? = some l[h]:=List.getElem?_eq_getElem (by omega);obtain ⟨t,ht⟩:∃t,l[h]? = some t:=⟨_,hk⟩
   have hp:=zH7 hs i h t ht;obtain ⟨g,rfl,hg,c0,c1,c2,c3,c4⟩:=(hat h t ht).kept hb;have hsz:(h:Int)<(l.length:Nat):=by omega
   have Hp:=zAb hp;have Hs:=zAb hs;clear hk hp hs ht hat
   by_cases hc:t.id<i
   ·have hc':zD0 t.id i<0:=zPw.2 hc;go_wp2_with fail;refine (zKv t i _).mono ?_;rintro e w1 ⟨rfl,hb1⟩;have hb2:=bt hb hb1;go_wp2_with fail;go_roundw
    case rel=>exact ⟨h+1,n,(Hp.out.1 hc),hn,hn2,by go_num,rfl,hb2⟩
    case measure=>simp [intOf];omega
   ·have hc':¬zD0 t.id i<0:=fun e=>hc (zPw.1 e);go_wp2_with fail;refine (zKv t i _).mono ?_;rintro e w1 ⟨rfl,hb1⟩;have hb2:=bt hb hb1;go_wp2_with fail;go_roundw
    case rel=>exact ⟨m,h,hm,by have:=Hp.out;omega,by omega,rfl,rfl,hb2⟩
    case measure=>simp [intOf];omega
  ·have hmn:m=pos l i:=by omega
   have hnn:n=pos l i:=by omega
   subst hmn;subst hnn;generalize hpl:pos l i=P at *;have Hpl:=zAb hpl
   by_cases hP:P<l.length
   ·obtain ⟨t,ht⟩:∃t,l[P]? = some t:=⟨_,List.getElem?_eq_getElem hP⟩
    have hf:zCk l i=decide (t.id=i):=zRq hs (by rw [hpl];exact ht);have Hf:=zAb hf;obtain ⟨g,rfl,hg,c0,c1,c2,c3,c4⟩:=(hat P t ht).kept hb;have hsz:(P:Int)<(l.length:Nat):=by omega
    clear hpl hf hat ht hs;go_wp2_with fail;refine (zKv t i _).mono ?_;rintro e w1 ⟨rfl,hb1⟩;have hb2:=bt hb hb1;go_wp2_with fail;go_ret2
    exact ⟨zSj (by rw [Hpl.out]) (by rw [Hf.out,Bool.eq_iff_iff,decide_eq_true_iff];simp [zR1]),hb2⟩
   ·have hf:zCk l i=false:=zPl hs (by rw [hpl];omega);have Hf:=zAb hf;have hsz:¬(P:Int)<(l.length:Nat):=by omega
    clear hpl hf hat hs;go_wp2_with fail;go_ret2
    exact ⟨zSj (by rw [Hpl.out]) (by rw [Hf.out]),hb⟩
theorem zJb (l:List Bd) (v:Value) (i:Int) (p:Nat) (w:World) (hc:w.cell? ⟨p,5,none⟩=some v) (hv:Bds w v l) (hs:zCn l) (hl:l.length<=256) :
 Calls pg 70 #[.pointer (some ⟨p,0,none⟩),O ii i] w fun e w'=>e = .returned (.tuple #[O ii (pos l i),.bool (zCk l i)])/\Below w.heap.size w w':=by
 obtain ⟨a,cap,rfl,hcap,hmax,hat⟩:=hv.form;go_enter func70,ntmps70;go_wp2_with (go_at_call 102;refine (zMl l _ i _ hv hs hl).mono ?_;rintro e w1 ⟨rfl,hb1⟩);go_ret2
 exact ⟨rfl,hb1⟩
def z55:Value:=.agg #[O ii 0,O ii 0,O ii 0,O ii 0,O ii 0]
theorem zO9:(pg.info? 95).map (fun i=>(i.zero,i.size,i.bytes))=some (some z55,5,40):=by kernel_rfl
theorem zQr (w:World):(Go.sizeOf 95).run pg w = .ok 5 w:=by kernel_rfl
theorem zI4 {t:Bd}:∀u∈t.cs,u.oneCell'=true:=by
 intro u hu;simp only [Bd.cs,List.mem_cons,List.not_mem_nil,or_false] at hu;rcases hu with rfl|rfl|rfl|rfl|rfl<;>rfl
theorem zOa {l:List Bd}:∀u∈l.flatMap Bd.cs,u.oneCell'=true:=by
 intro u hu;obtain ⟨t,_,h⟩:=List.mem_flatMap.1 hu;exact zI4 u h
theorem zEf (w:World) (ty:TypeId) (g o dLen dCap:Nat) (a:Addr) (zSh sCap:Nat) (cur:List Value) (t:TypeId) (cs:List Value)
 (hg:w.heap[g]? = some (.cells cur.toArray t (0,0))) (hn:cs.length=Nat.min zSh dLen*5)
 (hsrc:∀j v,cs[j]? = some v->w.cell? (a.add j)=some v) (hfit:o+cs.length<=cur.length) (h1:∀v∈cs,v.oneCell'=true) :
 (Builtin.copy_ #[58,58] ty #[.slice (some ⟨g,o,none⟩) dLen dCap,.slice (some a) zSh sCap]).run pg w =
  .ok (goInt (Nat.min zSh dLen)) (w.setRow g (splice cur o cs).toArray):=by
 have hl:=run_loadCells_list (P:=pg) w a cs hsrc;have hst:=run_storeCells_at pg g o t cs 0 cur.toArray w hg (by simpa using hfit) h1;obtain ⟨i,hi,_,h5,_⟩:=info_parts zO9;simp [Builtin.copy_,run_underlying Tryz.underlying58,Builtin.lenOf,Builtin.firstCells,sizeOf,typeInfo,hi,h5,<-hn,hl,hst,splice]
theorem zMf {P:Program} {w:World} {o:Oper} {a:Act} {K:Act->World->Prop} {Q:Exit->Act->World->Prop} (d s:Operand) (t t':TypeId)
 (ho:o.op = .call { callee:=.builtin .copy,args:=#[d,s],argTypes:=#[t,t'] }) {v u v':Value} {w':World} (hd:a.eval d=v) (hs:a.eval s=u)
 (hr:(Builtin.copy_ #[t,t'] o.type #[v,u]).run P w = .ok v' w') (h:K (a.put o.dst v') w'):o.wp P a w K Q:=by
 unfold Oper.wp execOp;simp only [ho,resolve,invoke,builtin,Sem.run_bind,Sem.run_pure,Result.andThen_ok,List.map_toArray,List.map_cons,List.map_nil,hd,hs,hr];exact h
theorem zE8 {P:Program} {ops:Array Oper} {o:Oper} {a:Act} {w:World} {K:Act->World->Prop} {Q:Exit->Act->World->Prop} {E:Prop} (hgd:o.guard=none) (d s:Operand) (t t':TypeId)
 (ho:o.op = .call { callee:=.builtin .copy,args:=#[d,s],argTypes:=#[t,t'] }) {v u v':Value} {w':World} (hd:a.eval d=v) (hs:a.eval s=u)
 (hr:(Builtin.copy_ #[t,t'] o.type #[v,u]).run P w = .ok v' w') (hK:K (a.put o.dst v') w') :
 if Region.wanted o (yielded ops a.tmps)=true then Oper.wp P o a w K Q else E:=by
 have hw:Region.wanted o (yielded ops a.tmps)=true:=by simp [Region.wanted,hgd]
 rw [if_pos hw];exact zMf d s t t' ho hd hs hr hK
theorem zFh {P:Program} {w:World} {ops:Array Oper} {rest:List Oper} {o:Oper} {a:Act} {Q:Exit->Act->World->Prop} (hgd:o.guard=none) (d s:Operand) (t t':TypeId)
 (ho:o.op = .call { callee:=.builtin .append,args:=#[d,s],argTypes:=#[t,t'] }) {v u v':Value} {w':World} (hd:a.eval d=v) (hs:a.eval s=u)
 (hr:(Builtin.append_ #[t,t'] o.type #[v,u]).run P w = .ok v' w') (h:wpList P ops Q rest (a.put o.dst v') w'):wpList P ops Q (o::rest) a w:=by
 refine wpList_plain hgd fun _ hK=>?_;unfold Oper.wp execOp;simp only [ho,resolve,invoke,builtin,Sem.run_bind,Sem.run_pure,Result.andThen_ok,List.map_toArray,List.map_cons,List.map_nil,hd,hs,hr];exact hK _ _ h
theorem zFj (w:World) (ty:TypeId) (g i c k:Nat) (olds:List Value) (ho:olds.length=i*5) (hold:∀j v,olds[j]? = some v->w.cell? ((⟨g,0,none⟩:Addr).add j)=some v) (hc:c<i+k) (hk:0<k) (hs:i+k<=1000) :
 ∃cap:Nat,i+k<=cap/\cap<=maxLen/\(Builtin.append_ #[58,3] ty #[.slice (some ⟨g,0,none⟩) i c,O ii k]).run pg w =
  .ok (.slice (some ⟨w.heap.size,0,none⟩) (i+k) cap) (w.drew.alloc (.cells (olds.toArray++(Builtin.zeroCells z55.cells k++Builtin.zeroCells z55.cells (cap-(i+k)))) 95)):=by
 obtain ⟨f,hf,hz,h5,h40⟩:=info_parts zO9;refine ⟨grownCap w (i+k) c 95,grownCap_ge _ _ _ _,grownCap_le_maxLen _ _ _ _ (by unfold maxLen;omega),?_⟩;have hl:=run_firstCells_some (P:=pg) w.drew 5 i ⟨g,0,none⟩ i c olds ho (fun j v h=>hold j v h);have hn:¬(i+k<=c):=by omega
 have hfit:=growslice_fits (bytes:=40) (show c<i+k by omega) (by omega);have h48:¬(281474976710656<Builtin.nextslicecap (i+k) c*40):=by omega
 have hw:IntKind.i64.wrap (k:Int)=k:=by rw [IntKind.wrap_i64];omega
 have hneg:¬((k:Int)<0):=by omega
 have hbig:¬((281474976710656:Int)<(k:Int)*40):=by omega
 have h63:¬((9223372036854775807:Int)<(i:Int)+(k:Int)):=by omega
 have hk5:¬(k=0):=by omega
 have hmx:max (k:Int) 0=k:=by omega
 simp [Builtin.append_,run_underlying Tryz.underlying58,run_underlying Tryz.underlying3,sizeOf,typeInfo,zeroValue,hf,hz,h5,h40,asInt,asIntOf,hw,hneg,hbig,hn,h63,h48,hmx,Question.forced,hl,newRow,grownCap];omega
theorem zK4 (k:Nat):(Builtin.zeroCells z55.cells k).toList.length=k*5:=by rw [Array.length_toList,size_zeroCells];rfl
theorem zLf {w:World} {e:TypeId} {size:Nat} {v:Value} {n:Nat} {xs:List Value} (h:w.ownsRow 0 e size v (n+1) xs):∃g cap,v = .slice (some ⟨g,0,none⟩) (n+1) cap:=by
 rcases h.2 with ⟨_,h0⟩|⟨g,cap,cur,e,_⟩
 ·omega
 ·exact ⟨g,cap,e⟩
def zDz (w:World) (v:Value) (l':List Bd) (e:Ending) (w':World):Prop:=
 ∃g cap,e = .returned (.slice (some ⟨g,0,none⟩) l'.length cap)/\Bds w' (.slice (some ⟨g,0,none⟩) l'.length cap) l'/\w.grownBy w' v.ownBlock/\(v.ownBlock=some g\/w.heap.size<=g)
theorem zIk {w:World} {vb:Nat} {t:Bd} (h:w.heap[vb]? = some (.cells t.cs.toArray 95 (0,0))):∀j u,t.cs[j]? = some u->w.cell? ((⟨vb,0,none⟩:Addr).add j)=some u:=by
 intro j u hu;rw [Addr.add_lit,Nat.zero_add,cell_of_row w vb j _ _ _ h];simpa using hu
theorem zM4 (l:List Bd) (v:Value) (t:Bd) (vb:Nat) (w:World) (hv:Bds w v l) (hl:l.length<256) (hvb:w.heap[vb]? = some (.cells t.cs.toArray 95 (0,0))) :
 Calls pg 72 #[v,O ii (l.length:Nat),.slice (some ⟨vb,0,none⟩) 1 1] w (zDz w v (l++[t])):=by
 obtain ⟨f,hf,hz,h5,h40⟩:=info_parts zO9;have hnews:=zIk hvb;have H:=zAb hvb;have HV:=zAb hv;have hlen:(0:Int)<=(l.length:Nat)/\((l.length:Nat):Int)<256:=by omega
 obtain ⟨a,cap,rfl,hcap,hmax,-⟩:=hv.form;have hmax':cap<=9223372036854775807:=hmax;clear hv hvb;have hm1:l.length+1<=maxLen:=by unfold maxLen;omega
 have hm2:(l.length+1)*40<=140737488355328:=by omega
 by_cases hcc:cap=l.length
 ·subst hcc;go_enter func72,ntmps72;go_wp2_with (at_builtin;refine wpList_append_own_at _ rfl _ _ 58 rfl 0 95 f z55 5 40 Tryz.underlying58 hf hz h5 h40 rfl (by decide) (.slice a l.length l.length) l.length _ rfl HV.out ⟨vb,0,none⟩ 1 1 t.cs rfl rfl hnews zI4 hm1 hm2 (Nat.zero_le _) ?_;intro v' w1 hown' hgrow hnil hloc;obtain ⟨g',cap',rfl⟩:=zLf hown');go_ret;refine ⟨g',cap',by simp,?_,hgrow,?_⟩
  ·simpa [Bds] using hown'
  ·rcases hloc with h|h
   ·exact .inl (by rw [<-h];rfl)
   ·simp only [Value.ownBlock,Option.some.injEq] at h;exact .inr (by omega)
 ·have hcc':¬cap<=l.length:=by omega
  go_enter func72,ntmps72;go_wp2_with (at_builtin;refine wpList_append_own_at _ rfl _ _ 58 rfl 0 95 f z55 5 40 Tryz.underlying58 hf hz h5 h40 rfl (by decide) (.slice a l.length cap) l.length _ rfl HV.out ⟨vb,0,none⟩ 1 1 t.cs rfl rfl hnews zI4 hm1 hm2 (Nat.zero_le _) ?_;intro v' w1 hown' hgrow hnil hloc;obtain ⟨g',cap',rfl⟩:=zLf hown');go_ret;refine ⟨g',cap',by simp,?_,hgrow,?_⟩
  ·simpa [Bds] using hown'
  ·rcases hloc with h|h
   ·exact .inl (by rw [<-h];rfl)
   ·simp only [Value.ownBlock,Option.some.injEq] at h;exact .inr (by omega)
theorem zXj (w:World) (vb g n c n' c' o:Nat) (t:Bd) (cur:Array Value) (hne:vb≠g) (hvb:w.heap[vb]? = some (.cells t.cs.toArray 95 (0,0))) (hg:w.heap[g]? = some (.cells cur 95 (0,0))) (hc:cur.size≠0) :
 (callFunc 104 #[.slice (some ⟨vb,0,none⟩) n c,.slice (some ⟨g,o,none⟩) n' c']).run pg w = .ok (.value (.bool false)) w:=by
 rw [run_callFunc_extern func104 (by kernel_rfl) (by kernel_rfl) (by kernel_rfl) (e:=Extern.SlicesOverlaps.overlaps #[58,58] #[4]) (by kernel_rfl),
  Lib.run_overlaps_apart w 58 4 95 Tryz.underlying58 5 zQr ⟨vb,0,none⟩ ⟨g,o,none⟩ n c n' c' hne 95 95 5 cur.size (by simp [World.shape?,hvb,Bd.cs]) (by simp [World.shape?,hg]) hc (by simp [World.frozen?,hvb]) (by simp [World.frozen?,hvb])]
 rfl
theorem zLo {a b:Nat} (h:a<=b):Nat.min a b=a:=Nat.min_eq_left h
theorem zSr {a b:Nat} (h:b<=a):Nat.min a b=b:=Nat.min_eq_right h
theorem zVu (l:List Bd) (i:Nat):(l.take i).flatMap Bd.cs=(l.flatMap Bd.cs).take (i*5):=by
 induction i generalizing l with
 |zero=>simp
 |succ i ih =>
  cases l with
  |nil=>simp
  |cons t r =>
   rw [List.take_succ_cons,List.flatMap_cons,List.flatMap_cons,ih r,List.take_append];have:t.cs.length=5:=rfl;rw [List.take_of_length_le (l:=t.cs) (by omega),this,show (i+1)*5-5=i*5 by omega]
theorem zPt (l:List Bd) (i:Nat):(l.drop i).flatMap Bd.cs=(l.flatMap Bd.cs).drop (i*5):=by
 induction i generalizing l with
 |zero=>simp
 |succ i ih =>
  cases l with
  |nil=>simp
  |cons t r =>
   rw [List.drop_succ_cons,List.flatMap_cons,ih r,List.drop_append];have:t.cs.length=5:=rfl;rw [List.drop_of_length_le (l:=t.cs) (by omega),this,show (i+1)*5-5=i*5 by omega,List.nil_append]
theorem zMg {α:Type} (X A C T:List α) (k m:Nat) (hA:A.length=k) (hT:T.length=m) (hX:X.take (k+C.length)=A++C) (hs:k+m+C.length<=X.length) :
 (splice (splice X (k+m) C) k T).take (k+m+C.length)=A++(T++C):=by
 have e0:X.take k=A:=by
  have:=congrArg (List.take k) hX;rw [List.take_take,Nat.min_eq_left (by omega),List.take_append_of_le_length (by omega),List.take_of_length_le (l:=A) (by omega)] at this;exact this
 have hk:k<=X.length:=by omega
 have e1:(splice X (k+m) C).take k=A:=by
  unfold splice;rw [List.take_append_of_le_length (by simp;omega),List.take_take,Nat.min_eq_left (by omega),e0]
 have e2:(splice X (k+m) C).drop (k+m)=C++X.drop (k+m+C.length):=by
  unfold splice;have hl:(X.take (k+m)).length=k+m:=by simp;omega
  rw [List.drop_append_of_le_length (by omega),List.drop_of_length_le (by omega),List.nil_append]
 rw [splice,e1,hT,e2];rw [<-List.append_assoc,<-List.append_assoc,List.take_append_of_le_length (by simp;omega),List.take_of_length_le (by simp;omega),List.append_assoc]
theorem zKl (l:List Bd) (g cap i:Nat) (t:Bd) (vb:Nat) (w:World) (hv:Bds w (.slice (some ⟨g,0,none⟩) l.length cap) l) (hl:l.length<256) (hi:i<l.length) (hvb:w.heap[vb]? = some (.cells t.cs.toArray 95 (0,0))) (hne:vb≠g) (hroom:l.length+1<=cap) :
 Calls pg 72 #[.slice (some ⟨g,0,none⟩) l.length cap,O ii i,.slice (some ⟨vb,0,none⟩) 1 1] w (zDz w (.slice (some ⟨g,0,none⟩) l.length cap) (l.take i++t::l.drop i)):=by
 obtain ⟨X,hX,hcap,hXl,hXt⟩:∃X:List Value,w.heap[g]? = some (.cells X.toArray 95 (0,0))/\cap<=maxLen/\X.length=cap*5/\X.take (l.length*5)=l.flatMap Bd.cs:=by
  rcases hv.2 with ⟨e,_⟩|⟨g',cap',cur,e,hb,hg,hn,hm,hs,ht⟩
  ·cases e
  ·cases e;exact ⟨cur.toList,by simpa using hg,hm,by simpa using hs,ht⟩
 have hmax':cap<=9223372036854775807:=hcap;obtain ⟨n,hn⟩:∃n,n=l.length:=⟨_,rfl⟩
 have hov:=fun c n' c' o=>zXj w vb g 1 c n' c' o t X.toArray hne hvb hX (by rw [List.size_toArray];omega);have h1:¬((i:Int)=(l.length:Nat)):=by omega
 have h2:¬((cap:Int)<(l.length:Nat)+1):=by omega
 have h3:¬cap=i+1:=by omega
 have h4:¬cap=i:=by omega
 have h5:(i:Int)<=(l.length:Nat):=by omega
 have hw1:IntKind.i64.wrap ((i:Int)+1)=(i:Int)+1:=by rw [IntKind.wrap_i64];omega
 have hb1:(0:Int)<=(i:Int)+1:=by omega
 have htn:((i:Int)+1).toNat=i+1:=by omega
 have hb3:(i:Int)<=(l.length:Nat)+1:=by omega
 have hb6:i<=l.length:=by omega
 have hlen:=cs_len (l.drop i);rw [List.length_drop] at hlen
 have hCc:∀j u,((l.drop i).flatMap Bd.cs)[j]? = some u->w.cell? ⟨g,i*5+j,none⟩=some u:=fun j u hu=>by
  rw [zPt,List.getElem?_drop] at hu;have:=hv.cells (g:=g) rfl (i*5+j) u hu;simpa [Addr.add_lit] using this
 obtain ⟨C,hC⟩:∃C,C=(l.drop i).flatMap Bd.cs:=⟨_,rfl⟩
 rw [<-hC] at hlen hCc;have hC1:∀u∈C,u.oneCell'=true:=by rw [hC];exact zOa
 obtain ⟨W1,hW1⟩:∃W1,W1=w.drew.setRow g (splice X ((i+1)*5) C).toArray:=⟨_,rfl⟩
 have hcp1:∀ty o1 d1 c1 o2 d2 c2,o1=(i+1)*5->d1=l.length-i->o2=i*5->d2=l.length+1-i->(Builtin.copy_ #[58,58] ty #[.slice (some ⟨g,o1,none⟩) d1 c1,.slice (some ⟨g,o2,none⟩) d2 c2]).run pg w.drew = .ok (goInt (l.length-i:Nat)) W1:=by
  rintro ty _ _ c1 _ _ c2 rfl rfl rfl rfl;have:=zEf w.drew ty g ((i+1)*5) (l.length-i) c1 ⟨g,i*5,none⟩ (l.length+1-i) c2 X 95 C hX (by rw [hlen,zSr (by omega)]) (fun j u hu=>by rw [Addr.add_lit];exact hCc j u hu) (by omega) hC1;rw [this,hW1,zSr (by omega)]
 have hg1:W1.heap[g]? = some (.cells (splice X ((i+1)*5) C).toArray 95 (0,0)):=by rw [hW1];exact setRow_heap w.drew g _ _ 95 _ hX
 have hv1:W1.heap[vb]? = some (.cells t.cs.toArray 95 (0,0)):=by rw [hW1,setRow_other w.drew g vb _ (by omega)];exact hvb
 have hl1:(splice X ((i+1)*5) C).length=X.length:=length_splice _ _ _ (by omega);obtain ⟨W2,hW2⟩:∃W2,W2=W1.setRow g (splice (splice X ((i+1)*5) C) (i*5) t.cs).toArray:=⟨_,rfl⟩
 have ht5:t.cs.length=5:=rfl
 have hcp2:∀ty o1 d1 c1 c2,o1=i*5->d1=l.length+1-i->(Builtin.copy_ #[58,58] ty #[.slice (some ⟨g,o1,none⟩) d1 c1,.slice (some ⟨vb,0,none⟩) 1 c2]).run pg W1 = .ok (goInt (1:Nat)) W2:=by
  rintro ty _ _ c1 c2 rfl rfl;have hm1:Nat.min 1 (l.length+1-i)=1:=zLo (by omega);have:=zEf W1 ty g (i*5) (l.length+1-i) c1 ⟨vb,0,none⟩ 1 c2 _ 95 t.cs hg1 (by rw [hm1];rfl) (zIk hv1) (by omega) zI4;rw [this,hW2,hm1]
 have hg2:W2.heap[g]? = some (.cells (splice (splice X ((i+1)*5) C) (i*5) t.cs).toArray 95 (0,0)):=by rw [hW2];exact setRow_heap W1 g _ _ 95 _ hg1
 have hgr:w.grownBy W2 (some g):=by
  rw [hW2,hW1]
  exact ⟨rfl,rfl,rfl,by simp [World.setRow],fun k hk hn=>by
   have:k≠g:=fun e=>hn (by rw [e])
   rw [setRow_other _ g k _ this,setRow_other _ g k _ this];rfl⟩
 have hfin:zDz w (.slice (some ⟨g,0,none⟩) l.length cap) (l.take i++t::l.drop i) (.returned (.slice (some ⟨g,0,none⟩) (l.length+1) cap)) W2:=by
  have hll:(l.take i++t::l.drop i).length=l.length+1:=by simp;omega
  refine ⟨g,cap,by rw [hll],?_,hgr,.inl rfl⟩;refine ⟨by rw [cs_len],.inr ⟨g,cap,_,by rw [hll],Nat.zero_le _,hg2,by omega,hcap,by rw [List.size_toArray,length_splice _ _ _ (by omega),hl1,hXl],?_⟩⟩;rw [hll,List.toList_toArray];have hA:((l.take i).flatMap Bd.cs).length=i*5:=by rw [cs_len,List.length_take];omega
  have:=zMg X ((l.take i).flatMap Bd.cs) C t.cs (i*5) 5 hA rfl (by rw [hlen,show i*5+(l.length-i)*5=l.length*5 by omega,hXt,hC,<-List.flatMap_append,List.take_append_drop]) (by omega);rw [show i*5+5=(i+1)*5 by omega,hlen,show (i+1)*5+(l.length-i)*5=(l.length+1)*5 by omega] at this;rw [this,hC,List.flatMap_append,List.flatMap_cons]
 have hcp1':=fun ty=>hcp1 ty ((i+1)*5) (l.length-i) (cap-(i+1)) (i*5) (l.length+1-i) (cap-i) rfl rfl rfl rfl;have hcp2':=fun ty=>hcp2 ty (i*5) (l.length+1-i) (cap-i) 1 rfl rfl;have HF:=zAb hfin;have H1:=fun ty=>zAb (hcp1' ty);clear hfin hgr hg2 hl1 hg1 hv1 hCc hC1 hlen hXt hXl hX hv hvb hC hW1 hW2 hcp1 hcp2 hcp1' ht5 hn;go_enter func72,ntmps72;go_wp2_with (simp only [hov]);go_region_law (refine zE8 rfl _ _ 58 58 rfl (by simp [Act.eval,Act.put]) (by simp [Act.eval,Act.put]) (H1 _).out ?_)
 go_wp2_with fail;go_ret;exact HF.out
theorem zKq {α:Type} (A C T Z:List α) (k m:Nat) (hA:A.length=k) (hT:T.length=m) (hs:m+C.length<=Z.length) :
 (splice (splice (A++Z) k T) (k+m) C).take (k+m+C.length)=A++(T++C):=by
 subst hA;subst hT
 have e1:splice (A++Z) A.length T=A++(T++Z.drop T.length):=by
  unfold splice;rw [List.take_left,List.drop_append];simp
 rw [e1];unfold splice
 have e2:(A++(T++Z.drop T.length)).take (A.length+T.length)=A++T:=by
  rw [<-List.append_assoc,List.take_append_of_le_length (by simp),List.take_of_length_le (by simp)]
 rw [e2,<-List.append_assoc,List.take_append_of_le_length (by simp;omega),List.take_of_length_le (by simp;omega),List.append_assoc]
theorem zKm (l:List Bd) (g cap i:Nat) (t:Bd) (vb:Nat) (w:World) (hv:Bds w (.slice (some ⟨g,0,none⟩) l.length cap) l) (hl:l.length<256) (hi:i<l.length) (hvb:w.heap[vb]? = some (.cells t.cs.toArray 95 (0,0))) (hne:vb≠g) (hroom:¬l.length+1<=cap) :
 Calls pg 72 #[.slice (some ⟨g,0,none⟩) l.length cap,O ii i,.slice (some ⟨vb,0,none⟩) 1 1] w (zDz w (.slice (some ⟨g,0,none⟩) l.length cap) (l.take i++t::l.drop i)):=by
 obtain ⟨X,hX,hcap,hcl,hXl,hXt⟩:∃X:List Value,w.heap[g]? = some (.cells X.toArray 95 (0,0))/\cap<=maxLen/\l.length<=cap/\X.length=cap*5/\X.take (l.length*5)=l.flatMap Bd.cs:=by
  rcases hv.2 with ⟨e,_⟩|⟨g',cap',cur,e,hb,hg,hn,hm,hs,ht⟩
  ·cases e
  ·cases e;exact ⟨cur.toList,by simpa using hg,hm,hn,by simpa using hs,ht⟩
 obtain rfl:cap=l.length:=by omega
 have hvlt:=(gE.1 hvb).1;have hglt:=(gE.1 hX).1;have hlenD:=cs_len (l.drop i);rw [List.length_drop] at hlenD;have hlenA:((l.take i).flatMap Bd.cs).length=i*5:=by rw [cs_len,List.length_take];omega
 have hCc:∀j u,((l.drop i).flatMap Bd.cs)[j]? = some u->w.cell? ⟨g,i*5+j,none⟩=some u:=fun j u hu=>by
  rw [zPt,List.getElem?_drop] at hu;have:=hv.cells (g:=g) rfl (i*5+j) u hu;simpa [Addr.add_lit] using this
 have hAc:∀j u,((l.take i).flatMap Bd.cs)[j]? = some u->w.cell? ((⟨g,0,none⟩:Addr).add j)=some u:=fun j u hu=>by
  rw [zVu,List.getElem?_take] at hu
  split at hu
  ·exact hv.cells (g:=g) rfl j u hu
  ·cases hu
 obtain ⟨C,hC⟩:∃C,C=(l.drop i).flatMap Bd.cs:=⟨_,rfl⟩
 obtain ⟨A,hA⟩:∃A,A=(l.take i).flatMap Bd.cs:=⟨_,rfl⟩
 rw [<-hC] at hlenD hCc;rw [<-hA] at hlenA hAc;have hC1:∀u∈C,u.oneCell'=true:=by rw [hC];exact zOa
 obtain ⟨cap',hge,hle,hrun⟩:∃cap':Nat,l.length+1<=cap'/\cap'<=maxLen/\∀ty,(Builtin.append_ #[58,3] ty #[.slice (some ⟨g,0,none⟩) i l.length,O ii ((l.length:Int)+1-i)]).run pg w =
  .ok (.slice (some ⟨w.heap.size,0,none⟩) (l.length+1) cap') (w.drew.alloc (.cells (A.toArray++(Builtin.zeroCells z55.cells (l.length+1-i)++Builtin.zeroCells z55.cells (cap'-(l.length+1)))) 95)):=by
  obtain ⟨c,h1,h2,h3⟩:=zFj w 0 g i l.length (l.length+1-i) A hlenA hAc (by omega) (by omega) (by omega);rw [show i+(l.length+1-i)=l.length+1 by omega] at h1 h3;refine ⟨c,h1,h2,fun ty=>?_⟩;have e:((l.length:Int)+1-i)=((l.length+1-i:Nat):Int):=by omega
  rw [e];exact h3
 obtain ⟨Z,hZ⟩:∃Z,Z=(Builtin.zeroCells z55.cells (l.length+1-i)++Builtin.zeroCells z55.cells (cap'-(l.length+1))).toList:=⟨_,rfl⟩
 have hZl:Z.length=(cap'-i)*5:=by
  rw [hZ,Array.toList_append,List.length_append,zK4,zK4];omega
 obtain ⟨W0,hW0⟩:∃W0,W0=w.drew.alloc (.cells (A.toArray++(Builtin.zeroCells z55.cells (l.length+1-i)++Builtin.zeroCells z55.cells (cap'-(l.length+1)))) 95):=⟨_,rfl⟩
 rw [<-hW0] at hrun
 have hZ0:(A.toArray++(Builtin.zeroCells z55.cells (l.length+1-i)++Builtin.zeroCells z55.cells (cap'-(l.length+1))))=(A++Z).toArray:=by
  apply Array.ext';rw [hZ];simp
 rw [hZ0] at hW0;have hg0:W0.heap[w.heap.size]? = some (.cells (A++Z).toArray 95 (0,0)):=by rw [hW0];exact heap_alloc_new w.drew _
 have hold:∀k,k<w.heap.size->W0.heap[k]? = w.heap[k]? := fun k hk=>by rw [hW0];exact Below.heap_alloc w.drew _ k hk
 have hv0:W0.heap[vb]? = some (.cells t.cs.toArray 95 (0,0)):=(hold vb hvlt).trans hvb;obtain ⟨W1,hW1⟩:∃W1,W1=W0.setRow w.heap.size (splice (A++Z) (i*5) t.cs).toArray:=⟨_,rfl⟩
 have ht5:t.cs.length=5:=rfl;have hlAZ:(A++Z).length=cap'*5:=by rw [List.length_append];omega
 have hcp1:∀ty c1,(Builtin.copy_ #[58,58] ty #[.slice (some ⟨w.heap.size,i*5,none⟩) (l.length+1-i) c1,.slice (some ⟨vb,0,none⟩) 1 1]).run pg W0 = .ok (goInt (1:Nat)) W1:=by
  intro ty c1;have hm1:Nat.min 1 (l.length+1-i)=1:=zLo (by omega);have:=zEf W0 ty w.heap.size (i*5) (l.length+1-i) c1 ⟨vb,0,none⟩ 1 1 _ 95 t.cs hg0 (by rw [hm1];rfl) (zIk hv0) (by omega) zI4;rw [this,hW1,hm1]
 have hg1:W1.heap[w.heap.size]? = some (.cells (splice (A++Z) (i*5) t.cs).toArray 95 (0,0)):=by rw [hW1];exact setRow_heap W0 _ _ _ 95 _ hg0
 have hl1:(splice (A++Z) (i*5) t.cs).length=cap'*5:=by rw [length_splice _ _ _ (by omega),hlAZ]
 have hold1:∀k,k<w.heap.size->W1.heap[k]? = w.heap[k]? := fun k hk=>by rw [hW1,setRow_other W0 _ k _ (by omega)];exact hold k hk
 obtain ⟨W2,hW2⟩:∃W2,W2=W1.drew.setRow w.heap.size (splice (splice (A++Z) (i*5) t.cs) ((i+1)*5) C).toArray:=⟨_,rfl⟩
 have hcp2:∀ty c1 c2,(Builtin.copy_ #[58,58] ty #[.slice (some ⟨w.heap.size,(i+1)*5,none⟩) (l.length-i) c1,.slice (some ⟨g,i*5,none⟩) (l.length-i) c2]).run pg W1.drew = .ok (goInt (l.length-i:Nat)) W2:=by
  intro ty c1 c2
  have:=zEf W1.drew ty w.heap.size ((i+1)*5) (l.length-i) c1 ⟨g,i*5,none⟩ (l.length-i) c2 _ 95 C hg1 (by rw [hlenD,zLo (Nat.le_refl _)])
   (fun j u hu=>by
    rw [Addr.add_lit]
    exact (World.cell?_of_block (w:=w) (w':=W1.drew) (a:=⟨g,i*5+j,none⟩) (hold1 g hglt)).trans (hCc j u hu)) (by omega) hC1
  rw [this,hW2,zLo (Nat.le_refl _)]
 have hg2:W2.heap[w.heap.size]? = some (.cells (splice (splice (A++Z) (i*5) t.cs) ((i+1)*5) C).toArray 95 (0,0)):=by rw [hW2];exact setRow_heap W1.drew _ _ _ 95 _ hg1
 have hgr:w.grownBy W2 (some g):=by
  refine ⟨by rw [hW2,hW1,hW0];rfl,by rw [hW2,hW1,hW0];rfl,by rw [hW2,hW1,hW0];rfl,?_,fun k hk hn=>?_⟩
  ·have:=(gE.1 hg2).1;omega
  ·rw [hW2,setRow_other W1.drew _ k _ (by omega)];exact hold1 k hk
 have hfin:zDz w (.slice (some ⟨g,0,none⟩) l.length l.length) (l.take i++t::l.drop i) (.returned (.slice (some ⟨w.heap.size,0,none⟩) (l.length+1) cap')) W2:=by
  have hll:(l.take i++t::l.drop i).length=l.length+1:=by simp;omega
  refine ⟨w.heap.size,cap',by rw [hll],?_,hgr,.inr (Nat.le_refl _)⟩;refine ⟨by rw [cs_len],.inr ⟨w.heap.size,cap',_,by rw [hll],Nat.zero_le _,hg2,by omega,hle,by rw [List.size_toArray,length_splice _ _ _ (by omega),hl1],?_⟩⟩;rw [hll,List.toList_toArray];have:=zKq A C t.cs Z (i*5) 5 hlenA rfl (by omega);rw [show i*5+5=(i+1)*5 by omega,hlenD,show (i+1)*5+(l.length-i)*5=(l.length+1)*5 by omega] at this;rw [this,hC,hA,List.flatMap_append,List.flatMap_cons]
 have hw1:IntKind.i64.wrap ((i:Int)+1)=(i:Int)+1:=by rw [IntKind.wrap_i64];omega
 have hb1:(0:Int)<=(i:Int)+1:=by omega
 have htn:((i:Int)+1).toNat=i+1:=by omega
 have hb3:(i:Int)<=(l.length:Nat)+1:=by omega
 have hb6:i<=l.length:=by omega
 have h1:¬((i:Int)=(l.length:Nat)):=by omega
 have h3:¬cap'=i+1:=by omega
 have h4:¬cap'=i:=by omega
 have h5:(i:Int)<=(l.length:Nat):=by omega
 have h6:¬l.length=i:=by omega
 have hcp1':=fun ty=>hcp1 ty (cap'-i);have HR:=fun ty=>zAb (hrun ty);have H2:=fun ty=>zAb (hcp2 ty (cap'-(i+1)) (l.length-i));have hc':cap'<=9223372036854775807:=hle;have HF:=zAb hfin;clear hfin hgr hg2 hl1 hg1 hCc hC1 hlenD hlenA hXt hXl hX hv hvb hC hW1 hW2 hW0 hcp1 hcp2 ht5 hold hold1 hv0 hg0 hZ0 hZl hZ hA hAc hlAZ hrun;go_enter func72,ntmps72;go_wp2_with (at_builtin;refine zFh rfl _ _ 58 3 rfl rfl rfl (HR _).out ?_);go_region_law (refine zE8 rfl _ _ 58 58 rfl (by simp [Act.eval,Act.put]) (by simp [Act.eval,Act.put]) (H2 _).out ?_)
 go_wp2_with fail;go_ret;exact HF.out
theorem zM5 (l:List Bd) (v:Value) (i:Nat) (t:Bd) (vb:Nat) (w:World) (hv:Bds w v l) (hl:l.length<256) (hi:i<=l.length) (hvb:w.heap[vb]? = some (.cells t.cs.toArray 95 (0,0))) (hne:v.ownBlock≠some vb) :
 Calls pg 72 #[v,O ii i,.slice (some ⟨vb,0,none⟩) 1 1] w (zDz w v (l.take i++t::l.drop i)):=by
 rcases Nat.lt_or_ge i l.length with h|h
 ·rcases hv.2 with ⟨e,h0⟩|⟨g,cap,cur,rfl,_⟩
  ·omega
  ·have hvg:vb≠g:=fun e=>hne (by rw [e];rfl)
   by_cases hr:l.length+1<=cap
   ·exact zKl l g cap i t vb w hv hl h hvb hvg hr
   ·exact zKm l g cap i t vb w hv hl h hvb hvg hr
 ·obtain rfl:i=l.length:=by omega
  have:=zM4 l v t vb w hv hl hvb;simpa using this
section
open Go.Shelf
attribute [local go_sem] Oper.semAt_some
def Wd (w:World) (p:Nat) (W H:Int) (tv bv:Value) (bm:Nat) (ev:Value):Prop:=
 w.heap[p]? = some (.cells #[O ii 0,O ii 0,O ii W,O ii H,tv,bv,.map (some bm),ev] 93 (0,0))
section
variable {w w':World} {p bm:Nat} {W H:Int} {tv bv ev:Value}
theorem Wd.lt (h:Wd w p W H tv bv bm ev):p<w.heap.size:=(gE.1 h).1
theorem Wd.kept {S:Nat->Prop} (h:Wd w p W H tv bv bm ev) (ht:Turns S w w') (hs:¬S p):Wd w' p W H tv bv bm ev:=ht.same hs h
theorem Wd.c (h:Wd w p W H tv bv bm ev) (j:Nat):w.cell? ⟨p,j,none⟩=(#[O ii 0,O ii 0,O ii W,O ii H,tv,bv,.map (some bm),ev]:Array Value)[j]? := cell_of_row w p j _ _ _ h
theorem Wd.f (h:Wd w p W H tv bv bm ev) (j:Nat):w.frozen? ⟨p,j,none⟩=false:=by
 have h':w.heap[p]? = _:=h;simp [World.frozen?,h']
theorem Wd.ne_row (h:Wd w p W H tv bv bm ev) {v:Value} {e:TypeId} {k n:Nat} {xs:List Value} (hv:w.ownsRow 0 e k v n xs) (he:e≠93):v.ownBlock≠some p:=by
 intro hh;rcases hv.2 with ⟨rfl,_⟩|⟨g,cap,cur,rfl,hb,hg,_⟩
 ·simp [Value.ownBlock] at hh
 ·simp [Value.ownBlock] at hh;subst hh;rw [show w.heap[g]? = _ from h] at hg;simp at hg;exact he hg.2.symm
theorem Wd.ne_map (h:Wd w p W H tv bv bm ev) {b n:Nat} {f:Int->Int->Option Int} (hf:Who w b n f):b≠p:=by
 obtain ⟨D,⟨es,clock,h1,_⟩,_⟩:=hf;intro e;subst e;rw [show w.heap[b]? = _ from h] at h1;cases h1
theorem zEy {b n k m:Nat} {f:Int->Int->Option Int} {v:Value} {e:TypeId} {xs:List Value} (hv:w.ownsRow 0 e k v m xs) (hf:Who w b n f):v.ownBlock≠some b:=by
 obtain ⟨D,⟨es,clock,h1,_⟩,_⟩:=hf;intro hh;rcases hv.2 with ⟨rfl,_⟩|⟨g,cap,cur,rfl,hb,hg,_⟩
 ·simp [Value.ownBlock] at hh
 ·simp [Value.ownBlock] at hh;subst hh;rw [hg] at h1;cases h1
theorem Wd.set5 (h:Wd w p W H tv bv bm ev) (v:Value):Wd (w.setCell ⟨p,5,none⟩ v) p W H tv v bm ev:=by
 have h':w.heap[p]? = _:=h;have hlt:=h.lt;unfold Wd;simp [World.setCell,Array.getElem?_modify,h']
end
theorem Turns.undrew {S:Nat->Prop} {w w':World} (h:Turns S w.drew w'):Turns S w w':=⟨h.os,h.tape,h.output,h.size,h.block⟩
def zAv (R:Act->World->Prop):Exit->Act->World->Prop
 |.normal,a,w=>R a w
 |_,_,_=>False
def zDg (f:Int->Int->Option Int) (pre:List Cel) (i:Int):Int->Int->Option Int:=fun x y=>if pre.any (fun q=>decide (q.1.1=x/\q.1.2=y))=true then some i else f x y
theorem zMu (f:Int->Int->Option Int) (i:Int):zDg f [] i=f:=by funext x y;simp [zDg]
theorem zJ2 (f:Int->Int->Option Int) (pre:List Cel) (q:Cel) (i:Int):zDg f (pre++[q]) i=fun u v=>if u=q.1.1/\v=q.1.2 then some i else zDg f pre i u v:=by
 funext u v
 unfold zDg;rw [List.any_append]
 by_cases h:u=q.1.1/\v=q.1.2
 ·rw [if_pos h,if_pos];simp [h.1,h.2]
 ·rw [if_neg h];have:([q].any fun q=>decide (q.1.1=u/\q.1.2=v))=false:=by simp;intro h1 h2;exact h ⟨h1.symm,h2.symm⟩
  rw [this,Bool.or_false]
def Five (w:World) (b:Nat) (t:Bd):Prop:=w.heap[b]? = some (.cells t.cs.toArray 95 (0,0))
theorem Five.c {w:World} {b:Nat} {t:Bd} (h:Five w b t) (j:Nat):w.cell? ⟨b,j,none⟩=t.cs[j]? := by rw [cell_of_row w b j _ _ _ h];simp
def ins (l:List Bd) (t:Bd):List Bd:=l.take (pos l t.id)++t::l.drop (pos l t.id)
theorem zU6 (l:List Bd) (t:Bd):(ins l t).length=l.length+1:=by
 have:=zLk l t.id;simp [ins];omega
theorem zU7 (l:List Bd) (v:Value) (t:Bd) (vb:Nat) (w:World) (hv:Bds w v l) (hl:l.length<256) (hvb:w.heap[vb]? = some (.cells t.cs.toArray 95 (0,0))) (hne:v.ownBlock≠some vb) :
 Calls pg 72 #[v,O ii (pos l t.id:Nat),.slice (some ⟨vb,0,none⟩) 1 1] w fun e w'=>∃g cap,e = .returned (.slice (some ⟨g,0,none⟩) (l.length+1) cap)/\Bds w' (.slice (some ⟨g,0,none⟩) (l.length+1) cap) (ins l t)/\w.grownBy w' v.ownBlock/\(v.ownBlock=some g\/w.heap.size<=g):=by
 refine (zM5 l v (pos l t.id) t vb w hv hl (zLk l t.id) hvb hne).mono ?_;rintro e w' ⟨g,cap,he,hb,hg,hloc⟩;have hll:=zU6 l t;unfold ins at hll;rw [hll] at he hb;exact ⟨g,cap,he,hb,hg,hloc⟩
def Sst (p h:Nat) (t:Bd) (w:World):Prop:=
 w.cell? ⟨h,0,none⟩=some (ptr p)/\
 (w.cell? ⟨h+1,0,none⟩=some (O ii t.id)/\w.cell? ⟨h+1,1,none⟩=some (O ii t.x)/\w.cell? ⟨h+1,2,none⟩=some (O ii t.y)/\w.cell? ⟨h+1,3,none⟩=some (O ii t.a)/\w.cell? ⟨h+1,4,none⟩=some (O ii t.b))
theorem zLa {w:World} {p h:Nat} {t:Bd} (hb:Boxed w h 27 (ptr p)) (h5:Five w (h+1) t):Sst p h t w:=
 ⟨hb.cell,h5.c 0,h5.c 1,h5.c 2,h5.c 3,h5.c 4⟩
theorem zAg {S:Nat->Prop} {W W':World} {k:Nat} {t:TypeId} {v:Value} (h:Boxed W k t v) (ht:Turns S W W') (hs:¬S k):Boxed W' k t v:=ht.same hs h
theorem Five.kept {S:Nat->Prop} {W W':World} {k:Nat} {t:Bd} (h:Five W k t) (ht:Turns S W W') (hs:¬S k):Five W' k t:=ht.same hs h
def zY6 (w:World) (p bm n:Nat) (W H:Int) (tv bv ev:Value) (f:Int->Int->Option Int) (l:List Bd) (t:Bd) (w':World):Prop:=
 ∃g cap,Wd w' p W H tv (.slice (some ⟨g,0,none⟩) (l.length+1) cap) bm ev/\Bds w' (.slice (some ⟨g,0,none⟩) (l.length+1) cap) (ins l t)/\Who w' bm (n+(zFg t.x t.y t.a t.b).length) (zDg f (zFg t.x t.y t.a t.b) t.id)/\
  Turns (fun k=>k=p\/k=bm\/bv.ownBlock=some k) w w'/\(bv.ownBlock=some g\/w.heap.size<=g)
theorem zJ5 {B b n:Nat} {F:List Cel->Int->Int->Option Int} (hb:b<B):OwnFrom B (fun (pre:List Cel) W=>Who W b (n+pre.length) (F pre)):=fun s X Y row hs hg hr =>
 hs.kept (Turns.of_grown (S:=fun k=>row=some k) hg (fun k e=>e)) (fun e=>by have:=(hr _ e).1;omega)
theorem zH8 {β:Type} {B:Nat} {S:Nat->Prop} {w0:World} (hw:w0.heap.size<=B):OwnFrom B (fun (_:β) W=>Turns S w0 W):=fun s X Y row hs hg hr =>
 hs.trans (Turns.of_grown hg (fun k e => .inr (by have:=(hr k e).1;omega)))
theorem zWd {x y a b:Int}:may x y a b=true->b.toNat*a.toNat<=(zFg x y a b).length:=fun h=>by rw [zFg,if_pos h,zC2];exact Nat.le_refl _
theorem zNp (p bm n:Nat) (W_ H:Int) (tv bv ev:Value) (f:Int->Int->Option Int) (l:List Bd) (t:Bd) (w:World) (hd:Wd w p W_ H tv bv bm ev) (hw:Who w bm n f) (hl:Bds w bv l) (hs:zCn l) (hlen:l.length<256) (hid:W64 t.id) (hn:n+(zFg t.x t.y t.a t.b).length<=maxLen) :
 Calls pg 35 #[ptr p,t.v] w fun e w'=>e = .returned (.tuple #[])/\zY6 w p bm n W_ H tv bv ev f l t w':=by
 refine (callsIn_wide (n:=10)).1 ?_;refine callsIn_of_wp_marks func35 rfl trivial ?_ rfl;simp only [ntmps35,List.size_toArray,List.length_cons,List.length_nil,Nat.reduceAdd,Nat.reduceSub,Array.replicate_succ,Array.replicate_zero,List.push_toArray,List.append_toArray,List.nil_append,List.cons_append];have hpl:=hd.lt;have HB0:Below w.heap.size w ((w.alloc (.cells #[ptr p] 27)).alloc (.cells t.cs.toArray 95)):=zBe _ _ _;have hsz:((w.alloc (.cells #[ptr p] 27)).alloc (.cells t.cs.toArray 95)).heap.size=w.heap.size+2:=by simp
 have P0:Boxed ((w.alloc (.cells #[ptr p] 27)).alloc (.cells t.cs.toArray 95)) w.heap.size 27 (ptr p):=(Boxed.new w 27 (ptr p)).alloc _
 have F0:Five ((w.alloc (.cells #[ptr p] 27)).alloc (.cells t.cs.toArray 95)) (w.heap.size+1) t:=by
  have:=heap_alloc_new (w.alloc (.cells #[ptr p] 27)) (.cells t.cs.toArray 95);simpa [Five] using this
 gi_wp2_with fail;refine ⟨trivial,?_⟩;obtain ⟨W0,hW0⟩:=ex ((w.alloc (.cells #[ptr p] 27)).alloc (.cells t.cs.toArray 95));change CallsIn Fence.wide 9 pg 70 #[ptr p,O ii t.id] ((w.alloc (.cells #[ptr p] 27)).alloc (.cells t.cs.toArray 95)) _;rw [hW0] at HB0 hsz P0 F0 ⊢;clear hW0;have T0:Turns NoB w W0:=Turns.of_below HB0;have hd0:=hd.kept T0 id;have hw0:=hw.kept T0 id;have hl0:=hl.kept T0 (fun _ _=>id);refine (callsIn_wide.2 (zJb l bv t.id p W0 (hd0.c 5) hl0 hs (by omega))).mono ?_;rintro e w1 ⟨rfl,hb1⟩;have T1:Turns NoB W0 w1:=Turns.of_below hb1;have hd1:=hd0.kept T1 id;have hw1:=hw0.kept T1 id;have hl1:=hl0.kept T1 (fun _ _=>id);have P1:=zAg P0 T1 id;have F1:=F0.kept T1 id;have hS0:Sst p w.heap.size t w1:=zLa P1 F1;have hS1:∀o,Sst p w.heap.size t (w1.alloc o):=fun o=>zLa (P1.alloc o) (F1.kept (Turns.of_below (S:=NoB) (zAh _ _)) id);have hne1:=hd1.ne_row hl1 (by decide)
 have hne0:bv.ownBlock≠some w.heap.size:=fun e=>by
  rcases hl1.2 with ⟨rfl,_⟩|⟨g,cap,cur,rfl,hb,hg,_⟩
  ·simp [Value.ownBlock] at e
  ·simp [Value.ownBlock] at e;subst e;rw [show w1.heap[w.heap.size]? = _ from P1] at hg;simp at hg
 have hne2:bv.ownBlock≠some (w.heap.size+1):=fun e=>by
  have:=(hl.lt _ e).2;omega
 have hS2:∀{wx:World} {o:Obj},(w1.alloc o).drew.grownBy wx bv.ownBlock->Sst p w.heap.size t wx:=fun {wx o} hg=>by
  have TX:Turns (fun k=>bv.ownBlock=some k) (w1.alloc o) wx:=(Turns.of_grown (w:=(w1.alloc o).drew) hg (fun k e=>e)).undrew;have TO:Turns NoB w1 (w1.alloc o):=Turns.of_below (zAh _ _);exact zLa (zAg (P1.alloc o) TX hne0) ((F1.kept TO id).kept TX hne2)
 have hvb:(w1.alloc (.cells t.cs.toArray 95)).heap[w1.heap.size]? = some (.cells t.cs.toArray 95 (0,0)):=heap_alloc_new w1 _;have hlA:=hl1.alloc (.cells t.cs.toArray 95);have hneA:bv.ownBlock≠some w1.heap.size:=fun e=>by have:=(hl1.lt _ e).2;omega
 have hS3:∀{wx:World} {o:Obj} {v:Value},(w1.alloc o).drew.grownBy wx bv.ownBlock->Sst p w.heap.size t (wx.setCell ⟨p,5,none⟩ v):=fun {wx o v} hg=>by
  have TX:Turns (fun k=>bv.ownBlock=some k) (w1.alloc o) wx:=(Turns.of_grown (w:=(w1.alloc o).drew) hg (fun k e=>e)).undrew;have TO:Turns NoB w1 (w1.alloc o):=Turns.of_below (zAh _ _);have TS:Turns (fun k=>k=p) wx (wx.setCell ⟨p,5,none⟩ v):=Turns.set (S:=fun k=>k=p) wx (p:=⟨p,5,none⟩) rfl v;exact zLa (zAg (zAg (P1.alloc o) TX hne0) TS (by omega)) (((F1.kept TO id).kept TX hne2).kept TS (by omega))
 have hW2:∀{wx:World} {o:Obj},(w1.alloc o).drew.grownBy wx bv.ownBlock->Wd wx p W_ H tv bv bm ev:=fun {wx o} hg=>by
  have TX:Turns (fun k=>bv.ownBlock=some k) (w1.alloc o) wx:=(Turns.of_grown (w:=(w1.alloc o).drew) hg (fun k e=>e)).undrew;have TO:Turns NoB w1 (w1.alloc o):=Turns.of_below (zAh _ _);exact (hd1.kept TO id).kept TX hne1
 have c5:w1.cell? ⟨p,5,none⟩=some bv:=hd1.c 5;have c5':∀o,(w1.alloc o).cell? ⟨p,5,none⟩=some bv:=fun o=>(hd1.kept (Turns.of_below (S:=NoB) (zAh _ o)) id).c 5;have HI:=zAb (zU7 l bv t w1.heap.size (w1.alloc (.cells #[O ii t.id,O ii t.x,O ii t.y,O ii t.a,O ii t.b] 95)).drew hlA hlen hvb hneA);gi_wp2_with fail;refine wpIn_wide.2 ?_;have hneM:bv.ownBlock≠some bm:=zEy hl hw;clear hvb hlA hneA;have hS00:=hS0;obtain ⟨s0,s3,s4,s5,s6,s7⟩:=hS0;refine Code.wp_mono (Q:=zAv (fun a' w'=>∃w2 g cap,a'={ tmps:=#[ptr p,t.v,ptr w.heap.size,ptr (w.heap.size+1),O ii (pos l t.id:Nat),.bool (zCk l t.id),undef,.tuple #[O ii (pos l t.id:Nat),.bool (zCk l t.id)],ptr p,ptr (w.heap.size+1),O ii t.id,.tuple #[O ii (pos l t.id:Nat),.bool (zCk l t.id)],O ii (pos l t.id:Nat),.bool (zCk l t.id),ptr p,ptr p,ptr p,.pointer (some ⟨p,5,none⟩),bv,O ii (pos l t.id:Nat),t.v,.slice (some ⟨w1.heap.size,0,none⟩) 1 1,.slice (some ⟨g,0,none⟩) (l.length+1) cap,ptr p,.pointer (some ⟨p,5,none⟩),undef,undef,undef,undef,undef,undef,undef,undef,undef,undef,undef],defers:=[] }/\w'=w2.setCell ⟨p,5,none⟩ (.slice (some ⟨g,0,none⟩) (l.length+1) cap)/\Bds w2 (.slice (some ⟨g,0,none⟩) (l.length+1) cap) (ins l t)/\(w1.alloc (.cells #[O ii t.id,O ii t.x,O ii t.y,O ii t.a,O ii t.b] 95)).drew.grownBy w2 bv.ownBlock/\(bv.ownBlock=some g\/(w1.alloc (.cells #[O ii t.id,O ii t.x,O ii t.y,O ii t.a,O ii t.b] 95)).drew.heap.size<=g))) ?rest ?_
 case rest =>
  rintro (_|_|_|_|_) a' w' hO;all_goals first|exact hO.elim|skip
  obtain ⟨w2,g,cap,rfl,rfl,hb2,hg2,hloc⟩:=hO;have TX:Turns (fun k=>bv.ownBlock=some k) (w1.alloc (.cells t.cs.toArray 95)) w2:=(Turns.of_grown (w:=(w1.alloc (.cells t.cs.toArray 95)).drew) hg2 (fun k e=>e)).undrew;have TO:Turns NoB w1 (w1.alloc (.cells t.cs.toArray 95)):=Turns.of_below (zAh _ _);have hd2:=hW2 hg2;have hw2:Who w2 bm n f:=(hw1.kept TO id).kept TX hneM;have hd3:=hd2.set5 (.slice (some ⟨g,0,none⟩) (l.length+1) cap);have TS:Turns (fun k=>k=p) w2 (w2.setCell ⟨p,5,none⟩ (.slice (some ⟨g,0,none⟩) (l.length+1) cap)):=Turns.set (S:=fun k=>k=p) w2 (p:=⟨p,5,none⟩) rfl _;have hw3:=hw2.kept TS (hd.ne_map hw)
  have hl3:=hb2.kept TS (fun k e=>by
   have:=hd2.ne_row hb2 (by decide);rintro rfl
   exact this e)
  have P3:=zAg (zAg (P1.alloc (.cells t.cs.toArray 95)) TX hne0) TS (by omega);have F3:=((F1.kept TO id).kept TX hne2).kept TS (by omega);obtain ⟨w3,hw3e⟩:=ex (w2.setCell ⟨p,5,none⟩ (.slice (some ⟨g,0,none⟩) (l.length+1) cap));have hsz3:w1.heap.size+1<=w3.heap.size:=by rw [<-hw3e];have:=TX.size;simp [World.setCell] at this ⊢;omega
  have T3:Turns (fun k=>k=p\/bv.ownBlock=some k) w w3:=by
   refine ((((T0.mono (fun _ _ h=>h.elim)).trans ((T1.mono (fun _ _ h=>h.elim)))).trans (TO.mono (fun _ _ h=>h.elim))).trans (TX.mono (fun k _ h => .inl (.inr h)))).trans ?_;rw [<-hw3e];exact TS.mono (fun k _ h => .inl (.inl h))
  rw [hw3e] at hd3 hw3 hl3 P3 F3 TS ⊢;clear hw3e TS TX TO hd2 hw2 hb2 hg2;have e0:=F3.c 0;have e1:=F3.c 1;have e2:=F3.c 2;have e3:=F3.c 3;have e4:=F3.c 4;dsimp only [Bd.cs,List.getElem?_cons_zero,List.getElem?_cons_succ] at e0 e1 e2 e3 e4;gi_wp2_with fail;refine ⟨trivial,?_⟩;refine (callsIn_wide.2 (zDq _ _ _ _ _)).mono ?_;rintro e w4 ⟨rfl,rfl⟩;gi_wp2_with fail;have hbl:=hw3.lt;have hpl3:=hd3.lt;have hPl:=P3.lt;have FB:Four (w3.alloc (.cells #[O ii t.x,O ii t.y,O ii t.a,O ii t.b] 65)) w3.heap.size t.x t.y t.a t.b:=zBo (Below.refl _ _);have TA:Turns NoB w3 (w3.alloc (.cells #[O ii t.x,O ii t.y,O ii t.a,O ii t.b] 65)):=Turns.of_below (zAh _ _);have hsz4:(w3.alloc (.cells #[O ii t.x,O ii t.y,O ii t.a,O ii t.b] 65)).heap.size=w3.heap.size+1:=by simp
  have hw4:=hw3.kept TA id;have hd4:=hd3.kept TA id;have hl4:=hl3.kept TA (fun _ _=>id);have P4:=zAg P3 TA id;have F4:=F3.kept TA id;have T4:Turns (fun k=>k=p\/bv.ownBlock=some k) w (w3.alloc (.cells #[O ii t.x,O ii t.y,O ii t.a,O ii t.b] 65)):=T3.trans (TA.mono (fun _ _ h=>h.elim));obtain ⟨w4,hw4e⟩:=ex (w3.alloc (.cells #[O ii t.x,O ii t.y,O ii t.a,O ii t.b] 65));rw [hw4e] at FB hsz4 hw4 hd4 hl4 P4 F4 T4 TA ⊢;clear hw4e e0 e1 e2 e3 e4 HI hS1 hS2 hS3 hW2 c5' s0 s3 s4 s5 s6 s7 hS00 c5 hw0 hd0 hl0 hw1 hd1 hl1 P0 P1 F0 F1;obtain ⟨L,hL⟩:=ex (zFg t.x t.y t.a t.b);have hseq:=zCm (10-1) w3.heap.size L.length t.x t.y t.a t.b w4 FB (by rw [<-hL];exact zWd);rw [hL] at hseq hn
  refine wpIn_rangeFunc_ownH rfl (by omega) (gf:=54) (lb:=#[ptr w3.heap.size]) rfl trivial (enters_of func54 (by kernel_rfl) rfl)
   hseq zWl (zWm (by omega)) (Below.refl _ _) (fun _=>rfl)
   (fun pre W=>Who W bm (n+pre.length) (zDg f pre t.id)/\Turns (fun k=>k=bm) w4 W)
   (fun c pre W=>False)
   (OwnFrom.and (zJ5 (by omega)) (zH8 (Nat.le_refl _)))
   (fun c s X Y row hs hg hr=>hs)
   ⟨by rw [zMu];exact hw4,Turns.refl _ _⟩
   (fun q a' W=>∃Bx,w4.heap.size<=Bx/\Two W Bx q.1.1 q.1.2/\a'={ tmps:=#[ptr p,t.v,ptr w.heap.size,ptr (w.heap.size+1),O ii (pos l t.id:Nat),.bool (zCk l t.id),ptr Bx,.tuple #[O ii (pos l t.id:Nat),.bool (zCk l t.id)],ptr p,ptr (w.heap.size+1),O ii t.id,.tuple #[O ii (pos l t.id:Nat),.bool (zCk l t.id)],O ii (pos l t.id:Nat),.bool (zCk l t.id),ptr p,ptr p,ptr p,.pointer (some ⟨p,5,none⟩),bv,O ii (pos l t.id:Nat),t.v,.slice (some ⟨w1.heap.size,0,none⟩) 1 1,.slice (some ⟨g,0,none⟩) (l.length+1) cap,ptr p,.pointer (some ⟨p,5,none⟩),.pointer (some ⟨w.heap.size+1,1,none⟩),rct t.x t.y t.a t.b,.func (.func 54) #[] #[ptr w3.heap.size],cel q.1.1 q.1.2,undef,undef,undef,undef,undef,undef,undef],defers:=[] })
   (fun q a' _ X Y row hs hg hr=>by obtain ⟨Bx,e1,e2,e3⟩:=hs;exact ⟨Bx,e1,e2.own hg (fun r e=>(hr r e).2),e3⟩)
   ?assign ?body ?done ?stop
  case assign =>
   rintro l pre q W K ⟨hwh,hT⟩ hK;have hsB:=hT.size;gi_wp2
   exact hK _ _ ((KeepsOthers.alloc _ _).from _) (Below.heap_alloc _ _ _ (by omega)) ⟨hwh.kept (Turns.of_below (S:=NoB) (zAh _ _)) id,hT.trans (Turns.of_below (zAh _ _))⟩ ⟨W.heap.size,by omega,Two.newAt rfl,rfl⟩
  case body =>
   rintro lo pre q a' W hl ⟨r,hr⟩ ⟨hwh,hT⟩ ⟨Bx,hBx,bX,rfl⟩ hlt;have hsB:=hT.size;have hbp:bm≠p:=hd4.ne_map hw4;have hdW:=hd4.kept hT (fun e=>hbp e.symm);have PW:=zAg P4 hT (by have:=P4.lt;intro e;have h1:=hw.lt;omega);have FW:=F4.kept hT (by intro e;have h1:=hw.lt;omega);obtain ⟨W1,hput,hw5,hg5⟩:=(show Who W.drew bm (n+pre.length) (zDg f pre t.id) from hwh).put q.2.1 q.2.2 hid (by omega);have d0:=bX.1.1;have d1:=bX.1.2;have c0:=PW.cell;have c6:W.cell? ⟨p,6,none⟩=some (.map (some bm)):=hdW.c 6;have e0:W.cell? ⟨w.heap.size+1,0,none⟩=some (O ii t.id):=FW.c 0;have KF:KeepsFrom w4.heap.size W W1:=⟨hg5.size,fun k o hB hk ho=>(hg5.block k (gE.1 hk).1 (fun e=>by cases e;omega)).trans hk⟩
   have KK:KB w3.heap.size W W1:=hg5.block w3.heap.size (show w3.heap.size<W.heap.size by omega) (fun e=>by cases e;omega)
   have hI:Who W1 bm (n+(pre++[q]).length) (zDg f (pre++[q]) t.id)/\Turns (fun k=>k=bm) w4 W1:=
    ⟨by rw [zJ2,List.length_append,<-Nat.add_assoc];exact hw5,hT.trans ((Turns.of_grown (w:=W.drew) hg5 (fun k e=>by cases e;exact .inl rfl)).undrew)⟩
   have HI:=zAb hI;clear hg5 hw5 hwh hdW PW FW hI;gi_wp2_with fail;gi_region
   all_goals
    gi_wp2
    exact ⟨KF,KK,HI.out⟩
  case done =>
   rintro D xs W hD hxs ⟨hwh,hT⟩ hK;rw [hxs] at hwh;have hdp:D≠p:=by omega
   have hdb:D≠bm:=by omega
   have TD:Turns (fun k=>k=D) W (W.putObj D (.deferred none)):=Turns.of_grown (grownBy_putObj' W D (.deferred none)) (fun k e=>by cases e;rfl);have hbp:bm≠p:=hd4.ne_map hw4;have hrowlt:=hl4.lt g rfl
   have hSt:zY6 w p bm n W_ H tv bv ev f l t (W.putObj D (.deferred none)):=by
    refine ⟨g,cap,(hd4.kept hT (fun e=>hbp e.symm)).kept TD (fun e=>hdp e.symm),(hl4.kept hT (fun k e h=>?_)).kept TD (fun k e h=>?_),?_,?_,?_⟩
    ·subst h;exact zEy hl4 hw4 e
    ·simp [Value.ownBlock] at e;omega
    ·rw [hL];exact hwh.kept TD (fun e=>hdb e.symm)
    ·refine ((T4.mono (fun k _ h=>h.elim .inl (fun h => .inr (.inr h)))).trans (hT.mono (fun k _ h => .inl (.inr (.inl h))))).trans (TD.mono (fun k _ h => .inr ?_));have h1:=T4.size;omega
    ·rcases hloc with h|h
     ·exact .inl h
     ·right;have h1:=T1.size;have:w1.heap.size+1<=g:=by simpa using h
      omega
   have HS:=zAb hSt;clear hSt;gi_wp2_with fail;refine ⟨by simp,.inl ⟨_,_,rfl,run_takeDeferred hK,?_⟩⟩;exact ⟨.tuple #[],by simp [results,Tryz.f35,go_sem],rfl,HS.out⟩
  case stop =>
   rintro D c pre W hD hpre hIx hK;exact hIx.elim
 refine wp_region_held_drew (S:=fun w'=>w'.cell? ⟨w.heap.size,0,none⟩=some (ptr p)/\
  (w'.cell? ⟨w.heap.size+1,0,none⟩=some (O ii t.id)/\w'.cell? ⟨w.heap.size+1,1,none⟩=some (O ii t.x)/\w'.cell? ⟨w.heap.size+1,2,none⟩=some (O ii t.y)/\w'.cell? ⟨w.heap.size+1,3,none⟩=some (O ii t.a)/\w'.cell? ⟨w.heap.size+1,4,none⟩=some (O ii t.b))) (by kernel_rfl) hS00 (fun hHeld=>?_)
 refine wpAnyH_take (i:=0) (v:=?_) rfl (by kernel_rfl) (by kernel_rfl) (by kernel_rfl) (fun _ _ _ h=>h.elim) (Or.inl ⟨by rfl,?_⟩) (by assumption) ?_
 rotate_left
 ·intro wx hSw;try dsimp only at hSw
  go_simp;try with_reducible rfl
 try simp only [Act.put,List.getElem_toArray,List.getElem_cons_zero,List.setIfInBounds_toArray,List.set_cons_zero,List.set_cons_succ]
 refine wpAnyH_take (i:=1) (v:=?_) rfl (by kernel_rfl) (by kernel_rfl) (by kernel_rfl) (fun _ _ _ h=>h.elim) (Or.inl ⟨by rfl,?_⟩) (by assumption) ?_
 rotate_left
 ·intro wx hSw;try dsimp only at hSw
  go_simp;try with_reducible rfl
 try simp only [zp]
 refine wpAnyH_take (i:=2) (v:=?_) rfl (by kernel_rfl) (by kernel_rfl) (by kernel_rfl) (fun _ _ _ h=>h.elim) (Or.inl ⟨by rfl,?_⟩) (by assumption) ?_
 rotate_left
 ·intro wx hSw;try dsimp only at hSw
  go_simp;try with_reducible rfl
 try simp only [zp]
 refine wpAnyH_take (i:=3) (v:=?_) rfl (by kernel_rfl) (by kernel_rfl) (by kernel_rfl) (fun _ _ _ h=>h.elim) (Or.inl ⟨by rfl,?_⟩) (by assumption) ?_
 rotate_left
 ·intro wx hSw;try dsimp only at hSw
  go_simp;try with_reducible rfl
 try simp only [zp]
 refine wpAnyH_take (i:=5) (v:=?_) rfl (by kernel_rfl) (by kernel_rfl) (by kernel_rfl) (fun _ _ _ h=>h.elim) (Or.inl ⟨by rfl,?_⟩) (by assumption) ?_
 rotate_left
 ·intro wx hSw;try dsimp only at hSw
  go_simp;try with_reducible rfl
 try simp only [zp]
 refine wpAnyH_take (i:=6) (v:=?_) rfl (by kernel_rfl) (by kernel_rfl) (by kernel_rfl) (fun _ _ _ h=>h.elim) (Or.inl ⟨by rfl,?_⟩) (by assumption) ?_
 rotate_left
 ·intro wx hSw;try dsimp only at hSw
  go_simp;try with_reducible rfl
 try simp only [zp]
 refine wpAnyH_ready (rs:=[4,7]) (by kernel_rfl) (by simp) ?_;refine AllReadyH.cons rfl (fun K hK=>?_) ?_
 ·go_simp;refine hK.out _ _ ?_ (fun hHeld=>?_)
  ·first|exact hS00|exact hS1 _|exact hS2 (by assumption)|exact hS3 (by assumption)
  clear hK K;try simp only [zp]
  refine wpAnyH_ready (rs:=[7]) (by kernel_rfl) (by simp) ?_;refine AllReadyH.cons rfl (fun K hK=>?_) ?_
  ·go_simp;refine hK.out _ _ ?_ (fun hHeld=>?_)
   ·first|exact hS00|exact hS1 _|exact hS2 (by assumption)|exact hS3 (by assumption)
   clear hK K;try simp only [zp]
   refine wpAnyH_ready (rs:=[8]) (by kernel_rfl) (by simp) ?_;refine AllReadyH.cons rfl (fun K hK=>?_) ?_
   ·go_simp;refine HI.out.mono ?_;rintro e w2 ⟨g,cap,rfl,hb2,hg2,hloc⟩;have hd2:=hW2 hg2;have c52:w2.cell? ⟨p,5,none⟩=some bv:=hd2.c 5;have f52:=hd2.f 5;try go_wp2_with fail
    refine hK.out _ _ ?_ (fun hHeld=>?_)
    ·first|exact hS00|exact hS1 _|exact hS2 (by assumption)|exact hS3 (by assumption)
    clear hK K;try simp only [zp]
    refine wpAnyH_take (i:=9) (v:=?_) rfl (by kernel_rfl) (by kernel_rfl) (by kernel_rfl) (fun _ _ _ h=>h.elim) (Or.inl ⟨by rfl,?_⟩) (by assumption) ?_
    rotate_left
    ·intro wx hSw;try dsimp only at hSw
     go_simp;try with_reducible rfl
    try simp only [zp]
    refine wpAnyH_take (i:=10) (v:=?_) rfl (by kernel_rfl) (by kernel_rfl) (by kernel_rfl) (fun _ _ _ h=>h.elim) (Or.inl ⟨by rfl,?_⟩) (by assumption) ?_
    rotate_left
    ·intro wx hSw;try dsimp only at hSw
     go_simp;try with_reducible rfl
    try simp only [zp]
    refine wpAnyH_ready (rs:=[11]) (by kernel_rfl) (by simp) ?_;refine AllReadyH.cons rfl (fun K hK=>?_) ?_
    ·go_simp;refine hK.out _ _ ?_ (fun hHeld=>?_)
     ·first|exact hS00|exact hS1 _|exact hS2 (by assumption)|exact hS3 (by assumption)
     clear hK K;try simp only [zp]
     refine wpAnyH_done (by kernel_rfl) ?_ _;exact ⟨w2,g,cap,rfl,rfl,hb2,hg2,hloc⟩
    exact AllReadyH.nil
   exact AllReadyH.nil
  exact AllReadyH.nil
 refine AllReadyH.cons rfl (fun K hK=>?_) ?_
 ·go_simp;refine hK.out _ _ ?_ (fun hHeld=>?_)
  ·first|exact hS00|exact hS1 _|exact hS2 (by assumption)|exact hS3 (by assumption)
  clear hK K;try simp only [zp]
  refine wpAnyH_ready (rs:=[4]) (by kernel_rfl) (by simp) ?_;refine AllReadyH.cons rfl (fun K hK=>?_) ?_
  ·go_simp;refine hK.out _ _ ?_ (fun hHeld=>?_)
   ·first|exact hS00|exact hS1 _|exact hS2 (by assumption)|exact hS3 (by assumption)
   clear hK K;try simp only [zp]
   refine wpAnyH_ready (rs:=[8]) (by kernel_rfl) (by simp) ?_;refine AllReadyH.cons rfl (fun K hK=>?_) ?_
   ·go_simp;refine HI.out.mono ?_;rintro e w2 ⟨g,cap,rfl,hb2,hg2,hloc⟩;have hd2:=hW2 hg2;have c52:w2.cell? ⟨p,5,none⟩=some bv:=hd2.c 5;have f52:=hd2.f 5;try go_wp2_with fail
    refine hK.out _ _ ?_ (fun hHeld=>?_)
    ·first|exact hS00|exact hS1 _|exact hS2 (by assumption)|exact hS3 (by assumption)
    clear hK K;try simp only [zp]
    refine wpAnyH_take (i:=9) (v:=?_) rfl (by kernel_rfl) (by kernel_rfl) (by kernel_rfl) (fun _ _ _ h=>h.elim) (Or.inl ⟨by rfl,?_⟩) (by assumption) ?_
    rotate_left
    ·intro wx hSw;try dsimp only at hSw
     go_simp;try with_reducible rfl
    try simp only [zp]
    refine wpAnyH_take (i:=10) (v:=?_) rfl (by kernel_rfl) (by kernel_rfl) (by kernel_rfl) (fun _ _ _ h=>h.elim) (Or.inl ⟨by rfl,?_⟩) (by assumption) ?_
    rotate_left
    ·intro wx hSw;try dsimp only at hSw
     go_simp;try with_reducible rfl
    try simp only [zp]
    refine wpAnyH_ready (rs:=[11]) (by kernel_rfl) (by simp) ?_;refine AllReadyH.cons rfl (fun K hK=>?_) ?_
    ·go_simp;refine hK.out _ _ ?_ (fun hHeld=>?_)
     ·first|exact hS00|exact hS1 _|exact hS2 (by assumption)|exact hS3 (by assumption)
     clear hK K;try simp only [zp]
     refine wpAnyH_done (by kernel_rfl) ?_ _;exact ⟨w2,g,cap,rfl,rfl,hb2,hg2,hloc⟩
    exact AllReadyH.nil
   exact AllReadyH.nil
  exact AllReadyH.nil
 exact AllReadyH.nil
end
end Go.Proofs.YtejjcenhjpjefaaGreatDoor
