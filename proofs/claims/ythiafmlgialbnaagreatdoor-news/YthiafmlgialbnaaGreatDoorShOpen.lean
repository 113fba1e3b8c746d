import Derived.Test.YthiafmlgialbnaaGreatDoorHas
import Derived.Test.YthiafmlgialbnaaGreatDoorSpan
import Derived.ProofKit
import Derived.LaidMore
import Derived.OpenShut
import Derived.Stop.Joined
import Derived.Deep.Strs
import Derived.Test.YthiafmlgialbnaaGreatDoorNew
import Derived.Deep.Slices
import Derived.Lib.SmallJoins
import Derived.Test.YthiafmlgialbnaaGreatDoorSides
set_option linter.all false
set_option maxRecDepth 1000000
set_option maxHeartbeats 64000000
open Go.Proofs.Tryz
open Go.Proofs.Tryz renaming prog->pg
open Go.Value renaming int->O
open Go.IntKind renaming i64->ii
namespace Go.Proofs.YthiafmlgialbnaaGreatDoor
open Go.RowKit
def isC (c:Int):Bool:=decide (0<=c/\c<4)
theorem zQ0 (c:Int):isC c=true↔(0<=c/\c<4):=by simp [isC]
theorem zQz (c:Int):isC c=false↔¬(0<=c/\c<4):=by simp only [isC,decide_eq_false_iff_not]
def shB (c s:Int):Bool:=isC c&&decide (1<=s/\s<=4)
theorem zWy (c s:Int):shB c s=true↔((0<=c/\c<4)/\1<=s/\s<=4):=by simp [shB,isC]
theorem zHz {c s:Int} (h:¬((0<=c/\c<4)/\1<=s/\s<=4)):shB c s=false:=by rw [Bool.eq_false_iff,ne_eq,zWy];exact h
def onB (c t:Int):Bool:=(decide (c=0)&&(decide (t=0) || decide (t=1))) || (decide (c=1)&&decide (t=0)) || (decide (c=2)&&decide (t=2)) || (decide (c=3)&&(decide (t=0) || decide (t=2)))
def grN (k:Nat):Int:=match k with
 |0=>3|1=>1|2=>4|_=>5
def Grnd (w:World):Prop:=1<w.heap.size/\∀k:Nat,k<4->w.cell? ⟨1,k,none⟩=some (.int .u8 (grN k))
theorem Grnd.kept {w w':World} (h:Grnd w) (hb:Below w.heap.size w w'):Grnd w':=
 ⟨Nat.lt_of_lt_of_le h.1 hb.size,fun k hk=>(hb.cell (p:=⟨1,k,none⟩) h.1).trans (h.2 k hk)⟩
theorem zL6 (c:Int) (w:World):Calls pg 54 #[O ii c] w fun e w'=>e = .returned (.bool (isC c))/\w'=w:=by
 by_cases h1:0<=c
 ·by_cases h2:c<4
  ·go_enter func54,ntmps54;go_wp2
   go_ret;exact ⟨zAm (by simp [isC,h1,h2]),rfl⟩
  ·go_enter func54,ntmps54;go_wp2
   go_ret;exact ⟨zAm (by simp [isC,h1,h2]),rfl⟩
 ·go_enter func54,ntmps54;go_wp2
  go_ret;exact ⟨zAm (by rw [eq_comm,zQz];omega),rfl⟩
theorem zBl {c:Int} {b:Bool} (w:World) (h:isC c=b):Calls pg 54 #[O ii c] w fun e w'=>e = .returned (.bool b)/\w'=w:=by subst h;exact zL6 c w
abbrev shv (c s:Int):Value:=.agg #[O ii c,O ii s]
theorem zPn (c s:Int) (w:World):Calls pg 27 #[shv c s] w fun e w'=>e = .returned (.bool (shB c s))/\Below w.heap.size w w':=by
 cases hc:isC c
 ·go_enter func27,ntmps27;go_wp2_with (go_at_call 54;refine (zBl _ hc).mono ?_;rintro e w' ⟨rfl,rfl⟩);go_ret;exact ⟨zAm (by simp [shB,hc]),zAk _ _⟩
 ·by_cases h1:1<=s
  ·by_cases h2:s<=4
   ·go_enter func27,ntmps27;go_wp2_with (go_at_call 54;refine (zBl _ hc).mono ?_;rintro e w' ⟨rfl,rfl⟩);go_ret;exact ⟨zAm (by simp [shB,hc,h1,h2]),zAk _ _⟩
   ·go_enter func27,ntmps27;go_wp2_with (go_at_call 54;refine (zBl _ hc).mono ?_;rintro e w' ⟨rfl,rfl⟩);go_ret;exact ⟨zAm (by rw [zHz (by omega)];simp;omega),zAk _ _⟩
  ·go_enter func27,ntmps27;go_wp2_with (go_at_call 54;refine (zBl _ hc).mono ?_;rintro e w' ⟨rfl,rfl⟩);go_ret;exact ⟨zAm (by rw [zHz (by omega)]),zAk _ _⟩
theorem qA5 {c t:Int} (h:isC c=false):onB c t=false:=by
 rw [zQz] at h;have h0:c≠0:=by omega
 have h1:c≠1:=by omega
 have h2:c≠2:=by omega
 have h3:c≠3:=by omega
 simp [onB,h0,h1,h2,h3]
theorem zQg {c t:Int} (h:¬(0<=t/\t<4)):onB c t=false:=by
 have h0:t≠0:=by omega
 have h1:t≠1:=by omega
 have h2:t≠2:=by omega
 simp [onB,h0,h1,h2]
theorem qA3 (c t:Nat) (w:World) (hc:c<4) (ht:t<4) (hg:Grnd w):Calls pg 192 #[O ii c,O ii t] w fun e w'=>e = .returned (.bool (onB c t))/\w'=w:=by
 have hi:isC (c:Int)=true:=(zQ0 _).2 (by omega);have c0:=hg.2 0 (by decide);have c1:=hg.2 1 (by decide);have c2:=hg.2 2 (by decide);have c3:=hg.2 3 (by decide);simp only [grN] at c0 c1 c2 c3;clear hg
 match c,hc,hi,t,ht with
 |0,_,hi,0,_|0,_,hi,1,_|0,_,hi,2,_|0,_,hi,3,_|1,_,hi,0,_|1,_,hi,1,_|1,_,hi,2,_|1,_,hi,3,_|2,_,hi,0,_|2,_,hi,1,_|2,_,hi,2,_|2,_,hi,3,_|3,_,hi,0,_|3,_,hi,1,_|3,_,hi,2,_|3,_,hi,3,_ =>
  go_enter func192,ntmps192;go_wp2_with (go_at_call 54;refine (zBl _ hi).mono ?_;rintro e w' ⟨rfl,rfl⟩);go_ret;exact ⟨rfl,rfl⟩
theorem qA4 (c t:Int) (w:World) (hg:Grnd w):Calls pg 192 #[O ii c,O ii t] w fun e w'=>e = .returned (.bool (onB c t))/\w'=w:=by
 cases hi:isC c
 ·rw [qA5 hi];go_enter func192,ntmps192;go_wp2_with (go_at_call 54;refine (zBl _ hi).mono ?_;rintro e w' ⟨rfl,rfl⟩);go_ret;exact ⟨rfl,rfl⟩
 ·by_cases h0:0<=t
  ·by_cases h1:t<4
   ·have h:=(zQ0 _).1 hi;have:=qA3 c.toNat t.toNat w (by omega) (by omega) hg
    rwa [Int.toNat_of_nonneg h.1,Int.toNat_of_nonneg h0] at this
   ·rw [zQg (by omega)];go_enter func192,ntmps192;go_wp2_with (go_at_call 54;refine (zBl _ hi).mono ?_;rintro e w' ⟨rfl,rfl⟩);go_ret;exact ⟨rfl,rfl⟩
  ·rw [zQg (by omega)];go_enter func192,ntmps192;go_wp2_with (go_at_call 54;refine (zBl _ hi).mono ?_;rintro e w' ⟨rfl,rfl⟩);go_ret;exact ⟨rfl,rfl⟩
theorem zEp {c s:Int} {b:Bool} (w:World) (h:shB c s=b):Calls pg 27 #[shv c s] w fun e w'=>e = .returned (.bool b)/\Below w.heap.size w w':=by subst h;exact zPn c s w
theorem zHe {x y a b:Int} {c:Bool} (w:World) (h:may x y a b=c):Calls pg 25 #[.agg #[O ii x,O ii y,O ii a,O ii b]] w fun e w'=>e = .returned (.bool c)/\Below w.heap.size w w':=by subst h;exact zJe x y a b w
theorem zH7 {x y a b:Int} {c:Bool} (w:World) (h:may x y a b=c):Calls pg 148 #[.agg #[O ii x,O ii y,O ii a,O ii b]] w fun e w'=>e = .returned (.bool c)/\Below w.heap.size w w':=by subst h;exact zH8 x y a b w
def fB (c s x y:Int):Bool:=shB c s&&may x y s s
def fi (c s x y z:Int):Int:=if fB c s x y=true then z else 0
abbrev ftV (c s x y:Int):Value:=.agg #[O ii (fi c s x y x),O ii (fi c s x y y),O ii (fi c s x y s),O ii (fi c s x y s)]
theorem zE5 {c s x y z:Int} (h:fB c s x y=false):fi c s x y z=0:=by simp [fi,h]
theorem zF6 {c s x y z:Int} (h:fB c s x y=true):fi c s x y z=z:=by simp [fi,h]
abbrev WF (w:World) (c s x y:Int):World:=(((w.alloc (.cells #[O ii c,O ii s] 27)).alloc (.cells #[O ii x,O ii y] 47)).alloc (.cells #[O ii 0,O ii 0,O ii 0,O ii 0] 49)).alloc (.cells #[O ii x,O ii y,O ii s,O ii s] 49)
theorem zDx (w:World) (c s x y:Int):Below w.heap.size w (WF w c s x y):=bt (zA5 _ _ _) (zA5 _ _ _)
theorem zBz {w w1:World} {c s x y:Int} (h:Below (WF w c s x y).heap.size (WF w c s x y) w1) :
 Four w1 (w.heap.size+1+1) 0 0 0 0/\Four w1 (w.heap.size+1+1+1) x y s s:=by
 have h2:=zA2 (bt (zAk _ _) h);have h3:=zA2 h;constructor
 ·simpa [Four] using h2
 ·simpa [Four] using h3
theorem zT8 (c s x y:Int) (w:World) (h:shB c s=false):Calls pg 160 #[shv c s,.agg #[O ii x,O ii y]] w fun e w'=>e = .returned (ftV c s x y)/\Below w.heap.size w w':=by
 have hB:fB c s x y=false:=by simp [fB,h]
 unfold ftV;rw [zE5 hB,zE5 hB,zE5 hB];go_enter func160,ntmps160;go_wp2_with fail;refine (zEp _ h).mono ?_;rintro e w1 ⟨rfl,hb1⟩;have HB:=zAc (bt (zDx w c s x y) hb1);obtain ⟨⟨⟨g0,g1,g2,g3⟩,⟨f0,f1,f2,f3⟩,z⟩,-⟩:=zBz hb1;clear hb1;go_wp2_with fail;refine bodyPost_ret (v:=.agg #[O ii 0,O ii 0,O ii 0,O ii 0]) (by simp [results,Tryz.results160,go_sem,g0,g1,g2,g3]) rfl ⟨rfl,?_⟩;exact (((HB.out.setCell (by simp;omega) _).setCell (by simp;omega) _).setCell (by simp;omega) _).setCell (by simp;omega) _
theorem zT7 (c s x y:Int) (w:World) (h:shB c s=true) (hm:may x y s s=false):Calls pg 160 #[shv c s,.agg #[O ii x,O ii y]] w fun e w'=>e = .returned (ftV c s x y)/\Below w.heap.size w w':=by
 have hB:fB c s x y=false:=by simp [fB,hm]
 unfold ftV;rw [zE5 hB,zE5 hB,zE5 hB];go_enter func160,ntmps160;go_wp2_with fail;refine (zEp _ h).mono ?_;rintro e w1 ⟨rfl,hb1⟩;have HB1:=zAc hb1;obtain ⟨-,⟨⟨q0,q1,q2,q3⟩,-,-⟩⟩:=zBz hb1;clear hb1;go_wp2_with fail;refine (zHe _ hm).mono ?_;rintro e w2 ⟨rfl,hb2⟩;have hb:=bt HB1.out hb2;clear q0 q1 q2 q3 hb2 HB1;have HB:=zAc (bt (zDx w c s x y) hb);obtain ⟨⟨⟨g0,g1,g2,g3⟩,⟨f0,f1,f2,f3⟩,z⟩,⟨⟨q0,q1,q2,q3⟩,-,-⟩⟩:=zBz hb;clear hb;go_wp2_with fail;refine bodyPost_ret (v:=.agg #[O ii 0,O ii 0,O ii 0,O ii 0]) (by simp [results,Tryz.results160,go_sem,g0,g1,g2,g3]) rfl ⟨rfl,?_⟩;exact (((HB.out.setCell (by simp;omega) _).setCell (by simp;omega) _).setCell (by simp;omega) _).setCell (by simp;omega) _
theorem zT6 (c s x y:Int) (w:World) (h:shB c s=true) (hm:may x y s s=true):Calls pg 160 #[shv c s,.agg #[O ii x,O ii y]] w fun e w'=>e = .returned (ftV c s x y)/\Below w.heap.size w w':=by
 have hB:fB c s x y=true:=by simp [fB,h,hm]
 unfold ftV;rw [zF6 hB,zF6 hB,zF6 hB];go_enter func160,ntmps160;go_wp2_with fail;refine (zEp _ h).mono ?_;rintro e w1 ⟨rfl,hb1⟩;have HB1:=zAc hb1;obtain ⟨-,⟨⟨q0,q1,q2,q3⟩,-,-⟩⟩:=zBz hb1;clear hb1;go_wp2_with fail;refine (zHe _ hm).mono ?_;rintro e w2 ⟨rfl,hb2⟩;have hb:=bt HB1.out hb2;clear q0 q1 q2 q3 hb2 HB1;have HB:=zAc (bt (zDx w c s x y) hb);obtain ⟨⟨⟨g0,g1,g2,g3⟩,⟨f0,f1,f2,f3⟩,z⟩,⟨⟨q0,q1,q2,q3⟩,-,-⟩⟩:=zBz hb;clear hb;go_wp2_with fail;refine bodyPost_ret (v:=.agg #[O ii x,O ii y,O ii s,O ii s]) (by simp [results,Tryz.results160,go_sem,g0,g1,g2,g3]) rfl ⟨rfl,?_⟩;exact (((HB.out.setCell (by simp;omega) _).setCell (by simp;omega) _).setCell (by simp;omega) _).setCell (by simp;omega) _
theorem zT9 (c s x y:Int) (w:World):Calls pg 160 #[shv c s,.agg #[O ii x,O ii y]] w fun e w'=>e = .returned (ftV c s x y)/\Below w.heap.size w w':=by
 cases h:shB c s
 ·exact zT8 c s x y w h
 ·cases hm:may x y s s
  ·exact zT7 c s x y w h hm
  ·exact zT6 c s x y w h hm
section
open Go.ChangeAt Go.ChangeShapes Go.Deep Go.Joins Go.WideElems Go.WideMaps Go.WideShapes
theorem own:ownKnob Tryz.prog.godebug=none:=by kernel_rfl
theorem c3:Tryz.prog.cellsOf 3=1:=by kernel_rfl
theorem c23:Tryz.prog.cellsOf 47=2:=by kernel_rfl
theorem c34:Tryz.prog.cellsOf 49=4:=by kernel_rfl
theorem zRv {H:Type} {enc:TypeId×Value->H} {W:World} {base:Nat} {sp:Nat->Bool} {held:Bool} {fuel:Nat} {cs:List Value} {z:DataW H×List MemPlace} (h:DataW.trod enc Tryz.prog W base sp held fuel 47 cs=some z) :
 ∃x y:Int,cs=[.int .i64 x,.int .i64 y]/\z=(.agg [.lit (.int .i64 x),.lit (.int .i64 y)],[])/\(Lit.int .i64 x).wf=true/\(Lit.int .i64 y).wf=true:=by
 obtain ⟨y0,y1,n,rfl,hl,h0,h1⟩:=trod_struct2 Tryz.underlying47 h;obtain ⟨a,e0,rfl,w0⟩:=DataW.trod_int Tryz.underlying3 h0;obtain ⟨b,e1,rfl,w1⟩:=DataW.trod_int Tryz.underlying3 h1;rw [c23] at hl
 match cs,hl,e0,e1 with
 | [u,v],_,e0,e1 =>
  simp [c3] at e0 e1;subst e0;subst e1;exact ⟨a,b,rfl,by simp,w0,w1⟩
section
variable {H:Type} {enc:TypeId×Value->H} {W:World}
theorem zXp {base:Nat} {sp:Nat->Bool} {held:Bool} {fuel:Nat} {cs:List Value} {z:DataW H×List MemPlace} (h:DataW.trod enc Tryz.prog W base sp held fuel 49 cs=some z) :
 ∃x y a b:Int,cs=[.int .i64 x,.int .i64 y,.int .i64 a,.int .i64 b]/\z=(.agg [.agg [.lit (.int .i64 x),.lit (.int .i64 y)],.lit (.int .i64 a),.lit (.int .i64 b)],[])/\((Lit.int .i64 x).wf=true/\(Lit.int .i64 y).wf=true)/\(Lit.int .i64 a).wf=true/\(Lit.int .i64 b).wf=true:=by
 obtain ⟨y0,y1,y2,n,rfl,hl,h0,h1,h2⟩:=trod_struct3 Tryz.underlying49 h;obtain ⟨x,y,e0,rfl,w0,w0'⟩:=zRv h0;obtain ⟨a,e1,rfl,w1⟩:=DataW.trod_int Tryz.underlying3 h1;obtain ⟨b,e2,rfl,w2⟩:=DataW.trod_int Tryz.underlying3 h2;rw [c34] at hl
 match cs,hl,e0,e1,e2 with
 | [u,v,s,t],_,e0,e1,e2 =>
  simp [c3,c23] at e0 e1 e2;obtain ⟨rfl,rfl⟩:=e0;subst e1;subst e2;exact ⟨x,y,a,b,rfl,by simp,⟨w0,w0'⟩,w1,w2⟩
abbrev qDr (x y a b:Int):Value:=.agg #[.int .i64 x,.int .i64 y,.int .i64 a,.int .i64 b]
abbrev qDs {H:Type} (x y a b:Int):DataW H:=.agg [.agg [.lit (.int .i64 x),.lit (.int .i64 y)],.lit (.int .i64 a),.lit (.int .i64 b)]
end
theorem cBd:Tryz.prog.cellsOf 51=5:=by kernel_rfl
theorem cMp:Tryz.prog.cellsOf 25=4:=by kernel_rfl
theorem cSl:Tryz.prog.cellsOf 22=1:=by kernel_rfl
theorem qDx:Tryz.prog.cellsOf 23=1:=by kernel_rfl
section
variable {H:Type} {enc:TypeId×Value->H} {W:World} {base:Nat} {sp:Nat->Bool} {held:Bool}
theorem zKe {fuel:Nat} {v:Value} {x:DataW H×List MemPlace} (h:DataW.trod enc Tryz.prog W base sp held fuel 22 [v]=some x):∃l,TlR W v l/\∀n∈l,n<256:=by
 rcases open_ints Tryz.underlying22 Tryz.underlying5 (by kernel_rfl) h with ⟨hcs,hx⟩|⟨a,l,c,zs,hcs,_,hl,hm,hz,hx,hcell,hwz⟩
 ·simp at hcs;subst hcs;exact ⟨[],⟨none,0,rfl,Nat.le_refl _,by decide,fun _=>⟨rfl,rfl⟩,fun i x hx=>by simp at hx⟩,fun n hn=>by simp at hn⟩
 ·simp at hcs;subst hcs;have hlz:l<=zs.length:=by rw [hz];split<;>omega
  have hl2:(zs.take l).length=l:=by rw [List.length_take];omega
  have hbz:∀z∈zs,0<=z/\z<256:=fun z hz=>by have:=bounds_u8 (hwz z hz);omega
  refine ⟨(zs.take l).map Int.toNat,⟨some a,c,by rw [List.length_map,hl2],by rw [List.length_map,hl2];exact hl,by rw [List.length_map,hl2];omega,(fun h=>by cases h),fun i x hx=>?_⟩,fun n hn=>?_⟩
  ·rw [List.getElem?_map] at hx
   cases hi:(zs.take l)[i]? with
   |none=>rw [hi] at hx;cases hx
   |some z =>
    rw [hi] at hx;cases hx;have hil:i<l:=by have:=(List.getElem?_eq_some_iff.1 hi).1;omega
    rw [List.getElem?_take_of_lt hil] at hi;have hci:=hcell i (by omega);rw [List.getD_eq_getElem?_getD,hi] at hci;obtain ⟨b,o,s⟩:=a;obtain rfl:s=none:=by simpa [Addr.add] using World.cell?_spot (hcell 0 (by omega))
    rw [Addr.add_lit] at hci;have hb:=hbz z (List.mem_of_getElem? hi);refine ⟨b,o,rfl,World.block_lt_of_cell? _ _ hci,?_⟩;rw [hci];simp;omega
  ·obtain ⟨z,hz,rfl⟩:=List.mem_map.1 hn;have:=hbz z (List.mem_of_mem_take hz);omega
theorem qCe {fuel:Nat} {cs:List Value} {z:DataW H×List MemPlace} (h:DataW.trod enc Tryz.prog W base sp held fuel 51 cs=some z):∃t:Bd,cs=[.int .i64 t.id,.int .i64 t.x,.int .i64 t.y,.int .i64 t.a,.int .i64 t.b]:=by
 obtain ⟨y0,y1,n,rfl,hl,h0,h1⟩:=trod_struct2 Tryz.underlying51 h;obtain ⟨i,e0,rfl,w0⟩:=DataW.trod_int Tryz.underlying3 h0;obtain ⟨x,y,a,b,e1,rfl,_,_⟩:=zXp h1;rw [cBd] at hl
 match cs,hl,e0,e1 with
 | [q,u,v,s,t],_,e0,e1 =>
  simp [c3,c34] at e0 e1;subst e0;obtain ⟨rfl,rfl,rfl,rfl⟩:=e1;exact ⟨⟨i,x,y,a,b⟩,rfl⟩
theorem zO2 {b o:Nat} {c0 c1 c2 c3 c4:Value} (h:W.cells? base ⟨b,o,none⟩ 5=some [c0,c1,c2,c3,c4]) :
 W.cell? ⟨b,o,none⟩=some c0/\W.cell? ⟨b,o+1,none⟩=some c1/\W.cell? ⟨b,o+2,none⟩=some c2/\W.cell? ⟨b,o+3,none⟩=some c3/\W.cell? ⟨b,o+4,none⟩=some c4:=by
 obtain ⟨_,_,hc⟩:=World.cells?_some h;have h0:=hc 0 (by omega);have h1:=hc 1 (by omega);have h2:=hc 2 (by omega);have h3:=hc 3 (by omega);have h4:=hc 4 (by omega);simp only [Addr.add_lit] at h0 h1 h2 h3 h4;exact ⟨h0,h1,h2,h3,h4⟩
theorem zLy {fuel:Nat} {v:Value} {x:DataW H×List MemPlace} (h:DataW.trod enc Tryz.prog W base sp held fuel 23 [v]=some x):∃L,BdR W v L:=by
 rcases open_slice Tryz.underlying23 h with ⟨hcs,hx⟩|⟨a,len,cap,m,n,D,Pl,hcs,hb,hl,hm,hmm,hx,hel⟩
 ·simp only [List.cons.injEq,and_true] at hcs;subst hcs;exact ⟨[],BdR.nil W⟩
 ·simp only [List.cons.injEq,and_true] at hcs;subst hcs;have hlm:len<=m:=by rw [hmm];split<;>omega
  rw [cBd] at hel;have hit:Inhabited Bd:=⟨⟨0,0,0,0,0⟩⟩
  obtain ⟨T,hT⟩:=choose_lt (α:=Bd) (p:=fun i t=>BdAtR W (some a) i t) (n:=len) (fun i hi=>by
   obtain ⟨cs',h1,h2⟩:=hel i (by omega);obtain ⟨t,rfl⟩:=qCe h2;obtain ⟨cs0,g1,g2⟩:=hel 0 (by omega);obtain ⟨t0,rfl⟩:=qCe g2;have hc0:=(World.cells?_some g1).2.2 0 (by omega);obtain ⟨b,o,s⟩:=a
   have hsp:s=none:=by
    have:=World.cell?_spot (hc0.trans rfl);simpa [Addr.add] using this
   subst hsp;rw [Addr.add_lit] at h1;have h5:=zO2 h1
   exact ⟨t,b,o,rfl,World.block_lt_of_cell? _ _ h5.1,h5.1,h5.2.1,h5.2.2.1,h5.2.2.2.1,h5.2.2.2.2⟩)
  have hget:∀i t,((List.range len).map T)[i]? = some t->i<len/\t=T i:=by
   intro i t ht;simp only [List.getElem?_map,Option.map_eq_some_iff] at ht;obtain ⟨j,hj,rfl⟩:=ht;obtain ⟨h1,h2⟩:=List.getElem?_eq_some_iff.1 hj;simp only [List.length_range] at h1;simp only [List.getElem_range] at h2;subst h2;exact ⟨h1,rfl⟩
  refine ⟨(List.range len).map T,some a,cap,by simp,by simpa using hl,by simp;omega,(fun h=>by cases h),fun i t ht=>?_⟩;obtain ⟨h1,rfl⟩:=hget i t ht;exact hT i h1
theorem zOr {b0:Nat} {r:Reach} {v:Value} {d:DataW H} {p:List MemPlace} (hv:Value.okWide Tryz.prog W r b0 25 v) (h:DataW.Trod enc Tryz.prog W base sp held 25 v d p) :
 ∃(Wd Hd:Int) (tv bv:Value) (tl:List Nat) (L:List Bd),v=mp Wd Hd tv bv/\TlR W tv tl/\(∀n∈tl,n<256)/\BdR W bv L:=by
 obtain ⟨cs,rfl,hsz⟩:=okWide_struct Tryz.underlying25 hv;obtain ⟨fuel,hf⟩:=h;obtain ⟨y0,y1,y2,y3,n,hx,hl,e0,e1,e2,e3⟩:=trod_struct4 Tryz.underlying25 hf;rw [cMp] at hl;obtain ⟨l⟩:=cs;simp only [Value.cells] at hl e0 e1 e2 e3
 match l,hl with
 | [q0,q1,q2,q3],_ =>
  simp only [c3,cSl,qDx,List.drop_zero,List.drop_succ_cons,List.take_succ_cons,List.take_zero] at e0 e1 e2 e3;obtain ⟨x0,r0,-,-⟩:=DataW.trod_int Tryz.underlying3 e0;obtain ⟨x1,r1,-,-⟩:=DataW.trod_int Tryz.underlying3 e1;simp at r0 r1;subst r0;subst r1;obtain ⟨tl,ht,hb⟩:=zKe e2;obtain ⟨L,hL⟩:=zLy e3;exact ⟨x0,x1,q2,q3,tl,L,rfl,ht,hb,hL⟩
end
end
section
open Go.ChangeAt Go.ChangeShapes Go.Deep Go.WideElems Go.WideMaps Go.WideShapes
abbrev zOt : List (String × DataW Unit) := [("phalanx/cell.offsets", Rows.laid_phalanx_cell_offsets), ("phalanx/class.grounds", Rows.laid_phalanx_class_grounds)]
theorem qC7 : Tryz.prog.globalNamed "phalanx/cell.offsets" = some 0 := by kernel_rfl
theorem qC8 : Tryz.prog.globalNamed "phalanx/class.grounds" = some 1 := by kernel_rfl
theorem qCv:(Tryz.prog.globals[1]?).map (·.type)=some 254:=by kernel_rfl
theorem c5:Tryz.prog.cellsOf 5=1:=by kernel_rfl
theorem qCu:(Tryz.prog.globals[0]?).map (·.type)=some 236:=by kernel_rfl
theorem zUf (os:Os) (args:Array Value):laidMetH Tryz.prog zOt ((World.doorLaid Tryz.prog 400 os).forCall (fun _ _=>0) ⟨#[],args,[]⟩).memory:=
 laidMetH_of_parts3 (fuel:=8) (laidMet_of_run' 8 (by kernel_rfl) (by kernel_rfl)) (by kernel_rfl) (by kernel_rfl)
def qA6:List (DataW Unit):=[.agg [.lit (.int .i64 1),.lit (.int .i64 0)],.agg [.lit (.int .i64 0),.lit (.int .i64 1)],.agg [.lit (.int .i64 (-1)),.lit (.int .i64 0)],.agg [.lit (.int .i64 0),.lit (.int .i64 (-1))],.agg [.lit (.int .i64 1),.lit (.int .i64 1)],.agg [.lit (.int .i64 (-1)),.lit (.int .i64 1)],.agg [.lit (.int .i64 (-1)),.lit (.int .i64 (-1))],.agg [.lit (.int .i64 1),.lit (.int .i64 (-1))]]
theorem zTg (k:Nat) (hk:k<8):qA6[k]? = some (.agg [.lit (.int .i64 (dX k)),.lit (.int .i64 (dY k))]):=by
 match k,hk with
 |0,_|1,_|2,_|3,_|4,_|5,_|6,_|7,_=>rfl
theorem zKh {W:World} (h:laidMetH Tryz.prog zOt W):Offs W:=by
 rw [MakeChecks.laidMetH_plain _ _ _ (by kernel_rfl)] at h;obtain ⟨ps,⟨g0,t0,cs0,f0,p0,q0,hg0,ht0,hv0,hd0,_,_⟩,_,_⟩:=h;obtain rfl:=Option.some.inj (qC7.symm.trans hg0);obtain rfl:=Option.some.inj (qCu.symm.trans ht0);obtain ⟨xs,m1,rfl,hx1,hlen,hn,hel⟩:=DataW.trod_array Tryz.underlying236 hd0;simp only [Prod.mk.injEq] at hx1
 have hL:qA6=xs.map (·.1):=by
  have:=hx1.1;simp only [Rows.laid_phalanx_cell_offsets,DataW.agg.injEq] at this;exact this
 have hcells:∀k:Nat,k<8->W.cell? ⟨0,k*2,none⟩=some (.int .i64 (dX k))/\W.cell? ⟨0,k*2+1,none⟩=some (.int .i64 (dY k)):=by
  intro k hk;have hk':=hel k hk;rw [c23] at hk';obtain ⟨z,hz⟩:∃z,xs[k]? = some z:=⟨xs[k]'(by omega),List.getElem?_eq_getElem (by omega)⟩
  rw [hz] at hk';obtain ⟨x,y,hcs,rfl,_,_⟩:=zRv hk';have h1:=zTg k hk;rw [hL] at h1;simp only [List.getElem?_map,hz,Option.map_some,Option.some.injEq,DataW.agg.injEq,List.cons.injEq,DataW.lit.injEq,Lit.int.injEq,true_and,and_true] at h1;obtain ⟨rfl,rfl⟩:=h1
  have e0:cs0[k*2]? = some (.int .i64 (dX k)):=by
   have:=congrArg (·[0]?) hcs;simpa [List.getElem?_take,List.getElem?_drop] using this
  have e1:cs0[k*2+1]? = some (.int .i64 (dY k)):=by
   have:=congrArg (·[1]?) hcs;simpa [List.getElem?_take,List.getElem?_drop] using this
  exact ⟨(World.var?_cell hg0 hv0 (k*2)).trans e0,(World.var?_cell hg0 hv0 (k*2+1)).trans e1⟩
 exact ⟨World.block_lt_of_cell? W _ (hcells 0 (by decide)).1,hcells⟩
def qBv:List (DataW Unit):=[.lit (.int .u8 3),.lit (.int .u8 1),.lit (.int .u8 4),.lit (.int .u8 5)]
theorem zT1 (k:Nat) (hk:k<4):qBv[k]? = some (.lit (.int .u8 (grN k))):=by
 match k,hk with
 |0,_|1,_|2,_|3,_=>rfl
theorem zKs {W:World} (h:laidMetH Tryz.prog zOt W):Grnd W:=by
 rw [MakeChecks.laidMetH_plain _ _ _ (by kernel_rfl)] at h;obtain ⟨ps,⟨_,_,_,_,_,_,_,_,_,_,⟨g0,t0,cs0,f0,p0,q0,hg0,ht0,hv0,hd0,_,_⟩,_⟩,_,_⟩:=h;obtain rfl:=Option.some.inj (qC8.symm.trans hg0);obtain rfl:=Option.some.inj (qCv.symm.trans ht0);obtain ⟨xs,m1,rfl,hx1,hlen,hn,hel⟩:=DataW.trod_array Tryz.underlying254 hd0;simp only [Prod.mk.injEq] at hx1
 have hL:qBv=xs.map (·.1):=by
  have:=hx1.1;simp only [Rows.laid_phalanx_class_grounds,DataW.agg.injEq] at this;exact this
 have hcells:∀k:Nat,k<4->W.cell? ⟨1,k,none⟩=some (.int .u8 (grN k)):=by
  intro k hk;have hk':=hel k hk;rw [c5] at hk';obtain ⟨z,hz⟩:∃z,xs[k]? = some z:=⟨xs[k]'(by omega),List.getElem?_eq_getElem (by omega)⟩
  rw [hz] at hk';obtain ⟨a,hcs,rfl,_⟩:=DataW.trod_int Tryz.underlying5 hk';have h1:=zT1 k hk;rw [hL] at h1;simp only [List.getElem?_map,hz,Option.map_some,Option.some.injEq,DataW.lit.injEq,Lit.int.injEq,true_and] at h1;subst h1
  have e0:cs0[k]? = some (.int .u8 (grN k)):=by
   have:=congrArg (·[0]?) hcs;simpa [List.getElem?_take,List.getElem?_drop] using this
  exact (World.var?_cell hg0 hv0 k).trans e0
 exact ⟨World.block_lt_of_cell? W _ (hcells 0 (by decide)),hcells⟩
end
section
open Go.ChangeAt Go.ChangeShapes Go.Deep Go.WideElems Go.WideMaps Go.WideShapes
theorem c27:Tryz.prog.cellsOf 27=2:=by kernel_rfl
theorem zSz {H:Type} {enc:TypeId×Value->H} {W:World} {base:Nat} {sp:Nat->Bool} {held:Bool} {fuel:Nat} {cs:List Value} {z:DataW H×List MemPlace} (h:DataW.trod enc Tryz.prog W base sp held fuel 27 cs=some z) :
 ∃x y:Int,cs=[.int .i64 x,.int .i64 y]:=by
 obtain ⟨y0,y1,n,rfl,hl,h0,h1⟩:=trod_struct2 Tryz.underlying27 h;obtain ⟨a,e0,rfl,w0⟩:=DataW.trod_int Tryz.underlying3 h0;obtain ⟨b,e1,rfl,w1⟩:=DataW.trod_int Tryz.underlying3 h1;rw [c27] at hl
 match cs,hl,e0,e1 with
 | [u,v],_,e0,e1 =>
  simp [c3] at e0 e1;subst e0;subst e1;exact ⟨a,b,rfl⟩
theorem zKf {H:Type} {enc:TypeId×Value->H} {W:World} {base b0:Nat} {sp:Nat->Bool} {held:Bool} {r:Reach} {v:Value} {d:DataW H} {p:List MemPlace} (hv:Value.okWide Tryz.prog W r b0 27 v) (h:DataW.Trod enc Tryz.prog W base sp held 27 v d p) :
 ∃x y:Int,v = .agg #[.int .i64 x,.int .i64 y]:=by
 obtain ⟨cs,rfl,hsz⟩:=okWide_struct Tryz.underlying27 hv;obtain ⟨fuel,hf⟩:=h;obtain ⟨x,y,hcs⟩:=zSz hf;refine ⟨x,y,?_⟩;obtain ⟨l⟩:=cs;simp [Value.cells] at hcs;subst hcs;rfl
end
end Go.Proofs.YthiafmlgialbnaaGreatDoor
