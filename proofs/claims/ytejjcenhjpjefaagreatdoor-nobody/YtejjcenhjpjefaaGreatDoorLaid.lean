import Derived.Test.YtejjcenhjpjefaaGreatDoorHas
import Derived.Test.YtejjcenhjpjefaaGreatDoorSpan
import Derived.ProofKit
import Derived.LaidMore
import Derived.OpenShut
import Derived.Stop.Joined
import Derived.Deep.Strs
import Derived.Test.YtejjcenhjpjefaaGreatDoorNew
import Derived.Deep.Slices
import Derived.Lib.SmallJoins
import Derived.Test.YtejjcenhjpjefaaGreatDoorSides
set_option linter.all false
set_option maxRecDepth 1000000
set_option maxHeartbeats 64000000
open Go.Proofs.Tryz
open Go.Proofs.Tryz renaming prog->pg
open Go.Value renaming int->O
open Go.IntKind renaming i64->ii
namespace Go.Proofs.YtejjcenhjpjefaaGreatDoor
open Go.RowKit
def isC (c:Int):Bool:=decide (0<=c/\c<4)
theorem zO5 (c:Int):isC c=true↔(0<=c/\c<4):=by simp [isC]
theorem zO4 (c:Int):isC c=false↔¬(0<=c/\c<4):=by simp only [isC,decide_eq_false_iff_not]
def shB (c s:Int):Bool:=isC c&&decide (1<=s/\s<=4)
theorem zTt (c s:Int):shB c s=true↔((0<=c/\c<4)/\1<=s/\s<=4):=by simp [shB,isC]
theorem zSg {c s:Int} (h:¬((0<=c/\c<4)/\1<=s/\s<=4)):shB c s=false:=by rw [Bool.eq_false_iff,ne_eq,zTt];exact h
def onB (c t:Int):Bool:=(decide (c=0)&&(decide (t=0) || decide (t=1))) || (decide (c=1)&&decide (t=0)) || (decide (c=2)&&decide (t=2)) || (decide (c=3)&&(decide (t=0) || decide (t=2)))
def grN (k:Nat):Int:=match k with
 |0=>3|1=>1|2=>4|_=>5
def Grnd (w:World):Prop:=0<w.heap.size/\∀k:Nat,k<4->w.cell? ⟨0,k,none⟩=some (.int .u8 (grN k))
theorem Grnd.kept {w w':World} (h:Grnd w) (hb:Below w.heap.size w w'):Grnd w':=
 ⟨Nat.lt_of_lt_of_le h.1 hb.size,fun k hk=>(hb.cell (p:=⟨0,k,none⟩) h.1).trans (h.2 k hk)⟩
theorem zKk (c:Int) (w:World):Calls pg 75 #[O ii c] w fun e w'=>e = .returned (.bool (isC c))/\w'=w:=by
 by_cases h1:0<=c
 ·by_cases h2:c<4
  ·go_enter func75,ntmps75;go_wp2
   go_ret;exact ⟨zAm (by simp [isC,h1,h2]),rfl⟩
  ·go_enter func75,ntmps75;go_wp2
   go_ret;exact ⟨zAm (by simp [isC,h1,h2]),rfl⟩
 ·go_enter func75,ntmps75;go_wp2
  go_ret;exact ⟨zAm (by rw [eq_comm,zO4];omega),rfl⟩
theorem zBv {c:Int} {b:Bool} (w:World) (h:isC c=b):Calls pg 75 #[O ii c] w fun e w'=>e = .returned (.bool b)/\w'=w:=by subst h;exact zKk c w
abbrev shv (c s:Int):Value:=.agg #[O ii c,O ii s]
theorem zNr (c s:Int) (w:World):Calls pg 37 #[shv c s] w fun e w'=>e = .returned (.bool (shB c s))/\Below w.heap.size w w':=by
 cases hc:isC c
 ·go_enter func37,ntmps37;go_wp2_with (go_at_call 75;refine (zBv _ hc).mono ?_;rintro e w' ⟨rfl,rfl⟩);go_ret;exact ⟨zAm (by simp [shB,hc]),zAh _ _⟩
 ·by_cases h1:1<=s
  ·by_cases h2:s<=4
   ·go_enter func37,ntmps37;go_wp2_with (go_at_call 75;refine (zBv _ hc).mono ?_;rintro e w' ⟨rfl,rfl⟩);go_ret;exact ⟨zAm (by simp [shB,hc,h1,h2]),zAh _ _⟩
   ·go_enter func37,ntmps37;go_wp2_with (go_at_call 75;refine (zBv _ hc).mono ?_;rintro e w' ⟨rfl,rfl⟩);go_ret;exact ⟨zAm (by rw [zSg (by omega)];simp;omega),zAh _ _⟩
  ·go_enter func37,ntmps37;go_wp2_with (go_at_call 75;refine (zBv _ hc).mono ?_;rintro e w' ⟨rfl,rfl⟩);go_ret;exact ⟨zAm (by rw [zSg (by omega)]),zAh _ _⟩
theorem zXq {c t:Int} (h:isC c=false):onB c t=false:=by
 rw [zO4] at h;have h0:c≠0:=by omega
 have h1:c≠1:=by omega
 have h2:c≠2:=by omega
 have h3:c≠3:=by omega
 simp [onB,h0,h1,h2,h3]
theorem zOb {c t:Int} (h:¬(0<=t/\t<4)):onB c t=false:=by
 have h0:t≠0:=by omega
 have h1:t≠1:=by omega
 have h2:t≠2:=by omega
 simp [onB,h0,h1,h2]
theorem zXo (c t:Nat) (w:World) (hc:c<4) (ht:t<4) (hg:Grnd w):Calls pg 57 #[O ii c,O ii t] w fun e w'=>e = .returned (.bool (onB c t))/\w'=w:=by
 have hi:isC (c:Int)=true:=(zO5 _).2 (by omega);have c0:=hg.2 0 (by decide);have c1:=hg.2 1 (by decide);have c2:=hg.2 2 (by decide);have c3:=hg.2 3 (by decide);simp only [grN] at c0 c1 c2 c3;clear hg
 match c,hc,hi,t,ht with
 |0,_,hi,0,_|0,_,hi,1,_|0,_,hi,2,_|0,_,hi,3,_|1,_,hi,0,_|1,_,hi,1,_|1,_,hi,2,_|1,_,hi,3,_|2,_,hi,0,_|2,_,hi,1,_|2,_,hi,2,_|2,_,hi,3,_|3,_,hi,0,_|3,_,hi,1,_|3,_,hi,2,_|3,_,hi,3,_ =>
  go_enter func57,ntmps57;go_wp2_with (go_at_call 75;refine (zBv _ hi).mono ?_;rintro e w' ⟨rfl,rfl⟩);go_ret;exact ⟨rfl,rfl⟩
theorem zXp (c t:Int) (w:World) (hg:Grnd w):Calls pg 57 #[O ii c,O ii t] w fun e w'=>e = .returned (.bool (onB c t))/\w'=w:=by
 cases hi:isC c
 ·rw [zXq hi];go_enter func57,ntmps57;go_wp2_with (go_at_call 75;refine (zBv _ hi).mono ?_;rintro e w' ⟨rfl,rfl⟩);go_ret;exact ⟨rfl,rfl⟩
 ·by_cases h0:0<=t
  ·by_cases h1:t<4
   ·have h:=(zO5 _).1 hi;have:=zXo c.toNat t.toNat w (by omega) (by omega) hg
    rwa [Int.toNat_of_nonneg h.1,Int.toNat_of_nonneg h0] at this
   ·rw [zOb (by omega)];go_enter func57,ntmps57;go_wp2_with (go_at_call 75;refine (zBv _ hi).mono ?_;rintro e w' ⟨rfl,rfl⟩);go_ret;exact ⟨rfl,rfl⟩
  ·rw [zOb (by omega)];go_enter func57,ntmps57;go_wp2_with (go_at_call 75;refine (zBv _ hi).mono ?_;rintro e w' ⟨rfl,rfl⟩);go_ret;exact ⟨rfl,rfl⟩
theorem zFn {c s:Int} {b:Bool} (w:World) (h:shB c s=b):Calls pg 37 #[shv c s] w fun e w'=>e = .returned (.bool b)/\Below w.heap.size w w':=by subst h;exact zNr c s w
theorem zKg {x y a b:Int} {c:Bool} (w:World) (h:may x y a b=c):Calls pg 36 #[.agg #[O ii x,O ii y,O ii a,O ii b]] w fun e w'=>e = .returned (.bool c)/\Below w.heap.size w w':=by subst h;exact zIa x y a b w
def fB (c s x y:Int):Bool:=shB c s&&may x y s s
def fi (c s x y z:Int):Int:=if fB c s x y=true then z else 0
abbrev ftV (c s x y:Int):Value:=.agg #[O ii (fi c s x y x),O ii (fi c s x y y),O ii (fi c s x y s),O ii (fi c s x y s)]
theorem zGm {c s x y z:Int} (h:fB c s x y=false):fi c s x y z=0:=by simp [fi,h]
theorem zJf {c s x y z:Int} (h:fB c s x y=true):fi c s x y z=z:=by simp [fi,h]
abbrev WF (w:World) (c s x y:Int):World:=(((w.alloc (.cells #[O ii c,O ii s] 29)).alloc (.cells #[O ii x,O ii y] 23)).alloc (.cells #[O ii 0,O ii 0,O ii 0,O ii 0] 65)).alloc (.cells #[O ii x,O ii y,O ii s,O ii s] 65)
theorem zHr (w:World) (c s x y:Int):Below w.heap.size w (WF w c s x y):=bt (zBe _ _ _) (zBe _ _ _)
theorem zEc {w w1:World} {c s x y:Int} (h:Below (WF w c s x y).heap.size (WF w c s x y) w1) :
 Four w1 (w.heap.size+1+1) 0 0 0 0/\Four w1 (w.heap.size+1+1+1) x y s s:=by
 have h2:=zBo (bt (zAh _ _) h);have h3:=zBo h;constructor
 ·simpa [Four] using h2
 ·simpa [Four] using h3
theorem zRu (c s x y:Int) (w:World) (h:shB c s=false):Calls pg 19 #[shv c s,.agg #[O ii x,O ii y]] w fun e w'=>e = .returned (ftV c s x y)/\Below w.heap.size w w':=by
 have hB:fB c s x y=false:=by simp [fB,h]
 unfold ftV;rw [zGm hB,zGm hB,zGm hB];go_enter func19,ntmps19;go_wp2_with fail;refine (zFn _ h).mono ?_;rintro e w1 ⟨rfl,hb1⟩;have HB:=zAb (bt (zHr w c s x y) hb1);obtain ⟨⟨⟨g0,g1,g2,g3⟩,⟨f0,f1,f2,f3⟩,z⟩,-⟩:=zEc hb1;clear hb1;go_wp2_with fail;refine bodyPost_ret (v:=.agg #[O ii 0,O ii 0,O ii 0,O ii 0]) (by simp [results,Tryz.results19,go_sem,g0,g1,g2,g3]) rfl ⟨rfl,?_⟩;exact (((HB.out.setCell (by simp;omega) _).setCell (by simp;omega) _).setCell (by simp;omega) _).setCell (by simp;omega) _
theorem zRt (c s x y:Int) (w:World) (h:shB c s=true) (hm:may x y s s=false):Calls pg 19 #[shv c s,.agg #[O ii x,O ii y]] w fun e w'=>e = .returned (ftV c s x y)/\Below w.heap.size w w':=by
 have hB:fB c s x y=false:=by simp [fB,hm]
 unfold ftV;rw [zGm hB,zGm hB,zGm hB];go_enter func19,ntmps19;go_wp2_with fail;refine (zFn _ h).mono ?_;rintro e w1 ⟨rfl,hb1⟩;have HB1:=zAb hb1;obtain ⟨-,⟨⟨q0,q1,q2,q3⟩,-,-⟩⟩:=zEc hb1;clear hb1;go_wp2_with fail;refine (zKg _ hm).mono ?_;rintro e w2 ⟨rfl,hb2⟩;have hb:=bt HB1.out hb2;clear q0 q1 q2 q3 hb2 HB1;have HB:=zAb (bt (zHr w c s x y) hb);obtain ⟨⟨⟨g0,g1,g2,g3⟩,⟨f0,f1,f2,f3⟩,z⟩,⟨⟨q0,q1,q2,q3⟩,-,-⟩⟩:=zEc hb;clear hb;go_wp2_with fail;refine bodyPost_ret (v:=.agg #[O ii 0,O ii 0,O ii 0,O ii 0]) (by simp [results,Tryz.results19,go_sem,g0,g1,g2,g3]) rfl ⟨rfl,?_⟩;exact (((HB.out.setCell (by simp;omega) _).setCell (by simp;omega) _).setCell (by simp;omega) _).setCell (by simp;omega) _
theorem zRs (c s x y:Int) (w:World) (h:shB c s=true) (hm:may x y s s=true):Calls pg 19 #[shv c s,.agg #[O ii x,O ii y]] w fun e w'=>e = .returned (ftV c s x y)/\Below w.heap.size w w':=by
 have hB:fB c s x y=true:=by simp [fB,h,hm]
 unfold ftV;rw [zJf hB,zJf hB,zJf hB];go_enter func19,ntmps19;go_wp2_with fail;refine (zFn _ h).mono ?_;rintro e w1 ⟨rfl,hb1⟩;have HB1:=zAb hb1;obtain ⟨-,⟨⟨q0,q1,q2,q3⟩,-,-⟩⟩:=zEc hb1;clear hb1;go_wp2_with fail;refine (zKg _ hm).mono ?_;rintro e w2 ⟨rfl,hb2⟩;have hb:=bt HB1.out hb2;clear q0 q1 q2 q3 hb2 HB1;have HB:=zAb (bt (zHr w c s x y) hb);obtain ⟨⟨⟨g0,g1,g2,g3⟩,⟨f0,f1,f2,f3⟩,z⟩,⟨⟨q0,q1,q2,q3⟩,-,-⟩⟩:=zEc hb;clear hb;go_wp2_with fail;refine bodyPost_ret (v:=.agg #[O ii x,O ii y,O ii s,O ii s]) (by simp [results,Tryz.results19,go_sem,g0,g1,g2,g3]) rfl ⟨rfl,?_⟩;exact (((HB.out.setCell (by simp;omega) _).setCell (by simp;omega) _).setCell (by simp;omega) _).setCell (by simp;omega) _
theorem zL2 (c s x y:Int) (w:World):Calls pg 19 #[shv c s,.agg #[O ii x,O ii y]] w fun e w'=>e = .returned (ftV c s x y)/\Below w.heap.size w w':=by
 cases h:shB c s
 ·exact zRu c s x y w h
 ·cases hm:may x y s s
  ·exact zRt c s x y w h hm
  ·exact zRs c s x y w h hm
section
open Go.ChangeAt Go.ChangeShapes Go.Deep Go.Joins Go.WideElems Go.WideMaps Go.WideShapes
theorem own:ownKnob Tryz.prog.godebug=none:=by kernel_rfl
theorem c3:Tryz.prog.cellsOf 3=1:=by kernel_rfl
theorem c23:Tryz.prog.cellsOf 23=2:=by kernel_rfl
theorem zKy {H:Type} {enc:TypeId×Value->H} {W:World} {base:Nat} {sp:Nat->Bool} {held:Bool} {fuel:Nat} {cs:List Value} {z:DataW H×List MemPlace} (h:DataW.trod enc Tryz.prog W base sp held fuel 23 cs=some z) :
 ∃x y:Int,cs=[.int .i64 x,.int .i64 y]/\z=(.agg [.lit (.int .i64 x),.lit (.int .i64 y)],[])/\(Lit.int .i64 x).wf=true/\(Lit.int .i64 y).wf=true:=by
 obtain ⟨y0,y1,n,rfl,hl,h0,h1⟩:=trod_struct2 Tryz.underlying23 h;obtain ⟨a,e0,rfl,w0⟩:=DataW.trod_int Tryz.underlying3 h0;obtain ⟨b,e1,rfl,w1⟩:=DataW.trod_int Tryz.underlying3 h1;rw [c23] at hl
 match cs,hl,e0,e1 with
 | [u,v],_,e0,e1 =>
  simp [c3] at e0 e1;subst e0;subst e1;exact ⟨a,b,rfl,by simp,w0,w1⟩
section
variable {H:Type} {enc:TypeId×Value->H} {W:World}
abbrev qBk (x y a b:Int):Value:=.agg #[.int .i64 x,.int .i64 y,.int .i64 a,.int .i64 b]
abbrev qBl {H:Type} (x y a b:Int):DataW H:=.agg [.agg [.lit (.int .i64 x),.lit (.int .i64 y)],.lit (.int .i64 a),.lit (.int .i64 b)]
end
section
variable {H:Type} {enc:TypeId×Value->H} {W:World} {base:Nat} {sp:Nat->Bool} {held:Bool}
end
end
section
open Go.ChangeAt Go.ChangeShapes Go.Deep Go.WideElems Go.WideMaps Go.WideShapes
abbrev zM1 : List (String × DataW Unit) := [("phalanx/cell.offsets", Rows.laid_phalanx_cell_offsets), ("phalanx/class.grounds", Rows.laid_phalanx_class_grounds)]
theorem qAr : Tryz.prog.globalNamed "phalanx/cell.offsets" = some 1 := by kernel_rfl
theorem qAs : Tryz.prog.globalNamed "phalanx/class.grounds" = some 0 := by kernel_rfl
theorem zZm:(Tryz.prog.globals[0]?).map (·.type)=some 155:=by kernel_rfl
theorem c5:Tryz.prog.cellsOf 5=1:=by kernel_rfl
theorem zZl:(Tryz.prog.globals[1]?).map (·.type)=some 233:=by kernel_rfl
theorem zRz (os:Os) (args:Array Value):laidMetH Tryz.prog zM1 ((World.doorLaid Tryz.prog 400 os).forCall (fun _ _=>0) ⟨#[],args,[]⟩).memory:=
 laidMetH_of_parts3 (fuel:=8) (laidMet_of_run' 8 (by kernel_rfl) (by kernel_rfl)) (by kernel_rfl) (by kernel_rfl)
def zXr:List (DataW Unit):=[.agg [.lit (.int .i64 1),.lit (.int .i64 0)],.agg [.lit (.int .i64 0),.lit (.int .i64 1)],.agg [.lit (.int .i64 (-1)),.lit (.int .i64 0)],.agg [.lit (.int .i64 0),.lit (.int .i64 (-1))],.agg [.lit (.int .i64 1),.lit (.int .i64 1)],.agg [.lit (.int .i64 (-1)),.lit (.int .i64 1)],.agg [.lit (.int .i64 (-1)),.lit (.int .i64 (-1))],.agg [.lit (.int .i64 1),.lit (.int .i64 (-1))]]
theorem zQy (k:Nat) (hk:k<8):zXr[k]? = some (.agg [.lit (.int .i64 (dX k)),.lit (.int .i64 (dY k))]):=by
 match k,hk with
 |0,_|1,_|2,_|3,_|4,_|5,_|6,_|7,_=>rfl
theorem zI5 {W:World} (h:laidMetH Tryz.prog zM1 W):Offs W:=by
 rw [MakeChecks.laidMetH_plain _ _ _ (by kernel_rfl)] at h;obtain ⟨ps,⟨g0,t0,cs0,f0,p0,q0,hg0,ht0,hv0,hd0,_,_⟩,_,_⟩:=h;obtain rfl:=Option.some.inj (qAr.symm.trans hg0);obtain rfl:=Option.some.inj (zZl.symm.trans ht0);obtain ⟨xs,m1,rfl,hx1,hlen,hn,hel⟩:=DataW.trod_array Tryz.underlying233 hd0;simp only [Prod.mk.injEq] at hx1
 have hL:zXr=xs.map (·.1):=by
  have:=hx1.1;simp only [Rows.laid_phalanx_cell_offsets,DataW.agg.injEq] at this;exact this
 have hcells:∀k:Nat,k<8->W.cell? ⟨1,k*2,none⟩=some (.int .i64 (dX k))/\W.cell? ⟨1,k*2+1,none⟩=some (.int .i64 (dY k)):=by
  intro k hk;have hk':=hel k hk;rw [c23] at hk';obtain ⟨z,hz⟩:∃z,xs[k]? = some z:=⟨xs[k]'(by omega),List.getElem?_eq_getElem (by omega)⟩
  rw [hz] at hk';obtain ⟨x,y,hcs,rfl,_,_⟩:=zKy hk';have h1:=zQy k hk;rw [hL] at h1;simp only [List.getElem?_map,hz,Option.map_some,Option.some.injEq,DataW.agg.injEq,List.cons.injEq,DataW.lit.injEq,Lit.int.injEq,true_and,and_true] at h1;obtain ⟨rfl,rfl⟩:=h1
  have e0:cs0[k*2]? = some (.int .i64 (dX k)):=by
   have:=congrArg (·[0]?) hcs;simpa [List.getElem?_take,List.getElem?_drop] using this
  have e1:cs0[k*2+1]? = some (.int .i64 (dY k)):=by
   have:=congrArg (·[1]?) hcs;simpa [List.getElem?_take,List.getElem?_drop] using this
  exact ⟨(World.var?_cell hg0 hv0 (k*2)).trans e0,(World.var?_cell hg0 hv0 (k*2+1)).trans e1⟩
 exact ⟨World.block_lt_of_cell? W _ (hcells 0 (by decide)).1,hcells⟩
def zYj:List (DataW Unit):=[.lit (.int .u8 3),.lit (.int .u8 1),.lit (.int .u8 4),.lit (.int .u8 5)]
theorem zRo (k:Nat) (hk:k<4):zYj[k]? = some (.lit (.int .u8 (grN k))):=by
 match k,hk with
 |0,_|1,_|2,_|3,_=>rfl
theorem zJd {W:World} (h:laidMetH Tryz.prog zM1 W):Grnd W:=by
 rw [MakeChecks.laidMetH_plain _ _ _ (by kernel_rfl)] at h;obtain ⟨ps,⟨_,_,_,_,_,_,_,_,_,_,⟨g0,t0,cs0,f0,p0,q0,hg0,ht0,hv0,hd0,_,_⟩,_⟩,_,_⟩:=h;obtain rfl:=Option.some.inj (qAs.symm.trans hg0);obtain rfl:=Option.some.inj (zZm.symm.trans ht0);obtain ⟨xs,m1,rfl,hx1,hlen,hn,hel⟩:=DataW.trod_array Tryz.underlying155 hd0;simp only [Prod.mk.injEq] at hx1
 have hL:zYj=xs.map (·.1):=by
  have:=hx1.1;simp only [Rows.laid_phalanx_class_grounds,DataW.agg.injEq] at this;exact this
 have hcells:∀k:Nat,k<4->W.cell? ⟨0,k,none⟩=some (.int .u8 (grN k)):=by
  intro k hk;have hk':=hel k hk;rw [c5] at hk';obtain ⟨z,hz⟩:∃z,xs[k]? = some z:=⟨xs[k]'(by omega),List.getElem?_eq_getElem (by omega)⟩
  rw [hz] at hk';obtain ⟨a,hcs,rfl,_⟩:=DataW.trod_int Tryz.underlying5 hk';have h1:=zRo k hk;rw [hL] at h1;simp only [List.getElem?_map,hz,Option.map_some,Option.some.injEq,DataW.lit.injEq,Lit.int.injEq,true_and] at h1;subst h1
  have e0:cs0[k]? = some (.int .u8 (grN k)):=by
   have:=congrArg (·[0]?) hcs;simpa [List.getElem?_take,List.getElem?_drop] using this
  exact (World.var?_cell hg0 hv0 k).trans e0
 exact ⟨World.block_lt_of_cell? W _ (hcells 0 (by decide)),hcells⟩
end
end Go.Proofs.YtejjcenhjpjefaaGreatDoor
