import Derived.Test.YtejjcenhjpjefaaGreatDoorBase
set_option linter.all false
set_option maxRecDepth 1000000
set_option maxHeartbeats 64000000
open Go.Proofs.Tryz
open Go.Proofs.Tryz renaming prog->pg
open Go.Value renaming int->O
open Go.IntKind renaming i64->ii
namespace Go.Proofs.YtejjcenhjpjefaaGreatDoor
open Go.RowKit
def sd (n:Int):Bool:=decide (1<=n/\n<=1048576)
theorem zNs (n:Int):sd n=true↔(1<=n/\n<=1048576):=by simp [sd]
theorem zW7 (n:Int):sd n=false↔¬(1<=n/\n<=1048576):=by simp only [sd,decide_eq_false_iff_not]
def may (x y a b:Int):Bool:=nrC x y&&(sd a&&(sd b&&nrC (x+a-1) (y+b-1)))
theorem zCz {x y a b:Int} (h:may x y a b=true):nrC x y=true/\sd a=true/\sd b=true/\nrC (x+a-1) (y+b-1)=true:=by simpa [may] using h
theorem zA5 (x y a b:Int):may x y a b=true↔((-1048576<=x/\x<=1048576)/\(-1048576<=y/\y<=1048576))/\(1<=a/\a<=1048576)/\(1<=b/\b<=1048576)/\(-1048576<=x+a-1/\x+a-1<=1048576)/\(-1048576<=y+b-1/\y+b-1<=1048576):=by
 simp only [may,Bool.and_eq_true,zBq,zNs]
theorem zBo {w w1:World} {a b c d:Value} {t:TypeId} (h:Below (w.alloc (.cells #[a,b,c,d] t)).heap.size (w.alloc (.cells #[a,b,c,d] t)) w1) :
 (w1.cell? ⟨w.heap.size,0,none⟩=some a/\w1.cell? ⟨w.heap.size,1,none⟩=some b/\w1.cell? ⟨w.heap.size,2,none⟩=some c/\w1.cell? ⟨w.heap.size,3,none⟩=some d)/\(w1.frozen? ⟨w.heap.size,0,none⟩=false/\w1.frozen? ⟨w.heap.size,1,none⟩=false/\w1.frozen? ⟨w.heap.size,2,none⟩=false/\w1.frozen? ⟨w.heap.size,3,none⟩=false)/\w.heap.size<w1.heap.size:=by
 have hz:=h.size;have hl:w.heap.size<(w.alloc (.cells #[a,b,c,d] t)).heap.size:=by simp
 have h0:=h.cell (p:=⟨w.heap.size,0,none⟩) hl;have h1:=h.cell (p:=⟨w.heap.size,1,none⟩) hl;have h2:=h.cell (p:=⟨w.heap.size,2,none⟩) hl;have h3:=h.cell (p:=⟨w.heap.size,3,none⟩) hl;have f0:=h.frozen (p:=⟨w.heap.size,0,none⟩) hl;have f1:=h.frozen (p:=⟨w.heap.size,1,none⟩) hl;have f2:=h.frozen (p:=⟨w.heap.size,2,none⟩) hl;have f3:=h.frozen (p:=⟨w.heap.size,3,none⟩) hl;exact ⟨⟨by rw [h0];simp [go_sem],by rw [h1];simp [go_sem],by rw [h2];simp [go_sem],by rw [h3];simp [go_sem]⟩,⟨by rw [f0];simp [go_sem],by rw [f1];simp [go_sem],by rw [f2];simp [go_sem],by rw [f3];simp [go_sem]⟩,Nat.lt_of_lt_of_le hl hz⟩
theorem Below.four {W w2:World} (h:Below W.heap.size W w2) {b:Nat} {u v s t:Value} (hb:b<W.heap.size) (hc:W.cell? ⟨b,0,none⟩=some u/\W.cell? ⟨b,1,none⟩=some v/\W.cell? ⟨b,2,none⟩=some s/\W.cell? ⟨b,3,none⟩=some t) :
 w2.cell? ⟨b,0,none⟩=some u/\w2.cell? ⟨b,1,none⟩=some v/\w2.cell? ⟨b,2,none⟩=some s/\w2.cell? ⟨b,3,none⟩=some t:=
 ⟨(h.cell (p:=⟨b,0,none⟩) hb).trans hc.1,(h.cell (p:=⟨b,1,none⟩) hb).trans hc.2.1,(h.cell (p:=⟨b,2,none⟩) hb).trans hc.2.2.1,(h.cell (p:=⟨b,3,none⟩) hb).trans hc.2.2.2⟩
theorem zHv (n:Int) (w:World):Calls pg 74 #[O ii n] w fun e w'=>e = .returned (.bool (sd n))/\w'=w:=by
 by_cases h1:1<=n
 ·by_cases h2:n<=1048576
  ·go_enter func74,ntmps74;go_wp2
   go_ret;exact ⟨zAm (by simp [sd,h1,h2]),rfl⟩
  ·go_enter func74,ntmps74;go_wp2
   go_ret;exact ⟨zAm (by simp [sd,h1,h2]),rfl⟩
 ·go_enter func74,ntmps74;go_wp2
  go_ret;exact ⟨zAm (by rw [eq_comm,zW7];omega),rfl⟩
theorem zC9 (x y a b:Int) (w:World) (hn:nrC x y=true) (ha:sd a=true) (hb:sd b=true) :
 Calls pg 52 #[.agg #[O ii x,O ii y,O ii a,O ii b]] w fun e w'=>e = .returned (.agg #[O ii (x+a-1),O ii (y+b-1)])/\Below w.heap.size w w':=by
 obtain ⟨⟨x0,x1⟩,y0,y1⟩:=(zBq x y).1 hn;obtain ⟨a0,a1⟩:=(zNs a).1 ha;obtain ⟨b0,b1⟩:=(zNs b).1 hb;go_enter func52,ntmps52;go_wp2_with fail;refine bodyPost_ret (v:=.agg #[O ii (x+a-1),O ii (y+b-1)]) (by simp [results,Tryz.results52,go_sem]) rfl ⟨rfl,?_⟩;exact zBe _ _ _
theorem zUx (x y a b:Int) (w:World) (h:nrC x y=false) :
 Calls pg 36 #[.agg #[O ii x,O ii y,O ii a,O ii b]] w fun e w'=>e = .returned (.bool (may x y a b))/\Below w.heap.size w w':=by
 rw [show may x y a b=false by simp [may,h]];go_enter func36,ntmps36;go_wp2_with fail;refine (zBh _ _ _).mono ?_;rintro e w1 ⟨rfl,hb1⟩;obtain ⟨⟨c0,c1,c2,c3⟩,_,z0⟩:=zBo hb1;go_wp2_with fail;go_ret;exact ⟨rfl,bt (zAh _ _) hb1⟩
theorem zUw (x y a b:Int) (w:World) (h:nrC x y=true) (ha:sd a=false) :
 Calls pg 36 #[.agg #[O ii x,O ii y,O ii a,O ii b]] w fun e w'=>e = .returned (.bool (may x y a b))/\Below w.heap.size w w':=by
 rw [show may x y a b=false by simp [may,ha]];go_enter func36,ntmps36;go_wp2_with fail;refine (zBh _ _ _).mono ?_;rintro e w1 ⟨rfl,hb1⟩;obtain ⟨⟨c0,c1,c2,c3⟩,_,z0⟩:=zBo hb1;go_wp2_with (go_at_call 74;refine (zHv _ _).mono ?_;rintro e w' ⟨rfl,rfl⟩);go_ret;exact ⟨rfl,bt (zAh _ _) hb1⟩
theorem zUv (x y a b:Int) (w:World) (h:nrC x y=true) (ha:sd a=true) (hd:sd b=false) :
 Calls pg 36 #[.agg #[O ii x,O ii y,O ii a,O ii b]] w fun e w'=>e = .returned (.bool (may x y a b))/\Below w.heap.size w w':=by
 rw [show may x y a b=false by simp [may,hd]];go_enter func36,ntmps36;go_wp2_with fail;refine (zBh _ _ _).mono ?_;rintro e w1 ⟨rfl,hb1⟩;obtain ⟨⟨c0,c1,c2,c3⟩,_,z0⟩:=zBo hb1;go_wp2_with (go_at_call 74;refine (zHv _ _).mono ?_;rintro e w' ⟨rfl,rfl⟩);go_ret;exact ⟨rfl,bt (zAh _ _) hb1⟩
theorem zUu (x y a b:Int) (w:World) (h:nrC x y=true) (ha:sd a=true) (hd:sd b=true) :
 Calls pg 36 #[.agg #[O ii x,O ii y,O ii a,O ii b]] w fun e w'=>e = .returned (.bool (may x y a b))/\Below w.heap.size w w':=by
 rw [show may x y a b=nrC (x+a-1) (y+b-1) by simp [may,h,ha,hd]];go_enter func36,ntmps36;go_wp2_with fail;refine (zBh _ _ _).mono ?_;rintro e w1 ⟨rfl,hb1⟩;obtain ⟨⟨c0,c1,c2,c3⟩,_,z0⟩:=zBo hb1;go_wp2_with (first|(go_at_call 74;refine (zHv _ _).mono ?_;rintro e w' ⟨rfl,rfl⟩)|(go_at_call 52;refine (zC9 _ _ _ _ _ h ha hd).mono ?_;rintro e w2 ⟨rfl,hb2⟩));refine (zBh _ _ _).mono ?_;rintro e w3 ⟨rfl,hb3⟩;go_wp2_with fail;go_ret;exact ⟨rfl,bt (bt (bt (zAh _ _) hb1) hb2) hb3⟩
theorem zIa (x y a b:Int) (w:World) :
 Calls pg 36 #[.agg #[O ii x,O ii y,O ii a,O ii b]] w fun e w'=>e = .returned (.bool (may x y a b))/\Below w.heap.size w w':=by
 cases h:nrC x y
 ·exact zUx x y a b w h
 ·cases ha:sd a
  ·exact zUw x y a b w h ha
  ·cases hd:sd b
   ·exact zUv x y a b w h ha hd
   ·exact zUu x y a b w h ha hd
def has (x y a b p q:Int):Bool:=may x y a b&&(decide (x<=p)&&(decide (p<=x+a-1)&&(decide (y<=q)&&decide (q<=y+b-1))))
abbrev WR (w:World) (x y a b p q:Int):World:=(w.alloc (.cells #[O ii x,O ii y,O ii a,O ii b] 65)).alloc (.cells #[O ii p,O ii q] 23)
theorem zYf {x y a b p q:Int} (h:may x y a b=false):has x y a b p q=false:=by simp [has,h]
theorem zYi {x y a b p q:Int} (h:¬x<=p):has x y a b p q=false:=by rw [has,decide_eq_false h];simp
theorem zYh {x y a b p q:Int} (h:¬p<=x+a-1):has x y a b p q=false:=by rw [has,decide_eq_false h];simp
theorem zYg {x y a b p q:Int} (h:¬y<=q):has x y a b p q=false:=by rw [has,decide_eq_false h];simp
theorem qAn {x y a b p q:Int} (h:may x y a b=true) (h1:x<=p) (h2:p<=x+a-1) (h3:y<=q):has x y a b p q=decide (q<=y+b-1):=by rw [has,h,decide_eq_true h1,decide_eq_true h2,decide_eq_true h3];simp
theorem zE5 {w w1:World} {a b c d:Value} {t:TypeId} {o:Obj} (h:Below ((w.alloc (.cells #[a,b,c,d] t)).alloc o).heap.size ((w.alloc (.cells #[a,b,c,d] t)).alloc o) w1) :
 (w1.cell? ⟨w.heap.size,0,none⟩=some a/\w1.cell? ⟨w.heap.size,1,none⟩=some b/\w1.cell? ⟨w.heap.size,2,none⟩=some c/\w1.cell? ⟨w.heap.size,3,none⟩=some d)/\(w1.frozen? ⟨w.heap.size,0,none⟩=false/\w1.frozen? ⟨w.heap.size,1,none⟩=false/\w1.frozen? ⟨w.heap.size,2,none⟩=false/\w1.frozen? ⟨w.heap.size,3,none⟩=false)/\w.heap.size<w1.heap.size:=
 zBo (bt (zAh _ _) h)
theorem zVk (x y a b p q:Int) (w:World) (h:may x y a b=false) :
 Calls pg 42 #[.agg #[O ii x,O ii y,O ii a,O ii b],.agg #[O ii p,O ii q]] w fun e w'=>e = .returned (.bool (has x y a b p q))/\Below w.heap.size w w':=by
 rw [zYf h];go_enter func42,ntmps42;go_wp2_with (go_at_call 36;refine (zIa _ _ _ _ _).mono ?_;rintro e w1 ⟨rfl,hb1⟩);go_ret;exact ⟨rfl,bt (zBe _ _ _) hb1⟩
theorem zRn (x y a b p q:Int) (w:World) (h:may x y a b=true) :
 Calls pg 42 #[.agg #[O ii x,O ii y,O ii a,O ii b],.agg #[O ii p,O ii q]] w fun e w'=>e = .returned (.bool (has x y a b p q))/\Below w.heap.size w w':=by
 obtain ⟨m1,m2,m3,_⟩:=zCz h;have HH:=zAb h;go_enter func42,ntmps42;go_wp2_with (go_at_call 36;refine (zIa _ _ _ _ _).mono ?_;rintro e w1 ⟨rfl,hb1⟩;obtain ⟨⟨c0,c1,c2,c3⟩,_,z0⟩:=zE5 hb1;obtain ⟨⟨e0,e1⟩,⟨f0,f1⟩,z1⟩:=zCs hb1;have B1:=zAb (bt (zBe _ _ _) hb1);clear hb1);refine (zC9 _ _ _ _ _ m1 m2 m3).mono ?_;rintro e w2 ⟨rfl,hb2⟩;obtain ⟨k0,k1,k2,k3⟩:=Below.four hb2 z0 ⟨c0,c1,c2,c3⟩;obtain ⟨⟨l0,l1⟩,_⟩:=Below.two hb2 z1 e0 e1 f0 f1;have z2:=Nat.lt_of_lt_of_le z0 hb2.size;have z3:=Nat.lt_of_lt_of_le z1 hb2.size;have B2:=zAb hb2;clear hb2 c0 c1 c2 c3 e0 e1
 by_cases h1:x<=p
 ·by_cases h2:p<=x+a-1
  ·by_cases h3:y<=q
   ·have HR:=zAb (qAn HH.out h1 h2 h3);go_wp2_with fail;go_ret;exact ⟨zAm HR.out.symm,bt (bt B1.out B2.out) (zAh _ _)⟩
   ·have HR:=zAb (zYg (x:=x) (a:=a) (b:=b) (p:=p) h3);go_wp2_with fail;go_ret;exact ⟨zAm HR.out.symm,bt (bt B1.out B2.out) (zAh _ _)⟩
  ·have HR:=zAb (zYh (y:=y) (b:=b) (q:=q) h2);go_wp2_with fail;go_ret;exact ⟨zAm HR.out.symm,bt (bt B1.out B2.out) (zAh _ _)⟩
 ·have HR:=zAb (zYi (y:=y) (a:=a) (b:=b) (q:=q) h1);go_wp2_with fail;go_ret;exact ⟨zAm HR.out.symm,bt (bt B1.out B2.out) (zAh _ _)⟩
theorem zIe (x y a b p q:Int) (w:World) :
 Calls pg 42 #[.agg #[O ii x,O ii y,O ii a,O ii b],.agg #[O ii p,O ii q]] w fun e w'=>e = .returned (.bool (has x y a b p q))/\Below w.heap.size w w':=by
 cases h:may x y a b
 ·exact zVk x y a b p q w h
 ·exact zRn x y a b p q w h
end Go.Proofs.YtejjcenhjpjefaaGreatDoor
