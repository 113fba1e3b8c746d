import Derived.Test.YthiafmlgialbnaaGreatDoorBase
set_option linter.all false
set_option maxRecDepth 1000000
set_option maxHeartbeats 64000000
open Go.Proofs.Tryz
open Go.Proofs.Tryz renaming prog->pg
open Go.Value renaming int->O
open Go.IntKind renaming i64->ii
namespace Go.Proofs.YthiafmlgialbnaaGreatDoor
open Go.RowKit
def sd (n:Int):Bool:=decide (1<=n/\n<=1048576)
theorem zFx (n:Int):sd n=true↔(1<=n/\n<=1048576):=by simp [sd]
theorem zPq (n:Int):sd n=false↔¬(1<=n/\n<=1048576):=by simp only [sd,decide_eq_false_iff_not]
def may (x y a b:Int):Bool:=nrC x y&&(sd a&&(sd b&&nrC (x+a-1) (y+b-1)))
theorem zBj {x y a b:Int} (h:may x y a b=true):nrC x y=true/\sd a=true/\sd b=true/\nrC (x+a-1) (y+b-1)=true:=by simpa [may] using h
theorem zA0 (x y a b:Int):may x y a b=true↔((-1048576<=x/\x<=1048576)/\(-1048576<=y/\y<=1048576))/\(1<=a/\a<=1048576)/\(1<=b/\b<=1048576)/\(-1048576<=x+a-1/\x+a-1<=1048576)/\(-1048576<=y+b-1/\y+b-1<=1048576):=by
 simp only [may,Bool.and_eq_true,zBr,zFx]
theorem zA2 {w w1:World} {a b c d:Value} {t:TypeId} (h:Below (w.alloc (.cells #[a,b,c,d] t)).heap.size (w.alloc (.cells #[a,b,c,d] t)) w1) :
 (w1.cell? ⟨w.heap.size,0,none⟩=some a/\w1.cell? ⟨w.heap.size,1,none⟩=some b/\w1.cell? ⟨w.heap.size,2,none⟩=some c/\w1.cell? ⟨w.heap.size,3,none⟩=some d)/\(w1.frozen? ⟨w.heap.size,0,none⟩=false/\w1.frozen? ⟨w.heap.size,1,none⟩=false/\w1.frozen? ⟨w.heap.size,2,none⟩=false/\w1.frozen? ⟨w.heap.size,3,none⟩=false)/\w.heap.size<w1.heap.size:=by
 have hz:=h.size;have hl:w.heap.size<(w.alloc (.cells #[a,b,c,d] t)).heap.size:=by simp
 have h0:=h.cell (p:=⟨w.heap.size,0,none⟩) hl;have h1:=h.cell (p:=⟨w.heap.size,1,none⟩) hl;have h2:=h.cell (p:=⟨w.heap.size,2,none⟩) hl;have h3:=h.cell (p:=⟨w.heap.size,3,none⟩) hl;have f0:=h.frozen (p:=⟨w.heap.size,0,none⟩) hl;have f1:=h.frozen (p:=⟨w.heap.size,1,none⟩) hl;have f2:=h.frozen (p:=⟨w.heap.size,2,none⟩) hl;have f3:=h.frozen (p:=⟨w.heap.size,3,none⟩) hl;exact ⟨⟨by rw [h0];simp [go_sem],by rw [h1];simp [go_sem],by rw [h2];simp [go_sem],by rw [h3];simp [go_sem]⟩,⟨by rw [f0];simp [go_sem],by rw [f1];simp [go_sem],by rw [f2];simp [go_sem],by rw [f3];simp [go_sem]⟩,Nat.lt_of_lt_of_le hl hz⟩
theorem Below.four {W w2:World} (h:Below W.heap.size W w2) {b:Nat} {u v s t:Value} (hb:b<W.heap.size) (hc:W.cell? ⟨b,0,none⟩=some u/\W.cell? ⟨b,1,none⟩=some v/\W.cell? ⟨b,2,none⟩=some s/\W.cell? ⟨b,3,none⟩=some t) :
 w2.cell? ⟨b,0,none⟩=some u/\w2.cell? ⟨b,1,none⟩=some v/\w2.cell? ⟨b,2,none⟩=some s/\w2.cell? ⟨b,3,none⟩=some t:=
 ⟨(h.cell (p:=⟨b,0,none⟩) hb).trans hc.1,(h.cell (p:=⟨b,1,none⟩) hb).trans hc.2.1,(h.cell (p:=⟨b,2,none⟩) hb).trans hc.2.2.1,(h.cell (p:=⟨b,3,none⟩) hb).trans hc.2.2.2⟩
theorem zIs (n:Int) (w:World):Calls pg 52 #[O ii n] w fun e w'=>e = .returned (.bool (sd n))/\w'=w:=by
 by_cases h1:1<=n
 ·by_cases h2:n<=1048576
  ·go_enter func52,ntmps52;go_wp2
   go_ret;exact ⟨zAm (by simp [sd,h1,h2]),rfl⟩
  ·go_enter func52,ntmps52;go_wp2
   go_ret;exact ⟨zAm (by simp [sd,h1,h2]),rfl⟩
 ·go_enter func52,ntmps52;go_wp2
  go_ret;exact ⟨zAm (by rw [eq_comm,zPq];omega),rfl⟩
theorem zDh (x y a b:Int) (w:World) (hn:nrC x y=true) (ha:sd a=true) (hb:sd b=true) :
 Calls pg 53 #[.agg #[O ii x,O ii y,O ii a,O ii b]] w fun e w'=>e = .returned (.agg #[O ii (x+a-1),O ii (y+b-1)])/\Below w.heap.size w w':=by
 obtain ⟨⟨x0,x1⟩,y0,y1⟩:=(zBr x y).1 hn;obtain ⟨a0,a1⟩:=(zFx a).1 ha;obtain ⟨b0,b1⟩:=(zFx b).1 hb;go_enter func53,ntmps53;go_wp2_with fail;refine bodyPost_ret (v:=.agg #[O ii (x+a-1),O ii (y+b-1)]) (by simp [results,Tryz.results53,go_sem]) rfl ⟨rfl,?_⟩;exact zA5 _ _ _
theorem zA9 (x y a b:Int) (w:World) (hn:nrC x y=true) (ha:sd a=true) (hb:sd b=true) :
 Calls pg 149 #[.agg #[O ii x,O ii y,O ii a,O ii b]] w fun e w'=>e = .returned (.agg #[O ii (x+a-1),O ii (y+b-1)])/\Below w.heap.size w w':=by
 obtain ⟨⟨x0,x1⟩,y0,y1⟩:=(zBr x y).1 hn;obtain ⟨a0,a1⟩:=(zFx a).1 ha;obtain ⟨b0,b1⟩:=(zFx b).1 hb;go_enter func149,ntmps149;go_wp2_with fail;refine bodyPost_ret (v:=.agg #[O ii (x+a-1),O ii (y+b-1)]) (by simp [results,Tryz.results149,go_sem]) rfl ⟨rfl,?_⟩;exact zA5 _ _ _
theorem zYj (x y a b:Int) (w:World) (h:nrC x y=false) :
 Calls pg 25 #[.agg #[O ii x,O ii y,O ii a,O ii b]] w fun e w'=>e = .returned (.bool (may x y a b))/\Below w.heap.size w w':=by
 rw [show may x y a b=false by simp [may,h]];go_enter func25,ntmps25;go_wp2_with fail;refine (zB0 _ _ _).mono ?_;rintro e w1 ⟨rfl,hb1⟩;obtain ⟨⟨c0,c1,c2,c3⟩,_,z0⟩:=zA2 hb1;go_wp2_with fail;go_ret;exact ⟨rfl,bt (zAk _ _) hb1⟩
theorem zYi (x y a b:Int) (w:World) (h:nrC x y=true) (ha:sd a=false) :
 Calls pg 25 #[.agg #[O ii x,O ii y,O ii a,O ii b]] w fun e w'=>e = .returned (.bool (may x y a b))/\Below w.heap.size w w':=by
 rw [show may x y a b=false by simp [may,ha]];go_enter func25,ntmps25;go_wp2_with fail;refine (zB0 _ _ _).mono ?_;rintro e w1 ⟨rfl,hb1⟩;obtain ⟨⟨c0,c1,c2,c3⟩,_,z0⟩:=zA2 hb1;go_wp2_with (go_at_call 52;refine (zIs _ _).mono ?_;rintro e w' ⟨rfl,rfl⟩);go_ret;exact ⟨rfl,bt (zAk _ _) hb1⟩
theorem zYh (x y a b:Int) (w:World) (h:nrC x y=true) (ha:sd a=true) (hd:sd b=false) :
 Calls pg 25 #[.agg #[O ii x,O ii y,O ii a,O ii b]] w fun e w'=>e = .returned (.bool (may x y a b))/\Below w.heap.size w w':=by
 rw [show may x y a b=false by simp [may,hd]];go_enter func25,ntmps25;go_wp2_with fail;refine (zB0 _ _ _).mono ?_;rintro e w1 ⟨rfl,hb1⟩;obtain ⟨⟨c0,c1,c2,c3⟩,_,z0⟩:=zA2 hb1;go_wp2_with (go_at_call 52;refine (zIs _ _).mono ?_;rintro e w' ⟨rfl,rfl⟩);go_ret;exact ⟨rfl,bt (zAk _ _) hb1⟩
theorem zYg (x y a b:Int) (w:World) (h:nrC x y=true) (ha:sd a=true) (hd:sd b=true) :
 Calls pg 25 #[.agg #[O ii x,O ii y,O ii a,O ii b]] w fun e w'=>e = .returned (.bool (may x y a b))/\Below w.heap.size w w':=by
 rw [show may x y a b=nrC (x+a-1) (y+b-1) by simp [may,h,ha,hd]];go_enter func25,ntmps25;go_wp2_with fail;refine (zB0 _ _ _).mono ?_;rintro e w1 ⟨rfl,hb1⟩;obtain ⟨⟨c0,c1,c2,c3⟩,_,z0⟩:=zA2 hb1;go_wp2_with (first|(go_at_call 52;refine (zIs _ _).mono ?_;rintro e w' ⟨rfl,rfl⟩)|(go_at_call 53;refine (zDh _ _ _ _ _ h ha hd).mono ?_;rintro e w2 ⟨rfl,hb2⟩));refine (zB0 _ _ _).mono ?_;rintro e w3 ⟨rfl,hb3⟩;go_wp2_with fail;go_ret;exact ⟨rfl,bt (bt (bt (zAk _ _) hb1) hb2) hb3⟩
theorem zJe (x y a b:Int) (w:World) :
 Calls pg 25 #[.agg #[O ii x,O ii y,O ii a,O ii b]] w fun e w'=>e = .returned (.bool (may x y a b))/\Below w.heap.size w w':=by
 cases h:nrC x y
 ·exact zYj x y a b w h
 ·cases ha:sd a
  ·exact zYi x y a b w h ha
  ·cases hd:sd b
   ·exact zYh x y a b w h ha hd
   ·exact zYg x y a b w h ha hd
theorem zOk (x y a b:Int) (w:World) (h:nrC x y=false) :
 Calls pg 148 #[.agg #[O ii x,O ii y,O ii a,O ii b]] w fun e w'=>e = .returned (.bool (may x y a b))/\Below w.heap.size w w':=by
 rw [show may x y a b=false by simp [may,h]];go_enter func148,ntmps148;go_wp2_with fail;refine (zAz _ _ _).mono ?_;rintro e w1 ⟨rfl,hb1⟩;obtain ⟨⟨c0,c1,c2,c3⟩,_,z0⟩:=zA2 hb1;go_wp2_with fail;go_ret;exact ⟨rfl,bt (zAk _ _) hb1⟩
theorem zOj (x y a b:Int) (w:World) (h:nrC x y=true) (ha:sd a=false) :
 Calls pg 148 #[.agg #[O ii x,O ii y,O ii a,O ii b]] w fun e w'=>e = .returned (.bool (may x y a b))/\Below w.heap.size w w':=by
 rw [show may x y a b=false by simp [may,ha]];have ha':=(zPq a).1 ha
 by_cases h1:1<=a
 ·have h2:¬a<=1048576:=by omega
  go_enter func148,ntmps148;go_wp2_with fail;refine (zAz _ _ _).mono ?_;rintro e w1 ⟨rfl,hb1⟩;obtain ⟨⟨c0,c1,c2,c3⟩,_,z0⟩:=zA2 hb1;go_wp2_with fail;go_ret;exact ⟨rfl,bt (zAk _ _) hb1⟩
 ·go_enter func148,ntmps148;go_wp2_with fail;refine (zAz _ _ _).mono ?_;rintro e w1 ⟨rfl,hb1⟩;obtain ⟨⟨c0,c1,c2,c3⟩,_,z0⟩:=zA2 hb1;go_wp2_with fail;go_ret;exact ⟨rfl,bt (zAk _ _) hb1⟩
theorem zOi (x y a b:Int) (w:World) (h:nrC x y=true) (ha:sd a=true) (hd:sd b=false) :
 Calls pg 148 #[.agg #[O ii x,O ii y,O ii a,O ii b]] w fun e w'=>e = .returned (.bool (may x y a b))/\Below w.heap.size w w':=by
 rw [show may x y a b=false by simp [may,hd]];obtain ⟨a0,a1⟩:=(zFx a).1 ha;have hb':=(zPq b).1 hd
 by_cases h1:1<=b
 ·have h2:¬b<=1048576:=by omega
  go_enter func148,ntmps148;go_wp2_with fail;refine (zAz _ _ _).mono ?_;rintro e w1 ⟨rfl,hb1⟩;obtain ⟨⟨c0,c1,c2,c3⟩,_,z0⟩:=zA2 hb1;go_wp2_with fail;go_ret;exact ⟨rfl,bt (zAk _ _) hb1⟩
 ·go_enter func148,ntmps148;go_wp2_with fail;refine (zAz _ _ _).mono ?_;rintro e w1 ⟨rfl,hb1⟩;obtain ⟨⟨c0,c1,c2,c3⟩,_,z0⟩:=zA2 hb1;go_wp2_with fail;go_ret;exact ⟨rfl,bt (zAk _ _) hb1⟩
theorem zOh (x y a b:Int) (w:World) (h:nrC x y=true) (ha:sd a=true) (hd:sd b=true) :
 Calls pg 148 #[.agg #[O ii x,O ii y,O ii a,O ii b]] w fun e w'=>e = .returned (.bool (may x y a b))/\Below w.heap.size w w':=by
 rw [show may x y a b=nrC (x+a-1) (y+b-1) by simp [may,h,ha,hd]];obtain ⟨a0,a1⟩:=(zFx a).1 ha;obtain ⟨b0,b1⟩:=(zFx b).1 hd;go_enter func148,ntmps148;go_wp2_with fail;refine (zAz _ _ _).mono ?_;rintro e w1 ⟨rfl,hb1⟩;obtain ⟨⟨c0,c1,c2,c3⟩,_,z0⟩:=zA2 hb1;go_wp2_with ((go_at_call 149;refine (zA9 _ _ _ _ _ h ha hd).mono ?_;rintro e w2 ⟨rfl,hb2⟩));refine (zAz _ _ _).mono ?_;rintro e w3 ⟨rfl,hb3⟩;go_wp2_with fail;go_ret;exact ⟨rfl,bt (bt (bt (zAk _ _) hb1) hb2) hb3⟩
theorem zH8 (x y a b:Int) (w:World) :
 Calls pg 148 #[.agg #[O ii x,O ii y,O ii a,O ii b]] w fun e w'=>e = .returned (.bool (may x y a b))/\Below w.heap.size w w':=by
 cases h:nrC x y
 ·exact zOk x y a b w h
 ·cases ha:sd a
  ·exact zOj x y a b w h ha
  ·cases hd:sd b
   ·exact zOi x y a b w h ha hd
   ·exact zOh x y a b w h ha hd
def has (x y a b p q:Int):Bool:=may x y a b&&(decide (x<=p)&&(decide (p<=x+a-1)&&(decide (y<=q)&&decide (q<=y+b-1))))
abbrev WR (w:World) (x y a b p q:Int):World:=(w.alloc (.cells #[O ii x,O ii y,O ii a,O ii b] 49)).alloc (.cells #[O ii p,O ii q] 47)
theorem zV0 {x y a b p q:Int} (h:may x y a b=false):has x y a b p q=false:=by simp [has,h]
theorem zV4 {x y a b p q:Int} (h:¬x<=p):has x y a b p q=false:=by rw [has,decide_eq_false h];simp
theorem zV3 {x y a b p q:Int} (h:¬p<=x+a-1):has x y a b p q=false:=by rw [has,decide_eq_false h];simp
theorem zV2 {x y a b p q:Int} (h:¬y<=q):has x y a b p q=false:=by rw [has,decide_eq_false h];simp
theorem qBu {x y a b p q:Int} (h:may x y a b=true) (h1:x<=p) (h2:p<=x+a-1) (h3:y<=q):has x y a b p q=decide (q<=y+b-1):=by rw [has,h,decide_eq_true h1,decide_eq_true h2,decide_eq_true h3];simp
theorem zC1 {w w1:World} {a b c d:Value} {t:TypeId} {o:Obj} (h:Below ((w.alloc (.cells #[a,b,c,d] t)).alloc o).heap.size ((w.alloc (.cells #[a,b,c,d] t)).alloc o) w1) :
 (w1.cell? ⟨w.heap.size,0,none⟩=some a/\w1.cell? ⟨w.heap.size,1,none⟩=some b/\w1.cell? ⟨w.heap.size,2,none⟩=some c/\w1.cell? ⟨w.heap.size,3,none⟩=some d)/\(w1.frozen? ⟨w.heap.size,0,none⟩=false/\w1.frozen? ⟨w.heap.size,1,none⟩=false/\w1.frozen? ⟨w.heap.size,2,none⟩=false/\w1.frozen? ⟨w.heap.size,3,none⟩=false)/\w.heap.size<w1.heap.size:=
 zA2 (bt (zAk _ _) h)
theorem zY4 (x y a b p q:Int) (w:World) (h:may x y a b=false) :
 Calls pg 122 #[.agg #[O ii x,O ii y,O ii a,O ii b],.agg #[O ii p,O ii q]] w fun e w'=>e = .returned (.bool (has x y a b p q))/\Below w.heap.size w w':=by
 rw [zV0 h];go_enter func122,ntmps122;go_wp2_with (go_at_call 25;refine (zJe _ _ _ _ _).mono ?_;rintro e w1 ⟨rfl,hb1⟩);go_ret;exact ⟨rfl,bt (zA5 _ _ _) hb1⟩
theorem zT0 (x y a b p q:Int) (w:World) (h:may x y a b=true) :
 Calls pg 122 #[.agg #[O ii x,O ii y,O ii a,O ii b],.agg #[O ii p,O ii q]] w fun e w'=>e = .returned (.bool (has x y a b p q))/\Below w.heap.size w w':=by
 obtain ⟨m1,m2,m3,_⟩:=zBj h;have HH:=zAc h;go_enter func122,ntmps122;go_wp2_with (go_at_call 25;refine (zJe _ _ _ _ _).mono ?_;rintro e w1 ⟨rfl,hb1⟩;obtain ⟨⟨c0,c1,c2,c3⟩,_,z0⟩:=zC1 hb1;obtain ⟨⟨e0,e1⟩,⟨f0,f1⟩,z1⟩:=zBu hb1;have B1:=zAc (bt (zA5 _ _ _) hb1);clear hb1);refine (zDh _ _ _ _ _ m1 m2 m3).mono ?_;rintro e w2 ⟨rfl,hb2⟩;obtain ⟨k0,k1,k2,k3⟩:=Below.four hb2 z0 ⟨c0,c1,c2,c3⟩;obtain ⟨⟨l0,l1⟩,_⟩:=Below.two hb2 z1 e0 e1 f0 f1;have z2:=Nat.lt_of_lt_of_le z0 hb2.size;have z3:=Nat.lt_of_lt_of_le z1 hb2.size;have B2:=zAc hb2;clear hb2 c0 c1 c2 c3 e0 e1
 by_cases h1:x<=p
 ·by_cases h2:p<=x+a-1
  ·by_cases h3:y<=q
   ·have HR:=zAc (qBu HH.out h1 h2 h3);go_wp2_with fail;go_ret;exact ⟨zAm HR.out.symm,bt (bt B1.out B2.out) (zAk _ _)⟩
   ·have HR:=zAc (zV2 (x:=x) (a:=a) (b:=b) (p:=p) h3);go_wp2_with fail;go_ret;exact ⟨zAm HR.out.symm,bt (bt B1.out B2.out) (zAk _ _)⟩
  ·have HR:=zAc (zV3 (y:=y) (b:=b) (q:=q) h2);go_wp2_with fail;go_ret;exact ⟨zAm HR.out.symm,bt (bt B1.out B2.out) (zAk _ _)⟩
 ·have HR:=zAc (zV4 (y:=y) (a:=a) (b:=b) (q:=q) h1);go_wp2_with fail;go_ret;exact ⟨zAm HR.out.symm,bt (bt B1.out B2.out) (zAk _ _)⟩
theorem zNj (x y a b p q:Int) (w:World) :
 Calls pg 122 #[.agg #[O ii x,O ii y,O ii a,O ii b],.agg #[O ii p,O ii q]] w fun e w'=>e = .returned (.bool (has x y a b p q))/\Below w.heap.size w w':=by
 cases h:may x y a b
 ·exact zY4 x y a b p q w h
 ·exact zT0 x y a b p q w h
end Go.Proofs.YthiafmlgialbnaaGreatDoor
