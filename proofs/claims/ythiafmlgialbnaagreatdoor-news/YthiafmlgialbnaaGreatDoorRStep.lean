import Derived.Test.YthiafmlgialbnaaGreatDoorSides
import Derived.Test.YthiafmlgialbnaaGreatDoorRefMeet
import Derived.RegionTactic
import Derived.BigRegion
set_option linter.all false
set_option maxRecDepth 1000000
set_option maxHeartbeats 64000000
open Go.Proofs.Tryz
open Go.Proofs.Tryz renaming prog->pg
open Go.Value renaming int->O
open Go.IntKind renaming i64->ii
namespace Go.Proofs.YthiafmlgialbnaaGreatDoor
open Go.RowKit
theorem zGe (k:Nat) (w:World) (hk:k<8):Calls pg 175 #[O ii k] w fun e w'=>e = .returned (.tuple #[O ii (dX k),O ii (dY k),.bool true])/\w'=w:=by
 match k,hk with
 |0,_|1,_|2,_|3,_|4,_|5,_|6,_|7,_ =>
  go_enter func175,ntmps175;go_wp2
  exact bodyPost_ret (v:=.tuple #[O ii (dX _),O ii (dY _),.bool true]) (by simp [results,Tryz.results175,go_sem,dX,dY]) rfl ⟨rfl,rfl⟩
theorem zWn (d:Int) (w:World) (h:isD d=false):Calls pg 175 #[O ii d] w fun e w'=>e = .returned (.tuple #[O ii 0,O ii 0,.bool false])/\w'=w:=by
 have h':=(zL8 d).1 h;have h0:¬d=0:=by omega
 have h1:¬d=1:=by omega
 have h2:¬d=2:=by omega
 have h3:¬d=3:=by omega
 have h4:¬d=4:=by omega
 have h5:¬d=5:=by omega
 have h6:¬d=6:=by omega
 have h7:¬d=7:=by omega
 clear h' h;go_enter func175,ntmps175;go_wp2
 exact bodyPost_ret (v:=.tuple #[O ii 0,O ii 0,.bool false]) (by simp [results,Tryz.results175,go_sem]) rfl ⟨rfl,rfl⟩
theorem zLi (x y d:Int) (w:World) (h:isD d=false) :
 Calls pg 143 #[.agg #[O ii x,O ii y],O ii d] w fun e w'=>e = .returned (.tuple #[.agg #[O ii (sX x y d),O ii (sY x y d)],.bool (sB x y d)])/\Below w.heap.size w w':=by
 have h3:=zPt (x:=x) (y:=y) h;rw [zJ0 h3,zJz h3,h3];clear h3;go_enter func143,ntmps143;go_wp2_with (go_at_call 175;refine (zWn _ _ h).mono ?_;rintro e w' ⟨rfl,rfl⟩);refine bodyPost_ret (v:=.tuple #[.agg #[O ii 0,O ii 0],.bool false]) (by simp [results,Tryz.results143,go_sem]) rfl ⟨rfl,?_⟩;exact zA5 _ _ _
theorem zLh (x y:Int) (k:Nat) (w:World) (hk:k<8) (hn:nrC x y=false) :
 Calls pg 143 #[.agg #[O ii x,O ii y],O ii k] w fun e w'=>e = .returned (.tuple #[.agg #[O ii (sX x y k),O ii (sY x y k)],.bool (sB x y k)])/\Below w.heap.size w w':=by
 have h3:=zPs (d:=k) hn;rw [zJ0 h3,zJz h3,h3];clear h3;go_enter func143,ntmps143;go_wp2_with (first|(go_at_call 175;refine (zGe _ _ hk).mono ?_;rintro e w' ⟨rfl,rfl⟩)|(go_at_call 176;refine (zAz _ _ _).mono ?_;rintro e w1 ⟨rfl,hb⟩;obtain ⟨⟨e0,e1⟩,⟨f0,f1⟩,z1⟩:=zBu hb));refine bodyPost_ret (v:=.tuple #[.agg #[O ii 0,O ii 0],.bool false]) (by simp [results,Tryz.results143,go_sem,e0,e1]) rfl ⟨rfl,?_⟩;exact set2 (bt (zA5 _ _ _) hb) (by simp) (by simp)
theorem zLg (x y:Int) (k:Nat) (w:World) (hk:k<8) (hn:nrC x y=true) (hm:nrC (x+dX k) (y+dY k)=false) :
 Calls pg 143 #[.agg #[O ii x,O ii y],O ii k] w fun e w'=>e = .returned (.tuple #[.agg #[O ii (sX x y k),O ii (sY x y k)],.bool (sB x y k)])/\Below w.heap.size w w':=by
 have h:isD (k:Int)=true:=(zB7 _).2 (by omega);have h3:sB x y k=false:=by simp [sB,h,hn,hm]
 rw [zJ0 h3,zJz h3,h3];clear h3 h;obtain ⟨⟨x0,x1⟩,y0,y1⟩:=(zBr x y).1 hn;obtain ⟨dx0,dx1⟩:=zD6 k;obtain ⟨dy0,dy1⟩:=zD5 k;go_enter func143,ntmps143;go_wp2_with (first|(go_at_call 175;refine (zGe _ _ hk).mono ?_;rintro e w' ⟨rfl,rfl⟩)|(go_at_call 176;refine (zAz _ _ _).mono ?_;rintro e w1 ⟨rfl,hb⟩;obtain ⟨⟨c0,c1⟩,_,z0⟩:=zFq hb;obtain ⟨⟨e0,e1⟩,⟨f0,f1⟩,z1⟩:=zBu hb;have HB:=zAc (bt (zA5 w _ _) hb);clear hb));refine (zAz _ _ _).mono ?_;rintro e w2 ⟨rfl,hb2⟩;obtain ⟨⟨g0,g1⟩,⟨gf0,gf1⟩,z2⟩:=zDm hb2;have HB2:=zAc (bt (zAk _ _) hb2);obtain ⟨⟨e2,e3⟩,f2,f3⟩:=Below.two HB2.out z1 e0 e1 f0 f1;clear hb2 e0 e1 f0 f1;go_wp2_with fail;refine bodyPost_ret (v:=.tuple #[.agg #[O ii 0,O ii 0],.bool false]) (by simp [results,Tryz.results143,go_sem,e2,e3]) rfl ⟨rfl,?_⟩;exact set2 (bt HB.out HB2.out) (by simp) (by simp)
theorem zLf (x y:Int) (k:Nat) (w:World) (hk:k<8) (hn:nrC x y=true) (hm:nrC (x+dX k) (y+dY k)=true) :
 Calls pg 143 #[.agg #[O ii x,O ii y],O ii k] w fun e w'=>e = .returned (.tuple #[.agg #[O ii (sX x y k),O ii (sY x y k)],.bool (sB x y k)])/\Below w.heap.size w w':=by
 have h:isD (k:Int)=true:=(zB7 _).2 (by omega);have h3:sB x y k=true:=by simp [sB,h,hn,hm]
 rw [zEr h3,zEq h3,h3,Int.toNat_natCast];clear h3 h;obtain ⟨⟨x0,x1⟩,y0,y1⟩:=(zBr x y).1 hn;obtain ⟨dx0,dx1⟩:=zD6 k;obtain ⟨dy0,dy1⟩:=zD5 k;go_enter func143,ntmps143;go_wp2_with (first|(go_at_call 175;refine (zGe _ _ hk).mono ?_;rintro e w' ⟨rfl,rfl⟩)|(go_at_call 176;refine (zAz _ _ _).mono ?_;rintro e w1 ⟨rfl,hb⟩;obtain ⟨⟨c0,c1⟩,_,z0⟩:=zFq hb;obtain ⟨⟨e0,e1⟩,⟨f0,f1⟩,z1⟩:=zBu hb;have HB:=zAc (bt (zA5 w _ _) hb);clear hb));refine (zAz _ _ _).mono ?_;rintro e w2 ⟨rfl,hb2⟩;obtain ⟨⟨g0,g1⟩,⟨gf0,gf1⟩,z2⟩:=zDm hb2;have HB2:=zAc (bt (zAk _ _) hb2);obtain ⟨⟨e2,e3⟩,f2,f3⟩:=Below.two HB2.out z1 e0 e1 f0 f1;clear hb2 e0 e1 f0 f1;go_wp2_with fail;refine bodyPost_ret (v:=.tuple #[.agg #[O ii (x+dX k),O ii (y+dY k)],.bool true]) (by simp [results,Tryz.results143,go_sem,e2,e3]) rfl ⟨rfl,?_⟩;exact set2 (bt HB.out HB2.out) (by simp) (by simp)
theorem zCm (x y d:Int) (w:World) :
 Calls pg 143 #[.agg #[O ii x,O ii y],O ii d] w fun e w'=>e = .returned (.tuple #[.agg #[O ii (sX x y d),O ii (sY x y d)],.bool (sB x y d)])/\Below w.heap.size w w':=by
 cases h:isD d
 ·exact zLi x y d w h
 ·obtain ⟨h0,h1⟩:=(zB7 d).1 h;obtain ⟨k,rfl⟩:=Int.eq_ofNat_of_zero_le h0;cases hn:nrC x y
  ·exact zLh x y k w (by omega) hn
  ·cases hm:nrC (x+dX k) (y+dY k)
   ·exact zLg x y k w (by omega) hn hm
   ·exact zLf x y k w (by omega) hn hm
theorem qC2 {d:Int} (h:oc d=false):d<4:=by simpa [oc] using h
theorem qC3 {d:Int} (h:oc d=true):¬d<4:=by simpa [oc] using h
theorem zLj (x y d:Int) (w:World) (h:siB x y d=false) :
 Calls pg 177 #[.agg #[O ii x,O ii y],O ii d] w fun e w'=>e = .returned (zC3 x y d)/\Below w.heap.size w w':=by
 rw [zGw h];cases hs:sB x y d
 ·go_enter func177,ntmps177;go_wp2_with (go_at_call 143;refine (zCm _ _ _ _).mono ?_;rintro e w1 ⟨rfl,hb1⟩;obtain ⟨⟨⟨c0,c1⟩,_,z0⟩,⟨⟨e0,e1⟩,⟨f0,f1⟩,z1⟩,⟨g0,g1⟩,⟨k0,k1⟩,z2⟩:=zDy hb1;have Hb:=zAc (bt (zCb _ _ _) hb1);clear hb1);obtain ⟨W,hW,hBW,n0,n1,nz⟩:=zM9 w1 (O ii (sX x y d)) (O ii (sY x y d)) 47;rw [hW];obtain ⟨⟨e2,e3⟩,f2,f3⟩:=Below.two hBW z1 e0 e1 f0 f1;obtain ⟨⟨g2,g3⟩,k2,k3⟩:=Below.two hBW z2 g0 g1 k0 k1;have HB:=zAc (bt Hb.out hBW);clear hW hBW e0 e1 f0 f1 g0 g1 k0 k1 c0 c1 Hb n0 n1;go_region
  go_wp2_with fail;refine bodyPost_ret (v:=.tuple #[.agg #[O ii 0,O ii 0],.agg #[O ii 0,O ii 0],.bool false]) (by simp [results,Tryz.results177,go_sem, *]) rfl ⟨rfl,?_⟩;exact (set2 (set2 HB.out (by simp) (by simp)) (by simp;omega) (by simp;omega)).drew
 ·have hc:oc d=false:=by simpa [siB,hs] using h
  have hl:=qC2 hc;go_enter func177,ntmps177;go_wp2_with (go_at_call 143;refine (zCm _ _ _ _).mono ?_;rintro e w1 ⟨rfl,hb1⟩;obtain ⟨⟨⟨c0,c1⟩,_,z0⟩,⟨⟨e0,e1⟩,⟨f0,f1⟩,z1⟩,⟨g0,g1⟩,⟨k0,k1⟩,z2⟩:=zDy hb1;have Hb:=zAc (bt (zCb _ _ _) hb1);clear hb1);obtain ⟨W,hW,hBW,n0,n1,nz⟩:=zM9 w1 (O ii (sX x y d)) (O ii (sY x y d)) 47;rw [hW];obtain ⟨⟨e2,e3⟩,f2,f3⟩:=Below.two hBW z1 e0 e1 f0 f1;obtain ⟨⟨g2,g3⟩,k2,k3⟩:=Below.two hBW z2 g0 g1 k0 k1;have HB:=zAc (bt Hb.out hBW);clear hW hBW e0 e1 f0 f1 g0 g1 k0 k1 c0 c1 Hb n0 n1;go_region
  go_wp2_with fail;refine bodyPost_ret (v:=.tuple #[.agg #[O ii 0,O ii 0],.agg #[O ii 0,O ii 0],.bool false]) (by simp [results,Tryz.results177,go_sem, *]) rfl ⟨rfl,?_⟩;exact (set2 (set2 HB.out (by simp) (by simp)) (by simp;omega) (by simp;omega)).drew
theorem zJ9 (x y:Int) (k:Nat) (w:World) (hk:k<8) (h:siB x y k=true) :
 Calls pg 177 #[.agg #[O ii x,O ii y],O ii k] w fun e w'=>e = .returned (zC3 x y k)/\Below w.heap.size w w':=by
 rw [zFb h,Int.toNat_natCast];have h2:sB x y k=true/\oc k=true:=by simpa [siB] using h
 obtain ⟨hs,hc⟩:=h2;have hl:=qC3 hc
 have hn:nrC x y=true:=by
  cases e:nrC x y
  ·rw [zPs e] at hs;cases hs
  ·rfl
 have wx:IntKind.i64.wrap (x+dX k)=x+dX k:=by
  obtain ⟨⟨x0,x1⟩,y0,y1⟩:=(zBr x y).1 hn;obtain ⟨dx0,dx1⟩:=zD6 k;exact zEf (by omega) (by omega)
 have wy:IntKind.i64.wrap (y+dY k)=y+dY k:=by
  obtain ⟨⟨x0,x1⟩,y0,y1⟩:=(zBr x y).1 hn;obtain ⟨dx0,dx1⟩:=zD5 k;exact zEf (by omega) (by omega)
 clear h hc;go_enter func177,ntmps177;go_wp2_with (first|(go_at_call 175;refine (zGe _ _ hk).mono ?_;rintro e w' ⟨rfl,rfl⟩)|(go_at_call 143;refine (zCm _ _ _ _).mono ?_;rintro e w1 ⟨rfl,hb1⟩;obtain ⟨⟨⟨c0,c1⟩,_,z0⟩,⟨⟨e0,e1⟩,⟨f0,f1⟩,z1⟩,⟨g0,g1⟩,⟨k0,k1⟩,z2⟩:=zDy hb1;have Hb:=zAc (bt (zCb _ _ _) hb1);clear hb1));obtain ⟨W,hW,hBW,n0,n1,nz⟩:=zM9 w1 (O ii (sX x y k)) (O ii (sY x y k)) 47;rw [hW];obtain ⟨⟨e2,e3⟩,f2,f3⟩:=Below.two hBW z1 e0 e1 f0 f1;obtain ⟨⟨g2,g3⟩,k2,k3⟩:=Below.two hBW z2 g0 g1 k0 k1;have c2:=(hBW.cell (p:=⟨w.heap.size,0,none⟩) z0).trans c0;have c3:=(hBW.cell (p:=⟨w.heap.size,1,none⟩) z0).trans c1;have HB:=zAc (bt Hb.out hBW);have q5:¬w.heap.size=w.heap.size+1+1:=by omega
 have q6:¬w.heap.size+1+1=w.heap.size:=by omega
 clear hW hBW e0 e1 f0 f1 g0 g1 k0 k1 c0 c1 Hb n0 n1;go_region_held3 (fun w'=>(w'.cell? ⟨w.heap.size,0,none⟩=some (O ii x)/\w'.cell? ⟨w.heap.size,1,none⟩=some (O ii y))) (go_keep) (fail)
 go_wp2_with fail;refine bodyPost_ret (v:=.tuple #[.agg #[O ii (x+dX k),O ii y],.agg #[O ii x,O ii (y+dY k)],.bool true]) (by simp [results,Tryz.results177,go_sem, *]) rfl ⟨rfl,?_⟩;exact (set2 (set2 HB.out (by simp) (by simp)) (by simp;omega) (by simp;omega)).drew
theorem zWw {x y d:Int} (h:siB x y d=true):0<=d/\d<8:=by
 have h2:sB x y d=true/\oc d=true:=by simpa [siB] using h
 cases e:isD d
 ·rw [zPt e] at h2;cases h2.1
 ·exact (zB7 d).1 e
theorem zKa (x y d:Int) (w:World) :
 Calls pg 177 #[.agg #[O ii x,O ii y],O ii d] w fun e w'=>e = .returned (zC3 x y d)/\Below w.heap.size w w':=by
 cases h:siB x y d
 ·exact zLj x y d w h
 ·obtain ⟨h0,h1⟩:=zWw h;obtain ⟨k,rfl⟩:=Int.eq_ofNat_of_zero_le h0;exact zJ9 x y k w (by omega) h
end Go.Proofs.YthiafmlgialbnaaGreatDoor
