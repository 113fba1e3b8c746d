import Derived.Test.YtejjcenhjpjefaaGreatDoorHi0
import Derived.Test.YtejjcenhjpjefaaGreatDoorAcr0
import Derived.Test.YtejjcenhjpjefaaGreatDoorClus
import Derived.Deep.RegionWith
import Derived.Deep.DeepCutAuto
import Derived.Test.YtejjcenhjpjefaaGreatDoorRowC
set_option linter.all false
set_option maxRecDepth 1000000
set_option maxHeartbeats 64000000
open Go.Proofs.Tryz
open Go.Proofs.Tryz renaming prog->pg
open And renaming intro->ai
open Go.Value renaming int->O
open Go.IntKind renaming i64->ii
namespace Go.Proofs.YtejjcenhjpjefaaGreatDoor
open Go.RowKit Go.Shelf
section
section
variable {B:Nat} {Y Y':World} {mb:Nat} {K:List (Int×Int)} {F:Int->Int->Value} {E:Int×Int->List E3}
theorem AcM.addC (h:AcM B Y mb K F E) {x y:Int} (tx ty co:Int) (hx:W64 x) (hy:W64 y) (hlen:K.length<=1000) (hE:(E (x,y)).length<=1000) (hBY:B<=Y.heap.size) :
 ∃st w1 v2 w2 w3,(Instr.mapEntry 31 (.map (some mb)) (cel x y)).run pg (Y.alloc (.cells #[O ii tx,O ii ty,O ii co] 88)) = .ok (.tuple #[F x y,O ii (st:Nat)]) w1/\
  (Builtin.append_ #[85,85] 85 #[F x y,.slice (some ⟨Y.heap.size,0,none⟩) 1 1]).run pg w1 = .ok v2 w2/\(Instr.entryStore 31 (.map (some mb)) (O ii (st:Nat)) v2).run pg w2 = .ok () w3/\
  AcM B w3 mb (zDh K (x,y)) (zC1 F x y v2) (zHn E (x,y) ⟨tx,ty,co⟩)/\Turns (fun k=>k=mb\/(F x y).ownBlock=some k) Y w3/\Turns (fun k=>k=mb\/(F x y).ownBlock=some k) Y w1/\Turns (fun k=>k=mb\/(F x y).ownBlock=some k) Y w2:=by
 have hmb:=h.mp.lt;have b1:=zAh Y (.cells #[O ii tx,O ii ty,O ii co] 88);have zY1:(Y.alloc (.cells #[O ii tx,O ii ty,O ii co] 88)).heap.size=Y.heap.size+1:=by simp
 have hnew:=heap_alloc_new Y (.cells #[O ii tx,O ii ty,O ii co] 88);have h1:=h.upto b1;generalize Y.alloc (.cells #[O ii tx,O ii ty,O ii co] 88)=Y1 at b1 zY1 hnew h1 ⊢;obtain ⟨st,w1,r1,T1,z1,back⟩:=h1.mp.entry Tryz.underlying31 (fun u=>by kernel_rfl) hx hy (by unfold maxLen;omega);have hF1:=(h1.rows x y).kept T1 (fun g e=>h1.ne e);have hn1:=T1.same (show ¬Y.heap.size=mb by omega) hnew
 obtain ⟨v2,w2,r2,q2,q3,q4⟩:=zLp (c:=1) hF1 (M:=[⟨tx,ty,co⟩]) (a:=⟨Y.heap.size,0,none⟩) (fun j u hu=>by
  rw [Addr.add_lit,Nat.zero_add,cell_of_row _ Y.heap.size j _ _ _ hn1]
  simpa [E3.cs] using hu) (by simp;omega)
 have hno:¬(F x y).ownBlock=some mb:=fun e=>h1.ne e rfl;obtain ⟨w3,r3,m3,T3⟩:=back w2 v2 (q4.block mb (by omega) hno) (zIc q2)
 have hv2:∀g,v2.ownBlock=some g->g≠mb:=fun g e=>by
  obtain ⟨cur,hc⟩:=q2.blk e;rintro rfl;obtain ⟨es,clock,hm⟩:=m3.blk;obtain ⟨es1,clock1,hm1⟩:=h1.mp.blk;rcases q3 g e with q|q
  ·exact h1.ne q rfl
  ·omega
 have TA:Turns (fun k=>k=mb\/(F x y).ownBlock=some k) Y w3:=(Turns.of_below b1).trans (((T1.mono (fun k _ e => .inl (.inl e))).trans (q4.mono (fun k _ e => .inl (.inl (.inr e))))).trans (T3.mono (fun k _ e => .inl (.inl (.inl e)))));have TA1:Turns (fun k=>k=mb\/(F x y).ownBlock=some k) Y w1:=(Turns.of_below b1).trans (T1.mono (fun k _ e => .inl (.inl e)));have TA2:Turns (fun k=>k=mb\/(F x y).ownBlock=some k) Y w2:=(Turns.of_below b1).trans ((T1.mono (fun k _ e => .inl (.inl e))).trans (q4.mono (fun k _ e => .inl (.inl (.inr e)))));have hown2:∀g,v2.ownBlock=some g->(F x y).ownBlock=some g\/Y.heap.size<=g:=fun g e=>(q3 g e).imp id (fun q=>by omega);refine ⟨st,w1,v2,w2,w3,r1,r2,r3,⟨m3,fun u v=>?_,fun a b u v g e1 e2=>?_,fun u v g e=>?_⟩,TA,TA1,TA2⟩
 ·unfold zC1 zHn
  by_cases e:u=x/\v=y
  ·rw [if_pos e,e.1,e.2,if_pos rfl];exact q2.kept T3 (fun g e=>hv2 g e)
  ·rw [if_neg e,if_neg (fun q=>e (by simpa using q))];exact (h.rows u v).kept TA (fun g e1 e2=>e2.elim (fun q=>h.ne e1 q) (fun q=>e (by obtain ⟨e3,e4⟩:=h.apart _ _ _ _ _ e1 q;exact ⟨e3,e4⟩)))
 ·unfold zC1 at e1 e2
  by_cases ha:a=x/\b=y<;>by_cases hu:u=x/\v=y
  ·exact ⟨ha.1.trans hu.1.symm,ha.2.trans hu.2.symm⟩
  ·rw [if_pos ha] at e1;rw [if_neg hu] at e2;rcases hown2 g e1 with q|q
   ·obtain ⟨e3,e4⟩:=h.apart _ _ _ _ _ e2 q;exact absurd ⟨e3,e4⟩ hu
   ·have:=h.lt e2;omega
  ·rw [if_neg ha] at e1;rw [if_pos hu] at e2;rcases hown2 g e2 with q|q
   ·obtain ⟨e3,e4⟩:=h.apart _ _ _ _ _ e1 q;exact absurd ⟨e3,e4⟩ ha
   ·have:=h.lt e1;omega
  ·rw [if_neg ha] at e1;rw [if_neg hu] at e2;exact h.apart _ _ _ _ _ e1 e2
 ·unfold zC1 at e
  by_cases hu:u=x/\v=y
  ·rw [if_pos hu] at e;rcases hown2 g e with q|q
   ·exact h.own _ _ _ q
   ·omega
  ·rw [if_neg hu] at e;exact h.own _ _ _ e
end
theorem zI0 {ev:Operand->Value} {o:Oper} {w w':World} {t:TypeId} {m k:Operand} {b:Nat} {x y:Int} {v:Value} (ho:o.op = .mapEntry t m k) (hm:ev m = .map (some b)) (hk:ev k=cel x y) (hr:(Instr.mapEntry t (.map (some b)) (cel x y)).run pg w = .ok v w') :
 (execOp ev o).run pg w = .ok (.value v) w':=by
 unfold execOp;simp only [ho,hm,hk];simp only [Sem.run_bind,hr,Result.andThen];rfl
theorem zG6 {ev:Operand->Value} {o:Oper} {w w':World} {t:TypeId} {m k u:Operand} {b:Nat} {s v:Value} (ho:o.op = .entryStore t m k u) (hm:ev m = .map (some b)) (hk:ev k=s) (hu:ev u=v) (hr:(Instr.entryStore t (.map (some b)) s v).run pg w = .ok () w') :
 (execOp ev o).run pg w = .ok .skip w':=by
 unfold execOp;simp only [ho,hm,hk,hu];simp only [Sem.run_bind,hr,Result.andThen];rfl
theorem zHd (x y:Int) (hx:W64 x) (hy:W64 y) (w:World):Calls pg 16 #[cel x y] w fun e w'=>e = .returned (cel (x/8) (y/8))/\Below w.heap.size w w':=by
 have HX:=zAb (zLb x hx);have HY:=zAb (zLb y hy);clear hx hy;have B2:Below w.heap.size w ((w.alloc (.cells #[O ii x,O ii y] 23)).alloc (.cells #[O ii 0,O ii 0] 23)):=zBe _ _ _;obtain ⟨X,hX⟩:=ex ((w.alloc (.cells #[O ii x,O ii y] 23)).alloc (.cells #[O ii 0,O ii 0] 23));rw [hX] at B2;have T0:Two X w.heap.size x y:=by rw [<-hX];exact (Two.newAt rfl).alloc
 have T1:Two X (w.heap.size+1) 0 0:=by rw [<-hX];exact Two.newAt (by simp)
 go_enter func16,ntmps16;go_wp2_with fail;clear hX;have HB:=zAb B2;clear B2;obtain ⟨⟨c0,c1⟩,⟨f0,f1⟩,z0⟩:=T0;obtain ⟨⟨d0,d1⟩,⟨g0,g1⟩,z1⟩:=T1
 go_region_held3 (fun w'=>w'.cell? ⟨w.heap.size,0,none⟩=some (O ii x)/\w'.cell? ⟨w.heap.size,1,none⟩=some (O ii y)) (go_keep)
  (first|(go_at_call_of 41 x;refine (HX.out _).mono ?_;rintro e w' ⟨rfl,rfl⟩)|(go_at_call_of 41 y;refine (HY.out _).mono ?_;rintro e w' ⟨rfl,rfl⟩))
 go_wp2_with fail;refine bodyPost_ret (v:=cel (x/8) (y/8)) (by simp [results,Tryz.results16,go_sem, *]) rfl ⟨rfl,?_⟩;exact (set2 HB.out (by simp) (by simp)).drew
end
attribute [local go_sem] Oper.semAt_some
theorem Rf9:Rcl 9:=zl fun _ _=>by go_simp
theorem zZi:Rcl 10:=zl fun _ _=>by go_simp
theorem zSc:Rcl 16:=zl fun _ _=>by go_simp
theorem zWg:Rcl 17:=zl fun _ _=>by go_simp
theorem qBu:Rcl 92:=zl fun _ _=>by go_simp
theorem zBn {B:Nat} {a w:World} {g:Nat} (h:Below B a w) (hg:B<=g) (u0 u1 u2 u3:Value):Below B a ((((w.setCell ⟨g,0,none⟩ u0).setCell ⟨g,1,none⟩ u1).setCell ⟨g,2,none⟩ u2).setCell ⟨g,3,none⟩ u3):=
 (((h.setCell hg _).setCell hg _).setCell hg _).setCell hg _
structure JnK (w:World) (gp p:Nat) (c s ex ey ix iy iw ih:Int) (j:Nat) (co:Int):Prop where
 wd:∀wx,Below w.heap.size w wx->Calls pg 9 #[ptr gp] wx fun e w'=>e = .returned (ptr p)/\Below wx.heap.size wx w'
 sh:∀wx,Below w.heap.size w wx->Calls pg 10 #[ptr gp] wx fun e w'=>e = .returned (shv c s)/\Below wx.heap.size wx w'
 rc:∀wx,Below w.heap.size w wx->Calls pg 17 #[ptr p,cel (ex/8) (ey/8)] wx fun e w'=>e = .returned (.tuple #[rct ix iy iw ih,.bool true])/\Below wx.heap.size wx w'
 cs:∀wx,Below w.heap.size w wx->Calls pg 92 #[ptr p,shv c s,cel ex ey,rct ix iy iw ih] wx fun e w'=>∃g n cap,e = .returned (.tuple #[.slice (some ⟨g,0,none⟩) n cap,O ii 0])/\Below wx.heap.size wx w'/\j<n/\n<=1000/\g<w'.heap.size/\w'.cell? ⟨g,j,none⟩=some (O ii co)
theorem zLx {w:World} {l gp p:Nat} {fx fy tx ty c s:Int} {ab cb hb:Nat} {K:List (Int×Int)} {F:Int->Int->Value} {E:Int×Int->List E3} {B0:Nat} (hs:Sea w l gp fx fy tx ty ab cb hb) (ha:AcM B0 w ab K F E) (hB0:B0<=w.heap.size) (hK:K.length<=900) (hE:∀q,(E q).length<=900)
 {ex ey ix iy iw ih ox oy:Int} {j:Nat} {co:Int} (hk:JnK w gp p c s ex ey ix iy iw ih j co) (he:(0<=ex/\ex<=127)/\0<=ey/\ey<=127) (ho:(0<=ox/\ox<=127)/\0<=oy/\oy<=127) (hi:(0<=ix/\ix<=127)/\(0<=iy/\iy<=127)/\0<=iw/\iw<=127) {m:Int} (hm:(oy-iy)*iw=m) (hmb:-100000<=m/\m<=100000) (hj:m+ox-ix=(j:Nat)) (hco:0<co/\co<=100000) (hne:¬(ex=ox/\ey=oy))
 {ov:Value} (hov:∃g cap,ov = .slice (some ⟨g,0,none⟩) 1 cap/\g<w.heap.size/\w.cell? ⟨g,0,none⟩=some (O ii ox)/\w.cell? ⟨g,1,none⟩=some (O ii oy)) :
 Calls pg 60 #[ptr l,cel ex ey,ov] w fun e w'=>e = .returned (.tuple #[])/\∃F',AcM B0 w' ab (zDh (zDh K (ex,ey)) (ox,oy)) F' (zHn (zHn E (ex,ey) ⟨ox,oy,co⟩) (ox,oy) ⟨ex,ey,co⟩)/\Turns (fun k=>k=ab\/∃u v,(F u v).ownBlock=some k) w w':=by
 obtain ⟨og,oc,rfl,hogl,hoc0,hoc1⟩:=hov;obtain ⟨X,hX⟩:∃X,w.alloc (.cells #[O ii ex,O ii ey] 23)=X:=⟨_,rfl⟩
 have BX:Below w.heap.size w X:=by rw [<-hX];exact zAh _ _
 have TX:=zAb (show Two X w.heap.size ex ey by rw [<-hX];exact Two.newAt rfl);have HX:=zAb hX;have BX:=zAb BX;have Hs:=zAb hs;have Ha:=zAb ha;have Hk:=zAb hk;have Hog:=zAb (ai hogl (ai hoc0 hoc1));clear hX hs ha hk hogl hoc0 hoc1;go_enter func60,ntmps60;go_wp2_with (rw [HX.out]);go_cut [6,7] (fun s6 s7 wx=>s7 = .bool true/\∃b,s6=ptr b/\Four wx b ix iy iw ih/\X.heap.size<=b/\Below X.heap.size X wx)
 case first =>
  obtain ⟨Y,hY⟩:∃Y,X.drew=Y:=⟨_,rfl⟩
  have BY:=zAb (show Below X.heap.size X Y by rw [<-hY];exact (Below.refl _ _).drew);have hsY:=zAb BY.out.size
  have HR:=zAb (show ∀wx,Below Y.heap.size Y wx->wx.cell? ⟨l,0,none⟩=some (ptr gp)/\wx.cell? ⟨w.heap.size,0,none⟩=some (O ii ex)/\wx.cell? ⟨w.heap.size,1,none⟩=some (O ii ey) from fun wx q=>by
   have q2:=bt BY.out q
   exact ⟨(Hs.out.upto (bt BX.out q2)).c 0 _ rfl,(TX.out.kept q2).1.1,(TX.out.kept q2).1.2⟩)
  have HWd:=zAb (fun (W:World) (q:Below Y.heap.size Y W)=>Hk.out.wd W (bt BX.out (bt BY.out q)));have HOf:=zAb (fun (W:World) (q:Below Y.heap.size Y W)=>zHd ex ey (zBr (by omega)) (zBr (by omega)) W);have HRc:=zAb (fun (W:World) (q:Below Y.heap.size Y W)=>Hk.out.rc W (bt BX.out (bt BY.out q)));have HY:=zAb hY;clear hY;refine zAj ?_;refine zAe (fun wx:World=>Below Y.heap.size Y wx) [] (by kernel_rfl) ?_;rw [HY.out];refine zx 0 4 14 rfl (by kernel_rfl) (Below.refl _ _) ?_
  iterate 4 (refine zxc rfl (by rfl) (fun wx hx=>by obtain ⟨c0,d0,d1⟩:=HR.out wx hx;go_simp;rfl) ?_;simp only [zp])
  refine zxn ?_;refine zx 5 1 14 rfl (by kernel_rfl) (Below.refl _ _) ?_;refine zxc rfl (by rfl) (fun wx hx=>by obtain ⟨c0,d0,d1⟩:=HR.out wx hx;go_simp;rfl) ?_;simp only [zp];refine zxn ?_;have BB:Below Y.heap.size Y Y:=Below.refl _ _;refine zw 4 [11] (by kernel_rfl) ?_;refine readyZ.call rfl rfl (Rf9 (by rfl) (by rfl) (by simp only [zj];rfl)) (HWd.out Y BB) ?_ ?_
  ·rintro e V4 ⟨rfl,hV4⟩;have BV4:Below Y.heap.size Y V4:=bt BB hV4;refine ⟨_,rfl,fun _=>BV4,?_⟩;simp only [zp];refine zw 6 [11] (by kernel_rfl) ?_;refine readyZ.call rfl rfl (zSc (by rfl) (by rfl) (by simp only [zj];rfl)) (HOf.out V4 BV4) ?_ ?_
   ·rintro e V6 ⟨rfl,hV6⟩;have BV6:Below Y.heap.size Y V6:=bt BV4 hV6;refine ⟨_,rfl,fun _=>BV6,?_⟩;simp only [zp];refine zw 7 [11] (by kernel_rfl) ?_;refine readyZ.call rfl rfl (zWg (by rfl) (by rfl) (by simp only [zj];rfl)) (HRc.out V6 BV6) ?_ ?_
    ·rintro e V7 ⟨rfl,hV7⟩;have BV7:Below Y.heap.size Y V7:=bt BV6 hV7;refine ⟨_,rfl,fun _=>BV7,?_⟩;simp only [zp];refine zx 8 3 14 rfl (by kernel_rfl) BV7 ?_
     iterate 3 (refine zxc rfl (by rfl) (fun wx hx=>by go_simp;rfl) ?_;simp only [zp])
     refine zxn ?_;obtain ⟨Az,hAz⟩:∃V,V7.alloc (.cells #[O ii 0,O ii 0,O ii 0,O ii 0] 65)=V:=⟨_,rfl⟩
     have KAz:Four Az V7.heap.size 0 0 0 0:=by rw [<-hAz];exact Four.new _ _ _ _ _ _
     have BAz:Below Y.heap.size Y Az:=by rw [<-hAz];exact bt BV7 (zAh _ _)
     have hzAz:=BV7.size;refine zq 11 (by kernel_rfl) rfl rfl (v':=ptr V7.heap.size) (w':=Az) (by rw [<-hAz];go_simp) (fun _=>BAz) ?_;simp only [zp];clear hAz;have bz:Below Y.heap.size Y (((((Az.setCell ⟨V7.heap.size,0,none⟩ (O ii ix)).setCell ⟨V7.heap.size,1,none⟩ (O ii iy)).setCell ⟨V7.heap.size,2,none⟩ (O ii iw)).setCell ⟨V7.heap.size,3,none⟩ (O ii ih))):=zBn BAz (by omega) _ _ _ _;obtain ⟨⟨r0,r1,r2,r3⟩,⟨f0,f1,f2,f3⟩,-⟩:=id KAz;refine zw 12 [] (by kernel_rfl) ?_;refine readyZ.skip rfl rfl (w':=((((Az.setCell ⟨V7.heap.size,0,none⟩ (O ii ix)).setCell ⟨V7.heap.size,1,none⟩ (O ii iy)).setCell ⟨V7.heap.size,2,none⟩ (O ii iw)).setCell ⟨V7.heap.size,3,none⟩ (O ii ih))) (by go_simp) (fun _=>bz) ?_ readyZ.nil;refine zq 13 (v':=.bool true) (by kernel_rfl) rfl rfl (zBd rfl rfl) (fun _=>bz) ?_;refine zAd (by kernel_rfl) ?_ _;dsimp only [zAv,Exit.then];simp only [zp];go_wp2_with fail;go_meet
     exact ⟨rfl,V7.heap.size,rfl,zB6 KAz,by have:=hsY.out;omega,BY.out.trans (bz.mono hsY.out)⟩
    ·obtain ⟨A7,hA7⟩:∃V,V6.alloc (.cells #[O ii 0,O ii 0,O ii 0,O ii 0] 65)=V:=⟨_,rfl⟩
     have KA7:Four A7 V6.heap.size 0 0 0 0:=by rw [<-hA7];exact Four.new _ _ _ _ _ _
     have BA7:Below Y.heap.size Y A7:=by rw [<-hA7];exact bt BV6 (zAh _ _)
     refine readyZ.cons rfl rfl (v':=ptr V6.heap.size) (w':=A7) (by rw [<-hA7];go_simp) (fun _=>BA7) ?_ readyZ.nil;have hzA7:=BV6.size;simp only [zp];clear hA7;refine zw 7 [] (by kernel_rfl) ?_;refine readyZ.call rfl rfl (zWg (by rfl) (by rfl) (by simp only [zj];rfl)) (HRc.out A7 BA7) ?_ readyZ.nil;rintro e Vx7 ⟨rfl,hVx7⟩;have BVx7:Below Y.heap.size Y Vx7:=bt BA7 hVx7;have KVx7:=(KA7).kept hVx7;refine ⟨_,rfl,fun _=>BVx7,?_⟩;simp only [zp];refine zx 8 3 14 rfl (by kernel_rfl) BVx7 ?_
     iterate 3 (refine zxc rfl (by rfl) (fun wx hx=>by go_simp;rfl) ?_;simp only [zp])
     refine zxn ?_;have bz:Below Y.heap.size Y (((((Vx7.setCell ⟨V6.heap.size,0,none⟩ (O ii ix)).setCell ⟨V6.heap.size,1,none⟩ (O ii iy)).setCell ⟨V6.heap.size,2,none⟩ (O ii iw)).setCell ⟨V6.heap.size,3,none⟩ (O ii ih))):=zBn BVx7 (by omega) _ _ _ _;obtain ⟨⟨r0,r1,r2,r3⟩,⟨f0,f1,f2,f3⟩,-⟩:=id KVx7;refine zw 12 [] (by kernel_rfl) ?_;refine readyZ.skip rfl rfl (w':=((((Vx7.setCell ⟨V6.heap.size,0,none⟩ (O ii ix)).setCell ⟨V6.heap.size,1,none⟩ (O ii iy)).setCell ⟨V6.heap.size,2,none⟩ (O ii iw)).setCell ⟨V6.heap.size,3,none⟩ (O ii ih))) (by go_simp) (fun _=>bz) ?_ readyZ.nil;refine zq 13 (v':=.bool true) (by kernel_rfl) rfl rfl (zBd rfl rfl) (fun _=>bz) ?_;refine zAd (by kernel_rfl) ?_ _;dsimp only [zAv,Exit.then];simp only [zp];go_wp2_with fail;go_meet
     exact ⟨rfl,V6.heap.size,rfl,zB6 KVx7,by have:=hsY.out;omega,BY.out.trans (bz.mono hsY.out)⟩
   ·obtain ⟨A6,hA6⟩:∃V,V4.alloc (.cells #[O ii 0,O ii 0,O ii 0,O ii 0] 65)=V:=⟨_,rfl⟩
    have KA6:Four A6 V4.heap.size 0 0 0 0:=by rw [<-hA6];exact Four.new _ _ _ _ _ _
    have BA6:Below Y.heap.size Y A6:=by rw [<-hA6];exact bt BV4 (zAh _ _)
    refine readyZ.cons rfl rfl (v':=ptr V4.heap.size) (w':=A6) (by rw [<-hA6];go_simp) (fun _=>BA6) ?_ readyZ.nil;have hzA6:=BV4.size;simp only [zp];clear hA6;refine zw 6 [] (by kernel_rfl) ?_;refine readyZ.call rfl rfl (zSc (by rfl) (by rfl) (by simp only [zj];rfl)) (HOf.out A6 BA6) ?_ readyZ.nil;rintro e Vx6 ⟨rfl,hVx6⟩;have BVx6:Below Y.heap.size Y Vx6:=bt BA6 hVx6;have KVx6:=(KA6).kept hVx6;refine ⟨_,rfl,fun _=>BVx6,?_⟩;simp only [zp];refine zw 7 [] (by kernel_rfl) ?_;refine readyZ.call rfl rfl (zWg (by rfl) (by rfl) (by simp only [zj];rfl)) (HRc.out Vx6 BVx6) ?_ readyZ.nil;rintro e Vx7 ⟨rfl,hVx7⟩;have BVx7:Below Y.heap.size Y Vx7:=bt BVx6 hVx7;have KVx7:=(KVx6).kept hVx7;refine ⟨_,rfl,fun _=>BVx7,?_⟩;simp only [zp];refine zx 8 3 14 rfl (by kernel_rfl) BVx7 ?_
    iterate 3 (refine zxc rfl (by rfl) (fun wx hx=>by go_simp;rfl) ?_;simp only [zp])
    refine zxn ?_;have bz:Below Y.heap.size Y (((((Vx7.setCell ⟨V4.heap.size,0,none⟩ (O ii ix)).setCell ⟨V4.heap.size,1,none⟩ (O ii iy)).setCell ⟨V4.heap.size,2,none⟩ (O ii iw)).setCell ⟨V4.heap.size,3,none⟩ (O ii ih))):=zBn BVx7 (by omega) _ _ _ _;obtain ⟨⟨r0,r1,r2,r3⟩,⟨f0,f1,f2,f3⟩,-⟩:=id KVx7;refine zw 12 [] (by kernel_rfl) ?_;refine readyZ.skip rfl rfl (w':=((((Vx7.setCell ⟨V4.heap.size,0,none⟩ (O ii ix)).setCell ⟨V4.heap.size,1,none⟩ (O ii iy)).setCell ⟨V4.heap.size,2,none⟩ (O ii iw)).setCell ⟨V4.heap.size,3,none⟩ (O ii ih))) (by go_simp) (fun _=>bz) ?_ readyZ.nil;refine zq 13 (v':=.bool true) (by kernel_rfl) rfl rfl (zBd rfl rfl) (fun _=>bz) ?_;refine zAd (by kernel_rfl) ?_ _;dsimp only [zAv,Exit.then];simp only [zp];go_wp2_with fail;go_meet
    exact ⟨rfl,V4.heap.size,rfl,zB6 KVx7,by have:=hsY.out;omega,BY.out.trans (bz.mono hsY.out)⟩
  ·obtain ⟨A4,hA4⟩:∃V,Y.alloc (.cells #[O ii 0,O ii 0,O ii 0,O ii 0] 65)=V:=⟨_,rfl⟩
   have KA4:Four A4 Y.heap.size 0 0 0 0:=by rw [<-hA4];exact Four.new _ _ _ _ _ _
   have BA4:Below Y.heap.size Y A4:=by rw [<-hA4];exact bt BB (zAh _ _)
   refine readyZ.cons rfl rfl (v':=ptr Y.heap.size) (w':=A4) (by rw [<-hA4];go_simp) (fun _=>BA4) ?_ readyZ.nil;have hzA4:=BB.size;simp only [zp];clear hA4;refine zw 4 [] (by kernel_rfl) ?_;refine readyZ.call rfl rfl (Rf9 (by rfl) (by rfl) (by simp only [zj];rfl)) (HWd.out A4 BA4) ?_ readyZ.nil;rintro e Vx4 ⟨rfl,hVx4⟩;have BVx4:Below Y.heap.size Y Vx4:=bt BA4 hVx4;have KVx4:=(KA4).kept hVx4;refine ⟨_,rfl,fun _=>BVx4,?_⟩;simp only [zp];refine zw 6 [] (by kernel_rfl) ?_;refine readyZ.call rfl rfl (zSc (by rfl) (by rfl) (by simp only [zj];rfl)) (HOf.out Vx4 BVx4) ?_ readyZ.nil;rintro e Vx6 ⟨rfl,hVx6⟩;have BVx6:Below Y.heap.size Y Vx6:=bt BVx4 hVx6;have KVx6:=(KVx4).kept hVx6;refine ⟨_,rfl,fun _=>BVx6,?_⟩;simp only [zp];refine zw 7 [] (by kernel_rfl) ?_;refine readyZ.call rfl rfl (zWg (by rfl) (by rfl) (by simp only [zj];rfl)) (HRc.out Vx6 BVx6) ?_ readyZ.nil;rintro e Vx7 ⟨rfl,hVx7⟩;have BVx7:Below Y.heap.size Y Vx7:=bt BVx6 hVx7;have KVx7:=(KVx6).kept hVx7;refine ⟨_,rfl,fun _=>BVx7,?_⟩;simp only [zp];refine zx 8 3 14 rfl (by kernel_rfl) BVx7 ?_
   iterate 3 (refine zxc rfl (by rfl) (fun wx hx=>by go_simp;rfl) ?_;simp only [zp])
   refine zxn ?_;have bz:Below Y.heap.size Y (((((Vx7.setCell ⟨Y.heap.size,0,none⟩ (O ii ix)).setCell ⟨Y.heap.size,1,none⟩ (O ii iy)).setCell ⟨Y.heap.size,2,none⟩ (O ii iw)).setCell ⟨Y.heap.size,3,none⟩ (O ii ih))):=zBn BVx7 (by omega) _ _ _ _;obtain ⟨⟨r0,r1,r2,r3⟩,⟨f0,f1,f2,f3⟩,-⟩:=id KVx7;refine zw 12 [] (by kernel_rfl) ?_;refine readyZ.skip rfl rfl (w':=((((Vx7.setCell ⟨Y.heap.size,0,none⟩ (O ii ix)).setCell ⟨Y.heap.size,1,none⟩ (O ii iy)).setCell ⟨Y.heap.size,2,none⟩ (O ii iw)).setCell ⟨Y.heap.size,3,none⟩ (O ii ih))) (by go_simp) (fun _=>bz) ?_ readyZ.nil;refine zq 13 (v':=.bool true) (by kernel_rfl) rfl rfl (zBd rfl rfl) (fun _=>bz) ?_;refine zAd (by kernel_rfl) ?_ _;dsimp only [zAv,Exit.then];simp only [zp];go_wp2_with fail;go_meet
   exact ⟨rfl,Y.heap.size,rfl,zB6 KVx7,by have:=hsY.out;omega,BY.out.trans (bz.mono hsY.out)⟩
 case rest =>
  rename World=>w1;obtain ⟨rfl,b,rfl,hF4,hbX,hB1⟩:=hcut;obtain ⟨Y,hY⟩:∃Y,w1.drew=Y:=⟨_,rfl⟩
  have BY:=zAb (show Below X.heap.size X Y by rw [<-hY];exact hB1.drew);have F4Y:=zAb (show Four Y b ix iy iw ih by rw [<-hY];exact hF4)
  have HR:=zAb (show ∀wx,Below Y.heap.size Y wx->(wx.cell? ⟨l,0,none⟩=some (ptr gp)/\wx.cell? ⟨w.heap.size,0,none⟩=some (O ii ex)/\wx.cell? ⟨w.heap.size,1,none⟩=some (O ii ey))/\wx.cell? ⟨b,0,none⟩=some (O ii ix)/\wx.cell? ⟨b,1,none⟩=some (O ii iy)/\wx.cell? ⟨b,2,none⟩=some (O ii iw)/\wx.cell? ⟨b,3,none⟩=some (O ii ih) from fun wx q=>by
   have q2:=bt BY.out q
   exact ⟨⟨(Hs.out.upto (bt BX.out q2)).c 0 _ rfl,(TX.out.kept q2).1.1,(TX.out.kept q2).1.2⟩,(F4Y.out.kept q).1⟩)
  have HWd:=zAb (fun (W:World) (q:Below Y.heap.size Y W)=>Hk.out.wd W (bt BX.out (bt BY.out q)));have HSh:=zAb (fun (W:World) (q:Below Y.heap.size Y W)=>Hk.out.sh W (bt BX.out (bt BY.out q)));have HCs:=zAb (fun (W:World) (q:Below Y.heap.size Y W)=>Hk.out.cs W (bt BX.out (bt BY.out q)));have HY:=zAb hY;have hbX:=zAb hbX;clear hY hF4 hB1;go_wp2_with fail;refine zAj ?_;refine zAe (fun wx:World=>Below Y.heap.size Y wx) [] (by kernel_rfl) ?_;rw [HY.out];refine zx 0 4 18 rfl (by kernel_rfl) (Below.refl _ _) ?_
  iterate 4 (refine zxc rfl (by rfl) (fun wx hx=>by obtain ⟨⟨c0,d0,d1⟩,f0,f1,f2,f3⟩:=HR.out wx hx;go_simp;rfl) ?_;simp only [zp])
  refine zxn ?_;refine zx 5 4 18 rfl (by kernel_rfl) (Below.refl _ _) ?_
  iterate 4 (refine zxc rfl (by rfl) (fun wx hx=>by obtain ⟨⟨c0,d0,d1⟩,f0,f1,f2,f3⟩:=HR.out wx hx;go_simp;rfl) ?_;simp only [zp])
  refine zxn ?_;refine zx 10 2 18 rfl (by kernel_rfl) (Below.refl _ _) ?_
  iterate 2 (refine zxc rfl (by rfl) (fun wx hx=>by obtain ⟨⟨c0,d0,d1⟩,f0,f1,f2,f3⟩:=HR.out wx hx;go_simp;rfl) ?_;simp only [zp])
  refine zxn ?_;refine zw 4 [] (by kernel_rfl) ?_;refine readyZ.call rfl rfl (Rf9 (by rfl) (by rfl) (by simp only [zj];rfl)) (HWd.out Y (Below.refl _ _)) ?_ readyZ.nil;rintro e V4 ⟨rfl,h4⟩;refine ⟨_,rfl,fun _=>h4,?_⟩;simp only [zp];refine zw 9 [] (by kernel_rfl) ?_;refine readyZ.call rfl rfl (zZi (by rfl) (by rfl) (by simp only [zj];rfl)) (HSh.out V4 h4) ?_ readyZ.nil;rintro e V9 ⟨rfl,h9⟩;have b9:=bt h4 h9;refine ⟨_,rfl,fun _=>b9,?_⟩;simp only [zp];refine zw 12 [] (by kernel_rfl) ?_;refine readyZ.call rfl rfl (qBu (by rfl) (by rfl) (by simp only [zj];rfl)) (HCs.out V9 b9) ?_ readyZ.nil;rintro e W2 ⟨g,n,cap,rfl,h12,hjn,hn1,hgl,hgc⟩;have b12:=bt b9 h12;refine ⟨_,rfl,fun _=>b12,?_⟩;simp only [zp];refine zx 13 3 18 rfl (by kernel_rfl) b12 ?_
  iterate 3 (refine zxc rfl (by rfl) (fun wx hx=>by go_simp;rfl) ?_;simp only [zp])
  refine zxn ?_;refine zq 16 (v':=.slice (some ⟨g,0,none⟩) n cap) (by kernel_rfl) rfl rfl (zBd rfl rfl) (fun _=>b12) ?_;simp only [zp];refine zq 17 (v':=O ii 0) (by kernel_rfl) rfl rfl (zBd rfl rfl) (fun _=>b12) ?_;refine zAd (by kernel_rfl) ?_ _;dsimp only [zAv,Exit.then];simp only [zp];have B2:=zAb (show Below X.heap.size X W2 from bt BY.out b12);have F42:=zAb (F4Y.out.kept b12);have Hg:=zAb (ai hgl hgc);have hjn':(j:Int)<(n:Nat):=by omega
  have hnb:(n:Int)<=1000:=by omega
  clear h4 h9 b9 h12 b12 hgl hgc HR HWd HSh HCs HY BY F4Y;go_wp2_with fail;go_loopw [42] (fun s42 wr=>∃k:Nat,k<=1/\s42 = O ii k/\(k=0->W2=wr)/\(k=1->∃F',AcM B0 wr ab (zDh (zDh K (ex,ey)) (ox,oy)) F' (zHn (zHn E (ex,ey) ⟨ox,oy,co⟩) (ox,oy) ⟨ex,ey,co⟩)/\Turns (fun k=>k=ab\/∃u v,(F u v).ownBlock=some k) w wr)) (fun s42 _=>1-(intOf s42).toNat)
  case atStart=>exact ⟨0,by omega,rfl,fun _=>rfl,fun h=>by omega⟩
  case round =>
   obtain ⟨k,hk,rfl,hk0,hk1⟩:=hrel
   by_cases hlt:k=0
   ·subst hlt;obtain rfl:=hk0 rfl;clear hk0 hk1;have BW:=zAb (bt BX.out B2.out);have o0:=(BW.out.cell (p:=⟨og,0,none⟩) Hog.out.1).trans Hog.out.2.1;have o1:=(BW.out.cell (p:=⟨og,1,none⟩) Hog.out.1).trans Hog.out.2.2;obtain ⟨V,hV⟩:∃V,W2.alloc (.cells #[O ii ox,O ii oy] 23)=V:=⟨_,rfl⟩
    have BV:=zAb (show Below W2.heap.size W2 V by rw [<-hV];exact zAh _ _);have TV:=zAb (show Two V W2.heap.size ox oy by rw [<-hV];exact Two.newAt rfl);obtain ⟨⟨p0,p1⟩,-,-⟩:=id TV.out;obtain ⟨⟨q0,q1,q2,q3⟩,-,-⟩:=id (F42.out.kept BV.out);have g0:=(BV.out.cell (p:=⟨g,j,none⟩) Hg.out.1).trans Hg.out.2;have HV:=zAb hV;clear hV;go_wp2_with (rw [HV.out]);have HA0:=zAb (Ha.out.upto (bt BW.out BV.out));have h0B:=zAb (show B0<=w.heap.size from hB0);have HSa:=zAb (Hs.out.upto (bt BW.out BV.out));have HEa:=zAb ((TX.out.kept B2.out).kept BV.out);have HOa:=zAb TV.out;have HTa:=zAb (show Turns (fun k=>k=ab\/∃u v,(F u v).ownBlock=some k\/w.heap.size<=k) w V from Turns.of_below (bt BW.out BV.out));have hwW:=zAb (Nat.lt_of_lt_of_le (show w.heap.size<X.heap.size from TX.out.2.2) B2.out.size);have hFlt:=zAb (show ∀u v k,(F u v).ownBlock=some k->k<w.heap.size from fun u v k e=>Ha.out.lt e);have habw:=zAb (show ab<w.heap.size from Ha.out.mp.lt)
    have hnewa:=zAb (show ¬(w.heap.size=ab\/(F ex ey).ownBlock=some w.heap.size)/\¬(W2.heap.size=ab\/(F ex ey).ownBlock=some W2.heap.size) from by
     have h1:=habw.out;have h2:=hwW.out
     exact ⟨fun e=>e.elim (fun q=>by omega) (fun q=>by have:=hFlt.out _ _ _ q;omega),fun e=>e.elim (fun q=>by omega) (fun q=>by have:=hFlt.out _ _ _ q;omega)⟩)
    clear p0 p1 q0 q1 q2 q3 g0 o0 o1;obtain ⟨Ua,hUa⟩:∃U,V.drew=U:=⟨_,rfl⟩
    have AUa:AcM B0 Ua ab K F E:=by rw [<-hUa];exact HA0.out.upto (Below.refl _ _).drew
    have SUa:Sea Ua l gp fx fy tx ty ab cb hb:=by rw [<-hUa];exact HSa.out
    have EUa:Two Ua w.heap.size ex ey:=by rw [<-hUa];exact HEa.out
    have OUa:Two Ua W2.heap.size ox oy:=by rw [<-hUa];exact HOa.out
    have T0Ua:Turns (fun k=>k=ab\/∃u v,(F u v).ownBlock=some k\/w.heap.size<=k) w Ua:=by rw [<-hUa];exact HTa.out.drew
    have hzzUa:W2.heap.size<Ua.heap.size:=OUa.2.2;obtain ⟨sta,w1a,v2a,w2a,w3a,r1a,r2a,r3a,A3a,T3a,T1a,T2a⟩:=AUa.addC ox oy co (x:=ex) (y:=ey) (zBr (by omega)) (zBr (by omega)) (by omega) (by have:=hE (ex,ey);omega) (by have:=h0B.out;have:=hwW.out;omega)
    have hnoa:∀(k:Nat) (cs:Array Value) (t:Nat),Ua.heap[k]? = some (.cells cs t (0,0))->t≠88->¬(k=ab\/(F ex ey).ownBlock=some k):=fun k cs t hk ht hs=>by
     rcases hs with rfl|e
     ·exact zI9 AUa.mp hk rfl
     ·obtain ⟨cur,hc⟩:=(AUa.rows ex ey).blk e;rw [hk] at hc;injection hc with hc
      injection hc with _ hc
      exact ht hc
    have hSla:=hnoa l _ _ SUa (by decide);have hEka:¬(w.heap.size=ab\/(F ex ey).ownBlock=some w.heap.size):=hnewa.out.1;have hOka:¬(W2.heap.size=ab\/(F ex ey).ownBlock=some W2.heap.size):=hnewa.out.2;have SCa:=zAb (show ∀wx,Turns (fun k=>k=ab\/(F ex ey).ownBlock=some k) Ua wx->wx.cell? ⟨l,5,none⟩=some (.map (some ab))/\(wx.cell? ⟨w.heap.size,0,none⟩=some (O ii ex)/\wx.cell? ⟨w.heap.size,1,none⟩=some (O ii ey))/\(wx.cell? ⟨W2.heap.size,0,none⟩=some (O ii ox)/\wx.cell? ⟨W2.heap.size,1,none⟩=some (O ii oy)) from fun wx q=>⟨(SUa.kept q hSla).c 5 _ rfl,(zAy EUa q hEka).1,(zAy OUa q hOka).1⟩);have s0a:=SCa.out Ua (Turns.refl _ _);have s1a:=SCa.out _ T1a;have s2a:=SCa.out _ T2a;have s3a:=SCa.out _ T3a;have sAa:=SCa.out (Ua.alloc (.cells #[O ii ox,O ii oy,O ii co] 88)) (Turns.of_below (zAh _ _));obtain ⟨Faa,Fna,Fca,hFva⟩:∃a n c,F ex ey = .slice a n c:=by obtain ⟨a,c,e⟩:=zB3 (AUa.rows ex ey);exact ⟨_,_,_,e⟩
    rw [hFva] at r1a r2a;have Hra:=zAb (ai r1a (ai r2a r3a));have HSna:=zAb (SUa.kept T3a hSla);have HEna:=zAb (zAy EUa T3a hEka);have HOna:=zAb (zAy OUa T3a hOka);have HA3a:=zAb A3a;have HT0a:=zAb T0Ua;have HT3a:=zAb T3a;have HAUa:=zAb AUa;have HUa:=zAb hUa;clear hUa AUa SUa EUa OUa T0Ua r1a r2a r3a A3a T3a T1a T2a hFva;go_wp2_with fail;refine zAj ?_;refine zAe (fun wx:World=>wx.cell? ⟨l,5,none⟩=some (.map (some ab))/\(wx.cell? ⟨w.heap.size,0,none⟩=some (O ii ex)/\wx.cell? ⟨w.heap.size,1,none⟩=some (O ii ey))/\(wx.cell? ⟨W2.heap.size,0,none⟩=some (O ii ox)/\wx.cell? ⟨W2.heap.size,1,none⟩=some (O ii oy))) [] (by kernel_rfl) ?_;rw [HUa.out];refine zx 0 8 14 rfl (by kernel_rfl) s0a ?_
    iterate 8 (refine zxc rfl (by rfl) (fun wx hx=>by obtain ⟨c5,⟨d0,d1⟩,e0,e1⟩:=hx;go_simp;rfl) ?_;simp only [zp])
    refine zxn ?_;refine zq 8 (by kernel_rfl) rfl rfl (v':=.slice (some ⟨Ua.heap.size,0,none⟩) 1 1) (w':=Ua.alloc (.cells #[O ii ox,O ii oy,O ii co] 88)) (by go_simp) (fun _=>sAa) ?_;simp only [zp];refine zq 9 (by kernel_rfl) rfl rfl (zI0 rfl rfl rfl Hra.out.1) (fun _=>s1a) ?_;simp only [zp];refine zx 10 1 14 rfl (by kernel_rfl) s1a ?_;refine zxc rfl (by rfl) (fun wx hx=>by go_simp;rfl) ?_;simp only [zp];refine zxn ?_;refine zx 12 1 14 rfl (by kernel_rfl) s1a ?_;refine zxc rfl (by rfl) (fun wx hx=>by go_simp;rfl) ?_;simp only [zp];refine zxn ?_;refine zq 11 (by kernel_rfl) rfl rfl (zCe rfl rfl rfl Hra.out.2.1) (fun _=>s2a) ?_;simp only [zp];refine zw 13 [] (by kernel_rfl) ?_;refine readyZ.skip (w':=w3a) rfl rfl (zG6 rfl rfl rfl rfl Hra.out.2.2) (fun _=>s3a) ?_ readyZ.nil;refine zAd (by kernel_rfl) ?_ _;dsimp only [zAv,Exit.then];simp only [zp];clear s0a s1a s2a s3a sAa;have hKb:=zAb (show (zDh K (ex,ey)).length<=950 by unfold zDh;split;omega;rw [List.length_append,List.length_singleton];omega);have HTb:=zAb (show Turns (fun k=>k=ab\/∃u v,(F u v).ownBlock=some k\/w.heap.size<=k) w w3a from HT0a.out.trans (HT3a.out.mono (fun k _ e=>e.elim (fun q => .inl (.inl q)) (fun q => .inl (.inr ⟨ex,ey,.inl q⟩)))));have hEb:=zAb (show (zHn E (ex,ey) ⟨ox,oy,co⟩ (ox,oy)).length<=901 by have h1:=hE (ex,ey);have h2:=hE (ox,oy);unfold zHn;split;(rw [List.length_append,List.length_singleton];omega);omega)
    have hnewb:=zAb (show ¬(w.heap.size=ab\/(zC1 F ex ey v2a ox oy).ownBlock=some w.heap.size)/\¬(W2.heap.size=ab\/(zC1 F ex ey v2a ox oy).ownBlock=some W2.heap.size) from by
     have h1:=habw.out;have h2:=hwW.out;have e:zC1 F ex ey v2a ox oy=F ox oy:=by unfold zC1;rw [if_neg (fun q=>hne ⟨q.1.symm,q.2.symm⟩)]
     rw [e]
     exact ⟨fun e=>e.elim (fun q=>by omega) (fun q=>by have:=hFlt.out _ _ _ q;omega),fun e=>e.elim (fun q=>by omega) (fun q=>by have:=hFlt.out _ _ _ q;omega)⟩)
    have HSb:=zAb HSna.out;have HEb:=zAb HEna.out;have HOb:=zAb HOna.out;obtain ⟨Ub,hUb⟩:∃U,w3a.drew=U:=⟨_,rfl⟩
    have AUb:AcM B0 Ub ab (zDh K (ex,ey)) (zC1 F ex ey v2a) (zHn E (ex,ey) ⟨ox,oy,co⟩):=by rw [<-hUb];exact HA3a.out.upto (Below.refl _ _).drew
    have SUb:Sea Ub l gp fx fy tx ty ab cb hb:=by rw [<-hUb];exact HSb.out
    have EUb:Two Ub w.heap.size ex ey:=by rw [<-hUb];exact HEb.out
    have OUb:Two Ub W2.heap.size ox oy:=by rw [<-hUb];exact HOb.out
    have T0Ub:Turns (fun k=>k=ab\/∃u v,(F u v).ownBlock=some k\/w.heap.size<=k) w Ub:=by rw [<-hUb];exact HTb.out.drew
    have hzzUb:W2.heap.size<Ub.heap.size:=OUb.2.2;obtain ⟨stb,w1b,v2b,w2b,w3b,r1b,r2b,r3b,A3b,T3b,T1b,T2b⟩:=AUb.addC ex ey co (x:=ox) (y:=oy) (zBr (by omega)) (zBr (by omega)) (by have:=hKb.out;omega) (by have:=hEb.out;omega) (by have:=h0B.out;have:=hwW.out;omega)
    have hnob:∀(k:Nat) (cs:Array Value) (t:Nat),Ub.heap[k]? = some (.cells cs t (0,0))->t≠88->¬(k=ab\/((zC1 F ex ey v2a) ox oy).ownBlock=some k):=fun k cs t hk ht hs=>by
     rcases hs with rfl|e
     ·exact zI9 AUb.mp hk rfl
     ·obtain ⟨cur,hc⟩:=(AUb.rows ox oy).blk e;rw [hk] at hc;injection hc with hc
      injection hc with _ hc
      exact ht hc
    have hSlb:=hnob l _ _ SUb (by decide);have hEkb:¬(w.heap.size=ab\/((zC1 F ex ey v2a) ox oy).ownBlock=some w.heap.size):=hnewb.out.1;have hOkb:¬(W2.heap.size=ab\/((zC1 F ex ey v2a) ox oy).ownBlock=some W2.heap.size):=hnewb.out.2;have SCb:=zAb (show ∀wx,Turns (fun k=>k=ab\/((zC1 F ex ey v2a) ox oy).ownBlock=some k) Ub wx->wx.cell? ⟨l,5,none⟩=some (.map (some ab))/\(wx.cell? ⟨w.heap.size,0,none⟩=some (O ii ex)/\wx.cell? ⟨w.heap.size,1,none⟩=some (O ii ey))/\(wx.cell? ⟨W2.heap.size,0,none⟩=some (O ii ox)/\wx.cell? ⟨W2.heap.size,1,none⟩=some (O ii oy)) from fun wx q=>⟨(SUb.kept q hSlb).c 5 _ rfl,(zAy EUb q hEkb).1,(zAy OUb q hOkb).1⟩);have s0b:=SCb.out Ub (Turns.refl _ _);have s1b:=SCb.out _ T1b;have s2b:=SCb.out _ T2b;have s3b:=SCb.out _ T3b;have sAb:=SCb.out (Ub.alloc (.cells #[O ii ex,O ii ey,O ii co] 88)) (Turns.of_below (zAh _ _));obtain ⟨Fab,Fnb,Fcb,hFvb⟩:∃a n c,(zC1 F ex ey v2a) ox oy = .slice a n c:=by obtain ⟨a,c,e⟩:=zB3 (AUb.rows ox oy);exact ⟨_,_,_,e⟩
    rw [hFvb] at r1b r2b;have Hrb:=zAb (ai r1b (ai r2b r3b));have HSnb:=zAb (SUb.kept T3b hSlb);have HEnb:=zAb (zAy EUb T3b hEkb);have HOnb:=zAb (zAy OUb T3b hOkb);have HA3b:=zAb A3b;have HT0b:=zAb T0Ub;have HT3b:=zAb T3b;have HAUb:=zAb AUb;have HUb:=zAb hUb;clear hUb AUb SUb EUb OUb T0Ub r1b r2b r3b A3b T3b T1b T2b hFvb;go_wp2_with fail;refine zAj ?_;refine zAe (fun wx:World=>wx.cell? ⟨l,5,none⟩=some (.map (some ab))/\(wx.cell? ⟨w.heap.size,0,none⟩=some (O ii ex)/\wx.cell? ⟨w.heap.size,1,none⟩=some (O ii ey))/\(wx.cell? ⟨W2.heap.size,0,none⟩=some (O ii ox)/\wx.cell? ⟨W2.heap.size,1,none⟩=some (O ii oy))) [] (by kernel_rfl) ?_;rw [HUb.out];refine zx 0 8 14 rfl (by kernel_rfl) s0b ?_
    iterate 8 (refine zxc rfl (by rfl) (fun wx hx=>by obtain ⟨c5,⟨d0,d1⟩,e0,e1⟩:=hx;go_simp;rfl) ?_;simp only [zp])
    refine zxn ?_;refine zq 8 (by kernel_rfl) rfl rfl (v':=.slice (some ⟨Ub.heap.size,0,none⟩) 1 1) (w':=Ub.alloc (.cells #[O ii ex,O ii ey,O ii co] 88)) (by go_simp) (fun _=>sAb) ?_;simp only [zp];refine zq 9 (by kernel_rfl) rfl rfl (zI0 rfl rfl rfl Hrb.out.1) (fun _=>s1b) ?_;simp only [zp];refine zx 10 1 14 rfl (by kernel_rfl) s1b ?_;refine zxc rfl (by rfl) (fun wx hx=>by go_simp;rfl) ?_;simp only [zp];refine zxn ?_;refine zx 12 1 14 rfl (by kernel_rfl) s1b ?_;refine zxc rfl (by rfl) (fun wx hx=>by go_simp;rfl) ?_;simp only [zp];refine zxn ?_;refine zq 11 (by kernel_rfl) rfl rfl (zCe rfl rfl rfl Hrb.out.2.1) (fun _=>s2b) ?_;simp only [zp];refine zw 13 [] (by kernel_rfl) ?_;refine readyZ.skip (w':=w3b) rfl rfl (zG6 rfl rfl rfl rfl Hrb.out.2.2) (fun _=>s3b) ?_ readyZ.nil;refine zAd (by kernel_rfl) ?_ _;dsimp only [zAv,Exit.then];simp only [zp];clear s0b s1b s2b s3b sAb
    have HTc:=zAb (show Turns (fun k=>k=ab\/∃u v,(F u v).ownBlock=some k) w w3b from by
     have e:zC1 F ex ey v2a ox oy=F ox oy:=by unfold zC1;rw [if_neg (fun q=>hne ⟨q.1.symm,q.2.symm⟩)]
     have T:Turns (fun k=>k=ab\/∃u v,(F u v).ownBlock=some k\/w.heap.size<=k) w w3b:=HT0b.out.trans (HT3b.out.mono (fun k _ q=>q.elim (fun q => .inl (.inl q)) (fun q => .inl (.inr ⟨ox,oy,.inl (e▸q)⟩))))
     exact T.mono (fun k hk q=>q.imp id (fun ⟨u,v,q⟩=>⟨u,v,q.elim id (fun q=>by omega)⟩)))
    clear HT0b HT3b;go_wp2_with fail;go_roundw
    case rel=>exact ⟨1,Nat.le_refl _,by go_num,fun h=>by omega,fun _=>⟨_,HA3b.out,HTc.out⟩⟩
    case measure=>simp [intOf]
   ·obtain rfl:k=1:=by omega
    have HP:=zAb (hk1 rfl);clear hk1 hk0;go_wp2_with fail;refine bodyPost_end (results_none rfl _ _ _) rfl ⟨rfl,?_⟩;exact HP.out
attribute [local go_sem] Oper.semAt_some
theorem qBv:Rcl 64:=zl fun _ _=>by go_simp
def zK2 (w:World) (gp:Nat) (x y:Int) (L:List E3):Prop:=∀wx,Below w.heap.size w wx->Calls pg 64 #[ptr gp,cel x y] wx fun e w'=>∃lv,e = .returned lv/\RE w' lv L/\Below wx.heap.size wx w'/\∀g,lv.ownBlock=some g->wx.heap.size<=g
theorem zPo {w:World} {l gp:Nat} {fx fy tx ty:Int} {ab cb hb:Nat} {K:List (Int×Int)} {F:Int->Int->Value} (hs:Sea w l gp fx fy tx ty ab cb hb) (ha:MapS zC8 w ab K F) {x y:Int} (hx:W64 x) (hy:W64 y) {L M:List E3} (hL:zK2 w gp x y L) (hM:RE w (F x y) M) (hlen:L.length+M.length<=1000) :
 Calls pg 30 #[ptr l,cel x y] w fun e w'=>∃lv,e = .returned lv/\RE w' lv (L++M)/\Below w.heap.size w w'/\∀g,lv.ownBlock=some g->w.heap.size<=g:=by
 obtain ⟨X,hX⟩:=ex (w.alloc (.cells #[O ii x,O ii y] 23));have BX:Below w.heap.size w X:=by rw [<-hX];exact zAh _ _
 have TX:Two X w.heap.size x y:=by rw [<-hX];exact Two.newAt rfl
 obtain ⟨Y,hY⟩:=ex (X.drew);have BY:=zAb (show Below w.heap.size w Y by rw [<-hY];exact BX.drew);have TY:Two Y w.heap.size x y:=by rw [<-hY];exact TX
 obtain ⟨Fv,hFv⟩:=ex (F x y);rw [hFv] at hM;have HMr:=zAb hM
 have HR:=zAb (show ∀wx,Below Y.heap.size Y wx->(wx.cell? ⟨l,0,none⟩=some (ptr gp)/\wx.cell? ⟨l,5,none⟩=some (.map (some ab)))/\(wx.cell? ⟨w.heap.size,0,none⟩=some (O ii x)/\wx.cell? ⟨w.heap.size,1,none⟩=some (O ii y))/\MapS zC8 wx ab K F from fun wx q=>by
  have q2:=bt BY.out q
  exact ⟨⟨(hs.upto q2).c 0 _ rfl,(hs.upto q2).c 5 _ rfl⟩,⟨(TY.kept q).1.1,(TY.kept q).1.2⟩,MapS.upto ha q2⟩)
 have HE:=zAb (hL Y BY.out);have HF:=zAb hFv;have HX:=zAb hX;have HY:=zAb hY;clear hX hY hFv BX TX TY hs ha hL hM;go_enter func30,ntmps30;go_wp2_with (rw [HX.out]);refine zAj ?_;refine zAe (fun wx:World=>Below Y.heap.size Y wx) [12,13] (by kernel_rfl) ?_;rw [HY.out];refine zx 0 5 14 rfl (by kernel_rfl) (Below.refl _ _) ?_
 iterate 5 (refine zxc rfl (by rfl) (fun wx hx=>by obtain ⟨⟨c0,c5⟩,⟨d0,d1⟩,-⟩:=HR.out wx hx;go_simp;rfl) ?_;simp only [zp])
 refine zxn ?_;refine zx 6 6 14 rfl (by kernel_rfl) (Below.refl _ _) ?_
 iterate 5 (refine zxc rfl (by rfl) (fun wx hx=>by obtain ⟨⟨c0,c5⟩,⟨d0,d1⟩,-⟩:=HR.out wx hx;go_simp;rfl) ?_;simp only [zp])
 refine zxc (v:=Fv) rfl (by rfl) (fun wx hx'=>(zDo Tryz.underlying31 (by kernel_rfl) hx hy rfl rfl rfl (HR.out wx hx').2.2).trans (by rw [HF.out])) ?_;simp only [zp];refine zxn ?_;refine zw 5 [] (by kernel_rfl) ?_;refine readyZ.call rfl rfl (qBv (by rfl) (by rfl) (by simp only [zj];rfl)) HE.out ?_ readyZ.nil;rintro e V ⟨lv,rfl,r1,r2,r3⟩;refine ⟨_,rfl,fun _=>r2,?_⟩;simp only [zp];obtain ⟨v',W',hr,e1,e2,e3⟩:=zWf r1 (HMr.out.upto (bt BY.out r2)) (by omega);refine zq 12 (v':=v') (w':=W') (by kernel_rfl) rfl rfl (zCe rfl rfl rfl hr) (fun h=>absurd (by decide) h) ?_;simp only [zp];refine zq 13 (v':=v') (by kernel_rfl) rfl rfl (zBd rfl rfl) (fun h=>absurd (by decide) h) ?_;refine zAd (by kernel_rfl) ?_ _;dsimp only [zAv,Exit.then];simp only [zp];have B2:=bt BY.out r2;have B3:Below w.heap.size w W':=B2.trans (e3.below (fun k e=>Nat.le_trans BY.out.size (r3 k e)) B2.size);have hown:∀g,v'.ownBlock=some g->w.heap.size<=g:=fun g e=>(e2 g e).elim (fun q=>Nat.le_trans BY.out.size (r3 g q)) (fun q=>Nat.le_trans B2.size q);obtain ⟨va,vc,rfl⟩:=zB3 e1;have HZ:=zAb (ai e1 (ai B3 hown));clear r1 r2 r3 e1 e2 e3 B2 B3 hown hr;go_wp2_with fail;refine bodyPost_ret (v:=.slice va (L++M).length vc) (by simp [results,Tryz.f30,go_sem]) rfl ?_;exact ⟨_,rfl,HZ.out⟩
attribute [local go_sem] Oper.semAt_some
theorem qBe:Rcl 58:=zl fun _ _=>by go_simp
theorem zLh {w:World} {v:Value} {q:Int×Int} (h:RC w v [q]):∃g cap,v = .slice (some ⟨g,0,none⟩) 1 cap/\g<w.heap.size/\w.cell? ⟨g,0,none⟩=some (O ii q.1)/\w.cell? ⟨g,1,none⟩=some (O ii q.2):=by
 obtain ⟨a,cap,e,hc,hat⟩:=Rw.form zK3 h;obtain ⟨g,rfl,hl,hcell⟩:=hat 0 q rfl;exact ⟨g,cap,e,hl,by simpa using hcell 0 _ rfl,by simpa using hcell 1 _ rfl⟩
def One (w:World) (v:Value) (ox oy:Int):Prop:=∃g cap,v = .slice (some ⟨g,0,none⟩) 1 cap/\g<w.heap.size/\w.cell? ⟨g,0,none⟩=some (O ii ox)/\w.cell? ⟨g,1,none⟩=some (O ii oy)
theorem One.upto {w w':World} {v:Value} {ox oy:Int} (h:One w v ox oy) (hb:Below w.heap.size w w'):One w' v ox oy:=by
 obtain ⟨g,cap,e,hl,c0,c1⟩:=h;exact ⟨g,cap,e,Nat.lt_of_lt_of_le hl hb.size,(hb.cell (p:=⟨g,0,none⟩) hl).trans c0,(hb.cell (p:=⟨g,1,none⟩) hl).trans c1⟩
theorem zRg {w:World} {v:Value} {ox oy x y:Int} (h:One w v ox oy) (hne:¬(x=ox/\y=oy)):Calls pg 91 #[v,cel x y] w fun e w'=>e = .returned (O ii (-1))/\Below w.heap.size w w':=by
 obtain ⟨g,cap,rfl,hl,c0,c1⟩:=h;obtain ⟨X,hX⟩:=ex (w.alloc (.cells #[O ii x,O ii y] 23));have BX:=zAb (show Below w.heap.size w X by rw [<-hX];exact zAh _ _);have TX:=zAb (show Two X w.heap.size x y by rw [<-hX];exact Two.newAt rfl);obtain ⟨Y,hY⟩:=ex (X.drew);have BY:=zAb (show Below w.heap.size w Y by rw [<-hY];exact BX.out.drew);have d0:Y.cell? ⟨g,0,none⟩=some (O ii ox):=(BY.out.cell (p:=⟨g,0,none⟩) hl).trans c0;have d1:Y.cell? ⟨g,1,none⟩=some (O ii oy):=(BY.out.cell (p:=⟨g,1,none⟩) hl).trans c1;have e0:Y.cell? ⟨w.heap.size,0,none⟩=some (O ii x):=by rw [<-hY];exact TX.out.1.1
 have e1:Y.cell? ⟨w.heap.size,1,none⟩=some (O ii y):=by rw [<-hY];exact TX.out.1.2
 have HX:=zAb hX;have HY:=zAb hY;have Hne:=zAb hne;clear hX hY c0 c1 hne;go_enter func91,ntmps91;go_wp2_with (rw [HX.out]);go_loopw [8] (fun s8 wr=>∃k:Nat,k<=1/\s8 = O ii k/\(k=0->X=wr)/\(k=1->Y=wr)) (fun s8 _=>1-(intOf s8).toNat)
 case atStart=>exact ⟨0,by omega,rfl,fun _=>rfl,fun h=>by omega⟩
 case round =>
  obtain ⟨k,hk,rfl,hk0,hk1⟩:=hrel
  by_cases hlt:k=0
  ·subst hlt;obtain rfl:=hk0 rfl;clear hk0 hk1;go_wp2_with fail;refine zAj ?_;refine zAe (fun wx:World=>wx=Y) [] (by kernel_rfl) ?_;rw [HY.out];refine zx 0 5 6 rfl (by kernel_rfl) rfl ?_
   iterate 5 (refine zxc rfl (by rfl) (fun wx hx=>by subst hx;go_simp;rfl) ?_;simp only [zp])
   refine zxn ?_;refine zx 5 1 6 rfl (by kernel_rfl) rfl ?_;refine zxc (v:=.bool false) rfl (by rfl) (fun wx hx=>by have q:=Hne.out;go_simp;first|done|(intro a;exact fun b=>q ⟨a,b⟩)|simp_all|omega) ?_;simp only [zp];refine zxn ?_;refine zAd (by kernel_rfl) ?_ _;dsimp only [zAv,Exit.then];clear d0 d1 e0 e1;go_wp2_with fail;go_roundw
   case rel=>exact ⟨1,Nat.le_refl _,by go_num,fun h=>by omega,fun _=>trivial⟩
   case measure=>simp [intOf]
  ·obtain rfl:k=1:=by omega
   obtain rfl:=hk1 rfl;go_wp2_with fail;go_ret;exact ⟨rfl,BY.out⟩
theorem zGo {w:World} {v:Value} {ox oy x y:Int} (h:One w v ox oy) (hne:¬(x=ox/\y=oy)):Calls pg 59 #[v,cel x y] w fun e w'=>e = .returned (.bool false)/\Below w.heap.size w w':=by
 obtain ⟨X,hX⟩:=ex (w.alloc (.cells #[O ii x,O ii y] 23));have BX:=zAb (show Below w.heap.size w X by rw [<-hX];exact zAh _ _);obtain ⟨⟨e0,e1⟩,-,-⟩:=(show Two X w.heap.size x y by rw [<-hX];exact Two.newAt rfl)
 have HI:=zAb (zRg (h.upto BX.out) hne);have HX:=zAb hX;obtain ⟨g,cap,rfl,-⟩:=h;clear hX;go_enter func59,ntmps59;go_wp2_with (rw [HX.out]);refine HI.out.mono ?_;rintro e w1 ⟨rfl,hb⟩;have HB:=zAb (bt BX.out hb);clear hb e0 e1;go_wp2_with fail;go_ret;exact ⟨rfl,HB.out⟩
attribute [local go_sem] Oper.semAt_some
theorem JnK.upto {w w':World} {gp p:Nat} {c s ex ey ix iy iw ih:Int} {j:Nat} {co:Int} (h:JnK w gp p c s ex ey ix iy iw ih j co) (hb:Below w.heap.size w w'):JnK w' gp p c s ex ey ix iy iw ih j co:=
 ⟨fun wx q=>h.wd wx (bt hb q),fun wx q=>h.sh wx (bt hb q),fun wx q=>h.rc wx (bt hb q),fun wx q=>h.cs wx (bt hb q)⟩
structure G14 (w:World) (gp p:Nat):Prop where
 jt:JnK w gp p 0 1 15 3 8 0 8 8 24 70
 jf:JnK w gp p 0 1 0 3 0 0 8 8 31 70
 wt:∀wx,Below w.heap.size w wx->Calls pg 58 #[ptr gp,cel 1 0] wx fun e w'=>∃lv,e = .returned lv/\RC w' lv [(8,3)]/\Below wx.heap.size wx w'/\∀g,lv.ownBlock=some g->wx.heap.size<=g
 wf:∀wx,Below w.heap.size w wx->Calls pg 58 #[ptr gp,cel 0 0] wx fun e w'=>∃lv,e = .returned lv/\RC w' lv [(7,3)]/\Below wx.heap.size wx w'/\∀g,lv.ownBlock=some g->wx.heap.size<=g
 e7:zK2 w gp 7 3 [⟨8,3,10⟩]
 e8:zK2 w gp 8 3 [⟨7,3,10⟩]
 e0:zK2 w gp 0 3 []
 e15:zK2 w gp 15 3 []
theorem G14.upto {w w':World} {gp p:Nat} (h:G14 w gp p) (hb:Below w.heap.size w w'):G14 w' gp p:=
 ⟨h.jt.upto hb,h.jf.upto hb,fun wx q=>h.wt wx (bt hb q),fun wx q=>h.wf wx (bt hb q),fun wx q=>h.e7 wx (bt hb q),fun wx q=>h.e8 wx (bt hb q),fun wx q=>h.e0 wx (bt hb q),fun wx q=>h.e15 wx (bt hb q)⟩
def K4:List (Int×Int):=zDh (zDh (zDh (zDh [] (15,3)) (8,3)) (0,3)) (7,3)
def E4:Int×Int->List E3:=zHn (zHn (zHn (zHn (fun _=>[]) (15,3) ⟨8,3,70⟩) (8,3) ⟨15,3,70⟩) (0,3) ⟨7,3,70⟩) (7,3) ⟨0,3,70⟩
theorem zZb (q:Int×Int):(zHn (zHn (fun _=>[]) ((15:Int),(3:Int)) ⟨8,3,70⟩) (8,3) ⟨15,3,70⟩ q).length<=900:=by
 unfold zHn
 split
 ·split<;>simp
 ·split<;>simp
theorem zP3 {G0 w:World} {l gp p ab cb hb:Nat} (hg:G14 G0 gp p) (hB:Below G0.heap.size G0 w) (hab:G0.heap.size<=ab) (hs:Sea w l gp 0 3 15 3 ab cb hb) (ha:MapS zC8 w ab [] (fun _ _=>zC8)) :
 Calls pg 27 #[ptr l] w fun e w'=>e = .returned (.tuple #[])/\∃F',AcM w.heap.size w' ab K4 F' E4/\Turns (fun k=>k=ab) w w':=by
 have hlab:l≠ab:=fun e=>by
  obtain ⟨es,cl,q⟩:=MapS.blk ha;have hl:w.heap[l]? = _:=hs;rw [<-e,hl] at q;cases q
 have Hs:=zAb hs;have Hg:=zAb (hg.upto hB);have Ha:=zAb ha;have HB:=zAb hB;have HL:=zAb hlab;have HLw:=zAb hs.lt;have HAw:=zAb (MapS.lt ha);have HG:=zAb (fun (W:World) (q:Below G0.heap.size G0 W)=>hg.upto q);have Hab:=zAb hab;clear hs hg ha hB hlab hab;go_enter func27,ntmps27;go_wp2_with fail;obtain ⟨Y,hY⟩:∃Y,w.drew=Y:=⟨_,rfl⟩
 have BY:=zAb (show Below w.heap.size w Y by rw [<-hY];exact (Below.refl _ _).drew)
 have HR:=zAb (show ∀wx,Below Y.heap.size Y wx->wx.cell? ⟨l,0,none⟩=some (ptr gp)/\wx.cell? ⟨l,3,none⟩=some (O ii 15)/\wx.cell? ⟨l,4,none⟩=some (O ii 3) from fun wx q=>by
  have h:=Hs.out.upto (bt BY.out q)
  exact ⟨h.c 0 _ rfl,h.c 3 _ rfl,h.c 4 _ rfl⟩)
 have HY:=zAb hY;clear hY;refine zAj ?_;refine zAe (fun wx:World=>Below Y.heap.size Y wx) [] (by kernel_rfl) ?_;rw [HY.out];refine zx 0 8 11 rfl (by kernel_rfl) (Below.refl _ _) ?_
 iterate 8 (refine zxc rfl (by rfl) (fun wx hx=>by obtain ⟨c0,c3,c4⟩:=HR.out wx hx;go_simp;rfl) ?_;simp only [zp])
 refine zxn ?_;refine zw 8 [] (by kernel_rfl) ?_;refine readyZ.call rfl rfl (zSc (by rfl) (by rfl) (by simp only [zj];rfl)) (zHd 15 3 (by decide) (by decide) Y) ?_ readyZ.nil;rintro e V8 ⟨rfl,h8⟩;refine ⟨_,rfl,fun _=>h8,?_⟩;simp only [zp];refine zw 9 [] (by kernel_rfl) ?_;refine readyZ.call rfl rfl (qBe (by rfl) (by rfl) (by simp only [zj];rfl)) (Hg.out.wt V8 (bt BY.out h8)) ?_ readyZ.nil;rintro e V9 ⟨lv,rfl,r1,r2,r3⟩;refine ⟨_,rfl,fun _=>bt h8 r2,?_⟩;simp only [zp];refine zq 10 (v':=lv) (by kernel_rfl) rfl rfl (zBd rfl rfl) (fun _=>bt h8 r2) ?_;refine zAd (by kernel_rfl) ?_ _;dsimp only [zAv,Exit.then];simp only [zp];have O9:=zAb (show One V9 lv 8 3 from zLh r1);have B9:=zAb (bt BY.out (bt h8 r2));obtain ⟨lg,lc,rfl,-⟩:=zLh r1;obtain ⟨s0,s3,s4⟩:=HR.out V9 (bt h8 r2);have HC9:=zAb (zGo (x:=15) (y:=3) O9.out (by omega));clear r1 r2 r3 h8 HR HY;go_wp2_with fail;refine HC9.out.mono ?_;rintro e w2 ⟨rfl,hb2⟩;have B2:=zAb (bt B9.out hb2);have O2:=zAb (O9.out.upto hb2);have S2:=zAb (Hs.out.upto B2.out);clear s0 s3 s4;have s3:=S2.out.c 3 _ rfl;have s4:=S2.out.c 4 _ rfl;have A2:=zAb (show AcM w.heap.size w2 ab [] (fun _ _=>zC8) (fun _=>[]) from ⟨MapS.upto Ha.out B2.out,fun x y=>Rw.nil _ _ _ _,fun x y u v g e=>by simp [zC8,Value.ownBlock] at e,fun x y g e=>by simp [zC8,Value.ownBlock] at e⟩);have HJ:=zAb (zLx S2.out A2.out B2.out.size (by simp) (fun q=>by simp) (Hg.out.jt.upto B2.out) (by omega) (ox:=8) (oy:=3) (by omega) (by omega) (m:=24) (by omega) (by omega) (by omega) (by omega) (by omega) O2.out);clear hb2 HC9;go_wp2_with fail;refine HJ.out.mono ?_;rintro e w3 ⟨rfl,F1,hA3,hT3⟩;have T3:=zAb (show Turns (fun k=>k=ab) w w3 from (Turns.of_below B2.out).trans (hT3.mono (fun k _ e => .inl (e.elim id (fun ⟨u,v,q⟩=>by simp [zC8,Value.ownBlock] at q)))));have A3:=zAb hA3;have S3:=zAb (Hs.out.kept T3.out HL.out);have B3:=zAb (HB.out.trans (T3.out.below (B:=G0.heap.size) (fun k e=>by rw [e];exact Hab.out) HB.out.size));have G3:=zAb (HG.out w3 B3.out);clear hA3 hT3 s3 s4 HJ A2 S2 O2 B2 O9 B9;go_wp2_with fail;obtain ⟨Z,hZ⟩:∃Z,w3.drew=Z:=⟨_,rfl⟩
 have BZ:=zAb (show Below w3.heap.size w3 Z by rw [<-hZ];exact (Below.refl _ _).drew)
 have HR:=zAb (show ∀wx,Below Z.heap.size Z wx->(wx.cell? ⟨l,0,none⟩=some (ptr gp)/\wx.cell? ⟨l,1,none⟩=some (O ii 0)/\wx.cell? ⟨l,2,none⟩=some (O ii 3))/\wx.cell? ⟨l,3,none⟩=some (O ii 15)/\wx.cell? ⟨l,4,none⟩=some (O ii 3) from fun wx q=>by
  have h:=S3.out.upto (bt BZ.out q)
  exact ⟨⟨h.c 0 _ rfl,h.c 1 _ rfl,h.c 2 _ rfl⟩,h.c 3 _ rfl,h.c 4 _ rfl⟩)
 have HZ:=zAb hZ;clear hZ;refine zAj ?_;refine zAe (fun wx:World=>Below Z.heap.size Z wx) [] (by kernel_rfl) ?_;rw [HZ.out];refine zx 0 8 11 rfl (by kernel_rfl) (Below.refl _ _) ?_
 iterate 8 (refine zxc rfl (by rfl) (fun wx hx=>by obtain ⟨⟨c0,c1,c2⟩,-⟩:=HR.out wx hx;go_simp;rfl) ?_;simp only [zp])
 refine zxn ?_;refine zw 8 [] (by kernel_rfl) ?_;refine readyZ.call rfl rfl (zSc (by rfl) (by rfl) (by simp only [zj];rfl)) (zHd 0 3 (by decide) (by decide) Z) ?_ readyZ.nil;rintro e V8 ⟨rfl,h8⟩;refine ⟨_,rfl,fun _=>h8,?_⟩;simp only [zp];refine zw 9 [] (by kernel_rfl) ?_;refine readyZ.call rfl rfl (qBe (by rfl) (by rfl) (by simp only [zj];rfl)) (G3.out.wf V8 (bt BZ.out h8)) ?_ readyZ.nil;rintro e V9 ⟨lv,rfl,r1,r2,r3⟩;refine ⟨_,rfl,fun _=>bt h8 r2,?_⟩;simp only [zp];refine zq 10 (v':=lv) (by kernel_rfl) rfl rfl (zBd rfl rfl) (fun _=>bt h8 r2) ?_;refine zAd (by kernel_rfl) ?_ _;dsimp only [zAv,Exit.then];simp only [zp];have O9:=zAb (show One V9 lv 7 3 from zLh r1);have B9:=zAb (bt BZ.out (bt h8 r2));obtain ⟨lg2,lc2,rfl,-⟩:=zLh r1;obtain ⟨⟨s0,s1,s2⟩,-⟩:=HR.out V9 (bt h8 r2);have HC9:=zAb (zGo (x:=0) (y:=3) O9.out (by omega));clear r1 r2 r3 h8 HR HZ;go_wp2_with fail;refine HC9.out.mono ?_;rintro e w4 ⟨rfl,hb4⟩;have B4:=zAb (bt B9.out hb4);have O4:=zAb (O9.out.upto hb4);clear s0 s1 s2 hb4 HC9;obtain ⟨Q,hQ⟩:∃Q,w4.drew=Q:=⟨_,rfl⟩
 have BQ:=zAb (show Below w4.heap.size w4 Q by rw [<-hQ];exact (Below.refl _ _).drew)
 have HR:=zAb (show ∀wx,Below Q.heap.size Q wx->(wx.cell? ⟨l,0,none⟩=some (ptr gp)/\wx.cell? ⟨l,1,none⟩=some (O ii 0)/\wx.cell? ⟨l,2,none⟩=some (O ii 3))/\wx.cell? ⟨l,3,none⟩=some (O ii 15)/\wx.cell? ⟨l,4,none⟩=some (O ii 3) from fun wx q=>by
  have h:=S3.out.upto (bt B4.out (bt BQ.out q))
  exact ⟨⟨h.c 0 _ rfl,h.c 1 _ rfl,h.c 2 _ rfl⟩,h.c 3 _ rfl,h.c 4 _ rfl⟩)
 have HQ:=zAb hQ;clear hQ;go_wp2_with fail;refine zAj ?_;refine zAe (fun wx:World=>Below Q.heap.size Q wx) [] (by kernel_rfl) ?_;rw [HQ.out];refine zx 0 7 15 rfl (by kernel_rfl) (Below.refl _ _) ?_
 iterate 7 (refine zxc rfl (by rfl) (fun wx hx=>by obtain ⟨⟨c0,c1,c2⟩,c3,c4⟩:=HR.out wx hx;go_simp;rfl) ?_;simp only [zp])
 refine zxn ?_;refine zx 8 4 15 rfl (by kernel_rfl) (Below.refl _ _) ?_
 iterate 4 (refine zxc rfl (by rfl) (fun wx hx=>by obtain ⟨⟨c0,c1,c2⟩,c3,c4⟩:=HR.out wx hx;go_simp;rfl) ?_;simp only [zp])
 refine zxn ?_;refine zw 7 [] (by kernel_rfl) ?_;refine readyZ.callG rfl (by rfl) (zSc (by rfl) (by rfl) (by simp only [zj];rfl)) (zHd 0 3 (by decide) (by decide) Q) ?_ readyZ.nil;rintro e V7 ⟨rfl,h7⟩;refine ⟨_,rfl,fun _=>h7,?_⟩;simp only [zp];refine zw 12 [] (by kernel_rfl) ?_;refine readyZ.callG rfl (by rfl) (zSc (by rfl) (by rfl) (by simp only [zj];rfl)) (zHd 15 3 (by decide) (by decide) V7) ?_ readyZ.nil;rintro e V12 ⟨rfl,h12⟩;have b12:=bt h7 h12;refine ⟨_,rfl,fun _=>b12,?_⟩;simp only [zp];refine zx 13 2 15 rfl (by kernel_rfl) b12 ?_;refine zxc (v:=.bool false) rfl (by rfl) (fun wx hx=>by go_simp) ?_;simp only [zp];refine zxc (v:=.bool false) rfl (by rfl) (fun wx hx=>by go_simp) ?_;simp only [zp];refine zxn ?_;refine zAd (by kernel_rfl) ?_ _;dsimp only [zAv,Exit.then];have B5:=zAb (bt B4.out (bt BQ.out b12));have O5:=zAb (O4.out.upto (bt BQ.out b12));have S5:=zAb (S3.out.upto B5.out);have A5:=zAb (A3.out.upto B5.out);have HJ:=zAb (zLx S5.out A5.out (Nat.le_trans T3.out.size B5.out.size) (by decide) (fun q=>zZb q) (G3.out.jf.upto B5.out) (by omega) (ox:=7) (oy:=3) (by omega) (by omega) (m:=24) (by omega) (by omega) (by omega) (by omega) (by omega) O5.out);have s1:=S5.out.c 1 _ rfl;have s2:=S5.out.c 2 _ rfl;clear HR HQ h7 h12 b12 O4 B4 BQ;go_wp2_with fail;refine HJ.out.mono ?_;rintro e w6 ⟨rfl,F2,hA6,hT6⟩
 have T6:Turns (fun k=>k=ab) w w6:=by
  have T5:Turns (fun k=>k=ab) w V12:=T3.out.trans (Turns.of_below B5.out);have T6':Turns (fun k=>k=ab\/w.heap.size<=k) w w6:=(T5.mono (fun k _ e => .inl e)).trans (hT6.mono (fun k _ e => .inl (e.elim .inl (fun ⟨u,v,q⟩ => .inr (A5.out.own u v k q)))));exact T6'.mono (fun k hk e=>e.elim id (fun q=>by omega))
 have HE:=zAb (ai hA6 T6);clear hA6 hT6 T6 s1 s2;go_wp2_with fail;refine bodyPost_end (results_none rfl _ _ _) rfl ⟨rfl,?_⟩;exact ⟨F2,HE.out.1,HE.out.2⟩
end Go.Proofs.YtejjcenhjpjefaaGreatDoor
