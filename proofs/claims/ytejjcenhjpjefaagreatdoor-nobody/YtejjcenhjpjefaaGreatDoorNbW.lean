import Derived.Test.YtejjcenhjpjefaaGreatDoorLeg2
set_option linter.all false
set_option maxRecDepth 1000000
set_option maxHeartbeats 64000000
open Go.Proofs.Tryz
open Go.Proofs.Tryz renaming prog->pg
open Array renaming getElem?_eq_some_iff->gE
open Go.Value renaming int->O
open Go.IntKind renaming i64->ii
namespace Go.Proofs.YtejjcenhjpjefaaGreatDoor
open Go.RowKit Go.Shelf
attribute [local go_sem] Oper.semAt_some
theorem zR5 (w:World) (hg:Grnd w) (ho:Offs w):Calls pg 6 #[] w fun e w'=>e = .returned (.bool true)/\Below w.heap.size w w':=by
 have hmk:=zUz w;have HN:=zAb (zXu w);have HG:=zAb hg;have HO:=zAb ho;clear hg ho;go_enter func6,ntmps6;go_wp2_with fail;refine HN.out.mono ?_;rintro e w1 ⟨p,rfl,hw1,hb1⟩;have HE:=zAb (show En w1 p 16 8 zA4 (zB9 []) from ⟨hw1.1,HG.out.kept hb1,HO.out.kept hb1⟩);have HA:=zAb (zPf (w:=w1) (c:=0) (s:=1) (ep:=0) HE.out (fun u v h=>zZq (by omega) (by omega) u v h) (by decide) (fun wx q=>zRx (hw1.2.kept q)));have Hb1:=zAb hb1;clear hmk HN hw1 hb1 HG HO;go_wp2_with fail;refine HA.out.mono ?_;rintro e w2 ⟨gp,wb,eb,rfl,hgn⟩;have hq:=zXh HE.out hgn;have hb2:=hgn.2.1;have HF:=zAb (zZa hq (zX8 (HE.out.upto hb2) hq));have Hb2:=zAb (bt Hb1.out hb2);clear hq hb2 hgn HA Hb1 HE;go_wp2_with fail;refine HF.out.mono ?_;rintro e w3 ⟨wv,L,rfl,hR,hL,hb3⟩;obtain ⟨va,vc,hv⟩:=zBk hR;rw [hL] at hv;subst hv;obtain ⟨W4,hW4⟩:=ex (w3.alloc (.cells #[O ii 1,.slice va 15 vc] 36));have k:=show TwoV W4 w3.heap.size (O ii 1) (.slice va 15 vc) by rw [<-hW4];exact TwoV.new
 have HB4:=zAb (show Below w.heap.size w W4 by rw [<-hW4];exact bt (bt Hb2.out hb3) (zAh _ _));obtain ⟨⟨k0,k1⟩,-,-⟩:=k;have HW4:=zAb hW4;clear hW4 hb3 hR HF Hb2;go_wp2_with (rw [HW4.out]);go_ret;exact ⟨rfl,HB4.out⟩
attribute [local go_sem] Oper.semAt_some
theorem zR8 (w:World):Calls pg 21 #[.pointer none] w fun e w'=>e = .returned (rct 0 0 0 0)/\Below w.heap.size w w':=by
 have B0:Below w.heap.size w (Z4 w):=zAh _ _;have HM:=zAb (zRb (Z4 w));obtain ⟨⟨g0,g1,g2,g3⟩,⟨f0,f1,f2,f3⟩,zz⟩:Four (Z4 w) w.heap.size 0 0 0 0:=zBo (Below.refl _ _);go_enter func21,ntmps21;go_wp2_with (go_at_call 53;refine HM.out.mono ?_;rintro e w1 ⟨rfl,rfl⟩);refine bodyPost_ret (v:=rct 0 0 0 0) (by simp [results,Tryz.results21,go_sem]) rfl ⟨rfl,?_⟩;exact B0
theorem qBs:Rcl 20:=zl fun _ _=>by go_simp
theorem qBr:Rcl 21:=zl fun _ _=>by go_simp
theorem zNo (x y:Int) (w:World):Calls pg 8 #[.pointer none,shv 0 0,cel x y] w fun e w'=>e = .returned (.bool false)/\Below w.heap.size w w':=by
 obtain ⟨X,hX⟩:=ex ((((w.alloc (.cells #[.pointer none] 27)).alloc (.cells #[O ii 0,O ii 0] 29)).alloc (.cells #[O ii x,O ii y] 23)).alloc (.cells #[.bool false] 4));have BX:=zAb (show Below w.heap.size w X by rw [<-hX];exact bt (zBe _ _ _) (zBe _ _ _));have zX:X.heap.size=w.heap.size+4:=by rw [<-hX];simp
 have P4:=zAb (show Boxed X w.heap.size 27 (.pointer none) by rw [<-hX];exact (((Boxed.new w 27 (.pointer none)).alloc _).alloc _).alloc _);have S4:=zAb (show Two X (w.heap.size+1) 0 0 by rw [<-hX];exact ((Two.newAt (w:=w.alloc (.cells #[.pointer none] 27)) (k:=w.heap.size+1) (u:=0) (v:=0) (t:=29) (by simp)).alloc (o:=.cells #[O ii x,O ii y] 23)).alloc (o:=.cells #[.bool false] 4));have C4:=zAb (show Two X (w.heap.size+1+1) x y by rw [<-hX];exact (Two.newAt (by simp)).alloc)
 have R4:=zAb (show Boxed X (w.heap.size+1+1+1) 4 (.bool false) by
  have:=Boxed.new (((w.alloc (.cells #[.pointer none] 27)).alloc (.cells #[O ii 0,O ii 0] 29)).alloc (.cells #[O ii x,O ii y] 23)) 4 (.bool false)
  rw [<-hX];simpa using this)
 have HF:=zAb (show Calls pg 19 #[shv 0 0,cel x y] X fun e w'=>e = .returned (rct 0 0 0 0)/\Below X.heap.size X w' from by
  have:=zL2 0 0 x y X;unfold ftV at this;rw [zGm (z:=x) (show fB 0 0 x y=false by rfl),zGm (z:=y) (show fB 0 0 x y=false by rfl),zGm (z:=0) (show fB 0 0 x y=false by rfl)] at this
  exact this)
 obtain ⟨⟨s0,s1⟩,-,-⟩:=id S4.out;obtain ⟨⟨d0,d1⟩,-,-⟩:=id C4.out;have HX:=zAb hX;clear hX;refine (callsIn_wide (n:=10)).1 ?_;refine callsIn_of_wp_marks func8 rfl trivial ?_ rfl;simp only [ntmps8,List.size_toArray,List.length_cons,List.length_nil,Nat.reduceAdd,Nat.reduceSub,Array.replicate_succ,Array.replicate_zero,List.push_toArray,List.append_toArray,List.nil_append,List.cons_append];gi_wp2_with (rw [HX.out]);refine ⟨trivial,?_⟩;refine (callsIn_wide.2 HF.out).mono ?_;rintro e w1 ⟨rfl,hb1⟩;obtain ⟨W2,hW2⟩:=ex (w1.alloc (.cells #[O ii 0,O ii 0,O ii 0,O ii 0] 65));have B2:=zAb (show Below X.heap.size X W2 by rw [<-hW2];exact bt hb1 (zAh _ _));have F2:=zAb (show Four W2 w1.heap.size 0 0 0 0 by rw [<-hW2];exact Four.new _ _ _ _ _ _);have HW2:=zAb hW2;have hs1:=zAb hb1.size;obtain ⟨⟨g0,g1,g2,g3⟩,⟨f0,f1,f2,f3⟩,-⟩:=id F2.out;clear hW2 hb1 HF s0 s1 d0 d1;gi_wp2_with (rw [HW2.out]);clear g0 g1 g2 g3 f0 f1 f2 f3;obtain ⟨W5,hW5⟩:=ex (((((W2.setCell ⟨w1.heap.size,0,none⟩ (O ii 0)).setCell ⟨w1.heap.size,1,none⟩ (O ii 0)).setCell ⟨w1.heap.size,2,none⟩ (O ii 0)).setCell ⟨w1.heap.size,3,none⟩ (O ii 0)));rw [hW5];have F5:Four W5 w1.heap.size 0 0 0 0:=by rw [<-hW5];exact zB6 F2.out
 have hw1:X.heap.size<=w1.heap.size:=hs1.out;have B5:Below X.heap.size X W5:=by rw [<-hW5];exact zBn B2.out hw1 _ _ _ _
 obtain ⟨Y,hY⟩:=ex (W5.drew);have BY:=zAb (show Below X.heap.size X Y by rw [<-hY];exact bt B5 (Below.refl _ _).drew);have FY:=zAb (show Four Y w1.heap.size 0 0 0 0 by rw [<-hY];exact F5.kept (Below.refl _ _).drew);have HY:=zAb hY;clear hY F5 B5 hW5;refine zA1 ?_;refine zBi (fun wx:World=>Below Y.heap.size Y wx) [] (by kernel_rfl) ?_;rw [HY.out];refine zx 0 2 5 rfl (by kernel_rfl) (Below.refl _ _) ?_;refine zxc (v:=rct 0 0 0 0) rfl (by rfl) (fun wx hx=>by obtain ⟨⟨q0,q1,q2,q3⟩,-,-⟩:=FY.out.kept hx;go_simp) ?_;simp only [zp];refine zxc (v:=.pointer none) rfl (by rfl) (fun wx hx=>by have q0:=(zAi P4.out (bt BY.out hx) P4.out.lt).cell;go_simp) ?_;simp only [zp];refine zxn ?_;refine zw 2 [] (by kernel_rfl) ?_;refine readyZ.call rfl rfl (qBr (by rfl) (by rfl) (by simp only [zj];rfl)) (zR8 Y) ?_ readyZ.nil;rintro e V1 ⟨rfl,hv1⟩;refine ⟨_,rfl,fun _=>hv1,?_⟩;simp only [zp];refine zw 3 [] (by kernel_rfl) ?_;refine readyZ.call rfl rfl (qBs (by rfl) (by rfl) (by simp only [zj];rfl)) (zB1 0 0 0 0 0 0 0 0 V1) ?_ readyZ.nil;rintro e V2 ⟨rfl,hv2⟩;refine ⟨_,rfl,fun _=>bt hv1 hv2,?_⟩;simp only [zp];refine zx 4 1 5 rfl (by kernel_rfl) (bt hv1 hv2) ?_;refine zxc (v:=.bool true) rfl (by rfl) (fun wx hx=>by go_simp;rfl) ?_;simp only [zp];refine zxn ?_;refine zAd (by kernel_rfl) ?_ _;dsimp only [zAv,Exit.then];have BV:=zAb (bt BY.out (bt hv1 hv2));have RV:=zAb (zAi R4.out BV.out R4.out.lt);clear hv1 hv2;have cR:=RV.out.cell;have fR:=RV.out.frozen;gi_wp2_with fail;refine ⟨.bool false,by simp [results,Tryz.f8,go_sem,cR],rfl,?_⟩;have tz:Turns (fun j=>j=w.heap.size+1+1+1) V2 (V2.setCell ⟨w.heap.size+1+1+1,0,none⟩ (.bool false)):=Turns.set (S:=fun j=>j=w.heap.size+1+1+1) V2 (p:=⟨w.heap.size+1+1+1,0,none⟩) rfl _;have bv:=bt BX.out BV.out;exact bv.trans (tz.below (fun j e=>by omega) bv.size)
attribute [local go_sem] Oper.semAt_some
theorem zGn {w:World} {z:Value} (h:Nog w z) (x y s t:Int):Calls pg 5 #[z,cel x y,cel s t] w fun e w'=>e = .returned (.tuple #[.slice none 0 0,O ii 0,.bool false])/\Below w.heap.size w w':=by
 obtain ⟨X,hX⟩:=ex ((w.alloc (.cells #[O ii x,O ii y] 23)).alloc (.cells #[O ii s,O ii t] 23));have BX:Below w.heap.size w X:=by rw [<-hX];exact zBe _ _ _
 have TA:Two X w.heap.size x y:=by rw [<-hX];exact (Two.newAt rfl).alloc
 obtain ⟨Y,hY⟩:=ex (X.drew);have bY:Below X.heap.size X Y:=by rw [<-hY];exact (Below.refl _ _).drew
 have BY:=zAb (bt BX bY);have HA:=zAb (TA.kept bY);have HN:=zAb (show ∀wx,Below Y.heap.size Y wx->Nog wx z from fun wx q=>h.upto (bt BY.out q));have HX:=zAb hX;have HY:=zAb hY;have hz:z = .pointer none\/∃g,z=ptr g:=h.imp id (fun ⟨g,e,_⟩=>⟨g,e⟩);clear hX hY BX TA bY h;rcases hz with rfl|⟨g,rfl⟩
 all_goals
  go_enter func5,ntmps5;go_wp2_with (rw [HX.out]);refine zAj ?_;refine zAe (fun wx:World=>Below Y.heap.size Y wx) [] (by kernel_rfl) ?_;rw [HY.out];refine zx 0 1 16 rfl (by kernel_rfl) (Below.refl _ _) ?_
  iterate 1 (refine zxc rfl (by rfl) (fun wx hx=>by go_simp;rfl) ?_;simp only [zp])
  refine zxn ?_;refine zx 2 1 15 rfl (by kernel_rfl) (Below.refl _ _) ?_
  iterate 1 (refine zxc rfl (by rfl) (fun wx hx=>by go_simp;rfl) ?_;simp only [zp])
  refine zxn ?_;refine zx 4 1 14 rfl (by kernel_rfl) (Below.refl _ _) ?_
  iterate 1 (refine zxc (v:=cel x y) rfl (by rfl) (fun wx hx=>by obtain ⟨⟨q0,q1⟩,-,-⟩:=HA.out.kept hx;go_simp) ?_;simp only [zp])
  refine zxn ?_;refine zw 1 [] (by kernel_rfl) ?_;refine readyZ.call rfl rfl (Rq9 (by rfl) (by rfl) (by simp only [zj];rfl)) (zPd (HN.out Y (Below.refl _ _))) ?_ readyZ.nil;rintro e V1 ⟨rfl,h1⟩;refine ⟨_,rfl,fun _=>h1,?_⟩;simp only [zp];refine zw 3 [] (by kernel_rfl) ?_;refine readyZ.call rfl rfl (qA2 (by rfl) (by rfl) (by simp only [zj];rfl)) (zPe (HN.out V1 h1)) ?_ readyZ.nil;rintro e V2 ⟨rfl,h2⟩;have b2:=bt h1 h2;refine ⟨_,rfl,fun _=>b2,?_⟩;simp only [zp];refine zw 5 [] (by kernel_rfl) ?_;refine readyZ.call rfl rfl (Rq8 (by rfl) (by rfl) (by simp only [zj];rfl)) (zNo x y V2) ?_ readyZ.nil;rintro e V3 ⟨rfl,h3⟩;have b3:=bt b2 h3;refine ⟨_,rfl,fun _=>b3,?_⟩;simp only [zp];refine zx 6 2 10 rfl (by kernel_rfl) b3 ?_
  iterate 2 (refine zxc rfl (by rfl) (fun wx hx=>by go_simp;rfl) ?_;simp only [zp])
  refine zxn ?_;refine zx 8 7 8 rfl (by kernel_rfl) b3 ?_
  iterate 7 (refine zxu rfl (by rfl) ?_)
  refine zxn ?_;refine zx 15 1 1 rfl (by kernel_rfl) b3 ?_
  iterate 1 (refine zxc rfl (by rfl) (fun wx hx=>by go_simp;rfl) ?_;simp only [zp])
  refine zxn ?_;refine zAd (by kernel_rfl) ?_ _;dsimp only [zAv,Exit.then];have HF:=zAb (bt BY.out b3);clear h1 h2 h3 b2 b3;go_wp2_with fail;exact bodyPost_ret (v:=.tuple #[.slice none 0 0,O ii 0,.bool false]) (by simp [results,Tryz.f5,go_sem]) rfl ⟨rfl,HF.out⟩
theorem zPm {w:World} {z:Value} (h:Nog w z) (x y s t:Int):Calls pg 4 #[z,cel x y,cel s t] w fun e w'=>e = .returned (.tuple #[.agg #[O ii 2,.slice none 0 0],O ii 0])/\Below w.heap.size w w':=by
 obtain ⟨X,hX⟩:=ex (((w.alloc (.cells #[O ii x,O ii y] 23)).alloc (.cells #[O ii s,O ii t] 23)).alloc (.cells #[O ii 0,.slice none 0 0] 36));have BX:Below w.heap.size w X:=by rw [<-hX];exact bt (zBe _ _ _) (zAh _ _)
 have TA:Two X w.heap.size x y:=by rw [<-hX];exact ((Two.newAt rfl).alloc).alloc
 have TB:Two X (w.heap.size+1) s t:=by rw [<-hX];exact (Two.newAt (by simp)).alloc
 have RB:TwoV X (w.heap.size+1+1) (O ii 0) (.slice none 0 0):=by
  rw [<-hX];have:=TwoV.new (W:=(w.alloc (.cells #[O ii x,O ii y] 23)).alloc (.cells #[O ii s,O ii t] 23)) (u:=O ii 0) (v:=.slice none 0 0) (t:=36);simpa using this
 have zX:X.heap.size=w.heap.size+3:=by rw [<-hX];simp
 obtain ⟨⟨a0,a1⟩,-,-⟩:=id TA;obtain ⟨⟨b0,b1⟩,-,-⟩:=id TB;have HCo:=zAb (zGn (h.upto BX) x y s t);have HX:=zAb hX;have HBX:=zAb BX;have HRB:=zAb RB;have hz:z = .pointer none\/∃g,z=ptr g:=h.imp id (fun ⟨g,e,_⟩=>⟨g,e⟩);clear hX BX TA TB RB h;rcases hz with rfl|⟨g,rfl⟩
 all_goals
  go_enter func4,ntmps4;go_wp2_with (rw [HX.out]);refine HCo.out.mono ?_;rintro e W1 ⟨rfl,hb1⟩;have hr:=HRB.out.upto hb1;obtain ⟨Z,hZ⟩:=ex ((W1.setCell ⟨w.heap.size+1+1,0,none⟩ (O ii 2)).setCell ⟨w.heap.size+1+1,1,none⟩ (.slice none 0 0));have TZ:Turns (fun j=>j=w.heap.size+1+1) W1 Z:=by rw [<-hZ];exact zHw _ _ _ _
  have hwb:=bt HBX.out hb1;have HE:=zAb (show Below w.heap.size w Z from hwb.trans (TZ.below (fun k e=>by omega) hwb.size));obtain ⟨⟨t0,t1⟩,⟨s0,s1⟩,-⟩:=id hr;have z0:Z.cell? ⟨w.heap.size+1+1,0,none⟩=some (O ii 2):=by rw [<-hZ];simp [go_sem,t0,t1]
  have z1:Z.cell? ⟨w.heap.size+1+1,1,none⟩=some (.slice none 0 0):=by rw [<-hZ];simp [go_sem,t0,t1]
  have HZ:=zAb hZ;clear hr hwb TZ hZ HCo a0 a1 b0 b1;go_wp2_with (rw [HZ.out]);exact bodyPost_ret (v:=.tuple #[.agg #[O ii 2,.slice none 0 0],O ii 0]) (by simp [results,Tryz.f4,go_sem,z0,z1]) rfl ⟨rfl,HE.out⟩
attribute [local go_sem] Oper.semAt_some
theorem zKa (x y s t:Int) (w:World) (hg:Grnd w) (ho:Offs w):Calls pg 3 #[.agg #[O ii x,O ii y,O ii s,O ii t]] w fun e w'=>e = .returned (.bool true)/\Below w.heap.size w w':=by
 obtain ⟨X,hX⟩:=ex (w.alloc (.cells #[O ii x,O ii y,O ii s,O ii t] 25));have BX:=zAb (show Below w.heap.size w X by rw [<-hX];exact zAh _ _);have TX:=zAb (show Four X w.heap.size x y s t by rw [<-hX];exact Four.new _ _ _ _ _ _);have HAw:=zAb (show ∀wx,Below X.heap.size X wx->Calls pg 6 #[] wx fun e w'=>e = .returned (.bool true)/\Below wx.heap.size wx w' from fun wx q=>zR5 wx (hg.kept (bt BX.out q)) (ho.kept (bt BX.out q)));have HR:=zAb (show ∀wx,Below X.heap.size X wx->wx.cell? ⟨w.heap.size,0,none⟩=some (O ii x)/\wx.cell? ⟨w.heap.size,1,none⟩=some (O ii y)/\wx.cell? ⟨w.heap.size,2,none⟩=some (O ii s)/\wx.cell? ⟨w.heap.size,3,none⟩=some (O ii t) from fun wx q=>(TX.out.kept q).1);have HX:=zAb hX;clear hX hg ho;go_enter func3,ntmps3;go_wp2_with (rw [HX.out]);go_loopw [3] (fun v wr=>(v = O ii 0\/v = O ii 1\/v = O ii 2)/\Below X.heap.size X wr) (fun v _=>2-(intOf v).toNat)
 case atStart=>exact ⟨.inl rfl,Below.refl _ _⟩
 case round =>
  obtain ⟨hv,hb⟩:=hrel;rcases hv with rfl|rfl|rfl
  ·
   have HNg:=zAb (show ∀wx,Below wr.heap.size wr wx->Nog wx (.pointer none) from fun wx _ => .inl rfl);have HbB:=zAb hb;have HFd:=zAb (zPm (HNg.out wr (Below.refl _ _)) x y s t);obtain ⟨c0,c1,c2,c3⟩:=HR.out wr HbB.out;go_wp2_with fail;refine HFd.out.mono ?_;rintro e V1 ⟨rfl,h1⟩;obtain ⟨V2,hV2⟩:∃V,V1.alloc (.cells #[O ii 2,.slice none 0 0] 36)=V:=⟨_,rfl⟩
   have b2:Below wr.heap.size wr V2:=by rw [<-hV2];exact bt h1 (zAh _ _)
   have k2:TwoV V2 V1.heap.size (O ii 2) (.slice none 0 0):=by rw [<-hV2];exact TwoV.new
   have HV2:=zAb hV2;have Hb2:=zAb b2;have HK2:=zAb k2;have HCo:=zAb (zGn (HNg.out V2 b2) x y s t);clear hV2 h1 c0 c1 c2 c3 b2 k2 HFd;obtain ⟨c0,c1,c2,c3⟩:=HR.out V2 (bt HbB.out Hb2.out);go_wp2_with (rw [HV2.out]);refine HCo.out.mono ?_;rintro e V3 ⟨rfl,h3⟩;obtain ⟨⟨k0,k1⟩,-,-⟩:=TwoV.upto HK2.out h3;have HB3:=zAb (show Below X.heap.size X V3 from bt (bt HbB.out Hb2.out) h3);clear h3 HCo c0 c1 c2 c3;go_wp2_with fail;go_roundw
   case rel=>exact ⟨.inr (.inl rfl),HB3.out⟩
   case measure=>simp [intOf]
  ·
   obtain ⟨A,hA⟩:=ex (wr.alloc (.cells #[.pointer none,O ii 0,O ii 0,O ii 0,.map none,.map none] 33));have oA:A.heap[wr.heap.size]? = some (.cells #[.pointer none,O ii 0,O ii 0,O ii 0,.map none,.map none] 33 (0,0)):=by rw [<-hA];exact World.alloc_heap_new _ _
   have HNg:=zAb (show ∀wx,Below A.heap.size A wx->Nog wx (ptr wr.heap.size) from fun wx q => .inr ⟨_,rfl,(q.block _ (gE.1 oA).1).trans oA⟩);have HbB:=zAb (show Below X.heap.size X A by rw [<-hA];exact bt hb (zAh _ _));have HA:=zAb hA;clear hA oA;have HFd:=zAb (zPm (HNg.out A (Below.refl _ _)) x y s t);obtain ⟨c0,c1,c2,c3⟩:=HR.out A HbB.out;go_wp2_with (rw [HA.out]);refine HFd.out.mono ?_;rintro e V1 ⟨rfl,h1⟩;obtain ⟨V2,hV2⟩:∃V,V1.alloc (.cells #[O ii 2,.slice none 0 0] 36)=V:=⟨_,rfl⟩
   have b2:Below A.heap.size A V2:=by rw [<-hV2];exact bt h1 (zAh _ _)
   have k2:TwoV V2 V1.heap.size (O ii 2) (.slice none 0 0):=by rw [<-hV2];exact TwoV.new
   have HV2:=zAb hV2;have Hb2:=zAb b2;have HK2:=zAb k2;have HCo:=zAb (zGn (HNg.out V2 b2) x y s t);clear hV2 h1 c0 c1 c2 c3 b2 k2 HFd;obtain ⟨c0,c1,c2,c3⟩:=HR.out V2 (bt HbB.out Hb2.out);go_wp2_with (rw [HV2.out]);refine HCo.out.mono ?_;rintro e V3 ⟨rfl,h3⟩;obtain ⟨⟨k0,k1⟩,-,-⟩:=TwoV.upto HK2.out h3;have HB3:=zAb (show Below X.heap.size X V3 from bt (bt HbB.out Hb2.out) h3);clear h3 HCo c0 c1 c2 c3;go_wp2_with fail;go_roundw
   case rel=>exact ⟨.inr (.inr rfl),HB3.out⟩
   case measure=>simp [intOf]
  ·have HB:=zAb hb;have HA:=zAb (HAw.out wr hb);clear hb;go_wp2_with fail;refine HA.out.mono ?_;rintro e w1 ⟨rfl,h1⟩;have HF:=zAb (bt (bt BX.out HB.out) h1);clear h1;go_wp2_with fail;exact bodyPost_ret (v:=.bool true) (by simp [results,Tryz.f3,go_sem]) rfl ⟨rfl,HF.out⟩
end Go.Proofs.YtejjcenhjpjefaaGreatDoor
