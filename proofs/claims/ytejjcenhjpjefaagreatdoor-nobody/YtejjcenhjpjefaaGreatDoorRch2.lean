import Derived.Test.YtejjcenhjpjefaaGreatDoorHi0
import Derived.Test.YtejjcenhjpjefaaGreatDoorAde2
import Derived.Test.YtejjcenhjpjefaaGreatDoorGD13
import Derived.Test.YtejjcenhjpjefaaGreatDoorNr
set_option linter.all false
set_option maxRecDepth 1000000
set_option maxHeartbeats 64000000
open Go.Proofs.Tryz
open Go.Proofs.Tryz renaming prog->pg
open Array renaming getElem?_eq_some_iff->gE
open And renaming intro->ai
open Go.Value renaming int->O
open Go.IntKind renaming i64->ii
namespace Go.Proofs.YtejjcenhjpjefaaGreatDoor
open Go.RowKit Go.Shelf
attribute [local go_sem] Oper.semAt_some
theorem zQ6 {w:World} {l gp:Nat} {fx fy tx ty:Int} {ab cb hb:Nat} {K:List (Int×Int)} {C:Int->Int->Int} (hs:Sea w l gp fx fy tx ty ab cb hb) (hm:zNb w cb K C) {x y c:Int} (hx:W64 x) (hy:W64 y) (hin:(x,y)∈K) (hle:C x y<=c) :
 Calls pg 28 #[ptr l,cel x y,O ii c] w fun e w'=>e = .returned (.tuple #[])/\Below w.heap.size w w':=by
 obtain ⟨X,hX⟩:=ex (w.alloc (.cells #[O ii x,O ii y] 23));have BX:Below w.heap.size w X:=by rw [<-hX];exact zAh _ _
 have TX:Two X w.heap.size x y:=by rw [<-hX];exact Two.newAt rfl
 obtain ⟨Y,hY⟩:=ex (X.drew);have BY:Below w.heap.size w Y:=by rw [<-hY];exact BX.drew
 have c6:=(hs.upto BY).c 6 _ rfl;have hmY:zNb Y cb K C:=MapS.upto hm BY;obtain ⟨⟨x0,x1⟩,-,-⟩:=TX;have x0:Y.cell? ⟨w.heap.size,0,none⟩=some (O ii x):=by rw [<-hY];exact x0
 have x1:Y.cell? ⟨w.heap.size,1,none⟩=some (O ii y):=by rw [<-hY];exact x1
 have HX:=zAb hX;have HY:=zAb hY;have HB:=zAb BY;have HM:=zAb hmY;have HI:=zAb (decide_eq_true hin);clear hX hY BX BY hs hm hmY hin;go_enter func28,ntmps28;go_wp2_with (rw [HX.out]);refine zAj ?_;refine zAe (fun wx:World=>wx=Y) [] (by kernel_rfl) ?_;rw [HY.out];refine zx 0 11 11 rfl (by kernel_rfl) rfl ?_
 iterate 5 (refine zxc rfl (by rfl) (fun wx hx=>by subst hx;go_simp;rfl) ?_;simp only [zp])
 refine zxc (v:=.tuple #[O ii (C x y),.bool true]) rfl (by rfl) (fun wx hx'=>by subst hx';exact (zDn Tryz.underlying50 (zGx _) hx hy rfl rfl rfl HM.out).trans (by rw [HI.out])) ?_;simp only [zp]
 iterate 5 (refine zxc rfl (by rfl) (fun wx hx=>by subst hx;go_simp;rfl) ?_;simp only [zp])
 refine zxn ?_;refine zAd (by kernel_rfl) ?_ _;dsimp only [zAv,Exit.then];clear x0 x1 c6;go_wp2_with fail;refine bodyPost_ret (results_none rfl _ _ _) rfl ⟨rfl,?_⟩;exact HB.out
theorem zLr {w:World} {l gp:Nat} {fx fy tx ty:Int} {ab cb hb:Nat} {K:List (Int×Int)} {C:Int->Int->Int} {v:Value} {n:Int} {S:List It} (hs:Sea w l gp fx fy tx ty ab cb hb) (hm:zNb w cb K C) (hh:Hh.Hs w hb v n S) {x y c o:Int} (hx:W64 x) (hy:W64 y) (ho:ocN fx fy x y=o) (hob:0<=o/\o<=1000000) (hcb:0<=c/\c<=1000000) (hn:0<=n/\n<=1000000) (hS:S.length<=1000000) (hK:K.length<=1000000)
 (hnew:¬((x,y)∈K/\C x y<=c)) :
 Calls pg 28 #[ptr l,cel x y,O ii c] w fun e w'=>e = .returned (.tuple #[])/\∃v',zNb w' cb (zDh K (x,y)) (zKu C x y c)/\Hh.Hs w' hb v' (n+1) (⟨x,y,c,c+o,n⟩ :: S)/\Turns (fun k=>k=cb\/k=hb\/v.ownBlock=some k) w w'/\∀k,v'.ownBlock=some k->v.ownBlock=some k\/w.heap.size<=k:=by
 obtain ⟨X,hX⟩:=ex (w.alloc (.cells #[O ii x,O ii y] 23));have BX:Below w.heap.size w X:=by rw [<-hX];exact zAh _ _
 have TX:Two X w.heap.size x y:=by rw [<-hX];exact Two.newAt rfl
 obtain ⟨Y,hY⟩:=ex (X.drew);have BY:Below w.heap.size w Y:=by rw [<-hY];exact BX.drew
 have hsY:=hs.upto BY;have c6:=hsY.c 6 _ rfl;have hmY:zNb Y cb K C:=MapS.upto hm BY;have TY:Two Y w.heap.size x y:=by rw [<-hY];exact TX
 obtain ⟨⟨x0,x1⟩,-,-⟩:=id TY;have HX:=zAb hX;have HY:=zAb hY;have HB:=zAb BY;have HM:=zAb hmY;have HsY:=zAb hsY;have HTY:=zAb TY;have HhY:=zAb (hh.upto BY);have Hho:=zAb ho;have hlw:=zAb hs.lt;have hcw:=zAb (MapS.lt hm);have hbw:=zAb (show hb<w.heap.size from (Hh.Hs.own' hh).1);have hvw:=zAb (show ∀k,v.ownBlock=some k->k<w.heap.size from (Hh.Hs.own' hh).2.1)
 have hne:=zAb (show l≠cb/\l≠hb/\(∀k,v.ownBlock=some k->l≠k)/\hb≠cb/\(∀k,v.ownBlock=some k->cb≠k) from by
  obtain ⟨es,cl,hcb'⟩:=MapS.blk hm;obtain ⟨ll,h1,h2,-,-⟩:=hh;have hl:w.heap[l]? = _:=hs;have hp:w.heap[hb]? = _:=h1;have hv:∀k,v.ownBlock=some k->∃cur,w.heap[k]? = some (.cells cur 161 (0,0)):=fun k e=>zQc h2 e;refine ⟨fun e=>?_,fun e=>?_,fun k e q=>?_,fun e=>?_,fun k e q=>?_⟩
  ·subst e;rw [hl] at hcb';cases hcb'
  ·subst e;rw [hl] at hp;injection hp with hp;injection hp with _ hp;cases hp
  ·subst q;obtain ⟨cur,hc⟩:=hv _ e;rw [hl] at hc;injection hc with hc;injection hc with _ hc;cases hc
  ·subst e;rw [hp] at hcb';cases hcb'
  ·subst q;obtain ⟨cur,hc⟩:=hv _ e;rw [hcb'] at hc;cases hc)
 obtain ⟨r,hr⟩:=ex (decide ((x,y)∈K));have hrc:r=true->¬C x y<=c:=fun e q=>hnew ⟨of_decide_eq_true (hr.trans e),q⟩;have HR1:=zAb hr;clear hX hY BX BY TX TY hs hm hmY hsY hr hnew hh ho;go_enter func28,ntmps28;go_wp2_with (rw [HX.out]);refine zAj ?_;refine zAe (fun wx:World=>wx=Y) [] (by kernel_rfl) ?_;rw [HY.out];refine zx 0 11 11 rfl (by kernel_rfl) rfl ?_
 iterate 5 (refine zxc rfl (by rfl) (fun wx hx=>by subst hx;go_simp;rfl) ?_;simp only [zp])
 refine zxc (v:=.tuple #[O ii (C x y),.bool r]) rfl (by rfl) (fun wx hx'=>by subst hx';exact (zDn Tryz.underlying50 (zGx _) hx hy rfl rfl rfl HM.out).trans (by rw [HR1.out])) ?_;simp only [zp]
 iterate 5 (refine zxc rfl (by rfl) (fun wx hx=>by subst hx;go_simp;rfl) ?_;simp only [zp])
 refine zxn ?_;refine zAd (by kernel_rfl) ?_ _;dsimp only [zAv,Exit.then];obtain ⟨V,hV⟩:=ex (Y.drew);have hmV:zNb V cb K C:=by rw [<-hV];exact MapS.same HM.out rfl
 obtain ⟨w2,hup,hm2,hg2⟩:=MapS.put hmV (t:=50) (e:=3) Tryz.underlying50 hx hy (zE4 c) (by unfold maxLen;omega);have T2:Turns (fun k=>k=cb) V w2:=Turns.of_grown hg2 (fun k e=>(Option.some.inj e).symm);have BV:Below w.heap.size w V:=by rw [<-hV];exact HB.out.drew
 have sV:Sea V l gp fx fy tx ty ab cb hb:=by rw [<-hV];exact HsY.out
 have tV:Two V w.heap.size x y:=by rw [<-hV];exact HTY.out
 have hV2:Hh.Hs V hb v n S:=by rw [<-hV];exact HhY.out
 have s2:=zAb (sV.kept T2 hne.out.1);have t2:=zAb (zAy tV T2 (fun e=>by have:=hcw.out;omega));have hs2:=zAb (hV2.kept T2 hne.out.2.2.2.1 (fun k e q=>hne.out.2.2.2.2 k e q.symm))
 have hm2':zNb w2 cb (zDh K (x,y)) (zKu C x y c):=by
  have e:(fun u t=>Value.int .i64 (zKu C x y c u t))=zC1 (fun x y => O ii (C x y)) x y (O ii c):=by
   funext u t
   unfold zKu zC1
   split<;>rfl
  show MapS _ _ _ _ (fun u t=>Value.int .i64 (zKu C x y c u t));rw [e];exact hm2
 have Hm2:=zAb hm2';have TT2:=zAb ((Turns.of_below (S:=fun k=>k=cb) BV).trans (T2.mono (fun k _ e => .inl e)));have hup:=zAb hup;have v6:=sV.c 6 _ rfl;obtain ⟨⟨y0,y1⟩,-,-⟩:=id tV;have HV:=zAb hV;clear hV hmV hm2 hg2 T2 BV sV tV hV2 hm2' x0 x1 c6 HsY HTY HhY HM;obtain ⟨Z,hZ⟩:=ex (w2.drew);have sZ:Sea Z l gp fx fy tx ty ab cb hb:=by rw [<-hZ];exact s2.out
 have tZ:Two Z w.heap.size x y:=by rw [<-hZ];exact t2.out
 have hsZ:Hh.Hs Z hb v n S:=by rw [<-hZ];exact hs2.out
 have mZ:zNb Z cb (zDh K (x,y)) (zKu C x y c):=by rw [<-hZ];exact MapS.same Hm2.out rfl
 have TZ:=zAb (show Turns (fun k=>k=cb) w Z by rw [<-hZ];exact TT2.out.drew);have HR:=zAb (show ∀wx,Below Z.heap.size Z wx->(wx.cell? ⟨l,7,none⟩=some (ptr hb)/\wx.cell? ⟨l,1,none⟩=some (O ii fx)/\wx.cell? ⟨l,2,none⟩=some (O ii fy))/\wx.cell? ⟨w.heap.size,0,none⟩=some (O ii x)/\wx.cell? ⟨w.heap.size,1,none⟩=some (O ii y) from fun wx q=>⟨⟨(sZ.upto q).c 7 _ rfl,(sZ.upto q).c 1 _ rfl,(sZ.upto q).c 2 _ rfl⟩,(tZ.kept q).1.1,(tZ.kept q).1.2⟩);have HO:=zAb (fun W=>Eq.subst (motive:=fun z=>Calls pg 48 #[cel fx fy,cel x y] W fun e w'=>e = .returned (O ii z)/\Below W.heap.size W w') Hho.out (zGg fx fy x y W));have HsZ:=zAb hsZ;have HmZ:=zAb mZ;have HZ:=zAb hZ;clear hZ sZ tZ hsZ mZ s2 t2 hs2 Hm2 TT2
 have hcases:r=false\/(r=true/\¬C x y<=c):=by
  rcases Bool.eq_false_or_eq_true r with e|e
  ·exact .inr ⟨e,by have:=hrc e;omega⟩
  ·exact .inl e
 clear hrc HR1;rcases hcases with rfl|⟨rfl,hgt⟩
 all_goals
  go_wp2_with fail;refine zAj ?_;refine zAe (fun wx:World=>wx=V) [6] (by kernel_rfl) ?_;rw [HV.out];refine zx 0 6 7 rfl (by kernel_rfl) rfl ?_
  iterate 6 (refine zxc rfl (by rfl) (fun wx hx=>by subst hx;go_simp;rfl) ?_;simp only [zp])
  refine zxn ?_;refine zw 6 [] (by kernel_rfl) ?_;refine readyZ.skip (w':=w2) rfl rfl (zMm rfl rfl rfl rfl hup.out) (fun h=>absurd (by decide) h) ?_ readyZ.nil;refine zAd (by kernel_rfl) ?_ _;dsimp only [zAv,Exit.then];simp only [zp];clear v6 y0 y1;go_wp2_with fail;refine zAj ?_;refine zAe (fun wx:World=>Below Z.heap.size Z wx) [15] (by kernel_rfl) ?_;rw [HZ.out];refine zx 0 12 16 rfl (by kernel_rfl) (Below.refl _ _) ?_
  iterate 12 (refine zxc rfl (by rfl) (fun wx hx=>by obtain ⟨⟨c7,c1,c2⟩,d0,d1⟩:=HR.out wx hx;go_simp;rfl) ?_;simp only [zp])
  refine zxn ?_;refine zw 12 [] (by kernel_rfl) ?_;refine readyZ.call rfl rfl (qBx (by rfl) (by rfl) (by simp only [zj];rfl)) (HO.out Z) ?_ readyZ.nil;rintro e V4 ⟨rfl,hb4⟩;refine ⟨_,rfl,fun _=>hb4,?_⟩;simp only [zp];refine zx 13 2 16 rfl (by kernel_rfl) hb4 ?_;refine zxc (v:=O ii (c+o)) rfl (by rfl) (fun wx hx=>by go_simp;first|done|(rw [IntKind.wrap_i64];omega)) ?_;simp only [zp];refine zxc (v:=rv x y c (c+o)) rfl (by rfl) (fun wx hx=>by go_simp) ?_;simp only [zp];refine zxn ?_;refine zw 15 [] (by kernel_rfl) ?_;refine readyZ.call rfl rfl (qBw (by rfl) (by rfl) (by simp only [zj];rfl)) (Hh.push_is hb v n S x y c (c+o) V4 (HsZ.out.upto hb4) (by omega) (by omega)) ?_ readyZ.nil;rintro e V5 ⟨rfl,v',p1,p2,p3⟩;refine ⟨_,rfl,fun h=>absurd (by decide) h,?_⟩;try simp only [zp]
  refine zAd (by kernel_rfl) ?_ _;dsimp only [zAv,Exit.then];try simp only [zp]
  have T4:Turns (fun k=>k=cb) w V4:=TZ.out.trans (Turns.of_below hb4);have T5:Turns (fun k=>k=cb\/k=hb\/v.ownBlock=some k) w V5:=(T4.mono (fun k _ e => .inl e)).trans (p2.mono (fun k _ e => .inl (.inr e)));have m5:zNb V5 cb (zDh K (x,y)) (zKu C x y c):=MapS.kept (MapS.upto HmZ.out hb4) p2 (fun e=>e.elim (fun e=>hne.out.2.2.2.1 e.symm) (fun e=>hne.out.2.2.2.2 _ e rfl));have s4:=T4.size;have HE:=zAb (ai m5 (ai p1 (ai T5 (show ∀k,v'.ownBlock=some k->v.ownBlock=some k\/w.heap.size<=k from fun k e=>(p3 k e).imp id (fun q=>by omega)))));clear p1 p2 p3 T4 T5 m5 s4 hb4;go_wp2_with fail;refine bodyPost_end (results_none rfl _ _ _) rfl ⟨rfl,?_⟩;exact ⟨v',HE.out.1,HE.out.2.1,HE.out.2.2.1,HE.out.2.2.2⟩
attribute [local go_sem] Oper.semAt_some
theorem zY8:Rcl 25:=zl fun _ _=>by go_simp
structure S14 (B:Nat) (w:World) (l gp ab cb hb:Nat) (K:List (Int×Int)) (C:Int->Int->Int) (v:Value) (n:Int) (S:List It) (F:Int->Int->Value):Prop where
 sea:Sea w l gp 0 3 15 3 ab cb hb
 add:AcM B w ab K4 F E4
 costs:zNb w cb K C
 heap:Hh.Hs w hb v n S
 nac:ab≠cb
 lo:B<=l/\B<=ab/\B<=cb/\B<=hb/\∀g,v.ownBlock=some g->B<=g
theorem zCv {ev:Operand->Value} {o:Oper} {w:World} {x0 x1 x2 x3 x4 x5:Operand} {gp a b c:Nat} {fx fy tx ty:Int} (ho:o.op = .build 53 #[(0,x0),(1,x1),(2,x2),(3,x3),(4,x4),(5,x5)]) (h0:ev x0=ptr gp) (h1:ev x1=cel fx fy) (h2:ev x2=cel tx ty) (h3:ev x3 = .map (some a)) (h4:ev x4 = .map (some b)) (h5:ev x5=ptr c) :
 (execOp ev o).run pg w = .ok (.value (.agg #[ptr gp,O ii fx,O ii fy,O ii tx,O ii ty,.map (some a),.map (some b),ptr c])) w:=by
 unfold execOp;simp only [ho,h0,h1,h2,h3,h4,h5];go_simp
theorem zCu {ev:Operand->Value} {o:Oper} {w:World} {x:Operand} {a0 a1 a2 a3 a4 a5 a6 a7:Value} (ho:o.op = .box 53 x) (hx:ev x = .agg #[a0,a1,a2,a3,a4,a5,a6,a7]) :
 (execOp ev o).run pg w = .ok (.value (ptr w.heap.size)) (w.alloc (.cells #[a0,a1,a2,a3,a4,a5,a6,a7] 53)):=by
 unfold execOp;simp only [ho,hx];go_simp
theorem zRm {w:World} {b:Nat} (h:Hh.Hp w b (.slice none 0 0) 0 false):Hh.Hs w b (.slice none 0 0) 0 []:=⟨[],h,⟨rfl,.inl ⟨rfl,rfl⟩⟩,Heap.nil,List.Perm.refl _⟩
theorem zV7 {G0 w:World} {gp p:Nat} (hg:G14 G0 gp p) (hB:Below G0.heap.size G0 w) :
 Calls pg 11 #[ptr gp,cel 0 3,cel 15 3] w fun e w'=>∃l ab cb hb v F,e = .returned (ptr l)/\S14 w.heap.size w' l gp ab cb hb [(15,3)] (zKu (fun _ _=>0) 15 3 0) v 1 [⟨15,3,0,150,0⟩] F/\Below w.heap.size w w':=by
 obtain ⟨X,hX⟩:=ex ((w.alloc (.cells #[O ii 0,O ii 3] 23)).alloc (.cells #[O ii 15,O ii 3] 23));have BX:=zAb (show Below w.heap.size w X by rw [<-hX];exact zBe _ _ _);have TF:=zAb (show Two X w.heap.size 0 3 by rw [<-hX];exact (Two.newAt rfl).alloc);have TT:=zAb (show Two X (w.heap.size+1) 15 3 by rw [<-hX];exact Two.newAt (by simp));have HX:=zAb hX;have HB:=zAb hB;have Hg:=zAb hg;clear hX hB hg;go_enter func11,ntmps11;go_wp2_with (rw [HX.out]);go_cut [7] (fun s7 wx=>∃l ab cb hb,s7=ptr l/\Sea wx l gp 0 3 15 3 ab cb hb/\MapS zC8 wx ab [] (fun _ _=>zC8)/\MapS (O ii 0) wx cb [] (fun _ _ => O ii 0)/\Hh.Hp wx hb (.slice none 0 0) 0 false/\X.heap.size<=ab/\X.heap.size<=cb/\X.heap.size<=hb/\X.heap.size<=l/\ab≠cb/\Below X.heap.size X wx)
 case first =>
  obtain ⟨Y,hY⟩:=ex (X.drew);have BY:=zAb (show Below X.heap.size X Y by rw [<-hY];exact (Below.refl _ _).drew);have hsY:=zAb BY.out.size;have HR:=zAb (show ∀wx,Below Y.heap.size Y wx->(wx.cell? ⟨w.heap.size,0,none⟩=some (O ii 0)/\wx.cell? ⟨w.heap.size,1,none⟩=some (O ii 3))/\wx.cell? ⟨w.heap.size+1,0,none⟩=some (O ii 15)/\wx.cell? ⟨w.heap.size+1,1,none⟩=some (O ii 3) from fun wx q=>⟨(TF.out.kept (bt BY.out q)).1,(TT.out.kept (bt BY.out q)).1⟩);have HY:=zAb hY;clear hY;refine zAj ?_;refine zAe (fun wx:World=>Below Y.heap.size Y wx) [] (by kernel_rfl) ?_;rw [HY.out];refine zx 0 3 9 rfl (by kernel_rfl) (Below.refl _ _) ?_
  iterate 3 (refine zxc rfl (by rfl) (fun wx hx=>by obtain ⟨⟨c0,c1⟩,d0,d1⟩:=HR.out wx hx;go_simp;rfl) ?_;simp only [zp])
  refine zxn ?_;have BB:Below Y.heap.size Y Y:=Below.refl _ _;refine zw 3 [4,5] (by kernel_rfl) ?_;obtain ⟨V3,hV3⟩:∃V,Y.alloc (.map #[] 0)=V:=⟨_,rfl⟩
  have bV3:Below Y.heap.size Y V3:=by rw [<-hV3];exact zAh _ _
  have fV3:MapS zC8 V3 Y.heap.size [] (fun _ _=>zC8):=by rw [<-hV3];exact MapS.made zDb _
  have BV3:Below Y.heap.size Y V3:=bt BB bV3;have zV3:=BV3.size;have yV3:=bV3.size;have lV3:=MapS.lt fV3;refine readyZ.cons rfl rfl (v':=.map (some Y.heap.size)) (w':=V3) (by rw [<-hV3];exact zAk (by rfl)) (fun _=>BV3) ?_ ?_
  ·simp only [zp];refine zw 4 [5] (by kernel_rfl) ?_;obtain ⟨V34,hV34⟩:∃V,V3.alloc (.map #[] 0)=V:=⟨_,rfl⟩
   have bV34:Below V3.heap.size V3 V34:=by rw [<-hV34];exact zAh _ _
   have fV34:MapS (O ii 0) V34 V3.heap.size [] (fun _ _ => O ii 0):=by rw [<-hV34];exact MapS.made (zE4 0) _
   have BV34:Below Y.heap.size Y V34:=bt BV3 bV34;have gV343:=MapS.upto fV3 bV34;have zV34:=BV34.size;have yV34:=bV34.size;have lV34:=MapS.lt fV34;refine readyZ.cons rfl rfl (v':=.map (some V3.heap.size)) (w':=V34) (by rw [<-hV34];exact zAk (by rfl)) (fun _=>BV34) ?_ ?_
   ·simp only [zp];refine zw 5 [] (by kernel_rfl) ?_;refine readyZ.call rfl rfl (zY8 (by rfl) (by rfl) (by simp only [zj];rfl)) (Hh.hnew_any V34) ?_ readyZ.nil;rintro e V ⟨rfl,hV⟩;obtain ⟨V345,hV345⟩:∃V,V34.alloc (.cells #[Hh.fn31,.slice none 0 0,O ii 0,.bool false] 124)=V:=⟨_,rfl⟩
    have bV345:Below V34.heap.size V34 V345:=by rw [<-hV345];exact zAh _ _
    have fV345:Hh.Hp V345 V34.heap.size (.slice none 0 0) 0 false:=by rw [<-hV345];exact heap_alloc_new _ _
    have BV345:Below Y.heap.size Y V345:=bt BV34 bV345;have gV3453:=MapS.upto gV343 bV345;have gV3454:=MapS.upto fV34 bV345;have zV345:=BV345.size;have yV345:=bV345.size;obtain rfl:V345=V:=(hV.trans hV345).symm;refine ⟨_,rfl,fun _=>BV345,?_⟩;simp only [zp];refine zx 6 1 9 rfl (by kernel_rfl) BV345 ?_;refine zxc (v:=.agg #[ptr gp,O ii 0,O ii 3,O ii 15,O ii 3,.map (some Y.heap.size),.map (some V3.heap.size),ptr V34.heap.size]) rfl (by rfl) (fun wx hx=>zCv rfl rfl rfl rfl rfl rfl rfl) ?_;simp only [zp];refine zxn ?_;obtain ⟨L,hL⟩:=ex (V345.alloc (.cells #[ptr gp,O ii 0,O ii 3,O ii 15,O ii 3,.map (some Y.heap.size),.map (some V3.heap.size),ptr V34.heap.size] 53));have bL:Below V345.heap.size V345 L:=by rw [<-hL];exact zAh _ _
    have sL:Sea L V345.heap.size gp 0 3 15 3 Y.heap.size V3.heap.size V34.heap.size:=by rw [<-hL];exact heap_alloc_new _ _
    refine zq 7 (by kernel_rfl) rfl rfl (v':=ptr V345.heap.size) (w':=L) ((zCu rfl rfl).trans (by rw [hL])) (fun _=>bt BV345 bL) ?_;simp only [zp];refine zq 8 (v':=ptr V345.heap.size) (by kernel_rfl) rfl rfl (zBd rfl rfl) (fun _=>bt BV345 bL) ?_;refine zAd (by kernel_rfl) ?_ _;dsimp only [zAv,Exit.then];simp only [zp];go_wp2_with fail;go_meet
    exact ⟨_,_,_,_,rfl,sL,MapS.upto gV3453 bL,MapS.upto gV3454 bL,Hh.Hp.upto fV345 bL,by have:=hsY.out;omega,by have:=hsY.out;omega,by have:=hsY.out;omega,by have:=hsY.out;have:=bt BV345 bL;omega,by omega,BY.out.trans ((bt BV345 bL).mono hsY.out)⟩
   ·refine readyZ.call rfl rfl (zY8 (by rfl) (by rfl) (by simp only [zj];rfl)) (Hh.hnew_any V3) ?_ readyZ.nil;rintro e V ⟨rfl,hV⟩;obtain ⟨V35,hV35⟩:∃V,V3.alloc (.cells #[Hh.fn31,.slice none 0 0,O ii 0,.bool false] 124)=V:=⟨_,rfl⟩
    have bV35:Below V3.heap.size V3 V35:=by rw [<-hV35];exact zAh _ _
    have fV35:Hh.Hp V35 V3.heap.size (.slice none 0 0) 0 false:=by rw [<-hV35];exact heap_alloc_new _ _
    have BV35:Below Y.heap.size Y V35:=bt BV3 bV35;have gV353:=MapS.upto fV3 bV35;have zV35:=BV35.size;have yV35:=bV35.size;obtain rfl:V35=V:=(hV.trans hV35).symm;refine ⟨_,rfl,fun _=>BV35,?_⟩;simp only [zp];refine zw 4 [] (by kernel_rfl) ?_;obtain ⟨V354,hV354⟩:∃V,V35.alloc (.map #[] 0)=V:=⟨_,rfl⟩
    have bV354:Below V35.heap.size V35 V354:=by rw [<-hV354];exact zAh _ _
    have fV354:MapS (O ii 0) V354 V35.heap.size [] (fun _ _ => O ii 0):=by rw [<-hV354];exact MapS.made (zE4 0) _
    have BV354:Below Y.heap.size Y V354:=bt BV35 bV354;have gV3543:=MapS.upto gV353 bV354;have gV3545:=Hh.Hp.upto fV35 bV354;have zV354:=BV354.size;have yV354:=bV354.size;have lV354:=MapS.lt fV354;refine readyZ.cons rfl rfl (v':=.map (some V35.heap.size)) (w':=V354) (by rw [<-hV354];exact zAk (by rfl)) (fun _=>BV354) ?_ readyZ.nil;simp only [zp];refine zx 6 1 9 rfl (by kernel_rfl) BV354 ?_;refine zxc (v:=.agg #[ptr gp,O ii 0,O ii 3,O ii 15,O ii 3,.map (some Y.heap.size),.map (some V35.heap.size),ptr V3.heap.size]) rfl (by rfl) (fun wx hx=>zCv rfl rfl rfl rfl rfl rfl rfl) ?_;simp only [zp];refine zxn ?_;obtain ⟨L,hL⟩:=ex (V354.alloc (.cells #[ptr gp,O ii 0,O ii 3,O ii 15,O ii 3,.map (some Y.heap.size),.map (some V35.heap.size),ptr V3.heap.size] 53));have bL:Below V354.heap.size V354 L:=by rw [<-hL];exact zAh _ _
    have sL:Sea L V354.heap.size gp 0 3 15 3 Y.heap.size V35.heap.size V3.heap.size:=by rw [<-hL];exact heap_alloc_new _ _
    refine zq 7 (by kernel_rfl) rfl rfl (v':=ptr V354.heap.size) (w':=L) ((zCu rfl rfl).trans (by rw [hL])) (fun _=>bt BV354 bL) ?_;simp only [zp];refine zq 8 (v':=ptr V354.heap.size) (by kernel_rfl) rfl rfl (zBd rfl rfl) (fun _=>bt BV354 bL) ?_;refine zAd (by kernel_rfl) ?_ _;dsimp only [zAv,Exit.then];simp only [zp];go_wp2_with fail;go_meet
    exact ⟨_,_,_,_,rfl,sL,MapS.upto gV3543 bL,MapS.upto fV354 bL,Hh.Hp.upto gV3545 bL,by have:=hsY.out;omega,by have:=hsY.out;omega,by have:=hsY.out;omega,by have:=hsY.out;have:=bt BV354 bL;omega,by omega,BY.out.trans ((bt BV354 bL).mono hsY.out)⟩
  ·obtain ⟨V4,hV4⟩:∃V,Y.alloc (.map #[] 0)=V:=⟨_,rfl⟩
   have bV4:Below Y.heap.size Y V4:=by rw [<-hV4];exact zAh _ _
   have fV4:MapS (O ii 0) V4 Y.heap.size [] (fun _ _ => O ii 0):=by rw [<-hV4];exact MapS.made (zE4 0) _
   have BV4:Below Y.heap.size Y V4:=bt BB bV4;have zV4:=BV4.size;have yV4:=bV4.size;have lV4:=MapS.lt fV4;refine readyZ.cons rfl rfl (v':=.map (some Y.heap.size)) (w':=V4) (by rw [<-hV4];exact zAk (by rfl)) (fun _=>BV4) ?_ ?_
   ·simp only [zp];refine zw 3 [5] (by kernel_rfl) ?_;obtain ⟨V43,hV43⟩:∃V,V4.alloc (.map #[] 0)=V:=⟨_,rfl⟩
    have bV43:Below V4.heap.size V4 V43:=by rw [<-hV43];exact zAh _ _
    have fV43:MapS zC8 V43 V4.heap.size [] (fun _ _=>zC8):=by rw [<-hV43];exact MapS.made zDb _
    have BV43:Below Y.heap.size Y V43:=bt BV4 bV43;have gV434:=MapS.upto fV4 bV43;have zV43:=BV43.size;have yV43:=bV43.size;have lV43:=MapS.lt fV43;refine readyZ.cons rfl rfl (v':=.map (some V4.heap.size)) (w':=V43) (by rw [<-hV43];exact zAk (by rfl)) (fun _=>BV43) ?_ ?_
    ·simp only [zp];refine zw 5 [] (by kernel_rfl) ?_;refine readyZ.call rfl rfl (zY8 (by rfl) (by rfl) (by simp only [zj];rfl)) (Hh.hnew_any V43) ?_ readyZ.nil;rintro e V ⟨rfl,hV⟩;obtain ⟨V435,hV435⟩:∃V,V43.alloc (.cells #[Hh.fn31,.slice none 0 0,O ii 0,.bool false] 124)=V:=⟨_,rfl⟩
     have bV435:Below V43.heap.size V43 V435:=by rw [<-hV435];exact zAh _ _
     have fV435:Hh.Hp V435 V43.heap.size (.slice none 0 0) 0 false:=by rw [<-hV435];exact heap_alloc_new _ _
     have BV435:Below Y.heap.size Y V435:=bt BV43 bV435;have gV4354:=MapS.upto gV434 bV435;have gV4353:=MapS.upto fV43 bV435;have zV435:=BV435.size;have yV435:=bV435.size;obtain rfl:V435=V:=(hV.trans hV435).symm;refine ⟨_,rfl,fun _=>BV435,?_⟩;simp only [zp];refine zx 6 1 9 rfl (by kernel_rfl) BV435 ?_;refine zxc (v:=.agg #[ptr gp,O ii 0,O ii 3,O ii 15,O ii 3,.map (some V4.heap.size),.map (some Y.heap.size),ptr V43.heap.size]) rfl (by rfl) (fun wx hx=>zCv rfl rfl rfl rfl rfl rfl rfl) ?_;simp only [zp];refine zxn ?_;obtain ⟨L,hL⟩:=ex (V435.alloc (.cells #[ptr gp,O ii 0,O ii 3,O ii 15,O ii 3,.map (some V4.heap.size),.map (some Y.heap.size),ptr V43.heap.size] 53));have bL:Below V435.heap.size V435 L:=by rw [<-hL];exact zAh _ _
     have sL:Sea L V435.heap.size gp 0 3 15 3 V4.heap.size Y.heap.size V43.heap.size:=by rw [<-hL];exact heap_alloc_new _ _
     refine zq 7 (by kernel_rfl) rfl rfl (v':=ptr V435.heap.size) (w':=L) ((zCu rfl rfl).trans (by rw [hL])) (fun _=>bt BV435 bL) ?_;simp only [zp];refine zq 8 (v':=ptr V435.heap.size) (by kernel_rfl) rfl rfl (zBd rfl rfl) (fun _=>bt BV435 bL) ?_;refine zAd (by kernel_rfl) ?_ _;dsimp only [zAv,Exit.then];simp only [zp];go_wp2_with fail;go_meet
     exact ⟨_,_,_,_,rfl,sL,MapS.upto gV4353 bL,MapS.upto gV4354 bL,Hh.Hp.upto fV435 bL,by have:=hsY.out;omega,by have:=hsY.out;omega,by have:=hsY.out;omega,by have:=hsY.out;have:=bt BV435 bL;omega,by omega,BY.out.trans ((bt BV435 bL).mono hsY.out)⟩
    ·refine readyZ.call rfl rfl (zY8 (by rfl) (by rfl) (by simp only [zj];rfl)) (Hh.hnew_any V4) ?_ readyZ.nil;rintro e V ⟨rfl,hV⟩;obtain ⟨V45,hV45⟩:∃V,V4.alloc (.cells #[Hh.fn31,.slice none 0 0,O ii 0,.bool false] 124)=V:=⟨_,rfl⟩
     have bV45:Below V4.heap.size V4 V45:=by rw [<-hV45];exact zAh _ _
     have fV45:Hh.Hp V45 V4.heap.size (.slice none 0 0) 0 false:=by rw [<-hV45];exact heap_alloc_new _ _
     have BV45:Below Y.heap.size Y V45:=bt BV4 bV45;have gV454:=MapS.upto fV4 bV45;have zV45:=BV45.size;have yV45:=bV45.size;obtain rfl:V45=V:=(hV.trans hV45).symm;refine ⟨_,rfl,fun _=>BV45,?_⟩;simp only [zp];refine zw 3 [] (by kernel_rfl) ?_;obtain ⟨V453,hV453⟩:∃V,V45.alloc (.map #[] 0)=V:=⟨_,rfl⟩
     have bV453:Below V45.heap.size V45 V453:=by rw [<-hV453];exact zAh _ _
     have fV453:MapS zC8 V453 V45.heap.size [] (fun _ _=>zC8):=by rw [<-hV453];exact MapS.made zDb _
     have BV453:Below Y.heap.size Y V453:=bt BV45 bV453;have gV4534:=MapS.upto gV454 bV453;have gV4535:=Hh.Hp.upto fV45 bV453;have zV453:=BV453.size;have yV453:=bV453.size;have lV453:=MapS.lt fV453;refine readyZ.cons rfl rfl (v':=.map (some V45.heap.size)) (w':=V453) (by rw [<-hV453];exact zAk (by rfl)) (fun _=>BV453) ?_ readyZ.nil;simp only [zp];refine zx 6 1 9 rfl (by kernel_rfl) BV453 ?_;refine zxc (v:=.agg #[ptr gp,O ii 0,O ii 3,O ii 15,O ii 3,.map (some V45.heap.size),.map (some Y.heap.size),ptr V4.heap.size]) rfl (by rfl) (fun wx hx=>zCv rfl rfl rfl rfl rfl rfl rfl) ?_;simp only [zp];refine zxn ?_;obtain ⟨L,hL⟩:=ex (V453.alloc (.cells #[ptr gp,O ii 0,O ii 3,O ii 15,O ii 3,.map (some V45.heap.size),.map (some Y.heap.size),ptr V4.heap.size] 53));have bL:Below V453.heap.size V453 L:=by rw [<-hL];exact zAh _ _
     have sL:Sea L V453.heap.size gp 0 3 15 3 V45.heap.size Y.heap.size V4.heap.size:=by rw [<-hL];exact heap_alloc_new _ _
     refine zq 7 (by kernel_rfl) rfl rfl (v':=ptr V453.heap.size) (w':=L) ((zCu rfl rfl).trans (by rw [hL])) (fun _=>bt BV453 bL) ?_;simp only [zp];refine zq 8 (v':=ptr V453.heap.size) (by kernel_rfl) rfl rfl (zBd rfl rfl) (fun _=>bt BV453 bL) ?_;refine zAd (by kernel_rfl) ?_ _;dsimp only [zAv,Exit.then];simp only [zp];go_wp2_with fail;go_meet
     exact ⟨_,_,_,_,rfl,sL,MapS.upto fV453 bL,MapS.upto gV4534 bL,Hh.Hp.upto gV4535 bL,by have:=hsY.out;omega,by have:=hsY.out;omega,by have:=hsY.out;omega,by have:=hsY.out;have:=bt BV453 bL;omega,by omega,BY.out.trans ((bt BV453 bL).mono hsY.out)⟩
   ·refine readyZ.call rfl rfl (zY8 (by rfl) (by rfl) (by simp only [zj];rfl)) (Hh.hnew_any Y) ?_ readyZ.nil;rintro e V ⟨rfl,hV⟩;obtain ⟨V5,hV5⟩:∃V,Y.alloc (.cells #[Hh.fn31,.slice none 0 0,O ii 0,.bool false] 124)=V:=⟨_,rfl⟩
    have bV5:Below Y.heap.size Y V5:=by rw [<-hV5];exact zAh _ _
    have fV5:Hh.Hp V5 Y.heap.size (.slice none 0 0) 0 false:=by rw [<-hV5];exact heap_alloc_new _ _
    have BV5:Below Y.heap.size Y V5:=bt BB bV5;have zV5:=BV5.size;have yV5:=bV5.size;obtain rfl:V5=V:=(hV.trans hV5).symm;refine ⟨_,rfl,fun _=>BV5,?_⟩;simp only [zp];refine zw 3 [4] (by kernel_rfl) ?_;obtain ⟨V53,hV53⟩:∃V,V5.alloc (.map #[] 0)=V:=⟨_,rfl⟩
    have bV53:Below V5.heap.size V5 V53:=by rw [<-hV53];exact zAh _ _
    have fV53:MapS zC8 V53 V5.heap.size [] (fun _ _=>zC8):=by rw [<-hV53];exact MapS.made zDb _
    have BV53:Below Y.heap.size Y V53:=bt BV5 bV53;have gV535:=Hh.Hp.upto fV5 bV53;have zV53:=BV53.size;have yV53:=bV53.size;have lV53:=MapS.lt fV53;refine readyZ.cons rfl rfl (v':=.map (some V5.heap.size)) (w':=V53) (by rw [<-hV53];exact zAk (by rfl)) (fun _=>BV53) ?_ ?_
    ·simp only [zp];refine zw 4 [] (by kernel_rfl) ?_;obtain ⟨V534,hV534⟩:∃V,V53.alloc (.map #[] 0)=V:=⟨_,rfl⟩
     have bV534:Below V53.heap.size V53 V534:=by rw [<-hV534];exact zAh _ _
     have fV534:MapS (O ii 0) V534 V53.heap.size [] (fun _ _ => O ii 0):=by rw [<-hV534];exact MapS.made (zE4 0) _
     have BV534:Below Y.heap.size Y V534:=bt BV53 bV534;have gV5345:=Hh.Hp.upto gV535 bV534;have gV5343:=MapS.upto fV53 bV534;have zV534:=BV534.size;have yV534:=bV534.size;have lV534:=MapS.lt fV534;refine readyZ.cons rfl rfl (v':=.map (some V53.heap.size)) (w':=V534) (by rw [<-hV534];exact zAk (by rfl)) (fun _=>BV534) ?_ readyZ.nil;simp only [zp];refine zx 6 1 9 rfl (by kernel_rfl) BV534 ?_;refine zxc (v:=.agg #[ptr gp,O ii 0,O ii 3,O ii 15,O ii 3,.map (some V5.heap.size),.map (some V53.heap.size),ptr Y.heap.size]) rfl (by rfl) (fun wx hx=>zCv rfl rfl rfl rfl rfl rfl rfl) ?_;simp only [zp];refine zxn ?_;obtain ⟨L,hL⟩:=ex (V534.alloc (.cells #[ptr gp,O ii 0,O ii 3,O ii 15,O ii 3,.map (some V5.heap.size),.map (some V53.heap.size),ptr Y.heap.size] 53));have bL:Below V534.heap.size V534 L:=by rw [<-hL];exact zAh _ _
     have sL:Sea L V534.heap.size gp 0 3 15 3 V5.heap.size V53.heap.size Y.heap.size:=by rw [<-hL];exact heap_alloc_new _ _
     refine zq 7 (by kernel_rfl) rfl rfl (v':=ptr V534.heap.size) (w':=L) ((zCu rfl rfl).trans (by rw [hL])) (fun _=>bt BV534 bL) ?_;simp only [zp];refine zq 8 (v':=ptr V534.heap.size) (by kernel_rfl) rfl rfl (zBd rfl rfl) (fun _=>bt BV534 bL) ?_;refine zAd (by kernel_rfl) ?_ _;dsimp only [zAv,Exit.then];simp only [zp];go_wp2_with fail;go_meet
     exact ⟨_,_,_,_,rfl,sL,MapS.upto gV5343 bL,MapS.upto fV534 bL,Hh.Hp.upto gV5345 bL,by have:=hsY.out;omega,by have:=hsY.out;omega,by have:=hsY.out;omega,by have:=hsY.out;have:=bt BV534 bL;omega,by omega,BY.out.trans ((bt BV534 bL).mono hsY.out)⟩
    ·obtain ⟨V54,hV54⟩:∃V,V5.alloc (.map #[] 0)=V:=⟨_,rfl⟩
     have bV54:Below V5.heap.size V5 V54:=by rw [<-hV54];exact zAh _ _
     have fV54:MapS (O ii 0) V54 V5.heap.size [] (fun _ _ => O ii 0):=by rw [<-hV54];exact MapS.made (zE4 0) _
     have BV54:Below Y.heap.size Y V54:=bt BV5 bV54;have gV545:=Hh.Hp.upto fV5 bV54;have zV54:=BV54.size;have yV54:=bV54.size;have lV54:=MapS.lt fV54;refine readyZ.cons rfl rfl (v':=.map (some V5.heap.size)) (w':=V54) (by rw [<-hV54];exact zAk (by rfl)) (fun _=>BV54) ?_ readyZ.nil;simp only [zp];refine zw 3 [] (by kernel_rfl) ?_;obtain ⟨V543,hV543⟩:∃V,V54.alloc (.map #[] 0)=V:=⟨_,rfl⟩
     have bV543:Below V54.heap.size V54 V543:=by rw [<-hV543];exact zAh _ _
     have fV543:MapS zC8 V543 V54.heap.size [] (fun _ _=>zC8):=by rw [<-hV543];exact MapS.made zDb _
     have BV543:Below Y.heap.size Y V543:=bt BV54 bV543;have gV5435:=Hh.Hp.upto gV545 bV543;have gV5434:=MapS.upto fV54 bV543;have zV543:=BV543.size;have yV543:=bV543.size;have lV543:=MapS.lt fV543;refine readyZ.cons rfl rfl (v':=.map (some V54.heap.size)) (w':=V543) (by rw [<-hV543];exact zAk (by rfl)) (fun _=>BV543) ?_ readyZ.nil;simp only [zp];refine zx 6 1 9 rfl (by kernel_rfl) BV543 ?_;refine zxc (v:=.agg #[ptr gp,O ii 0,O ii 3,O ii 15,O ii 3,.map (some V54.heap.size),.map (some V5.heap.size),ptr Y.heap.size]) rfl (by rfl) (fun wx hx=>zCv rfl rfl rfl rfl rfl rfl rfl) ?_;simp only [zp];refine zxn ?_;obtain ⟨L,hL⟩:=ex (V543.alloc (.cells #[ptr gp,O ii 0,O ii 3,O ii 15,O ii 3,.map (some V54.heap.size),.map (some V5.heap.size),ptr Y.heap.size] 53));have bL:Below V543.heap.size V543 L:=by rw [<-hL];exact zAh _ _
     have sL:Sea L V543.heap.size gp 0 3 15 3 V54.heap.size V5.heap.size Y.heap.size:=by rw [<-hL];exact heap_alloc_new _ _
     refine zq 7 (by kernel_rfl) rfl rfl (v':=ptr V543.heap.size) (w':=L) ((zCu rfl rfl).trans (by rw [hL])) (fun _=>bt BV543 bL) ?_;simp only [zp];refine zq 8 (v':=ptr V543.heap.size) (by kernel_rfl) rfl rfl (zBd rfl rfl) (fun _=>bt BV543 bL) ?_;refine zAd (by kernel_rfl) ?_ _;dsimp only [zAv,Exit.then];simp only [zp];go_wp2_with fail;go_meet
     exact ⟨_,_,_,_,rfl,sL,MapS.upto fV543 bL,MapS.upto gV5434 bL,Hh.Hp.upto gV5435 bL,by have:=hsY.out;omega,by have:=hsY.out;omega,by have:=hsY.out;omega,by have:=hsY.out;have:=bt BV543 bL;omega,by omega,BY.out.trans ((bt BV543 bL).mono hsY.out)⟩
 case rest =>
  rename World=>w1;obtain ⟨l,ab,cb,hb,rfl,hs,hma,hmc,hhp,la,lc,lh,ll,hac,hb1⟩:=hcut;have sX:=BX.out.size;have sw:=zAb (show w.heap.size+1<X.heap.size from TT.out.2.2);have B1:=zAb (bt BX.out hb1);have BG1:=zAb (HB.out.trans (B1.out.mono HB.out.size));have sG:=HB.out.size;have HA:=zAb (zP3 Hg.out BG1.out (by omega) hs hma)
  have hla:¬l=ab:=fun e=>by
   obtain ⟨es,cl,q⟩:=MapS.blk hma;have hl:w1.heap[l]? = _:=hs;rw [e,q] at hl;cases hl
  have hha:¬hb=ab:=fun e=>by
   obtain ⟨es,cl,q⟩:=MapS.blk hma;have hl:w1.heap[hb]? = _:=hhp;rw [e,q] at hl;cases hl
  have hlc:¬l=cb:=fun e=>by
   obtain ⟨es,cl,q⟩:=MapS.blk hmc;have hl:w1.heap[l]? = _:=hs;rw [e,q] at hl;cases hl
  have hlh:¬l=hb:=fun e=>by
   have h1:w1.heap[l]? = _:=hs;have h2:w1.heap[hb]? = _:=hhp;rw [e,h2] at h1;injection h1 with h1;injection h1 with _ h1;cases h1
  have hhc:¬hb=cb:=fun e=>by
   obtain ⟨es,cl,q⟩:=MapS.blk hmc;have hl:w1.heap[hb]? = _:=hhp;rw [e,q] at hl;cases hl
  have HN:=zAb (ai hla (ai hha (ai hlc (ai hlh (ai hhc hac)))));have HLo:=zAb (ai la (ai lc (ai lh ll)));have Hw1:=zAb (ai hs (ai hmc hhp));have T1:=zAb (TT.out.kept hb1);clear hs hma hmc hhp la lc lh ll hac hb1 hla hha hlc hlh hhc;go_wp2_with fail;refine HA.out.mono ?_;rintro e w2 ⟨rfl,F,hA2,hT2⟩;have s2:=zAb (Hw1.out.1.kept hT2 HN.out.1);have c2:=zAb (show zNb w2 cb [] (fun _ _=>0) from MapS.kept Hw1.out.2.1 hT2 (fun e=>HN.out.2.2.2.2.2 e.symm));have h2:=zAb (zRm (Hh.Hp.kept Hw1.out.2.2 hT2 HN.out.2.1));have t2:=zAb (zAy T1.out hT2 (fun e=>by have:=HLo.out.1;have:=sw.out;omega));have HM:=zAb (zLr s2.out c2.out h2.out (x:=15) (y:=3) (c:=0) (o:=150) (by decide) (by decide) (by decide) (by omega) (by omega) (by omega) (by simp) (by simp) (by simp));obtain ⟨⟨d0,d1⟩,-,-⟩:=id t2.out;have HA2:=zAb hA2;have HT2:=zAb hT2;clear hA2 hT2 HA;go_wp2_with fail;refine HM.out.mono ?_;rintro e w3 ⟨rfl,v',m1,m2,m3,m4⟩;have T3:Turns (fun k=>k=cb\/k=hb) w2 w3:=m3.mono (fun k _ e=>e.elim .inl (fun e=>e.elim .inr (fun e=>by simp [Value.ownBlock] at e)))
  have hr:∀x y g,(F x y).ownBlock=some g->¬(g=cb\/g=hb):=fun x y g e q=>by
   obtain ⟨cur,hc⟩:=(HA2.out.rows x y).blk e;rcases q with rfl|rfl
   ·exact zI9 c2.out hc rfl
   ·have hp:=HT2.out.same HN.out.2.1 Hw1.out.2.2;rw [hc] at hp;injection hp with hp;injection hp with _ hp;cases hp
  have A3:=HA2.out.kept T3 (fun e=>e.elim HN.out.2.2.2.2.2 (fun e=>HN.out.2.1 e.symm)) hr;have B2:Below w.heap.size w w2:=B1.out.trans (HT2.out.below (B:=w.heap.size) (fun k e=>by rw [e];have:=HLo.out.1;omega) B1.out.size);have B3:Below w.heap.size w w3:=B2.trans (T3.below (B:=w.heap.size) (fun k e=>by have:=HLo.out;rcases e with rfl|rfl<;>omega) B2.size)
  have HE:=zAb (ai (show S14 w.heap.size w3 l gp ab cb hb [(15,3)] (zKu (fun _ _=>0) 15 3 0) v' 1 [⟨15,3,0,150,0⟩] F from
   ⟨s2.out.kept T3 (fun e=>e.elim HN.out.2.2.1 HN.out.2.2.2.1),⟨A3.mp,A3.rows,A3.apart,fun x y g e=>Nat.le_trans B1.out.size (A3.own x y g e)⟩,m1,m2,HN.out.2.2.2.2.2,by have:=HLo.out;omega,by have:=HLo.out;omega,by have:=HLo.out;omega,by have:=HLo.out;omega,fun g e=>(m4 g e).elim (fun e=>by simp [Value.ownBlock] at e) (fun q=>Nat.le_trans B2.size q)⟩) B3)
  clear m1 m2 m3 m4 T3 hr A3 B2 B3 HM;go_wp2_with fail;go_ret;exact ⟨_,_,_,_,_,_,rfl,HE.out⟩
namespace Hh
attribute [local go_sem] Oper.semAt_some
abbrev itv (t:It):Value:=rv t.x t.y t.c t.f
theorem drain_steps (n c b l:Nat) (T:Nat->It) (J Jp:Nat->World->Prop) (mu:World->Nat) (W:World) (m0:Nat)
 (hJc:∀m X,J m X->Boxed X c 51 (ptr b)) (hJb:∀m X Y,J m X->Below X.heap.size X Y->J m Y) (hPb:∀m X Y,Jp m X->Below X.heap.size X Y->Jp m Y)
 (hmu:∀m X Y,J (m+1) X->J m Y->mu Y<mu X)
 (h0:∀X,J 0 X->∃a cap cnt,Hp X b (.slice a 0 cap) cnt false)
 (hpop:∀m X,J (m+1) X->Calls pg 63 #[ptr b] X fun e Y=>e = .returned (.tuple #[itv (T m),.bool true])/\Jp m Y)
 (hY:∀m X,Jp m X->YieldAt Fence.wide (n-1) pg l #[itv (T m)] X fun e Y=>e = .returned (.bool true)/\J m Y)
 (hW:J m0 W) :
 CallsIn Fence.wide n pg 62 #[.func (.yield l) #[] #[],ptr c] W fun e Y=>(∃z,e = .returned z)/\J 0 Y:=by
 have HJc:=zAb hJc
 have HJb:=zAb hJb
 have HPb:=zAb hPb
 have Hmu:=zAb hmu
 have H0:=zAb h0
 have Hpop:=zAb hpop
 have HY:=zAb hY
 have HW:=zAb hW
 clear hJc hJb hPb hmu h0 hpop hY hW
 refine callsIn_of_wp func62 rfl trivial ?_ rfl
 simp only [ntmps62,List.size_toArray,List.length_cons,List.length_nil,Nat.reduceAdd,Nat.reduceSub,Array.replicate_succ,Array.replicate_zero,List.push_toArray,List.append_toArray,List.nil_append,List.cons_append]
 gi_wp2_with fail
 gi_loopw [] (fun wr=>∃m,J m wr) (fun wr=>mu wr)
 case atStart=>exact ⟨m0,HW.out⟩
 case round =>
  obtain ⟨m,hj⟩:=hrel
  rename World=>wo
  have cc:=(HJc.out m wo hj).cell
  have HJ:=zAb hj
  clear hj
  cases m with
  |zero =>
   obtain ⟨a,cap,cnt,hp⟩:=H0.out wo HJ.out
   gi_wp2_with fail
   refine ⟨trivial,fun h=>(by cases h),?_⟩
   refine (callsIn_wide.2 (zSm b a cap cnt false wo hp)).mono ?_
   rintro e w1 ⟨rfl,hb1⟩
   have HB1:=zAb (bt hb1 (zAh w1 (.cells #[O ii 0,O ii 0,O ii 0,O ii 0] 78)))
   clear hb1 hp
   gi_wp2_with fail
   refine ⟨fun f h=>(by cases h),?_⟩
   gi_wp2_with fail
   refine bodyPost_ret (results_none rfl _ _ _) rfl ?_
   exact ⟨⟨_,rfl⟩,HJb.out _ _ _ HJ.out HB1.out⟩
  |succ m =>
   gi_wp2_with fail
   refine ⟨trivial,fun h=>(by cases h),?_⟩
   refine (callsIn_wide.2 (Hpop.out m wo HJ.out)).mono ?_
   rintro e w1 ⟨rfl,hj1⟩
   obtain ⟨W2,hW2⟩:=ex (w1.alloc (.cells #[O ii (T m).x,O ii (T m).y,O ii (T m).c,O ii (T m).f] 78))
   have hx:=Four.new w1 78 (T m).x (T m).y (T m).c (T m).f
   have hj2:Jp m W2:=HPb.out _ _ _ hj1 (by rw [<-hW2];exact zAh _ _)
   rw [hW2] at hx
   obtain ⟨fn,tmps,assign,body,hy,hRd⟩:=HY.out m W2 hj2
   have HW2:=zAb hW2
   obtain ⟨⟨x0,x1,x2,x3⟩,-,-⟩:=hx
   clear hW2 hj1 hj2
   gi_wp2_with (rw [HW2.out])
   refine ⟨fun h=>(by cases h),?_⟩
   refine hRd.mono ?_
   rintro e W3 ⟨rfl,hJ3⟩
   have HJ3:=zAb hJ3
   clear hJ3
   gi_wp2_with fail
   go_roundw
   case rel=>exact ⟨m,HJ3.out⟩
   case measure=>exact Hmu.out m wo W3 HJ.out HJ3.out
def Kl (B:Nat) (X Y:World):Prop:=X.heap.size<=Y.heap.size/\Y.heap[B]? = X.heap[B]?/\Y.heap[B+1]? = X.heap[B+1]?
theorem Kl.refl (B:Nat) (X:World):Kl B X X:=⟨Nat.le_refl _,rfl,rfl⟩
theorem Kl.trans {B:Nat} {X Y Z:World} (h:Kl B X Y) (k:Kl B Y Z):Kl B X Z:=⟨Nat.le_trans h.1 k.1,k.2.1.trans h.2.1,k.2.2.trans h.2.2⟩
theorem Kl.of_below {B:Nat} {X Y:World} (h:Below X.heap.size X Y) (hB:B+1<X.heap.size):Kl B X Y:=⟨h.size,h.block B (by omega),h.block (B+1) hB⟩
def Two2 (B k:Nat):Prop:=k=B\/k=B+1
def qA8 (B:Nat) (J:Nat->World->Prop) (m:Nat) (X:World):Exit->Act->World->Prop
 |.normal,_,Y=>Kl B X Y/\J m Y
 |_,_,_=>False
theorem range_steps {n:Nat} {g:Operand} {ps:Array Tmp} {assign body:Code} {Q:Exit->Act->World->Prop} {a:Act} {w:World} (h1:1<=n) {c b:Nat}
 (hg:a.eval g = .func (.func 62) #[] #[ptr c]) (hps:ps.size=1) (T:Nat->It) (J Jp:Nat->World->Prop) (mu:World->Nat) (m0:Nat)
 (hJc:∀m X,J m X->Boxed X c 51 (ptr b)) (hJb:∀m X Y,J m X->Below X.heap.size X Y->J m Y) (hPb:∀m X Y,Jp m X->Below X.heap.size X Y->Jp m Y)
 (hJt:∀m X Y,J m X->Turns (Two2 w.heap.size) X Y->J m Y) (hPt:∀m X Y,Jp m X->Turns (Two2 w.heap.size) X Y->Jp m Y)
 (hmu:∀m X Y,J (m+1) X->J m Y->mu Y<mu X)
 (h0:∀X,J 0 X->∃a cap cnt,Hp X b (.slice a 0 cap) cnt false)
 (hpop:∀m X,J (m+1) X->w.heap.size+2<=X.heap.size->(∃o,X.heap[w.heap.size]? = some (.deferred o))->(∃o,X.heap[w.heap.size+1]? = some (.loop o))->Calls pg 63 #[ptr b] X fun e Y=>e = .returned (.tuple #[itv (T m),.bool true])/\Jp m Y/\Kl w.heap.size X Y)
 (hw:J m0 w)
 (Ax:Nat->Act->World->Prop) (hAx:∀m a' X Y,Ax m a' X->Turns (Two2 w.heap.size) X Y->Ax m a' Y)
 (hassign:∀(l m:Nat) (W:World) (K:Act->World->Prop),Jp m W->w.heap.size+2<=W.heap.size->(∀a' W',Kl w.heap.size W W'->Jp m W'->Ax m a' W'->K a' W')->
  assign.wpIn (Fence.wide.inRound l) (n-1-1) pg (Exit.then K (fun _ _ _=>False)) { tmps:=(ps.zip #[itv (T m)]).foldl (fun t (p,v)=>t.setIfInBounds p v) a.tmps,defers:=[] } W)
 (hbody:∀(l m:Nat) (a':Act) (W:World),w.heap.size<=l->Jp m W->Ax m a' W->w.heap.size+2<=W.heap.size->(∃o,W.heap[w.heap.size]? = some (.deferred o))->(∃o,W.heap[w.heap.size+1]? = some (.loop o))->body.wpIn (Fence.wide.inRound l) (n-1-1) pg (qA8 w.heap.size J m W) a' W)
 (hdone:∀(D:Nat) (W:World),w.heap.size=D->J 0 W->W.heap[D]? = some (.deferred (some []))->Q .normal { a with defers:={ target:=.collected D,args:=#[] } :: a.defers } W) :
 (Code.rangeFunc g ps assign body).wpIn Fence.wide n pg Q a w:=by
 refine wpIn_rangeFunc (fun fn hfn=>?_)
 generalize hrc:(fun st pe=>({ state:=st,pending:=pe,fn:=fn,tmps:=a.tmps,params:=ps,assign:=assign,body:=body,defers:=w.heap.size }:Loop))=rc
 generalize hV:(w.alloc (.deferred (some []))).alloc (.loop (rc .ready none))=V
 have zV:V.heap.size=w.heap.size+2:=by rw [<-hV];simp
 have bV:Below w.heap.size w V:=by rw [<-hV];exact zBe _ _ _
 have lV:V.heap[w.heap.size+1]? = some (.loop (rc .ready none)):=by rw [<-hV];have:=World.alloc_heap_new (w.alloc (.deferred (some []))) (.loop (rc .ready none));rwa [World.size_alloc] at this
 have dV:V.heap[w.heap.size]? = some (.deferred (some [])):=by rw [<-hV];exact (Below.heap_alloc _ _ _ (by simp)).trans (World.alloc_heap_new w _)
 have iV:J m0 V:=hJb _ _ _ hw bV
 let Bk:LoopState->Option Code->World->Prop:=fun st pe X=>X.heap[w.heap.size+1]? = some (.loop (rc st pe))/\X.heap[w.heap.size]? = some (.deferred (some []))
 have kpB:∀{st pe} {X Y:World},Bk st pe X->Kl w.heap.size X Y->Bk st pe Y:=fun h k=>⟨k.2.2.trans h.1,k.2.1.trans h.2⟩
 have turn:∀{X:World} {st pe} (st':LoopState) (pe':Option Code),Bk st pe X->Bk st' pe' (X.putObj (w.heap.size+1) (.loop (rc st' pe'))):=fun st' pe' h =>
  ⟨World.putObj_heap_same (gE.1 h.1).1,(World.putObj_heap_other (by omega)).trans h.2⟩
 have putT:∀(X:World) (o:Obj),Turns (Two2 w.heap.size) X (X.putObj (w.heap.size+1) o):=fun X o=>zCh X o _ (.inr rfl)
 refine ⟨w.heap.size+1,[{ target:=.collected w.heap.size,args:=#[] }],V,{ target:=.fn (.func 62) #[ptr c],args:=#[.func (.yield (w.heap.size+1)) #[] #[]] },V,62,#[.func (.yield (w.heap.size+1)) #[] #[],ptr c],V,?_,?_,fun _ _=>trivial,?_,fun _=>h1,?_⟩
 ·rw [<-hV,<-hrc];exact run_enterLoop_outer _ _ _ _ _
 ·simp only [resolve,hg];simp [go_sem]
 ·have eg:=enters_of func62 (by kernel_rfl) rfl
  simp [invoke,go_sem,eg]
 refine (drain_steps (n-1) c b (w.heap.size+1) T (fun m X=>J m X/\Bk .ready none X/\w.heap.size+2<=X.heap.size) (fun m X=>Jp m X/\Bk .ready none X/\w.heap.size+2<=X.heap.size) mu V m0
  (fun m X h=>hJc m X h.1) (fun m X Y h q=>⟨hJb m X Y h.1 q,kpB h.2.1 (Kl.of_below q (by omega)),Nat.le_trans h.2.2 q.size⟩) (fun m X Y h q=>⟨hPb m X Y h.1 q,kpB h.2.1 (Kl.of_below q (by omega)),Nat.le_trans h.2.2 q.size⟩)
  (fun m X Y h k=>hmu m X Y h.1 k.1) (fun X h=>h0 X h.1)
  (fun m X h=>(hpop m X h.1 h.2.2 ⟨_,h.2.1.2⟩ ⟨_,h.2.1.1⟩).mono fun e Y ⟨he,hj,hk⟩=>⟨he,hj,kpB h.2.1 hk,Nat.le_trans h.2.2 hk.1⟩) ?_ ⟨iV,⟨lV,dV⟩,by omega⟩).mono ?_
 ·rintro m X ⟨iX,bX,zX⟩
  have hy:=run_yield (P:=pg) (args:=#[itv (T m)]) bX.1 (by rw [<-hrc];exact hps.symm)
  rw [<-hrc] at hy
  refine ⟨fn,_,assign,body,hy,roundIn_of_wpIn trivial (hassign _ m X _ iX zX ?_)⟩
  intro a' Y kY iY axY
  have bY:=kpB bX kY
  refine ⟨_,run_beginRound bY.1 (by rw [<-hrc]),?_⟩
  rw [show (Obj.loop { rc .ready none with state:=.busy }) = .loop (rc .busy none) by rw [<-hrc]]
  have bZ:=turn .busy none bY
  have zY:=kY.1
  refine wpIn_mono (hbody _ m a' _ (by omega) (hPt _ _ _ iY (putT _ _)) (hAx _ a' _ _ axY (putT _ _)) (by simp;omega) ⟨_,bZ.2⟩ ⟨_,bZ.1⟩) ?_
  have fin:∀(U:World),Kl w.heap.size (Y.putObj (w.heap.size+1) (.loop (rc .busy none))) U->
   (Instr.endRound (w.heap.size+1) none).run pg U = .ok (.bool true) (U.putObj (w.heap.size+1) (.loop (rc .ready none)))/\Bk .busy none U:=fun U kU=>by
   have bU:Bk .busy none U:=kpB bZ kU
   refine ⟨?_,bU⟩
   have:=run_endRound (P:=pg) none bU.1
   rw [<-hrc] at this ⊢
   exact this
  rintro e a3 U hp
  cases e with
  |normal =>
   obtain ⟨kU,iU⟩:=hp
   obtain ⟨hr,bU⟩:=fin U kU
   exact ⟨_,_,hr,rfl,hJt _ _ _ iU (putT _ _),turn _ _ bU,by have h2:=kU.1;simp at h2 ⊢;omega⟩
  |ret=>exact hp.elim
  |exit id=>exact hp.elim
  |goto t=>exact hp.elim
  |panic ch=>exact hp.elim
  |outgrown=>exact hp.elim
 ·rintro e U ⟨⟨z,rfl⟩,iU,bU,-⟩
  refine ⟨none,_,?_,hdone _ _ rfl (hJt _ _ _ iU (putT _ _)) (turn .exhausted none bU).2⟩
  have:=run_endLoop (P:=pg) bU.1 (by rw [<-hrc];simp)
  rw [<-hrc] at this ⊢
  exact this
end Hh
section
attribute [local go_sem] Oper.semAt_some
def Kin (B:Nat) (w:World) (k:Nat):Prop:=B<=k/\((∃es cl,w.heap[k]? = some (.map es cl))\/(∃cs,w.heap[k]? = some (.cells cs 161 (0,0)))\/∃cs,w.heap[k]? = some (.cells cs 124 (0,0)))
def Trn (B:Nat) (w w':World):Prop:=Turns (Kin B w) w w'
theorem Trn.of {B:Nat} {S:Nat->Prop} {w w':World} (h:Turns S w w') (hS:∀k,k<w.heap.size->S k->Kin B w k):Trn B w w':=h.mono hS
theorem Trn.below {B:Nat} {w w':World} (h:Trn B w w') (hB:B<=w.heap.size):Below B w w':=Turns.below h (fun k e=>e.1) hB
theorem Trn.of_below {B:Nat} {w w':World} (h:Below w.heap.size w w'):Trn B w w':=Turns.of_below h
theorem Trn.keep {B:Nat} {w w':World} (h:Trn B w w') {k:Nat} {cs:Array Value} {t:Nat} (hk:w.heap[k]? = some (.cells cs t (0,0))) (h1:t≠161) (h2:t≠124):w'.heap[k]? = some (.cells cs t (0,0)):=by
 have h':Turns (Kin B w) w w':=h;refine h'.same (fun q=>?_) hk;rcases q.2 with ⟨es,cl,q⟩|⟨c,q⟩|⟨c,q⟩<;>rw [hk] at q
 ·cases q
 ·injection q with q;injection q with _ q;exact h1 q
 ·injection q with q;injection q with _ q;exact h2 q
theorem Trn.row {B:Nat} {w w':World} (h:Trn B w w') {e k n:Nat} {v:Value} {xs:List Value} (hv:w.ownsRow 0 e k v n xs) (h1:e≠161) (h2:e≠124):∀g,v.ownBlock=some g->¬Kin B w g:=fun g hg q=>by
 obtain ⟨cur,hc⟩:=zQc hv hg;rcases q.2 with ⟨es,cl,q⟩|⟨c,q⟩|⟨c,q⟩<;>rw [hc] at q
 ·cases q
 ·injection q with q;injection q with _ q;exact h1 q
 ·injection q with q;injection q with _ q;exact h2 q
theorem Trn.obj {B:Nat} {w w':World} (h:Trn B w w') {k:Nat} {o:Obj} (hk:w.heap[k]? = some o) (ho:(∃d,o = .deferred d)\/∃l,o = .loop l):w'.heap[k]? = some o:=by
 have h':Turns (Kin B w) w w':=h;refine h'.same (fun q=>?_) hk;rcases q.2 with ⟨es,cl,q⟩|⟨c,q⟩|⟨c,q⟩<;>rw [hk] at q<;>rcases ho with ⟨d,rfl⟩|⟨d,rfl⟩<;>cases q
structure St14 where
 K:List (Int×Int)
 C:Int->Int->Int
 n:Int
 S:List It
def St14.met (s:St14) (x y c:Int):St14:=if (x,y)∈s.K/\s.C x y<=c then s else ⟨zDh s.K (x,y),zKu s.C x y c,s.n+1,⟨x,y,c,c+ocN 0 3 x y,s.n⟩ :: s.S⟩
def St14.mets (s:St14) (c:Int) (L:List E3):St14:=L.foldl (fun s e=>s.met e.x e.y (c+e.c)) s
theorem St14.mets_more (s:St14) (c:Int) (L:List E3) (e:E3):s.mets c (L++[e])=(s.mets c L).met e.x e.y (c+e.c):=by simp [St14.mets]
def St14.ok (s:St14):Prop:=0<=s.n/\s.n<=1000/\s.S.length<=1000/\s.K.length<=1000
structure JR (G0 W0:World) (B D l gp ab cb hb lb c:Nat) (s:St14) (X:World):Prop where
 st:∃v F,S14 B X l gp ab cb hb s.K s.C v s.n s.S F/\(∀g,v.ownBlock=some g->g<D\/D+2<=g)/\∀x y g,(F x y).ownBlock=some g->g<D
 bx:Boxed X lb 47 (ptr l)
 bc:Boxed X c 51 (ptr hb)
 bg:Below G0.heap.size G0 X
 gB:G0.heap.size<=B
 bb:Below B W0 X
 lo:l<D/\ab<D/\cb<D/\hb<D/\lb<D/\c<D
 BX:B<=X.heap.size
section
variable {G0 W0:World} {B D l gp ab cb hb lb c:Nat} {s:St14} {X Y:World}
theorem JR.upto (h:JR G0 W0 B D l gp ab cb hb lb c s X) (hb':Below X.heap.size X Y):JR G0 W0 B D l gp ab cb hb lb c s Y:=by
 obtain ⟨v,F,a,b1,b2⟩:=h.st;exact ⟨⟨v,F,⟨a.sea.upto hb',a.add.upto hb',MapS.upto a.costs hb',a.heap.upto hb',a.nac,a.lo⟩,b1,b2⟩,(hb'.block lb h.bx.lt).trans h.bx,(hb'.block c h.bc.lt).trans h.bc,h.bg.trans (hb'.mono h.bg.size),h.gB,h.bb.trans (hb'.mono h.BX),h.lo,Nat.le_trans h.BX hb'.size⟩
theorem JR.two (h:JR G0 W0 B D l gp ab cb hb lb c s X) (ht:Turns (Hh.Two2 D) X Y):JR G0 W0 B D l gp ab cb hb lb c s Y:=by
 obtain ⟨v,F,a,b1,b2⟩:=h.st;obtain ⟨l1,l2,l3,l4,l5,l6⟩:=h.lo;have hn:∀k,k<D->¬Hh.Two2 D k:=fun k hk e=>by unfold Hh.Two2 at e;omega
 have hv:∀k,v.ownBlock=some k->¬Hh.Two2 D k:=fun k e q=>by have:=b1 k e;unfold Hh.Two2 at q;omega
 refine ⟨⟨v,F,⟨a.sea.kept ht (hn _ l1),a.add.kept ht (hn _ l2) (fun x y g e=>hn _ (b2 x y g e)),MapS.kept a.costs ht (hn _ l3),a.heap.kept ht (hn _ l4) hv,a.nac,a.lo⟩,b1,b2⟩,(ht.block lb h.bx.lt (hn _ l5)).trans h.bx,(ht.block c h.bc.lt (hn _ l6)).trans h.bc,h.bg.trans (ht.below (fun k e=>by have:=h.gB;have:=a.lo.1;unfold Hh.Two2 at e;omega) h.bg.size),h.gB,h.bb.trans (ht.below (fun k e=>by have:=a.lo.1;unfold Hh.Two2 at e;omega) h.BX),h.lo,Nat.le_trans h.BX ht.size⟩
theorem JR.fst (h:JR G0 W0 B D l gp ab cb hb lb c s X) {v:Value} {F:Int->Int->Value} (a:S14 B X l gp ab cb hb s.K s.C v s.n s.S F) {x y:Int} {g:Nat} (e:(F x y).ownBlock=some g):g<X.heap.size:=a.add.lt e
theorem JR.abn (h:JR G0 W0 B D l gp ab cb hb lb c s X) {v:Value} {F:Int->Int->Value} (a:S14 B X l gp ab cb hb s.K s.C v s.n s.S F):¬(ab=cb\/ab=hb\/v.ownBlock=some ab):=fun q=>by
 obtain ⟨es,cl,e⟩:=MapS.blk a.add.mp;rcases q with q|q|q
 ·exact a.nac q
 ·obtain ⟨ll,q1,-⟩:=a.heap;have q1:X.heap[hb]? = _:=q1;rw [<-q,e] at q1;cases q1
 ·obtain ⟨ll,-,q2,-⟩:=a.heap;obtain ⟨cur,hc⟩:=zQc q2 q;rw [e] at hc;cases hc
theorem JR.meet (h:JR G0 W0 B D l gp ab cb hb lb c s X) (hD:D+2<=X.heap.size) (hok:s.ok) {x y co o:Int} (hx:W64 x) (hy:W64 y) (ho:ocN 0 3 x y=o) (hob:0<=o/\o<=1000000) (hcb:0<=co/\co<=1000000) :
 Calls pg 28 #[ptr l,cel x y,O ii co] X fun e Y=>e = .returned (.tuple #[])/\JR G0 W0 B D l gp ab cb hb lb c (s.met x y co) Y/\Trn B X Y:=by
 obtain ⟨v,F,a,b1,b2⟩:=h.st
 by_cases hm:(x,y)∈s.K/\s.C x y<=co
 ·refine (zQ6 a.sea a.costs hx hy hm.1 hm.2).mono ?_;rintro e Y ⟨rfl,hb'⟩;refine ⟨rfl,?_,Trn.of_below hb'⟩;rw [St14.met,if_pos hm];exact h.upto hb'
 ·refine (zLr a.sea a.costs a.heap hx hy ho hob hcb ⟨hok.1,by have:=hok.2.1;omega⟩ (by have:=hok.2.2.1;omega) (by have:=hok.2.2.2;omega) hm).mono ?_;rintro e Y ⟨rfl,v',m1,m2,m3,m4⟩
  have hK:∀k,k<X.heap.size->(k=cb\/k=hb\/v.ownBlock=some k)->Kin B X k:=fun k hk e=>by
   rcases e with rfl|rfl|e
   ·exact ⟨a.lo.2.2.1,.inl (MapS.blk a.costs)⟩
   ·obtain ⟨ll,q1,-⟩:=a.heap;exact ⟨a.lo.2.2.2.1,.inr (.inr ⟨_,q1⟩)⟩
   ·obtain ⟨ll,-,q2,-⟩:=a.heap;exact ⟨a.lo.2.2.2.2 k e,.inr (.inl (zQc q2 e))⟩
  have T:Trn B X Y:=Trn.of m3 hK;have T':Turns (Kin B X) X Y:=T;refine ⟨rfl,?_,T⟩;rw [St14.met,if_neg hm];have hcb':∀{k:Nat} {cs:Array Value} {t:Nat},X.heap[k]? = some (.cells cs t (0,0))->t≠161->t≠124->Y.heap[k]? = some (.cells cs t (0,0)):=fun hk h1 h2=>T.keep hk h1 h2;have hab:¬(ab=cb\/ab=hb\/v.ownBlock=some ab):=h.abn a
  have hrow:∀u t g,(F u t).ownBlock=some g->¬(g=cb\/g=hb\/v.ownBlock=some g):=fun u t g e q=>by
   have hg:=h.fst a e;exact T.row (a.add.rows u t) (by decide) (by decide) g e (hK g hg q)
  subst ho;refine ⟨⟨v',F,⟨hcb' a.sea (by decide) (by decide),a.add.kept m3 hab hrow,m1,m2,a.nac,a.lo.1,a.lo.2.1,a.lo.2.2.1,a.lo.2.2.2.1,fun g e=>(m4 g e).elim (fun q=>a.lo.2.2.2.2 g q) (fun q=>Nat.le_trans h.BX q)⟩,fun g e=>(m4 g e).elim (fun q=>b1 g q) (fun q => .inr (Nat.le_trans hD q)),b2⟩,hcb' h.bx (by decide) (by decide),hcb' h.bc (by decide) (by decide),h.bg.trans ((T.below h.BX).mono h.gB),h.gB,h.bb.trans (T.below h.BX),h.lo,Nat.le_trans h.BX T.size⟩
end
def St14.popd (s:St14):St14:=⟨s.K,s.C,s.n,[]⟩
def tT:Nat->It
 |3=>⟨15,3,0,150,0⟩
 |2=>⟨8,3,70,150,1⟩
 |1=>⟨7,3,80,150,2⟩
 |_=>⟨0,3,150,150,3⟩
def eG:Nat->List E3
 |3=>[]
 |2=>[⟨7,3,10⟩]
 |1=>[⟨8,3,10⟩]
 |_=>[]
def eA:Nat->List E3
 |3=>[⟨8,3,70⟩]
 |2=>[⟨15,3,70⟩]
 |1=>[⟨0,3,70⟩]
 |_=>[⟨7,3,70⟩]
def g4:St14:=⟨[(15,3)],zKu (fun _ _=>0) 15 3 0,1,[⟨15,3,0,150,0⟩]⟩
def g3:St14:=⟨[(15,3),(8,3)],zKu g4.C 8 3 70,2,[⟨8,3,70,150,1⟩]⟩
def g2:St14:=⟨[(15,3),(8,3),(7,3)],zKu g3.C 7 3 80,3,[⟨7,3,80,150,2⟩]⟩
def g1:St14:=⟨[(15,3),(8,3),(7,3),(0,3)],zKu g2.C 0 3 150,4,[⟨0,3,150,150,3⟩]⟩
def g0:St14:=⟨[(15,3),(8,3),(7,3),(0,3)],zKu g2.C 0 3 150,4,[]⟩
def gQ:Nat->St14
 |0=>g0
 |1=>g1
 |2=>g2
 |3=>g3
 |_=>g4
theorem zVl:∀m,m<=3->gQ m=((gQ (m+1)).popd).mets (tT m).c (eG m++eA m)
 |0,_=>by rfl
 |1,_=>by rfl
 |2,_=>by rfl
 |3,_=>by rfl
theorem zYn:∀m,m<=3->(gQ (m+1)).S=[tT m]
 |0,_=>rfl
 |1,_=>rfl
 |2,_=>rfl
 |3,_=>rfl
theorem zVm:∀m,m<=3->(gQ (m+1)).C (tT m).x (tT m).y=(tT m).c
 |0,_=>rfl
 |1,_=>rfl
 |2,_=>rfl
 |3,_=>rfl
theorem qBb:∀m,m<=3->E4 ((tT m).x,(tT m).y)=eA m
 |0,_=>rfl
 |1,_=>rfl
 |2,_=>rfl
 |3,_=>rfl
theorem qA7:∀m,m<=3->W64 (tT m).x/\W64 (tT m).y/\0<=(tT m).c/\(tT m).c<=150/\0<=(tT m).f/\(tT m).f<=150
 |0,_=>by decide
 |1,_=>by decide
 |2,_=>by decide
 |3,_=>by decide
theorem qBp:∀m,m<=3->∀e∈eG m++eA m,W64 e.x/\W64 e.y/\0<=e.c/\e.c<=70/\0<=ocN 0 3 e.x e.y/\ocN 0 3 e.x e.y<=1000
 |0,_=>by decide
 |1,_=>by decide
 |2,_=>by decide
 |3,_=>by decide
def St14.few (s:St14) (k:Nat):Prop:=0<=s.n/\s.n<=k/\s.S.length<=k/\s.K.length<=k
theorem zU3 (K:List (Int×Int)) (q:Int×Int):(zDh K q).length<=K.length+1:=by
 unfold zDh
 split
 ·omega
 ·rw [List.length_append,List.length_singleton];omega
theorem St14.few.met {s:St14} {k:Nat} (h:s.few k) (x y c:Int):(s.met x y c).few (k+1):=by
 obtain ⟨h1,h2,h3,h4⟩:=h;have:=zU3 s.K (x,y);unfold St14.met
 split
 ·exact ⟨h1,by omega,by omega,by omega⟩
 ·refine ⟨?_,?_,?_,?_⟩
  ·show 0<=s.n+1;omega
  ·show s.n+1<=((k+1:Nat):Int);omega
  ·show (_::s.S).length<=_;rw [List.length_cons];omega
  ·show (zDh s.K (x,y)).length<=_;omega
theorem St14.few.mets {s:St14} (c:Int):∀(L:List E3) {s:St14} {k:Nat},s.few k->(s.mets c L).few (k+L.length)
 | [],s,k,h=>h
 |e::L,s,k,h=>by
  have:=St14.few.mets (s:=s) c L (h.met e.x e.y (c+e.c));rw [List.length_cons,show k+(L.length+1)=k+1+L.length by omega];exact this
theorem St14.few.ok {s:St14} {k:Nat} (h:s.few k) (hk:k<=1000):s.ok:=⟨h.1,by have:=h.2.1;omega,by have:=h.2.2.1;omega,by have:=h.2.2.2;omega⟩
theorem zYo:∀m,m<=3->((gQ (m+1)).popd).few 10
 |0,_=>⟨by decide,by decide,by decide,by decide⟩
 |1,_=>⟨by decide,by decide,by decide,by decide⟩
 |2,_=>⟨by decide,by decide,by decide,by decide⟩
 |3,_=>⟨by decide,by decide,by decide,by decide⟩
end
section
attribute [local go_sem] Oper.semAt_some
theorem zQa {w:World} {v:Value} {L:List E3} (h:RE w v L) {i:Nat} {t:E3} (hi:L[i]? = some t) :
 ∃g cap,v = .slice (some ⟨g,0,none⟩) L.length cap/\w.cell? ⟨g,i*3,none⟩=some (O ii t.x)/\w.cell? ⟨g,i*3+1,none⟩=some (O ii t.y)/\w.cell? ⟨g,i*3+2,none⟩=some (O ii t.c):=by
 obtain ⟨a,cap,e,hle,hc⟩:=Rw.form (k:=3) (cs:=E3.cs) (fun a=>by cases a;rfl) h;obtain ⟨g,rfl,hg,hcell⟩:=hc i t hi;exact ⟨g,cap,e,hcell 0 _ rfl,hcell 1 _ rfl,hcell 2 _ rfl⟩
def zSh:Option Value->Nat
 |some (.slice _ n _)=>n
 |_=>0
def qA9:Option Value->Nat
 |some (.int _ n)=>n.toNat
 |_=>0
def zZd (hb:Nat) (W:World):Nat:=match W.heap[hb]? with
 |some (.cells cs _ _)=>zSh cs[1]? + 2*(10-qA9 cs[2]?)
 |_=>0
theorem zUo {W:World} {hb:Nat} {v:Value} {n:Int} {S:List It} (h:Hh.Hs W hb v n S):zZd hb W=S.length+2*(10-n.toNat):=by
 obtain ⟨l,h1,h2,-,h3⟩:=h;obtain ⟨a,cap,rfl,-⟩:=h2.slice;have h1:W.heap[hb]? = _:=h1;unfold zZd;rw [h1];simp [h3.length_eq,zSh,qA9]
section
variable {G0 W0:World} {B D l gp ab cb hb lb c:Nat} {s:St14} {X Y:World}
theorem JR.mu (h:JR G0 W0 B D l gp ab cb hb lb c s X):zZd hb X=s.S.length+2*(10-s.n.toNat):=by
 obtain ⟨v,F,a,-,-⟩:=h.st;exact zUo a.heap
theorem JR.pop (h:JR G0 W0 B D l gp ab cb hb lb c s X) {t:It} (hS:s.S=[t]) (hD:D+2<=X.heap.size) :
 Calls pg 63 #[ptr hb] X fun e Y=>e = .returned (.tuple #[Hh.itv t,.bool true])/\JR G0 W0 B D l gp ab cb hb lb c s.popd Y/\Hh.Kl D X Y:=by
 obtain ⟨v,F,a,b1,b2⟩:=h.st;have ah:=a.heap;rw [hS] at ah;refine (Hh.pop_yes hb v s.n [t] X ah (by simp) (by simp)).mono ?_;rintro e Y ⟨t',rfl,v',S',p1,p2,p3,p4,p5⟩;have hl:=p1.length_eq;simp only [List.length_cons,List.length_nil] at hl;obtain rfl:S'=[]:=List.eq_nil_of_length_eq_zero (by omega);obtain rfl:t'=t:=by have:=(p1.mem_iff (a:=t')).2 (by simp);simpa using this
 obtain ⟨l1,l2,l3,l4,l5,l6⟩:=h.lo
 have hK:∀k,k<X.heap.size->(k=hb\/v.ownBlock=some k)->Kin B X k:=fun k hk e=>by
  rcases e with rfl|e
  ·obtain ⟨ll,q1,-⟩:=a.heap;exact ⟨a.lo.2.2.2.1,.inr (.inr ⟨_,q1⟩)⟩
  ·obtain ⟨ll,-,q2,-⟩:=a.heap;exact ⟨a.lo.2.2.2.2 k e,.inr (.inl (zQc q2 e))⟩
 have T:Trn B X Y:=Trn.of p4 hK;have hcb':∀{k:Nat} {cs:Array Value} {t:Nat},X.heap[k]? = some (.cells cs t (0,0))->t≠161->t≠124->Y.heap[k]? = some (.cells cs t (0,0)):=fun hk h1 h2=>T.keep hk h1 h2;have hn:=h.abn a;have hab:¬(ab=hb\/v.ownBlock=some ab):=fun q=>hn (.inr q)
 have hrow:∀u t g,(F u t).ownBlock=some g->¬(g=hb\/v.ownBlock=some g):=fun u t g e q=>by
  have hg:=h.fst a e;exact T.row (a.add.rows u t) (by decide) (by decide) g e (hK g hg q)
 have hcb:¬(cb=hb\/v.ownBlock=some cb):=fun q=>by
  obtain ⟨es,cl,e⟩:=MapS.blk a.costs;obtain ⟨ll,q1,q2,-⟩:=a.heap;rcases q with q|q
  ·have q1:X.heap[hb]? = _:=q1;rw [<-q,e] at q1;cases q1
  ·obtain ⟨cur,hc⟩:=zQc q2 q;rw [e] at hc;cases hc
 refine ⟨rfl,⟨⟨v',F,⟨hcb' a.sea (by decide) (by decide),a.add.kept p4 hab hrow,MapS.kept a.costs p4 hcb,p3,a.nac,a.lo.1,a.lo.2.1,a.lo.2.2.1,a.lo.2.2.2.1,fun g e=>a.lo.2.2.2.2 g (p5 g e)⟩,fun g e=>b1 g (p5 g e),b2⟩,hcb' h.bx (by decide) (by decide),hcb' h.bc (by decide) (by decide),h.bg.trans ((T.below h.BX).mono h.gB),h.gB,h.bb.trans (T.below h.BX),h.lo,Nat.le_trans h.BX T.size⟩,p4.size,?_,?_⟩
 ·refine p4.block D (by omega) (fun q=>?_);rcases q with q|q
  ·omega
  ·have:=b1 _ q;omega
 ·refine p4.block (D+1) (by omega) (fun q=>?_);rcases q with q|q
  ·omega
  ·have:=b1 _ q;omega
theorem Trn.kl (h:Trn B X Y) (hD:D+1<X.heap.size) (h1:∃o,X.heap[D]? = some (.deferred o)) (h2:∃o,X.heap[D+1]? = some (.loop o)):Hh.Kl D X Y:=by
 obtain ⟨o1,h1⟩:=h1;obtain ⟨o2,h2⟩:=h2;exact ⟨h.size,(h.obj h1 (.inl ⟨_,rfl⟩)).trans h1.symm,(h.obj h2 (.inr ⟨_,rfl⟩)).trans h2.symm⟩
end
theorem qAo:∀m,m<=3->(gQ m).S.length+2*(10-(gQ m).n.toNat)<(gQ (m+1)).S.length+2*(10-(gQ (m+1)).n.toNat)
 |0,_=>by decide
 |1,_=>by decide
 |2,_=>by decide
 |3,_=>by decide
theorem qAp:∀m,m<=3->decide (((0:Int),(3:Int))∈((gQ (m+1)).popd).K)=(m==0)
 |0,_=>by decide
 |1,_=>by decide
 |2,_=>by decide
 |3,_=>by decide
theorem qAq:∀m,m<=3->((gQ (m+1)).popd).C 0 3=if m=0 then 150 else 0
 |0,_=>by rfl
 |1,_=>by rfl
 |2,_=>by rfl
 |3,_=>by rfl
theorem qBj:∀m,m<=3->(tT m).f=150
 |0,_=>rfl
 |1,_=>rfl
 |2,_=>rfl
 |3,_=>rfl
theorem zS6:∀m,m<=3->(eG m).length+(eA m).length<=1000
 |0,_=>by decide
 |1,_=>by decide
 |2,_=>by decide
 |3,_=>by decide
theorem zPp:∀m,m<=3->(eG m++eA m).length<=10
 |0,_=>by decide
 |1,_=>by decide
 |2,_=>by decide
 |3,_=>by decide
theorem qBc {w:World} {gp p:Nat} (h:G14 w gp p):∀m,m<=3->zK2 w gp (tT m).x (tT m).y (eG m)
 |0,_=>h.e0
 |1,_=>h.e7
 |2,_=>h.e8
 |3,_=>h.e15
end
end Go.Proofs.YtejjcenhjpjefaaGreatDoor
