import Derived.Test.YtejjcenhjpjefaaGreatDoorSown
import Derived.Test.YtejjcenhjpjefaaGreatDoorTold
import Derived.Test.YtejjcenhjpjefaaGreatDoorBg
import Derived.Test.YtejjcenhjpjefaaGreatDoorMeet
import Derived.Test.YtejjcenhjpjefaaGreatDoorPc
import Derived.Test.YtejjcenhjpjefaaGreatDoorAwk
set_option linter.all false
set_option maxRecDepth 1000000
set_option maxHeartbeats 64000000
open Go.Proofs.Tryz
open Go.Proofs.Tryz renaming prog->pg
open And renaming intro->ai
open Go.Value renaming int->O
open Go.IntKind renaming i64->ii
namespace Go.Proofs.YtejjcenhjpjefaaGreatDoor
open Go.RowKit
theorem zG0 (p:Nat) (W H:Int) (tl:List Nat) (f:Int->Int->Option Int) (c s x y ix iy iw ih:Int) (w:World) (hw:Wl w p W H tl f) (hg:Grnd w) :
 Calls pg 45 #[ptr p,shv c s,cel x y,rct ix iy iw ih] w fun e w'=>e = .returned (.bool (has ix iy iw ih x y&&stB W H tl f c s x y))/\Below w.heap.size w w':=by
 obtain ⟨X,hX⟩:=ex (((w.alloc (.cells #[O ii c,O ii s] 29)).alloc (.cells #[O ii x,O ii y] 23)).alloc (.cells #[O ii ix,O ii iy,O ii iw,O ii ih] 65));have B0:Below w.heap.size w X:=hX▸bt (zBe _ _ _) (zAh _ _);have F1:Two X w.heap.size c s:=hX▸((Two.newAt rfl).alloc).alloc;have F2:Two X (w.heap.size+1) x y:=hX▸(Two.newAt (by simp)).alloc;have F3:Four X (w.heap.size+2) ix iy iw ih:=by rw [<-hX];simp [Four,go_sem]
 obtain ⟨⟨a0,a1,a2,a3⟩,-,-⟩:=F3;obtain ⟨⟨b0,b1⟩,-,-⟩:=F2
 have HK:Hid (∀w1,Below X.heap.size X w1->Wl w1 p W H tl f/\Grnd w1/\Two w1 w.heap.size c s/\Two w1 (w.heap.size+1) x y/\Below w.heap.size w w1):=zAb fun w1 hb=>by
  have F2:Two X (w.heap.size+1) x y:=hX▸(Two.newAt (by simp)).alloc;exact ⟨hw.kept (bt B0 hb),hg.kept (bt B0 hb),F1.kept hb,F2.kept hb,bt B0 hb⟩
 have HX:=zAb hX;have HH:=zAb (zIe ix iy iw ih x y X);clear hX B0 F1 hw hg;cases hh:has ix iy iw ih x y
 ·rw [hh] at HH;go_enter func45,ntmps45;go_wp2_with (rw [HX.out]);refine HH.out.mono ?_;rintro e w1 ⟨rfl,hb1⟩;have HB:=zAb (HK.out w1 hb1).2.2.2.2;clear hb1;go_wp2_with fail;refine bodyPost_ret (v:=.bool false) (by simp [results,Tryz.results45,go_sem]) rfl ?_;exact ⟨rfl,HB.out⟩
 ·rw [hh] at HH;go_enter func45,ntmps45;go_wp2_with (rw [HX.out]);refine HH.out.mono ?_;rintro e w1 ⟨rfl,hb1⟩;obtain ⟨k1,k2,⟨⟨c0,c1⟩,-,-⟩,⟨⟨d0,d1⟩,-,-⟩,k5⟩:=HK.out w1 hb1;have HB:=zAb (ai k1 (ai k2 k5));clear hb1 k1 k2 k5 a0 a1 a2 a3 b0 b1;go_wp2_with fail;refine (zCc p W H tl f c s x y w1 HB.out.1 HB.out.2.1).mono ?_;rintro e w2 ⟨rfl,hb2⟩;have H2:=zAb hb2;clear hb2 c0 c1 d0 d1;go_wp2_with fail;refine bodyPost_ret (v:=.bool (stB W H tl f c s x y)) (by simp [results,Tryz.results45,go_sem]) rfl ?_;exact ⟨rfl,bt HB.out.2.2 H2.out⟩
section
open Go.Shelf
attribute [local go_sem] Oper.semAt_some
theorem zG9:Rcl 21:=zl fun _ _=>by go_simp
theorem zF5:Rcl 44:=zl fun _ _=>by go_simp
theorem zD7 {ev:Operand->Value} {o:Oper} {w:World} (ho:o.op = .alloc 65):(execOp ev o).run pg w = .ok (.value (ptr w.heap.size)) (w.alloc (.cells #[O ii 0,O ii 0,O ii 0,O ii 0] 65)):=by
 unfold execOp;rw [ho];go_simp
theorem zF4 {ev:Operand->Value} {o:Oper} {w:World} {x y:Operand} {k:Nat} {a b c d p q r s:Int} (ho:o.op = .store 65 x y) (hx:ev x=ptr k) (hy:ev y=rct p q r s) (hF:Four w k a b c d) :
 (execOp ev o).run pg w = .ok .skip ((((w.setCell ⟨k,0,none⟩ (O ii p)).setCell ⟨k,1,none⟩ (O ii q)).setCell ⟨k,2,none⟩ (O ii r)).setCell ⟨k,3,none⟩ (O ii s)):=by
 obtain ⟨⟨c0,c1,c2,c3⟩,⟨f0,f1,f2,f3⟩,-⟩:=hF;unfold execOp;rw [ho];simp only [hx,hy];go_simp
theorem zN3 {x y a b W H ix iy iw ih u v:Int} (hm:mtV x y a b 0 0 W H=rct ix iy iw ih) (hW:W<=128) (hH:H<=128) (h:has ix iy iw ih u v=true):(0<=ix/\0<=iy/\ix+iw<=W/\iy+ih<=H)/\(0<=u-ix/\u-ix<iw)/\0<=v-iy/\v-iy<ih:=by
 have hb:=(zBz _ _ _ _ _ _).1 h;unfold mtV at hm
 split at hm
 ·simp only [zTr,rct,Value.agg.injEq,Array.mk.injEq,List.cons.injEq,Value.int.injEq,true_and,and_true] at hm;omega
 ·simp only [zGw,rct,Value.agg.injEq,Array.mk.injEq,List.cons.injEq,Value.int.injEq,true_and,and_true] at hm;omega
theorem zCx {w:World} {a:Nat} {o:Int} {v:Value} (h:w.heap[a]? = some (.cells #[O ii o,v] 36)):(w.cell? ⟨a,0,none⟩=some (O ii o)/\w.cell? ⟨a,1,none⟩=some v)/\w.frozen? ⟨a,0,none⟩=false/\w.frozen? ⟨a,1,none⟩=false:=by
 refine ⟨⟨by rw [cell_of_row _ a 0 _ _ _ h];rfl,by rw [cell_of_row _ a 1 _ _ _ h];rfl⟩,by simp [World.frozen?,h],by simp [World.frozen?,h]⟩
theorem zGc {w:World} {a:Nat} {o:Int} {v:Value} (h:w.heap[a]? = some (.cells #[O ii o,v] 36)) (o':Int) (v':Value):∃Y,(w.setCell ⟨a,0,none⟩ (O ii o')).setCell ⟨a,1,none⟩ v'=Y/\(Y.cell? ⟨a,0,none⟩=some (O ii o')/\Y.cell? ⟨a,1,none⟩=some v')/\Turns (fun j=>j=a) w Y:=by
 obtain ⟨⟨c0,c1⟩,f0,f1⟩:=zCx h;refine ⟨_,rfl,⟨?_,?_⟩,zFx _ _ _ _⟩
 ·go_simp
 ·go_simp
def zE6 (W H:Int) (tl:List Nat) (f:Int->Int->Option Int) (c s fx fy tx ty ix iy iw ih bud:Int) (w:World) (e:Ending) (w':World):Prop:=
 ∃(o:Int) (v:Value) (cost:Int),e = .returned (.tuple #[.agg #[O ii o,v],O ii cost])/\Below w.heap.size w w'/\
  (((has ix iy iw ih fx fy&&stB W H tl f c s fx fy)&&(has ix iy iw ih tx ty&&stB W H tl f c s tx ty))=false/\o=2/\v = .slice none 0 0/\cost=0\/
   ((has ix iy iw ih fx fy&&stB W H tl f c s fx fy)&&(has ix iy iw ih tx ty&&stB W H tl f c s tx ty))=true/\
    ((o=3/\v = .slice none 0 0/\cost=0/\bud<iw*ih)\/
     (o=2/\v = .slice none 0 0/\cost=0/\∀k,¬Wk (zAx W H tl f c s ix iy iw ih) (tx,ty) (fx,fy) k)\/
     (o=1/\(0<=cost/\cost<=229376)/\Least (zAx W H tl f c s ix iy iw ih) (tx,ty) (fx,fy) cost.toNat/\∃(C:List Int) (P:List (Int×Int)),(C.length=(ih*iw).toNat/\∀m∈C,-1<=m/\m<=229376)/\(∃Hq,Sk (zAx W H tl f c s ix iy iw ih) (tx,ty) (tab ix iy iw ih C) Hq/\∀q g,(q,g)∈Hq->cost.toNat<g+(ocN q.1 q.2 fx fy).toNat)/\
      Wy W H tl f c s ix iy iw ih C fx fy cost P/\Cn w' v P/\∀j,v.ownBlock=some j->w.heap.size<=j)))
theorem zVr (p:Nat) (W H:Int) (tl:List Nat) (f:Int->Int->Option Int) (c s fx fy tx ty ax ay aw ah ix iy iw ih bud:Int) (w:World) (hw:Wl w p W H tl f) (hg:Grnd w) (ho:Offs w) (hW:W<=128) (hH:H<=128)
 (hm:mtV ax ay aw ah 0 0 W H=rct ix iy iw ih) (hbud:-9223372036854775808<=bud/\bud<=9223372036854775807) :
 Calls pg 18 #[ptr p,shv c s,cel fx fy,cel tx ty,rct ax ay aw ah,O ii bud] w (zE6 W H tl f c s fx fy tx ty ix iy iw ih bud w):=by
 obtain ⟨X,hX⟩:=ex (((((w.alloc (.cells #[O ii c,O ii s] 29)).alloc (.cells #[O ii fx,O ii fy] 23)).alloc (.cells #[O ii tx,O ii ty] 23)).alloc (.cells #[O ii ax,O ii ay,O ii aw,O ii ah] 65)).alloc (.cells #[O ii 0,.slice none 0 0] 36));have B0:Below w.heap.size w X:=hX▸bt (bt (zBe _ _ _) (zBe _ _ _)) (zAh _ _);have F0:Two X w.heap.size c s:=by rw [<-hX];exact ((((Two.newAt rfl).alloc).alloc).alloc).alloc
 have F1:Two X (w.heap.size+1) fx fy:=by rw [<-hX];exact (((Two.newAt (by simp)).alloc).alloc).alloc
 have F2:Two X (w.heap.size+2) tx ty:=by rw [<-hX];exact ((Two.newAt (by simp)).alloc).alloc
 have F3:Four X (w.heap.size+3) ax ay aw ah:=by rw [<-hX];exact (Four.newAt _ _ _ _ _ (by simp)).kept (zAh _ _)
 have R0:X.heap[w.heap.size+4]? = some (.cells #[O ii 0,.slice none 0 0] 36):=by
  rw [<-hX];have:=heap_alloc_new ((((w.alloc (.cells #[O ii c,O ii s] 29)).alloc (.cells #[O ii fx,O ii fy] 23)).alloc (.cells #[O ii tx,O ii ty] 23)).alloc (.cells #[O ii ax,O ii ay,O ii aw,O ii ah] 65)) (.cells #[O ii 0,.slice none 0 0] 36);simpa using this
 have zX:X.heap.size=w.heap.size+5:=by rw [<-hX];simp
 have HK:Hid (∀wx,Below X.heap.size X wx->(fun wx:World=>wx.cell? ⟨w.heap.size+3,0,none⟩=some (O ii ax)/\wx.cell? ⟨w.heap.size+3,1,none⟩=some (O ii ay)/\wx.cell? ⟨w.heap.size+3,2,none⟩=some (O ii aw)/\wx.cell? ⟨w.heap.size+3,3,none⟩=some (O ii ah)) wx):=zAb fun wx q=>(F3.kept q).1
 have HB:Hid (∀wx,Below X.heap.size X wx->(Two wx w.heap.size c s/\Two wx (w.heap.size+1) fx fy/\Two wx (w.heap.size+2) tx ty)/\wx.heap[w.heap.size+4]? = some (.cells #[O ii 0,.slice none 0 0] 36)/\(Below w.heap.size w wx/\Wl wx p W H tl f/\Grnd wx/\Offs wx)):=zAb fun wx q =>
  ⟨⟨F0.kept q,F1.kept q,F2.kept q⟩,(q.block _ (by omega)).trans R0,bt B0 q,hw.kept (bt B0 q),hg.kept (bt B0 q),ho.kept (bt B0 q)⟩
 have HX:=zAb hX;have Hz:=zAb zX;have HS:(fun wx:World=>wx.cell? ⟨w.heap.size+3,0,none⟩=some (O ii ax)/\wx.cell? ⟨w.heap.size+3,1,none⟩=some (O ii ay)/\wx.cell? ⟨w.heap.size+3,2,none⟩=some (O ii aw)/\wx.cell? ⟨w.heap.size+3,3,none⟩=some (O ii ah)) X.drew:=HK.out _ (Below.refl _ _).drew;have HAl:Hid (∀wx,Below X.heap.size X wx->Calls pg 21 #[ptr p] wx fun e w'=>e = .returned (rct 0 0 W H)/\Below wx.heap.size wx w'):=zAb fun wx q=>zGt (HB.out wx q).2.2.2.1
 have HMt:Hid (∀wx,Calls pg 44 #[rct ax ay aw ah,rct 0 0 W H] wx fun e w'=>e = .returned (.tuple #[rct ix iy iw ih,.bool (mtB ax ay aw ah 0 0 W H)])/\Below wx.heap.size wx w'):=zAb fun wx=>by
  have:=zLs ax ay aw ah 0 0 W H wx
  rwa [hm] at this
 have Hm:=zAb (ai hm (ai hW (ai hH hbud)));clear hX B0 F0 F1 F2 F3 R0 zX hw hg ho hm hW hH hbud;go_enter func18,ntmps18;go_wp2_with (rw [HX.out]);go_cut [14] (fun v wx=>∃k,v=ptr k/\Below X.heap.size X wx/\Four wx k ix iy iw ih)
 case first =>
  rename_i J K' hJ hK';refine zAj ?_;refine zAe (fun wx:World=>wx.cell? ⟨w.heap.size+3,0,none⟩=some (O ii ax)/\wx.cell? ⟨w.heap.size+3,1,none⟩=some (O ii ay)/\wx.cell? ⟨w.heap.size+3,2,none⟩=some (O ii aw)/\wx.cell? ⟨w.heap.size+3,3,none⟩=some (O ii ah)) [] (by kernel_rfl) ?_;refine zv 0 2 8 [rct ax ay aw ah,ptr p] rfl rfl (by kernel_rfl) HS ?_;repeat (refine zc rfl (by rfl) (fun wx hx=>by go_simp) ?_;simp only [zp])
  refine zn ?_;have W0b:Below X.heap.size X X.drew:=(Below.refl _ _).drew;obtain ⟨W0,hW0⟩:=ex (X.drew);rw [hW0] at W0b ⊢;clear hW0 HS;generalize mtB ax ay aw ah 0 0 W H=mb at HMt;refine zw 2 [7] (by kernel_rfl) ?_;refine readyZ.call rfl rfl (zG9 (by rfl) (by rfl) (by simp only [zj];rfl)) (HAl.out _ W0b) ?_ ?_
  ·rintro e W1 ⟨rfl,b2⟩;have W1b:Below X.heap.size X W1:=bt W0b b2;refine ⟨_,rfl,fun _=>HK.out _ W1b,?_⟩;try simp only [zp]
   refine zw 3 [7] (by kernel_rfl) ?_;refine readyZ.call rfl rfl (zF5 (by rfl) (by rfl) (by simp only [zj];rfl)) (HMt.out _) ?_ ?_
   ·rintro e W2 ⟨rfl,b3⟩;have W2b:Below X.heap.size X W2:=bt W1b b3;refine ⟨_,rfl,fun _=>HK.out _ W2b,?_⟩;try simp only [zp]
    refine zv 4 3 8 [.tuple #[rct ix iy iw ih,.bool mb],rct ix iy iw ih,.bool mb] rfl rfl (by kernel_rfl) (HK.out _ W2b) ?_;repeat (refine zc rfl (by rfl) (fun wx hx=>by go_simp) ?_;simp only [zp])
    refine zn ?_;refine zw 7 [] (by kernel_rfl) ?_;obtain ⟨W3,h7⟩:∃W,W2.alloc (.cells #[O ii 0,O ii 0,O ii 0,O ii 0] 65)=W:=⟨_,rfl⟩
    have b7:Below W2.heap.size W2 W3:=h7▸zAh _ _;have W3b:Below X.heap.size X W3:=bt W2b b7;have f7:Four W3 W2.heap.size 0 0 0 0:=by rw [<-h7];exact Four.new _ _ _ _ _ _
    have z7:=W2b.size;refine readyZ.cons rfl rfl (h7▸zD7 (by rfl)) (fun _=>HK.out _ W3b) ?_ readyZ.nil;try simp only [zp]
    clear h7;generalize W2.heap.size=kk at f7 z7 ⊢;refine zw 8 [] (by kernel_rfl) ?_;obtain ⟨WY,hWY⟩:∃W,(((W3.setCell ⟨kk,0,none⟩ (O ii ix)).setCell ⟨kk,1,none⟩ (O ii iy)).setCell ⟨kk,2,none⟩ (O ii iw)).setCell ⟨kk,3,none⟩ (O ii ih)=W:=⟨_,rfl⟩
    have fY:Four WY kk ix iy iw ih:=hWY▸f7.set ix iy iw ih;have bY:Below X.heap.size X WY:=W3b.trans ((hWY▸zB2 W3 kk _ _ _ _:Turns (fun j=>j=kk) W3 WY).below (fun j e=>by omega) W3b.size);refine readyZ.skip rfl rfl (hWY▸zF4 (by rfl) (by rfl) (by rfl) f7) (fun _=>HK.out _ bY) ?_ readyZ.nil;try simp only [zp]
    refine zt 9 8 (.bool mb) rfl (by kernel_rfl) (by rfl) (fun wx hx=>by go_simp) (HK.out _ bY) ?_;try simp only [zp]
    refine zAd (by kernel_rfl) ?_ _;dsimp only [zAv,Exit.then];clear hWY;have HE:=zAb (ai bY fY);clear bY fY f7 z7;refine hK' _ _ (Met.intro (hJ _ _ ?_))
    (repeat apply Exists.intro)
    exact ⟨⟨kk,rfl,HE.out⟩,rfl⟩
   obtain ⟨W2,h7⟩:∃W,W1.alloc (.cells #[O ii 0,O ii 0,O ii 0,O ii 0] 65)=W:=⟨_,rfl⟩
   have b7:Below W1.heap.size W1 W2:=h7▸zAh _ _;have W2b:Below X.heap.size X W2:=bt W1b b7;have f7:Four W2 W1.heap.size 0 0 0 0:=by rw [<-h7];exact Four.new _ _ _ _ _ _
   have z7:=W1b.size;refine readyZ.cons rfl rfl (h7▸zD7 (by rfl)) (fun _=>HK.out _ W2b) ?_ readyZ.nil;try simp only [zp]
   clear h7;generalize W1.heap.size=kk at f7 z7 ⊢;refine zw 3 [] (by kernel_rfl) ?_;refine readyZ.call rfl rfl (zF5 (by rfl) (by rfl) (by simp only [zj];rfl)) (HMt.out _) ?_ readyZ.nil;rintro e W3 ⟨rfl,b3⟩;have W3b:Below X.heap.size X W3:=bt W2b b3;refine ⟨_,rfl,fun _=>HK.out _ W3b,?_⟩;try simp only [zp]
   have f7:=f7.kept b3;refine zv 4 3 8 [.tuple #[rct ix iy iw ih,.bool mb],rct ix iy iw ih,.bool mb] rfl rfl (by kernel_rfl) (HK.out _ W3b) ?_;repeat (refine zc rfl (by rfl) (fun wx hx=>by go_simp) ?_;simp only [zp])
   refine zn ?_;refine zw 8 [] (by kernel_rfl) ?_;obtain ⟨WY,hWY⟩:∃W,(((W3.setCell ⟨kk,0,none⟩ (O ii ix)).setCell ⟨kk,1,none⟩ (O ii iy)).setCell ⟨kk,2,none⟩ (O ii iw)).setCell ⟨kk,3,none⟩ (O ii ih)=W:=⟨_,rfl⟩
   have fY:Four WY kk ix iy iw ih:=hWY▸f7.set ix iy iw ih;have bY:Below X.heap.size X WY:=W3b.trans ((hWY▸zB2 W3 kk _ _ _ _:Turns (fun j=>j=kk) W3 WY).below (fun j e=>by omega) W3b.size);refine readyZ.skip rfl rfl (hWY▸zF4 (by rfl) (by rfl) (by rfl) f7) (fun _=>HK.out _ bY) ?_ readyZ.nil;try simp only [zp]
   refine zt 9 8 (.bool mb) rfl (by kernel_rfl) (by rfl) (fun wx hx=>by go_simp) (HK.out _ bY) ?_;try simp only [zp]
   refine zAd (by kernel_rfl) ?_ _;dsimp only [zAv,Exit.then];clear hWY;have HE:=zAb (ai bY fY);clear bY fY f7 z7;refine hK' _ _ (Met.intro (hJ _ _ ?_))
   (repeat apply Exists.intro)
   exact ⟨⟨kk,rfl,HE.out⟩,rfl⟩
  obtain ⟨W1,h7⟩:∃W,W0.alloc (.cells #[O ii 0,O ii 0,O ii 0,O ii 0] 65)=W:=⟨_,rfl⟩
  have b7:Below W0.heap.size W0 W1:=h7▸zAh _ _;have W1b:Below X.heap.size X W1:=bt W0b b7;have f7:Four W1 W0.heap.size 0 0 0 0:=by rw [<-h7];exact Four.new _ _ _ _ _ _
  have z7:=W0b.size;refine readyZ.cons rfl rfl (h7▸zD7 (by rfl)) (fun _=>HK.out _ W1b) ?_ readyZ.nil;try simp only [zp]
  clear h7;generalize W0.heap.size=kk at f7 z7 ⊢;refine zw 2 [] (by kernel_rfl) ?_;refine readyZ.call rfl rfl (zG9 (by rfl) (by rfl) (by simp only [zj];rfl)) (HAl.out _ W1b) ?_ readyZ.nil;rintro e W2 ⟨rfl,b2⟩;have W2b:Below X.heap.size X W2:=bt W1b b2;refine ⟨_,rfl,fun _=>HK.out _ W2b,?_⟩;try simp only [zp]
  have f7:=f7.kept b2;refine zw 3 [] (by kernel_rfl) ?_;refine readyZ.call rfl rfl (zF5 (by rfl) (by rfl) (by simp only [zj];rfl)) (HMt.out _) ?_ readyZ.nil;rintro e W3 ⟨rfl,b3⟩;have W3b:Below X.heap.size X W3:=bt W2b b3;refine ⟨_,rfl,fun _=>HK.out _ W3b,?_⟩;try simp only [zp]
  have f7:=f7.kept b3;refine zv 4 3 8 [.tuple #[rct ix iy iw ih,.bool mb],rct ix iy iw ih,.bool mb] rfl rfl (by kernel_rfl) (HK.out _ W3b) ?_;repeat (refine zc rfl (by rfl) (fun wx hx=>by go_simp) ?_;simp only [zp])
  refine zn ?_;refine zw 8 [] (by kernel_rfl) ?_;obtain ⟨WY,hWY⟩:∃W,(((W3.setCell ⟨kk,0,none⟩ (O ii ix)).setCell ⟨kk,1,none⟩ (O ii iy)).setCell ⟨kk,2,none⟩ (O ii iw)).setCell ⟨kk,3,none⟩ (O ii ih)=W:=⟨_,rfl⟩
  have fY:Four WY kk ix iy iw ih:=hWY▸f7.set ix iy iw ih;have bY:Below X.heap.size X WY:=W3b.trans ((hWY▸zB2 W3 kk _ _ _ _:Turns (fun j=>j=kk) W3 WY).below (fun j e=>by omega) W3b.size);refine readyZ.skip rfl rfl (hWY▸zF4 (by rfl) (by rfl) (by rfl) f7) (fun _=>HK.out _ bY) ?_ readyZ.nil;try simp only [zp]
  refine zt 9 8 (.bool mb) rfl (by kernel_rfl) (by rfl) (fun wx hx=>by go_simp) (HK.out _ bY) ?_;try simp only [zp]
  refine zAd (by kernel_rfl) ?_ _;dsimp only [zAv,Exit.then];clear hWY;have HE:=zAb (ai bY fY);clear bY fY f7 z7;refine hK' _ _ (Met.intro (hJ _ _ ?_))
  (repeat apply Exists.intro)
  exact ⟨⟨kk,rfl,HE.out⟩,rfl⟩
 case rest =>
  clear HAl HMt HS;obtain ⟨kk,rfl,hB,hF⟩:=hcut;obtain ⟨⟨b0,b1,b2⟩,r4,hBw,hWl,hGr,hOf⟩:=HB.out wc hB;obtain ⟨⟨c0,c1⟩,-,-⟩:=b0;obtain ⟨⟨d0,d1⟩,-,-⟩:=b1;obtain ⟨⟨e0,e1⟩,-,-⟩:=b2;obtain ⟨⟨g0,g1,g2,g3⟩,-,-⟩:=id hF;have H1:=zAb (zG0 p W H tl f c s fx fy ix iy iw ih wc hWl hGr);have hz:=Hz.out;have HBX:=zAb hB;have HFX:=zAb hF;clear r4 hBw hWl hGr hOf HK HX hB hF;cases hv1:(has ix iy iw ih fx fy&&stB W H tl f c s fx fy)
  ·go_wp2_with fail;refine H1.out.mono ?_;rintro e w1 ⟨rfl,hb1⟩;rw [hv1];have BX1:=bt HBX.out hb1;obtain ⟨-,r4,hBw,-⟩:=HB.out w1 BX1;obtain ⟨Y,hY,hc,TY⟩:=zGc r4 2 (.slice none 0 0);obtain ⟨⟨y0,y1⟩,y2,y3⟩:=zCx r4;obtain ⟨z0,z1⟩:=hc;have HY:=zAb hY;have HE:Hid (zE6 W H tl f c s fx fy tx ty ix iy iw ih bud w (.returned (.tuple #[.agg #[O ii 2,(.slice none 0 0)],O ii 0])) Y):=zAb ⟨2,(.slice none 0 0),0,rfl,hBw.trans (TY.below (fun j e=>by omega) hBw.size),.inl ⟨(by simp [hv1]),rfl,rfl,rfl⟩⟩;clear r4 hBw TY hY;go_wp2_with (rw [HY.out]);refine bodyPost_ret (v:=.tuple #[.agg #[O ii 2,(.slice none 0 0)],O ii 0]) (by simp [results,Tryz.f18,go_sem,z0,z1]) rfl ?_;exact HE.out
  ·go_wp2_with fail;refine H1.out.mono ?_;rintro e w1 ⟨rfl,hb1⟩;rw [hv1];have BX1:=bt HBX.out hb1;obtain ⟨⟨b0,b1,b2⟩,r4,hBw,hWl,hGr,hOf⟩:=HB.out w1 BX1;have H2:=zAb (zG0 p W H tl f c s tx ty ix iy iw ih w1 hWl hGr);have F1:=HFX.out.kept hb1;clear c0 c1 d0 d1 e0 e1 g0 g1 g2 g3 H1 hWl hGr hOf r4;obtain ⟨⟨c0,c1⟩,-,-⟩:=b0;obtain ⟨⟨d0,d1⟩,-,-⟩:=b1;obtain ⟨⟨e0,e1⟩,-,-⟩:=b2;obtain ⟨⟨g0,g1,g2,g3⟩,-,-⟩:=id F1;have HF1:=zAb F1;have HB1:=zAb BX1;clear hb1 BX1 hBw F1;cases hv2:(has ix iy iw ih tx ty&&stB W H tl f c s tx ty)
   ·go_wp2_with fail;refine H2.out.mono ?_;rintro e w2 ⟨rfl,hb2⟩;rw [hv2];have BX2:=bt HB1.out hb2;obtain ⟨-,r4,hBw,-⟩:=HB.out w2 BX2;obtain ⟨Y,hY,hc,TY⟩:=zGc r4 2 (.slice none 0 0);obtain ⟨⟨y0,y1⟩,y2,y3⟩:=zCx r4;obtain ⟨z0,z1⟩:=hc;have HY:=zAb hY;have HE:Hid (zE6 W H tl f c s fx fy tx ty ix iy iw ih bud w (.returned (.tuple #[.agg #[O ii 2,(.slice none 0 0)],O ii 0])) Y):=zAb ⟨2,(.slice none 0 0),0,rfl,hBw.trans (TY.below (fun j e=>by omega) hBw.size),.inl ⟨(by simp [hv1,hv2]),rfl,rfl,rfl⟩⟩;clear r4 hBw TY hY;go_wp2_with (rw [HY.out]);refine bodyPost_ret (v:=.tuple #[.agg #[O ii 2,(.slice none 0 0)],O ii 0]) (by simp [results,Tryz.f18,go_sem,z0,z1]) rfl ?_;exact HE.out
   ·go_wp2_with fail;refine H2.out.mono ?_;rintro e w2 ⟨rfl,hb2⟩;rw [hv2];have BX2:=bt HB1.out hb2;obtain ⟨⟨b0,b1,b2⟩,r4,hBw,hWl,hGr,hOf⟩:=HB.out w2 BX2;have F2:=HF1.out.kept hb2;obtain ⟨hm,hW,hH,hbud⟩:=Hm.out;have hv1':=(Bool.and_eq_true _ _▸hv1).1;have hv2':=(Bool.and_eq_true _ _▸hv2).1;obtain ⟨hr1,hf1,hf2⟩:=zN3 hm hW hH hv1';obtain ⟨-,ht1,ht2⟩:=zN3 hm hW hH hv2';obtain ⟨hA1,hA2⟩:=zK0 hr1 (by omega) (by omega) hW hH;have hcm:ih*iw=iw*ih:=Int.mul_comm _ _;obtain ⟨N,hN⟩:∃N:Nat,iw*ih=(N:Nat):=⟨(iw*ih).toNat,by omega⟩
    have hN':N=(ih*iw).toNat:=by omega
    have hi:0<=ix/\0<=iy/\ix+iw<=1048576/\iy+ih<=1048576:=by omega
    have hlf:=zU2 w2 (w.heap.size+1) fx fy b1;have hcon:=zOh (W:=W) (H:=H) (tl:=tl) (f:=f) (c:=c) (s:=s) (fx:=fx) (fy:=fy) hi ⟨hf1,hf2⟩
    have hOb:∀i C n S,Okk W H tl f c s ix iy iw ih (fun x y=>ocN x y fx fy) tx ty i C n S->C.length=(ih*iw).toNat/\InR ix iy iw ih S/\S.length+8<=1099511627776/\(0<=n/\n+8<=1099511627776)/\∀t∈S,0<=t.c/\t.c<=1099511627776:=fun i C n S h=>by
     have hs:=h.small;have h1:=h.few;have h2:=h.cnt;exact ⟨h.len,h.inr,by omega,by omega,fun t ht=>by have:=h.cst t ht;omega⟩
    have HBg:=zAb (zMa w2 p c s ix iy iw ih (.func 47) #[] #[ptr (w.heap.size+1)] N (fun x y=>ocN x y fx fy) tx ty w2 (Below.refl _ _) hlf hN (by omega) ht1 ht2 hi ⟨zCy _ _ _ _,zSp _ _ _ _⟩)
    have HRc:Hid (∀w3 k gv cv b hv,Sch w2 w3 k p c s ix iy iw ih gv cv b (.func (.func 47) #[] #[ptr (w.heap.size+1)]) (List.replicate N 0) ((List.replicate N (-1)).set (ij ix iy iw tx ty) 0) hv 1 [⟨tx,ty,0,ocN tx ty fx fy,0⟩]->Calls pg 49 #[ptr k,cel fx fy,O ii bud] w3 (zIn (Okk W H tl f c s ix iy iw ih (fun x y=>ocN x y fx fy) tx ty) w2 k p c s ix iy iw ih gv cv b (.func (.func 47) #[] #[ptr (w.heap.size+1)]) hv W H tl f fx fy bud w3)):=zAb fun w3 k gv cv b hv hS =>
     zQw (Okk W H tl f c s ix iy iw ih (fun x y=>ocN x y fx fy) tx ty) w2 k p c s ix iy iw ih gv cv b _ _ _ hv 1 _ W H tl f (fun x y=>ocN x y fx fy) fx fy bud w3 hS hWl hGr hOf (zKr hN') hlf hf1 hf2 hi hbud (fun u v=>⟨zCy _ _ _ _,zSp _ _ _ _⟩) (Okk.begin hN' ⟨ht1,ht2⟩) hOb
      (fun i C n S tx' ty' tc tf R h hx hns a ha=>h.next hcon (fun u v=>zCy _ _ _ _) hx ha)
    have HTo:Hid (∀i C n S R tx' ty' tc tf ok m,Okk W H tl f c s ix iy iw ih (fun x y=>ocN x y fx fy) tx ty i C n S->Nx ix iy iw C S tx' ty' tc tf ok R->(ok=false\/Stp ix iy iw fx fy C tf)->C[ij ix iy iw fx fy]? = some m->((m = -1/\∀k,¬Wk (zAx W H tl f c s ix iy iw ih) (tx,ty) (fx,fy) k)\/(0<=m/\Least (zAx W H tl f c s ix iy iw ih) (tx,ty) (fx,fy) m.toNat/\∃Hq,Sk (zAx W H tl f c s ix iy iw ih) (tx,ty) (tab ix iy iw ih C) Hq/\∀q g,(q,g)∈Hq->m.toNat<g+(ocN q.1 q.2 fx fy).toNat))):=zAb fun i C n S R tx' ty' tc tf ok m h hx he hm=>Okk.told (L:=fun x y=>ocN x y fx fy) (gx:=fx) (gy:=fy) hcon (fun u v=>zCy _ _ _ _) (zLn fx fy) ⟨hf1,hf2⟩ h hx he hm;have HMo:Hid (∀i C n S R tx' ty' tc tf,Okk W H tl f c s ix iy iw ih (fun x y=>ocN x y fx fy) tx ty i C n S->Nx ix iy iw C S tx' ty' tc tf true R->i+1<=(ih*iw).toNat):=zAb fun i C n S R tx' ty' tc tf h hx=>(h.next hcon (fun u v=>zCy _ _ _ _) hx rfl).small
    have HWy:Hid (∀w5 k gv cv b hv G C n S cost,Sch w2 w5 k p c s ix iy iw ih gv cv b (.func (.func 47) #[] #[ptr (w.heap.size+1)]) G C hv n S->Gok W H tl f c s ix iy iw ih G->C.length=(ih*iw).toNat->(∀m∈C,-1<=m/\m<=1099511627776)->cost<=1000000000->Calls pg 51 #[ptr k,cel fx fy,O ii cost] w5 (zP8 w2 k p c s ix iy iw ih gv cv b (.func (.func 47) #[] #[ptr (w.heap.size+1)]) C hv n S W H tl f fx fy cost w5)):=zAb fun w5 k gv cv b hv G C n S cost hS hgo hl hb hc =>
     zWv w2 k p c s ix iy iw ih gv cv b _ G C hv n S W H tl f fx fy cost w5 hS hWl hGr hOf hgo hl hf1 hf2 hi hb hc
    have HIx:Hid (∀w5 k gv cv b,Sr w5 k p c s ix iy iw ih gv cv b (.func (.func 47) #[] #[ptr (w.heap.size+1)])->Calls pg 50 #[ptr k,cel fx fy] w5 fun e w'=>e = .returned (O ii ((fy-iy)*iw+(fx-ix)))/\Below w5.heap.size w5 w'):=zAb fun w5 k gv cv b hS=>zCt k p c s ix iy iw ih gv cv b _ fx fy w5 hS hf1 hf2 hi;have hI:=zCr (c:=0) (d:=0) hf2.1 hf2.2 hf1.1 hf1.2;obtain ⟨J,hJ⟩:∃J:Nat,(fy-iy)*iw+(fx-ix)=(J:Int):=⟨((fy-iy)*iw+(fx-ix)).toNat,by omega⟩
    have hJi:ij ix iy iw fx fy=J:=by unfold ij;omega
    have hJN:J<N:=by omega
    rw [hJ] at HIx;have HN:=zAb (ai hN (ai hN' (ai hJi (ai hJN (ai hA2 (ai hv1 hv2))))));have HB2:=zAb BX2;have hv12:((has ix iy iw ih fx fy&&stB W H tl f c s fx fy)&&(has ix iy iw ih tx ty&&stB W H tl f c s tx ty))=true:=by rw [hv1,hv2];rfl
    have Hv12:=zAb hv12;clear c0 c1 d0 d1 e0 e1 g0 g1 g2 g3 H2 hWl hGr hOf r4 hm hW hH hbud hv1' hv2' hr1 hf1 hf2 ht1 ht2 hA1 hA2 hcm hN hN' hi hlf hcon hOb hI hJ hJi hJN BX2 hBw hb2 HF1 HB1 HFX HBX Hm hv12;obtain ⟨⟨c0,c1⟩,-,-⟩:=b0;obtain ⟨⟨d0,d1⟩,-,-⟩:=b1;obtain ⟨⟨e0,e1⟩,-,-⟩:=b2;obtain ⟨⟨g0,g1,g2,g3⟩,-,-⟩:=id F2;go_wp2_with fail;refine HBg.out.mono ?_;rintro e w3 ⟨k,gv,cv,b,hv,rfl,hS3,hb3⟩;have HR3:=zAb (HRc.out _ _ _ _ _ _ hS3);have BX3:=bt HB2.out hb3;obtain ⟨⟨-,b1,-⟩,-⟩:=HB.out w3 BX3;have Hb3:=zAb BX3;clear c0 c1 d0 d1 e0 e1 g0 g1 g2 g3 HBg HRc hS3 hb3 F2 BX3;obtain ⟨⟨d0,d1⟩,-,-⟩:=b1;go_wp2_with fail;refine HR3.out.mono ?_;rintro e w4 ⟨r,i,C,n,S,R,hv4,G4,rfl,⟨hok,hib⟩,hS4,hG4,hT4,how4,tx',ty',tc,tf,ok,hnx,hcase⟩;have BX4:Below X.heap.size X w4:=HB2.out.trans (hS4.bel.mono HB2.out.size);obtain ⟨⟨-,b1,-⟩,r4,hBw,-⟩:=HB.out w4 BX4;have hsm:=hok.small;cases r
    ·have hbi:bud<iw*ih:=by
      rcases hcase with ⟨q,-⟩|⟨-,rfl,-,q⟩
      ·cases q
      ·have:=HMo.out _ _ _ _ _ _ _ _ _ hok hnx;have:=HN.out.1;have:=HN.out.2.1;omega
     clear d0 d1 HR3 hok hS4 hG4 hT4 how4 hnx hcase hib BX4 b1;obtain ⟨Y,hY,hc,TY⟩:=zGc r4 3 (.slice none 0 0);obtain ⟨⟨y0,y1⟩,y2,y3⟩:=zCx r4;obtain ⟨z0,z1⟩:=hc;have HY:=zAb hY;have HE:Hid (zE6 W H tl f c s fx fy tx ty ix iy iw ih bud w (.returned (.tuple #[.agg #[O ii 3,(.slice none 0 0)],O ii 0])) Y):=zAb ⟨3,(.slice none 0 0),0,rfl,hBw.trans (TY.below (fun j e=>by omega) hBw.size),.inr ⟨Hv12.out,.inl ⟨rfl,rfl,rfl,hbi⟩⟩⟩;clear r4 hBw TY hY;go_wp2_with (rw [HY.out]);refine bodyPost_ret (v:=.tuple #[.agg #[O ii 3,(.slice none 0 0)],O ii 0]) (by simp [results,Tryz.f18,go_sem,z0,z1]) rfl ?_;exact HE.out
    ·have hst:ok=false\/Stp ix iy iw fx fy C tf:=by
      rcases hcase with ⟨-,q⟩|⟨q,-⟩
      ·exact q
      ·cases q
     obtain ⟨hN,hN',hJi,hJN,hA2,-⟩:=HN.out;have hCl:C.length=N:=by rw [hok.len,hN']
     obtain ⟨g,cap,hcv,hgl⟩:=hS4.ct.form (by omega);obtain ⟨m,hm⟩:∃m,C[J]? = some m:=⟨_,List.getElem?_eq_getElem (by omega)⟩
     have hmb:=hok.tb m (List.mem_of_getElem? hm);have hto:=HTo.out _ _ _ _ _ _ _ _ _ _ _ hok hnx hst (by rw [hJi];exact hm);have htb:∀m∈C,-1<=m/\m<=229376:=fun m q=>by have:=hok.tb m q;omega
     have HS:(fun wx:World=>wx.cell? ⟨k,8,none⟩=some (.slice (some ⟨g,0,none⟩) C.length cap)/\wx.cell? ⟨w.heap.size+1,0,none⟩=some (O ii fx)/\wx.cell? ⟨w.heap.size+1,1,none⟩=some (O ii fy)/\wx.cell? ⟨g,J,none⟩=some (O ii m)) w4.drew:=⟨by rw [<-hcv];exact hS4.sr.cl 8,b1.1.1,b1.1.2,by have:=hS4.ct;rw [hcv] at this;exact (Cts.got this hm).1⟩
     have HK5:Hid (∀wx,Below w4.heap.size w4 wx->(fun wx:World=>wx.cell? ⟨k,8,none⟩=some (.slice (some ⟨g,0,none⟩) C.length cap)/\wx.cell? ⟨w.heap.size+1,0,none⟩=some (O ii fx)/\wx.cell? ⟨w.heap.size+1,1,none⟩=some (O ii fy)/\wx.cell? ⟨g,J,none⟩=some (O ii m)) wx/\Sch w2 wx k p c s ix iy iw ih gv cv b (.func (.func 47) #[] #[ptr (w.heap.size+1)]) G4 C hv4 n R/\Below X.heap.size X wx):=zAb fun wx q=>by
      have e1:=hS4.upto q;have e2:=b1.kept q;refine ⟨⟨by rw [<-hcv];exact e1.sr.cl 8,e2.1.1,e2.1.2,by have:=e1.ct;rw [hcv] at this;exact (Cts.got this hm).1⟩,e1,bt BX4 q⟩
     have HI5:=zAb (fun wx (q:Below w4.heap.size w4 wx)=>HIx.out wx k gv cv b (hS4.sr.upto q));have hJli:(0:Int)<=(J:Nat)/\((J:Nat):Int)<(C.length:Nat):=by omega
     have Hto:=zAb hto;have Hmb:=zAb (ai hmb (ai hsm (ai hA2 (ai htb (ai hCl hN')))));have Hg:=zAb hG4;clear d0 d1 HR3 hok hS4 hT4 how4 hnx hcase hib BX4 hst hN hN' hJi hJN hA2 hCl hcv hgl hm hmb hto HTo HIx htb hG4 r4 hBw hsm;obtain ⟨⟨d0,d1⟩,-,-⟩:=b1;go_wp2_with fail;refine zAj ?_;refine zAe (fun wx:World=>wx.cell? ⟨k,8,none⟩=some (.slice (some ⟨g,0,none⟩) C.length cap)/\wx.cell? ⟨w.heap.size+1,0,none⟩=some (O ii fx)/\wx.cell? ⟨w.heap.size+1,1,none⟩=some (O ii fy)/\wx.cell? ⟨g,J,none⟩=some (O ii m)) [] (by kernel_rfl) ?_;refine zv 0 6 8 [ptr k,ptr k,.pointer (some ⟨k,8,none⟩),.slice (some ⟨g,0,none⟩) C.length cap,ptr k,cel fx fy] rfl rfl (by kernel_rfl) HS ?_;repeat (refine zc rfl (by rfl) (fun wx hx=>by go_simp) ?_;simp only [zp])
     refine zn ?_;refine zw 6 [] (by kernel_rfl) ?_;refine readyZ.call rfl rfl (zCd (by rfl) (by rfl) (by simp only [zj];rfl)) (HI5.out _ (Below.refl _ _).drew) ?_ readyZ.nil;rintro e w5 ⟨rfl,hb5⟩;have hb5':Below w4.heap.size w4 w5:=(Below.refl _ w4).drew.trans hb5;have HS':=(HK5.out _ hb5').1;refine ⟨_,rfl,fun _=>HS',?_⟩;clear HS;have HS:=HS';clear HS';try simp only [zp]
     refine zv 7 3 8 [.pointer (some ⟨g,J,none⟩),O ii m,O ii m] rfl rfl (by kernel_rfl) HS ?_;repeat (refine zc rfl (by rfl) (fun wx hx=>by go_simp) ?_;simp only [zp])
     refine zn ?_;refine zAd (by kernel_rfl) ?_ _;dsimp only [zAv,Exit.then];obtain ⟨-,hS5,BX5⟩:=HK5.out _ hb5';obtain ⟨⟨-,b1,-⟩,r4,hBw,-⟩:=HB.out w5 BX5;clear HS hb5 hb5' HI5 HK5 d0 d1 hJli
     by_cases hm1:m = -1
     ·have hno:∀k,¬Wk (zAx W H tl f c s ix iy iw ih) (tx,ty) (fx,fy) k:=by
       rcases Hto.out with ⟨-,q⟩|⟨q,-⟩
       ·exact q
       ·omega
      subst hm1;clear hS5 BX5 b1 Hto Hmb HWy;obtain ⟨Y,hY,hc,TY⟩:=zGc r4 2 (.slice none 0 0);obtain ⟨⟨y0,y1⟩,y2,y3⟩:=zCx r4;obtain ⟨z0,z1⟩:=hc;have HY:=zAb hY;have HE:Hid (zE6 W H tl f c s fx fy tx ty ix iy iw ih bud w (.returned (.tuple #[.agg #[O ii 2,(.slice none 0 0)],O ii 0])) Y):=zAb ⟨2,(.slice none 0 0),0,rfl,hBw.trans (TY.below (fun j e=>by omega) hBw.size),.inr ⟨Hv12.out,.inr (.inl ⟨rfl,rfl,rfl,hno⟩)⟩⟩;clear r4 hBw TY hY;go_wp2_with (rw [HY.out]);refine bodyPost_ret (v:=.tuple #[.agg #[O ii 2,(.slice none 0 0)],O ii 0]) (by simp [results,Tryz.f18,go_sem,z0,z1]) rfl ?_;exact HE.out
     ·obtain ⟨hmb,hsm,hA2,htb,hCl,hN'⟩:=Hmb.out;have hcm:ih*iw=iw*ih:=Int.mul_comm _ _;have HW:=zAb (HWy.out w5 k gv cv b hv4 G4 C n R m hS5 Hg.out (by omega) (fun q hq=>by have:=htb q hq;omega) (by omega))
      have Hl:Hid ((0<=m/\m<=229376)/\Least (zAx W H tl f c s ix iy iw ih) (tx,ty) (fx,fy) m.toNat/\∃Hq,Sk (zAx W H tl f c s ix iy iw ih) (tx,ty) (tab ix iy iw ih C) Hq/\∀q g,(q,g)∈Hq->m.toNat<g+(ocN q.1 q.2 fx fy).toNat):=zAb (by
       rcases Hto.out with ⟨q,-⟩|⟨q1,q2,q3⟩
       ·exact absurd q hm1
       ·exact ⟨by omega,q2,q3⟩)
      have Hcl:=zAb (ai hCl (ai hN' htb));obtain ⟨⟨d0,d1⟩,-,-⟩:=b1;have HB5:=zAb BX5;clear hS5 BX5 Hto Hmb HWy hmb hsm hA2 htb hCl hN' r4 hBw hcm;go_wp2_with fail;refine HW.out.mono ?_;rintro e w6 ⟨v,P,rfl,hwy,⟨hcn,hown⟩,⟨G6,hS6,-⟩,-⟩;obtain ⟨va,vn,vc,rfl⟩:=hcn.slice;have BX6:Below X.heap.size X w6:=HB2.out.trans (hS6.bel.mono HB2.out.size);obtain ⟨-,r4,hBw,-⟩:=HB.out w6 BX6;have hz5:=HB5.out.size;clear hS6 BX6 d0 d1 HW;obtain ⟨Y,hY,hc,TY⟩:=zGc r4 1 (.slice va vn vc);obtain ⟨⟨y0,y1⟩,y2,y3⟩:=zCx r4;obtain ⟨z0,z1⟩:=hc;have HY:=zAb hY;have HE:Hid (zE6 W H tl f c s fx fy tx ty ix iy iw ih bud w (.returned (.tuple #[.agg #[O ii 1,(.slice va vn vc)],O ii m])) Y):=zAb ⟨1,(.slice va vn vc),m,rfl,hBw.trans (TY.below (fun j e=>by omega) hBw.size),.inr ⟨Hv12.out,.inr (.inr ⟨rfl,Hl.out.1,Hl.out.2.1,C,P,⟨by have:=Hcl.out.1;have:=Hcl.out.2.1;omega,Hcl.out.2.2⟩,Hl.out.2.2,hwy,hcn.turned TY (fun j e q=>by have:=hown j e;omega),fun j e=>by have:=hown j e;omega⟩)⟩⟩;clear r4 hBw TY hY;go_wp2_with (rw [HY.out]);refine bodyPost_ret (v:=.tuple #[.agg #[O ii 1,(.slice va vn vc)],O ii m]) (by simp [results,Tryz.f18,go_sem,z0,z1]) rfl ?_;exact HE.out
end
section
open Go.Shelf
theorem zTm {ix iy iw ih:Int} {C:List Int} {q:Int×Int} {n:Nat} (hb:∀m∈C,-1<=m) (h:tab ix iy iw ih C q=some n):C[ij ix iy iw q.1 q.2]? = some (n:Int):=by
 unfold tab at h
 split at h
 ·split at h
  ·rename_i m hm
   split at h
   ·cases h
   ·injection h with h
    have:=hb m (List.mem_of_getElem? hm);rw [hm,<-h]
    congr 1
    omega
  ·cases h
 ·cases h
section
variable {W H:Int} {tl:List Nat} {f:Int->Int->Option Int} {c s ix iy iw ih:Int}
def Gdn (W H:Int) (tl:List Nat) (f:Int->Int->Option Int) (c s ix iy iw ih:Int) (s0:Int×Int) (x y r:Int) (t:Fin 8):Prop:=
 inn x y ix iy iw ih t.val=true/\stp W H tl f c s x y ((t.val:Nat):Int)=true/\co ((t.val:Nat):Int)<=r/\Least (zAx W H tl f c s ix iy iw ih) s0 (x+dX t.val,y+dY t.val) (r-co ((t.val:Nat):Int)).toNat
def Way (W H:Int) (tl:List Nat) (f:Int->Int->Option Int) (c s ix iy iw ih:Int) (s0:Int×Int):List (Int×Int)->Int->Int->Int->Prop
 | [],_,_,r=>r=0
 |q::l,x,y,r=>0<r/\∃t:Fin 8,Gdn W H tl f c s ix iy iw ih s0 x y r t/\(∀u:Fin 8,u.val<t.val->¬Gdn W H tl f c s ix iy iw ih s0 x y r u)/\q=(x+dX t.val,y+dY t.val)/\Way W H tl f c s ix iy iw ih s0 l (x+dX t.val) (y+dY t.val) (r-co ((t.val:Nat):Int))
structure At (W H:Int) (tl:List Nat) (f:Int->Int->Option Int) (c s ix iy iw ih:Int) (s0:Int×Int) (x y r:Int):Prop where
 std:Std W H tl f c s ix iy iw ih (x,y)
 pos:0<=r
 lst:Least (zAx W H tl f c s ix iy iw ih) s0 (x,y) r.toNat
theorem At.next {s0:Int×Int} {x y r:Int} {t:Fin 8} (h:At W H tl f c s ix iy iw ih s0 x y r) (g:Gdn W H tl f c s ix iy iw ih s0 x y r t):At W H tl f c s ix iy iw ih s0 (x+dX t.val) (y+dY t.val) (r-co ((t.val:Nat):Int)):=by
 obtain ⟨g1,g2,g3,g4⟩:=g;exact ⟨zF0 (a:=(x,y)) (k:=(co ((t.val:Nat):Int)).toNat) ⟨t,g1,g2,rfl,by have:=zFd t;omega⟩,by omega,g4⟩
theorem At.step {s0:Int×Int} {x y r:Int} {t:Fin 8} (g:Gdn W H tl f c s ix iy iw ih s0 x y r t):zAx W H tl f c s ix iy iw ih (x,y) (x+dX t.val,y+dY t.val) (co ((t.val:Nat):Int)).toNat:=
 ⟨t,g.1,g.2.1,rfl,by have:=zFd t;omega⟩
theorem At.some {s0:Int×Int} {x y r:Int} (h0:Std W H tl f c s ix iy iw ih s0) (h:At W H tl f c s ix iy iw ih s0 x y r) (hr:0<r):∃t,Gdn W H tl f c s ix iy iw ih s0 x y r t:=by
 obtain ⟨hl,hm⟩:=h.lst;have hall:=h.lst;generalize hn:r.toNat=n at hl hall;generalize hq:(x,y)=q at hl hall
 cases hl using Wk.cs with
 |nil=>omega
 | @snoc b _ m k hb hs =>
  subst hq;have hL:=Least.part hb hs hall;obtain ⟨-,t,t1,t2,t3,t4⟩:=zFz ⟨(hb.toS h0).2,hs⟩;refine ⟨t,t1,t2,by omega,?_⟩;rw [<-t3,show (r-co ((t.val:Nat):Int)).toNat=m by omega];exact hL
end
theorem zL0 {x y p q c d:Int} {u:Fin 8} (h:inn x y p q c d u.val=true):u∈zAq x y p q c d 8:=
 List.mem_filter.2 ⟨by simp [List.mem_take_iff_getElem];exact ⟨u.val,u.isLt,rfl⟩,h⟩
theorem zKs:(List.finRange 8).Pairwise (fun a b=>a.val<b.val):=by decide
theorem zN1 {x y p q c d:Int} {pre:List (Fin 8)} {t u:Fin 8} (h:pre++[t] <+: zAq x y p q c d 8) (hu:u∈zAq x y p q c d 8) (hlt:u.val<t.val):u∈pre:=by
 have hs:(zAq x y p q c d 8).Pairwise (fun a b=>a.val<b.val):=(zKs.sublist (List.take_sublist _ _)).filter _;obtain ⟨r,hr⟩:=h;rw [<-hr] at hu hs;rcases List.mem_append.1 hu with hu|hu
 ·rcases List.mem_append.1 hu with hu|hu
  ·exact hu
  ·simp at hu;subst hu;omega
 ·have:=(List.pairwise_append.1 hs).2.2 t (by simp) u hu;omega
section
variable {W H:Int} {tl:List Nat} {f:Int->Int->Option Int} {c s ix iy iw ih:Int} {s0:Int×Int} {C:List Int} {Hq:List ((Int×Int)×Nat)} {D:Nat} {fx fy:Int}
theorem qAu (hb:∀m∈C,-1<=m) (hsk:Sk (zAx W H tl f c s ix iy iw ih) s0 (tab ix iy iw ih C) Hq) (hH:∀q g,(q,g)∈Hq->D<g+(ocN q.1 q.2 fx fy).toNat)
 (hadm:∀q k,Wk (zAx W H tl f c s ix iy iw ih) q (fx,fy) k->(ocN q.1 q.2 fx fy).toNat<=k) {x y r:Int} {n:Nat} (h:At W H tl f c s ix iy iw ih s0 x y r) (hw:Wk (zAx W H tl f c s ix iy iw ih) (x,y) (fx,fy) n) (hD:r.toNat+n<=D) {t:Fin 8} (hin:inn x y ix iy iw ih t.val=true) :
 zEp (fun d=>stp W H tl f c s x y (d:Int)) ix iy iw C x y r t=true↔Gdn W H tl f c s ix iy iw ih s0 x y r t:=by
 have hco:=zFd t;have hce:=zPv t;have hev:=h.lst.1.even;have hpos:=h.pos;have hB:inB ix iy iw ih (x+dX t.val,y+dY t.val):=zLz hin;have hback:stp W H tl f c s x y ((t.val:Nat):Int)=true->zAx W H tl f c s ix iy iw ih (x+dX t.val,y+dY t.val) (x,y) (co ((t.val:Nat):Int)).toNat:=fun hs=>(zFz ⟨h.std,t,hin,hs,rfl,by omega⟩).2;constructor
 ·intro hf;unfold zEp at hf;rw [Bool.and_eq_true,decide_eq_true_eq] at hf;obtain ⟨h1,h2⟩:=hf;have hm:=hb _ (List.mem_of_getElem? h1);have ht:=zFy hB h1;rw [if_neg (by omega)] at ht;have hr:=hsk.real _ _ ht;refine ⟨hin,h2,by omega,hr,fun k hk=>?_⟩;have:=h.lst.2 _ (hk.snoc (hback h2));omega
 ·rintro ⟨-,h2,h3,h4⟩;have ht:=hsk.ends (left:=fun q:Int×Int=>(ocN q.1 q.2 fx fy).toNat) (goal:=(fx,fy)) hadm hH h4 ((Wk.one (hback h2)).trans hw) (by omega);have hg:=zTm hb ht;unfold zEp;rw [Bool.and_eq_true,decide_eq_true_eq];refine ⟨?_,h2⟩;simp only at hg;rw [hg]
  congr 1
  omega
theorem zWu (hb:∀m∈C,-1<=m) (hsk:Sk (zAx W H tl f c s ix iy iw ih) s0 (tab ix iy iw ih C) Hq) (hH:∀q g,(q,g)∈Hq->D<g+(ocN q.1 q.2 fx fy).toNat)
 (hadm:∀q k,Wk (zAx W H tl f c s ix iy iw ih) q (fx,fy) k->(ocN q.1 q.2 fx fy).toNat<=k) (h0:Std W H tl f c s ix iy iw ih s0) {x y r:Int} {P:List (Int×Int)} (hy:Wy W H tl f c s ix iy iw ih C x y r P) :
 ∀n:Nat,At W H tl f c s ix iy iw ih s0 x y r->Wk (zAx W H tl f c s ix iy iw ih) (x,y) (fx,fy) n->r.toNat+n<=D->Way W H tl f c s ix iy iw ih s0 P x y r:=by
 induction hy using Wy.ind with
 |ends h1=>intro n h hw hD;have:=h.pos;show _=(0:Int);omega
 | @lost x y r h1 h2 =>
  intro n h hw hD;obtain ⟨t,ht⟩:=h.some h0 h1;have:=(qAu hb hsk hH hadm h hw hD ht.1).2 ht;rw [h2 t (zL0 ht.1)] at this;cases this
 | @next x y r pre t l h1 h2 h3 h4 h5 ih5 =>
  intro n h hw hD;have hm:t∈zAq x y ix iy iw ih 8:=by obtain ⟨q,hq⟩:=h2;rw [<-hq];simp
  have hg:=(qAu hb hsk hH hadm h hw hD (zKe hm)).1 h4;have hco:=zFd t;refine ⟨h1,t,hg,fun u hu hgu=>?_,rfl,ih5 (n+(co ((t.val:Nat):Int)).toNat) (h.next hg) ?_ ?_⟩
  ·have:=(qAu hb hsk hH hadm h hw hD hgu.1).2 hgu;rw [h3 u (zN1 h2 (zL0 hgu.1) hu)] at this;cases this
  ·have:=(Wk.one (zFz ⟨h.std,At.step hg⟩).2).trans hw
   rwa [Nat.add_comm] at this
  ·have:=hg.2.2.1;omega
theorem Way.len {P:List (Int×Int)}:∀{x y r:Int},Way W H tl f c s ix iy iw ih s0 P x y r->(P.length:Int)*10<=r:=by
 induction P with
 |nil=>intro x y r h;have:r=0:=h;simp;omega
 |cons q l ihl =>
  rintro x y r ⟨h1,t,h2,h3,rfl,h4⟩;have:=ihl h4;have:=zFd t;simp;omega
end
end
section
open Go.Shelf
abbrev stl:=zAx 16 8 zA4 (zB9 []) 0 1 0 0 8 8
abbrev str:=zAx 16 8 zA4 (zB9 []) 0 1 8 0 8 8
theorem zSa {ix fx fy:Int} (h8:0<=ix/\ix<=8) (hf:inB ix 0 8 8 (fx,fy)) (a:Int×Int) (n:Nat) (h:Wk (zAx 16 8 zA4 (zB9 []) 0 1 ix 0 8 8) a (fx,fy) n):(ocN a.1 a.2 fx fy).toNat<=n:=by
 have:=Wk.left (left:=fun q:Int×Int=>(ocN q.1 q.2 fx fy).toNat) (zOh (by omega) hf) h;simp only [zLn] at this;omega
theorem qAh:stl (0,3) (1,3) 10:=⟨0,by kernel_rfl,by kernel_rfl,by decide,by decide⟩
theorem qAg:stl (1,3) (2,3) 10:=⟨0,by kernel_rfl,by kernel_rfl,by decide,by decide⟩
theorem qAf:stl (2,3) (3,3) 10:=⟨0,by kernel_rfl,by kernel_rfl,by decide,by decide⟩
theorem qAe:stl (3,3) (4,3) 10:=⟨0,by kernel_rfl,by kernel_rfl,by decide,by decide⟩
theorem qAd:stl (4,3) (5,3) 10:=⟨0,by kernel_rfl,by kernel_rfl,by decide,by decide⟩
theorem qAc:stl (5,3) (6,3) 10:=⟨0,by kernel_rfl,by kernel_rfl,by decide,by decide⟩
theorem qAb:stl (6,3) (7,3) 10:=⟨0,by kernel_rfl,by kernel_rfl,by decide,by decide⟩
theorem zX9:Wk stl (0,3) (7,3) 70:=(((((((Wk.nil _).snoc qAh).snoc qAg).snoc qAf).snoc qAe).snoc qAd).snoc qAc).snoc qAb
theorem zRe:Least stl (0,3) (7,3) 70:=⟨zX9,fun m h=>by have:=zSa (by omega) (by unfold inB;decide) _ _ h;exact Nat.le_trans (by decide) this⟩
theorem qAa:stl (7,3) (6,3) 10:=⟨2,by kernel_rfl,by kernel_rfl,by decide,by decide⟩
theorem zZ9:stl (6,3) (5,3) 10:=⟨2,by kernel_rfl,by kernel_rfl,by decide,by decide⟩
theorem zZ8:stl (5,3) (4,3) 10:=⟨2,by kernel_rfl,by kernel_rfl,by decide,by decide⟩
theorem zZ7:stl (4,3) (3,3) 10:=⟨2,by kernel_rfl,by kernel_rfl,by decide,by decide⟩
theorem zZ6:stl (3,3) (2,3) 10:=⟨2,by kernel_rfl,by kernel_rfl,by decide,by decide⟩
theorem zZ5:stl (2,3) (1,3) 10:=⟨2,by kernel_rfl,by kernel_rfl,by decide,by decide⟩
theorem zZ4:stl (1,3) (0,3) 10:=⟨2,by kernel_rfl,by kernel_rfl,by decide,by decide⟩
theorem zZ3:Wk stl (7,3) (0,3) 70:=(((((((Wk.nil _).snoc qAa).snoc zZ9).snoc zZ8).snoc zZ7).snoc zZ6).snoc zZ5).snoc zZ4
theorem zRd:Least stl (7,3) (0,3) 70:=⟨zZ3,fun m h=>by have:=zSa (by omega) (by unfold inB;decide) _ _ h;exact Nat.le_trans (by decide) this⟩
theorem zZz:str (15,3) (14,3) 10:=⟨2,by kernel_rfl,by kernel_rfl,by decide,by decide⟩
theorem zZy:str (14,3) (13,3) 10:=⟨2,by kernel_rfl,by kernel_rfl,by decide,by decide⟩
theorem zZx:str (13,3) (12,3) 10:=⟨2,by kernel_rfl,by kernel_rfl,by decide,by decide⟩
theorem zZw:str (12,3) (11,3) 10:=⟨2,by kernel_rfl,by kernel_rfl,by decide,by decide⟩
theorem zZv:str (11,3) (10,3) 10:=⟨2,by kernel_rfl,by kernel_rfl,by decide,by decide⟩
theorem zZu:str (10,3) (9,3) 10:=⟨2,by kernel_rfl,by kernel_rfl,by decide,by decide⟩
theorem zZt:str (9,3) (8,3) 10:=⟨2,by kernel_rfl,by kernel_rfl,by decide,by decide⟩
theorem zXg:Wk str (15,3) (8,3) 70:=(((((((Wk.nil _).snoc zZz).snoc zZy).snoc zZx).snoc zZw).snoc zZv).snoc zZu).snoc zZt
theorem zLi:Least str (15,3) (8,3) 70:=⟨zXg,fun m h=>by have:=zSa (by omega) (by unfold inB;decide) _ _ h;exact Nat.le_trans (by decide) this⟩
section
variable {W H:Int} {tl:List Nat} {f:Int->Int->Option Int} {c s ix iy iw ih:Int} {s0:Int×Int}
theorem zYv:∀t:Fin 8,-1<=dX t.val/\dX t.val<=1:=by decide
theorem Way.far {P:List (Int×Int)}:∀{x y r:Int},At W H tl f c s ix iy iw ih s0 x y r->Way W H tl f c s ix iy iw ih s0 P x y r->s0.1-x<=(P.length:Int)/\x-s0.1<=(P.length:Int):=by
 induction P with
 |nil =>
  intro x y r ha h;have h':r=0:=h;have:=ha.lst.1.zero (by omega);rw [this];simp
 |cons p l ihl =>
  rintro x y r ha ⟨h1,t,h2,h3,rfl,h4⟩;have:=ihl (ha.next h2) h4;have:=zYv t;rw [List.length_cons];omega
end
theorem zW2:Std 16 8 zA4 (zB9 []) 0 1 0 0 8 8 (0,3):=⟨by kernel_rfl,by kernel_rfl⟩
theorem zZp:Std 16 8 zA4 (zB9 []) 0 1 0 0 8 8 (7,3):=⟨by kernel_rfl,by kernel_rfl⟩
theorem zW1:Std 16 8 zA4 (zB9 []) 0 1 8 0 8 8 (15,3):=⟨by kernel_rfl,by kernel_rfl⟩
theorem zZo:Std 16 8 zA4 (zB9 []) 0 1 8 0 8 8 (8,3):=⟨by kernel_rfl,by kernel_rfl⟩
end
end Go.Proofs.YtejjcenhjpjefaaGreatDoor
