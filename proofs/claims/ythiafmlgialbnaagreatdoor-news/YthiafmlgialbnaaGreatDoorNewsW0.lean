import Derived.Test.YthiafmlgialbnaaGreatDoorGbad
import Derived.LaidEqlPtr
set_option linter.all false
set_option maxRecDepth 1000000
set_option maxHeartbeats 64000000
open Go.Proofs.Tryz
open Go.Proofs.Tryz renaming prog->pg
open And renaming intro->ai
open Go.Value renaming int->O
open Go.IntKind renaming i64->ii
namespace Go.Proofs.YthiafmlgialbnaaGreatDoor
open Go.RowKit Go.Shelf
theorem zXj:Rcl 12:=zl fun _ _=>by go_simp
theorem zXi:Rcl 13:=zl fun _ _=>by go_simp
theorem zXh:Rcl 14:=zl fun _ _=>by go_simp
theorem zXg:Rcl 15:=zl fun _ _=>by go_simp
theorem qAn:Rcl 7:=zl fun _ _=>by go_simp
theorem zS3 {ev:Operand->Value} {o:Oper} {w:World} {x y:Operand} {a b:Int} (ho:o.op = .binOp .eql 27 x y 27) (hx:ev x=shv a b) (hy:ev y=shv a b):(execOp ev o).run pg w = .ok (.value (.bool true)) w:=by
 unfold execOp;simp only [ho,hx,hy];go_simp
structure NsS (w X:World) (wd ht:Int) (tv bv:Value) (c s:Int):Prop where
 bel:Below w.heap.size w X
 m:MB X w.heap.size wd ht tv bv
 t:Two X (w.heap.size+1) c s
theorem NsS.upto {w X Y:World} {wd ht:Int} {tv bv:Value} {c s:Int} (h:NsS w X wd ht tv bv c s) (hb:Below X.heap.size X Y):NsS w Y wd ht tv bv c s:=
 ⟨bt h.bel hb,h.m.kept hb,h.t.kept hb⟩
theorem NsS.new (w:World) (wd ht:Int) (tv bv:Value) (c s:Int):NsS w ((w.alloc (.cells #[O ii wd,O ii ht,tv,bv] 25)).alloc (.cells #[O ii c,O ii s] 27)) wd ht tv bv c s:=by
 have h1:=MB.new w wd ht tv bv;generalize hA:w.alloc (.cells #[O ii wd,O ii ht,tv,bv] 25)=A at h1 ⊢;have zA:A.heap.size=w.heap.size+1:=by rw [<-hA];simp
 have h2:Two (A.alloc (.cells #[O ii c,O ii s] 27)) (w.heap.size+1) c s:=by rw [<-zA];exact Two.newAt rfl
 have bB:=zAk A (.cells #[O ii c,O ii s] 27);exact ⟨bt (hA▸zAk _ _) bB,h1.kept bB,h2⟩
theorem zU7 {w w':World} {gp p:Nat} {c s ep:Int} {wb eb:Nat} {W H:Int} {tl:List Nat} {f:Int->Int->Option Int} (h:GOk w gp p c s ep wb eb W H tl f) (hb:Below w.heap.size w w') (hp:p<w.heap.size):GOk w' gp p c s ep wb eb W H tl f:=by
 obtain ⟨KW,LW,KE,LE,g1,g2,g3⟩:=h;exact ⟨KW,LW,KE,LE,g1.upto hb hp,g2,g3⟩
theorem zXz (wd ht:Int) (tv bv:Value) (tl:List Nat) (L:List Bd) (c s:Int) (w:World) (hv:TlR w tv tl) (hb:∀x∈tl,x<256) (hl:BdR w bv L) (hg:Grnd w) (ho:Offs w)
 (HRi:∀(wx:World) (gp p r wb eb:Nat),Below w.heap.size w wx->wd*ht<=1000->zEl wd ht tl L=0->En wx p wd ht tl (zB4 L)->Rl wx r wd ht tl L->GOk wx gp p c s 0 wb eb wd ht tl (zB4 L)->shB c s=true->
  Calls pg 12 #[ptr gp,ptr r,shv c s] wx fun e w'=>e = .returned (.bool true)/\Below wx.heap.size wx w') :
 Calls pg 3 #[mp wd ht tv bv,shv c s] w fun e w'=>e = .returned (.bool true)/\Below w.heap.size w w':=by
 obtain ⟨a1,cap1,hv1,-⟩:=id hv;obtain ⟨a2,cap2,hl1,-⟩:=id hl;subst hv1 hl1;have S0:=NsS.new w wd ht (.slice a1 tl.length cap1) (.slice a2 L.length cap2) c s;obtain ⟨X,hX⟩:=ex ((w.alloc (.cells #[O ii wd,O ii ht,.slice a1 tl.length cap1,.slice a2 L.length cap2] 25)).alloc (.cells #[O ii c,O ii s] 27));rw [hX] at S0;have HAw:Hid (∀wx,Below w.heap.size w wx->Calls pg 7 #[] wx fun e w'=>e = .returned (.bool true)/\Below wx.heap.size wx w'):=zAc fun wx q=>zUz wx (hg.kept q) (ho.kept q);have HS0:=zAc S0;have HX:=zAc hX;have HGO:=zAc (ai hg ho);have Hin:=zAc (ai hv (ai hb hl));have HRi':=zAc HRi;clear S0 hX hg ho hv hb hl HRi;go_enter func3,ntmps3;go_wp2_with (rw [HX.out]);refine (HAw.out X HS0.out.bel).mono ?_;rintro e w1 ⟨rfl,hb1⟩;have HS1:=zAc (HS0.out.upto hb1);obtain ⟨m0,m1,m2,m3⟩:=HS1.out.m.c;clear hb1 HS0 HX;go_wp2_with fail;rcases zUp wd ht tl L with hc|hc
 rotate_left
 ·have HBo:=zAc (zZp wd ht _ _ tl L w1 (Hin.out.1.kept HS1.out.bel) Hin.out.2.1 (Hin.out.2.2.kept HS1.out.bel) hc);clear hc;refine HBo.out.mono ?_;rintro e w2 ⟨rfl,hb2⟩;have HS2:=zAc (HS1.out.upto hb2);clear hb2 m0 m1 m2 m3 HS1 HBo;obtain ⟨⟨t0,t1⟩,-,-⟩:=id HS2.out.t;have HNw:=zAc (zNk (w:=w2) (v:=.pointer none) (a:=0) (b:=0) (c:=c) (s:=s) (by rfl) (fun wx _=>zZx wx) ⟨_,rfl⟩);go_wp2_with fail;refine HNw.out.mono ?_;rintro e w3 ⟨rfl,hb3⟩;have HS3:=zAc (HS2.out.upto hb3);clear hb3 t0 t1 HS2 HNw;go_wp2_with fail;refine (HAw.out w3 HS3.out.bel).mono ?_;rintro e w4 ⟨rfl,hb4⟩;have HS4:=zAc (HS3.out.upto hb4);clear hb4;go_wp2_with fail;go_ret;exact ⟨rfl,HS4.out.bel⟩
 ·have HBo:=zAc (zZo wd ht _ _ tl L w1 (Hin.out.1.kept HS1.out.bel) Hin.out.2.1 (Hin.out.2.2.kept HS1.out.bel) hc);have Hc:=zAc hc;clear hc;refine HBo.out.mono ?_;rintro e w2 ⟨p,r,rfl,hWn,hRl,hb2⟩;have HS2:=zAc (HS1.out.upto hb2);have HW2:=zAc (ai hWn hRl);have HE2:Hid (En w2 p wd ht tl (zB4 L)):=zAc ⟨hWn.1,HGO.out.1.kept HS2.out.bel,HGO.out.2.kept HS2.out.bel⟩;clear hb2 m0 m1 m2 m3 HS1 HBo hWn hRl;obtain ⟨m0,m1,m2,m3⟩:=HS2.out.m.c;obtain ⟨hW,hH⟩:=HE2.out.1.sides;have HLi:=zAc (zTr wd ht (.slice a1 tl.length cap1) (.slice a2 L.length cap2) w2 (by omega) (by omega));have HWH:=zAc (ai hW hH);clear hW hH;go_wp2_with fail;refine HLi.out.mono ?_;rintro e w3 ⟨rfl,hb3⟩;have HS3:=zAc (HS2.out.upto hb3);have HW3:=zAc (ai (HW2.out.1.kept hb3) (HW2.out.2.kept hb3));have HE3:=zAc (HE2.out.upto hb3);clear hb3 m0 m1 m2 m3 HLi HS2 HW2 HE2;cases hd:decide (wd*ht<=1000)
  ·clear hd;go_wp2_with fail;refine (HAw.out w3 HS3.out.bel).mono ?_;rintro e w4 ⟨rfl,hb4⟩;have HS4:=zAc (HS3.out.upto hb4);clear hb4 HS3;go_wp2_with fail;go_ret;exact ⟨rfl,HS4.out.bel⟩
  ·have Hlt:=zAc (of_decide_eq_true hd);clear hd;obtain ⟨⟨t0,t1⟩,-,-⟩:=id HS3.out.t;go_wp2_with fail;cases hsh:shB c s
   ·have HNw:=zAc (zNk (w:=w3) (v:=ptr p) (a:=wd) (b:=ht) (c:=c) (s:=s) (by rw [hsh,Bool.and_false]) (fun wx q=>zHr (HE3.out.1.kept q)) ⟨_,rfl⟩);have HMy:Hid (∀wx,Calls pg 11 #[shv c s] wx fun e w'=>e = .returned (.bool false)/\Below wx.heap.size wx w'):=zAc fun wx=>zCn wx hsh;clear hsh;refine HNw.out.mono ?_;rintro e w4 ⟨rfl,hb4⟩;have HS4:=zAc (HS3.out.upto hb4);clear hb4 t0 t1 HS3 HNw;obtain ⟨⟨t0,t1⟩,-,-⟩:=id HS4.out.t;go_wp2_with fail;refine (HMy.out w4).mono ?_;rintro e w5 ⟨rfl,hb5⟩;have HS5:=zAc (HS4.out.upto hb5);clear hb5 t0 t1 HS4 HMy;go_wp2_with fail;refine (HAw.out w5 HS5.out.bel).mono ?_;rintro e w6 ⟨rfl,hb6⟩;have HS6:=zAc (HS5.out.upto hb6);clear hb6;go_wp2_with fail;go_ret;exact ⟨rfl,HS6.out.bel⟩
   ·have hS:∀u v,stB wd ht tl (zB4 L) c s u v=true->(0<=u/\u<wd)/\0<=v/\v<ht:=fun u v h=>zSu HWH.out.1 HWH.out.2 u v h;have HNw:=zAc (zKu HE3.out hS hsh (fun wx q=>zNn (HW3.out.1.2.kept q)));have HMy:Hid (∀wx,Calls pg 11 #[shv c s] wx fun e w'=>e = .returned (.bool true)/\Below wx.heap.size wx w'):=zAc fun wx=>zCn wx hsh;have Hsh:=zAc hsh;clear hsh;refine HNw.out.mono ?_;rintro e w4 ⟨gp,wb,eb,rfl,hGO,hb4,-,-,-⟩;have HS4:=zAc (HS3.out.upto hb4);have HW4:=zAc (ai (HE3.out.upto hb4) (HW3.out.2.kept hb4));have HG4:=zAc hGO;clear hb4 t0 t1 HS3 HNw hS HW3 HE3 hGO;obtain ⟨⟨t0,t1⟩,-,-⟩:=id HS4.out.t;go_wp2_with fail;refine (HMy.out w4).mono ?_;rintro e w5 ⟨rfl,hb5⟩;have hd5:Below w5.heap.size w5 w5.drew:=⟨rfl,rfl,rfl,Nat.le_refl _,fun _ _=>rfl⟩
    have hb5d:=bt hb5 hd5;have HS5:=zAc (HS4.out.upto hb5d);obtain ⟨bm,-,-,hpl⟩:=HW4.out.1.six;have HR5:=zAc (HRi'.out w5.drew gp p r wb eb HS5.out.bel Hlt.out Hc.out (HW4.out.1.upto hb5d) (HW4.out.2.kept hb5d) (zU7 HG4.out hb5d hpl) Hsh.out)
    have HG5:Hid (∀wx,Below w5.drew.heap.size w5.drew wx->Gp wx gp p c s 0 wb eb):=zAc fun wx q=>by
     obtain ⟨KW,LW,KE,LE,g1,-⟩:=HG4.out;exact g1.g.upto (bt hb5d q)
    have HK:Hid (∀wx,Below w5.drew.heap.size w5.drew wx->(fun wx:World=>wx.cell? ⟨w.heap.size+1,0,none⟩=some (O ii c)/\wx.cell? ⟨w.heap.size+1,1,none⟩=some (O ii s)) wx):=zAc fun wx q=>(HS5.out.t.kept q).1;have HS:=HK.out _ (Below.refl _ _)
    have hpq:∀wx:World,(binOp .eql 29 (ptr p) (ptr p)).run pg wx = .ok (.bool true) wx:=fun wx=>by
     obtain ⟨j,hj⟩:∃j,pg.info? 101=some j:=Option.isSome_iff_exists.1 (by kernel_rfl);exact run_eql_ptr_same wx ⟨p,0,none⟩ Tryz.underlying29 hj
    clear hb5 t0 t1 HS4 HMy HG4 hb5d hd5;go_wp2_with fail;refine zAp ?_;refine zAg (fun wx:World=>wx.cell? ⟨w.heap.size+1,0,none⟩=some (O ii c)/\wx.cell? ⟨w.heap.size+1,1,none⟩=some (O ii s)) [] (by kernel_rfl) ?_;refine zv 0 6 30 [O ii 0,.bool true,.bool true,ptr gp,ptr r,shv c s] rfl rfl (by kernel_rfl) HS ?_;repeat ((first|refine zo rfl (by rfl) rfl (by rfl) ?_|refine zc rfl (by rfl) (fun wx hx=>by go_simp) ?_);simp only [zp])
    refine zn ?_;refine zw 6 [] (by kernel_rfl) ?_;refine readyZ.callG rfl (by rfl) (zXj (by rfl) (by rfl) (by first|rfl|(simp only [zj];rfl)|simp only [zj])) (HR5.out) ?_ readyZ.nil;rintro e Y1 ⟨rfl,B1⟩;clear HS;have HS:=HK.out Y1 B1;refine ⟨_,rfl,fun _=>HS,?_⟩;try simp only [zp]
    refine zv 7 3 30 [.bool true,.bool true,ptr gp] rfl rfl (by kernel_rfl) HS ?_;repeat ((first|refine zo rfl (by rfl) rfl (by rfl) ?_|refine zc rfl (by rfl) (fun wx hx=>by go_simp) ?_);simp only [zp])
    refine zn ?_;refine zt 11 30 (shv c s) rfl (by kernel_rfl) (by rfl) (fun wx hx=>by go_simp) HS ?_;try simp only [zp]
    refine zw 10 [] (by kernel_rfl) ?_;refine readyZ.callG rfl (by rfl) (zXi (by rfl) (by rfl) (by first|rfl|(simp only [zj];rfl)|simp only [zj])) (zO0 (HG5.out Y1 B1)) ?_ readyZ.nil;rintro e Y2 ⟨rfl,B2'⟩;have B2:=bt B1 B2';clear HS B2';have HS:=HK.out Y2 B2;refine ⟨_,rfl,fun _=>HS,?_⟩;try simp only [zp]
    refine zt 12 30 (.bool true) rfl (by kernel_rfl) (by rfl) (fun wx hx=>zS3 (by rfl) (by rfl) (by rfl)) HS ?_;try simp only [zp]
    refine zv 13 3 30 [.bool true,.bool true,ptr gp] rfl rfl (by kernel_rfl) HS ?_;repeat ((first|refine zo rfl (by rfl) rfl (by rfl) ?_|refine zc rfl (by rfl) (fun wx hx=>by go_simp) ?_);simp only [zp])
    refine zn ?_;refine zm 17 30 (ptr p) rfl (by kernel_rfl) (by rfl) rfl (by rfl) HS ?_;try simp only [zp]
    refine zw 16 [] (by kernel_rfl) ?_;refine readyZ.callG rfl (by rfl) (zXh (by rfl) (by rfl) (by first|rfl|(simp only [zj];rfl)|simp only [zj])) (zOz (HG5.out Y2 B2)) ?_ readyZ.nil;rintro e Y3 ⟨rfl,B3'⟩;have B3:=bt B2 B3';clear HS B3';have HS:=HK.out Y3 B3;refine ⟨_,rfl,fun _=>HS,?_⟩;try simp only [zp]
    refine zt 18 30 (.bool true) rfl (by kernel_rfl) (by rfl) (fun wx hx=>by have hpe:=hpq wx;clear HS;go_simp) HS ?_;try simp only [zp]
    refine zv 19 3 30 [.bool true,.bool true,ptr gp] rfl rfl (by kernel_rfl) HS ?_;repeat ((first|refine zo rfl (by rfl) rfl (by rfl) ?_|refine zc rfl (by rfl) (fun wx hx=>by go_simp) ?_);simp only [zp])
    refine zn ?_;refine zw 22 [] (by kernel_rfl) ?_;refine readyZ.callG rfl (by rfl) (zXg (by rfl) (by rfl) (by first|rfl|(simp only [zj];rfl)|simp only [zj])) (zO1 (HG5.out Y3 B3)) ?_ readyZ.nil;rintro e Y4 ⟨rfl,B4'⟩;have B4:=bt B3 B4';clear HS B4';have HS:=HK.out Y4 B4;refine ⟨_,rfl,fun _=>HS,?_⟩;try simp only [zp]
    refine zv 23 3 30 [.bool true,.bool true,.bool true] rfl rfl (by kernel_rfl) HS ?_;repeat ((first|refine zo rfl (by rfl) rfl (by rfl) ?_|refine zc rfl (by rfl) (fun wx hx=>by go_simp) ?_);simp only [zp])
    refine zn ?_;refine zw 26 [] (by kernel_rfl) ?_;refine readyZ.callG rfl (by rfl) (qAn (by rfl) (by rfl) (by first|rfl|(simp only [zj];rfl)|simp only [zj])) (HAw.out Y4 (bt HS5.out.bel B4)) ?_ readyZ.nil;rintro e Y5 ⟨rfl,B5'⟩;have B5:=bt B4 B5';clear HS B5';have HS:=HK.out Y5 B5;refine ⟨_,rfl,fun _=>HS,?_⟩;try simp only [zp]
    refine zt 27 30 (.bool true) rfl (by kernel_rfl) (by rfl) (fun wx hx=>by go_simp) HS ?_;try simp only [zp]
    refine zt 28 30 (.bool true) rfl (by kernel_rfl) (by rfl) (fun wx hx=>zAo (by rfl) (by rfl)) HS ?_;try simp only [zp]
    refine zAf (by kernel_rfl) ?_ _;dsimp only [zA1,Exit.then];clear HS;have HF:=zAc (bt HS5.out.bel B5);clear HK;go_wp2_with fail;go_ret;exact ⟨rfl,HF.out⟩
end Go.Proofs.YthiafmlgialbnaaGreatDoor
