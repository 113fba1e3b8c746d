import Derived.Test.YthiafmlgialbnaaGreatDoorDP0
set_option linter.all false
set_option maxRecDepth 1000000
set_option maxHeartbeats 64000000
open Go.Proofs.Tryz
open Go.Proofs.Tryz renaming prog->pg
open And renaming intro->ai
open Go.Value renaming int->O
open Go.IntKind renaming i64->ii
namespace Go.Proofs.YthiafmlgialbnaaGreatDoor
open Go.RowKit Go.Shelf
attribute [local go_sem] Oper.semAt_some
theorem zOb:Rcl 95:=zl fun _ _=>by go_simp
theorem Rw.caps {w:World} {g c:Nat} {M:List Q4} (h:Rq 122 w (.slice (some ⟨g,0,none⟩) M.length c) M):M.length<=c/\c<=maxLen:=by
 rcases h.2 with ⟨e,h0⟩|⟨g',cap,cur,e,hb,hg,hn,hm,r⟩
 ·cases e
 ·simp only [Value.slice.injEq] at e;obtain ⟨-,-,rfl⟩:=e;exact ⟨hn,hm⟩
structure Ot (V wr:World) (g c:Nat) (M:List Q4):Prop where
 bl:Below V.heap.size V wr
 row:Rq 122 wr (.slice (some ⟨g,0,none⟩) M.length c) M
 srt:zU6 M
theorem Ot.upto {V wr wx:World} {g c:Nat} {M:List Q4} (h:Ot V wr g c M) (hb:Below wr.heap.size wr wx):Ot V wx g c M:=⟨bt h.bl hb,h.row.upto hb,h.srt⟩
theorem Rw.cons_some {w:World} {v:Value} {A B:List Q4} {t:Q4} (h:Rq 122 w v (A++t::B)):∃g c,v = .slice (some ⟨g,0,none⟩) (A++t::B).length c:=by
 rcases h.2 with ⟨e,h0⟩|⟨g',cap,cur,e,r⟩
 ·simp at h0
 ·exact ⟨_,_,e⟩
theorem zPe {α:Type} {l:List α} {i:Nat} {t:α} (h:l[i]? = some t):l.take (i+1)=l.take i++[t]:=by rw [List.take_add_one,h];rfl
theorem zRk {w:World} {wd ht:Nat} (hd:(1<=wd/\wd<=128)/\1<=ht/\ht<=128) (S:Int->Int->Bool) (a:Option Addr) (n cap:Nat)
 (HBe:∀wx,Below w.heap.size w wx->∀kx ky d,Calls pg 94 #[gdv wd ht (.slice a n cap),cel kx ky,O ii d] wx fun e w'=>∃lv,e = .returned lv/\Rq 122 w' lv (ptQ S wd ht kx ky d)/\Below wx.heap.size wx w'/\∀g,lv.ownBlock=some g->wx.heap.size<=g) :
 Calls pg 62 #[gdv wd ht (.slice a n cap)] w fun e w'=>∃lv M,e = .returned lv/\M.Perm ((kl ((wd-1)/8+1) (((ht-1)/8+1)*((wd-1)/8+1))).flatMap (zDa S wd ht))/\zU6 M/\Rq 122 w' lv M/\Below w.heap.size w w':=by
 obtain ⟨V,hV⟩:=ex (w.alloc (.cells #[O ii (wd:Nat),O ii (ht:Nat),.slice a n cap] 81));have B0:Below w.heap.size w V:=by rw [<-hV];exact zAk _ _
 have GV:GB V w.heap.size wd ht (.slice a n cap):=by rw [<-hV];exact GB.new w wd ht _
 have HK:Hid (∀wx,Below V.heap.size V wx->(fun wx:World=>wx.cell? ⟨w.heap.size,0,none⟩=some (O ii (wd:Nat))/\wx.cell? ⟨w.heap.size,1,none⟩=some (O ii (ht:Nat))/\wx.cell? ⟨w.heap.size,2,none⟩=some (.slice a n cap)) wx):=zAc fun wx q=>⟨(GV.upto q).c.1.1,(GV.upto q).c.1.2,(GV.upto q).c.2⟩
 obtain ⟨aN,haN⟩:∃e,(wd-1)/8+1=e:=⟨_,rfl⟩
 obtain ⟨bN,hbN⟩:∃e,(ht-1)/8+1=e:=⟨_,rfl⟩
 obtain ⟨h1,hh1⟩:∃e,((ht:Nat):Int)-1=e:=⟨_,rfl⟩
 obtain ⟨w1,hw1⟩:∃e,((wd:Nat):Int)-1=e:=⟨_,rfl⟩
 obtain ⟨hb,hhb⟩:∃e,h1/8=e:=⟨_,rfl⟩
 obtain ⟨wb,hwb⟩:∃e,w1/8=e:=⟨_,rfl⟩
 have k1:IntKind.i64.wrap (((ht:Nat):Int)-1)=h1:=by rw [IntKind.wrap_i64];omega
 have k2:IntKind.i64.wrap (((wd:Nat):Int)-1)=w1:=by rw [IntKind.wrap_i64];omega
 have HDh:=zAc (fun wx=>zD4 h1 (zAx (by omega)) wx);have HDw:=zAc (fun wx=>zD4 w1 (zAx (by omega)) wx);rw [hhb] at HDh;rw [hwb] at HDw;have hbe:hb+1=(bN:Nat):=by omega
 have wbe:wb+1=(aN:Nat):=by omega
 have hN16:aN<=16/\bN<=16:=by omega
 rw [haN,hbN];have HBe':=zAc HBe;have HV:=zAc hV;have HB0:=zAc B0
 have hlenK:∀m,m<=bN*aN->((kl aN m).flatMap (zDa S wd ht)).length<=4096:=fun m hm=>by
  have:=zHo S wd ht (kl aN m);have h2:bN*aN<=16*16:=Nat.mul_le_mul hN16.2 hN16.1;rw [show (kl aN m).length=m by simp [kl]] at this;omega
 have HlenK:=zAc hlenK;have E0:=zMg V;have Hbe:=zAc (ai hbe (ai wbe hN16));clear hV B0 GV HBe hh1 hw1 hhb hwb haN hbN hlenK hbe wbe hN16 hd;go_enter func62,ntmps62;go_wp2_with (rw [HV.out]);go_loopw [3,4] (fun u v wr=>∃(y g oc:Nat) (M:List Q4),u = .slice (some ⟨g,0,none⟩) M.length oc/\v = O ii (y:Nat)/\y<=bN/\Ot V wr g oc M/\M.Perm ((kl aN (y*aN)).flatMap (zDa S wd ht))) (fun _ v _=>bN-(intOf v).toNat)
 case atStart=>exact ⟨0,_,0,[],rfl,rfl,Nat.zero_le _,⟨zAk _ _,E0,List.Pairwise.nil⟩,by rw [Nat.zero_mul];exact .refl _⟩
 case round =>
  clear E0;obtain ⟨y,g,oc,M,rfl,rfl,hy,hO,hP⟩:=hrel;rename World=>wy;obtain ⟨c0,c1,c2⟩:=HK.out wy hO.bl;have hbe:=Hbe.out;have HO:=zAc hO;have HP:=zAc hP;clear hO hP
  by_cases hlt:y<bN
  ·have hyI:(0:Int)<=(y:Nat)/\((y:Nat):Int)<=16:=by omega
   have hli:((y:Nat):Int)<=hb:=by omega
   have Hbe2:=zAc hbe;clear hbe;go_wp2_with fail;refine (HDh.out _).mono ?_;rintro e w' ⟨rfl,hw'⟩;have hw2:=hw'.symm;clear hw';subst hw2;clear c0 c1 c2;go_wp2_with fail;go_loopw [3,5] (fun u v wr=>∃(x g oc:Nat) (M:List Q4),u = .slice (some ⟨g,0,none⟩) M.length oc/\v = O ii (x:Nat)/\x<=aN/\Ot V wr g oc M/\M.Perm ((kl aN (y*aN+x)).flatMap (zDa S wd ht))) (fun _ v _=>aN-(intOf v).toNat)
   case atStart=>exact ⟨0,_,_,_,rfl,rfl,Nat.zero_le _,HO.out,HP.out⟩
   case round =>
    clear HO HP;obtain ⟨x,g,oc,M,rfl,rfl,hx,hO,hP⟩:=hrel;rename World=>wx0;obtain ⟨c0,c1,c2⟩:=HK.out wx0 hO.bl;have hbe:=Hbe2.out;have HO:=zAc hO;have HP:=zAc hP;clear hO hP
    by_cases hltx:x<aN
    ·have hxI:(0:Int)<=(x:Nat)/\((x:Nat):Int)<=16:=by omega
     have hlx:((x:Nat):Int)<=wb:=by omega
     clear hbe;go_wp2_with fail;refine (HDw.out _).mono ?_;rintro e w' ⟨rfl,hw'⟩;have hw2:=hw'.symm;clear hw';subst hw2;have HS:(fun wx:World=>wx.cell? ⟨w.heap.size,0,none⟩=some (O ii (wd:Nat))/\wx.cell? ⟨w.heap.size,1,none⟩=some (O ii (ht:Nat))/\wx.cell? ⟨w.heap.size,2,none⟩=some (.slice a n cap)) wx0.drew:=⟨c0,c1,c2⟩
     clear c0 c1 c2;go_wp2_with fail;refine zAp ?_;refine zAg (fun wx:World=>wx.cell? ⟨w.heap.size,0,none⟩=some (O ii (wd:Nat))/\wx.cell? ⟨w.heap.size,1,none⟩=some (O ii (ht:Nat))/\wx.cell? ⟨w.heap.size,2,none⟩=some (.slice a n cap)) [] (by kernel_rfl) ?_;refine zv 0 4 30 [gdv wd ht (.slice a n cap),O ii (x:Nat),O ii (y:Nat),cel (x:Nat) (y:Nat)] rfl rfl (by kernel_rfl) HS ?_;repeat (refine zc rfl (by rfl) (fun wx hx=>by go_simp) ?_;simp only [zp])
     refine zn ?_;refine zv 5 4 30 [gdv wd ht (.slice a n cap),O ii (x:Nat),O ii (y:Nat),cel (x:Nat) (y:Nat)] rfl rfl (by kernel_rfl) HS ?_;repeat (refine zc rfl (by rfl) (fun wx hx=>by go_simp) ?_;simp only [zp])
     refine zn ?_;refine zw 4 [] (by kernel_rfl) ?_;refine readyZ.call rfl rfl (zH2 (by rfl) (by rfl) (by simp only [zj];rfl)) (HBe'.out _ (bt HB0.out (Below.drew HO.out.bl)) (x:Nat) (y:Nat) 0) ?_ readyZ.nil;rintro e Y1 ⟨lv1,rfl,row1,hbY1',hown1⟩;have hbY1:Below wx0.heap.size wx0 Y1:=Below.trans (Below.drew (Below.refl wx0.heap.size wx0)) hbY1';have HS1:=HK.out _ (bt HO.out.bl hbY1);refine ⟨_,rfl,fun _=>HS1,?_⟩;try simp only [zp]
     refine zw 9 [] (by kernel_rfl) ?_;refine readyZ.call rfl rfl (zH2 (by rfl) (by rfl) (by simp only [zj];rfl)) (HBe'.out _ (bt HB0.out (bt HO.out.bl hbY1)) (x:Nat) (y:Nat) 1) ?_ readyZ.nil;rintro e Y2 ⟨lv2,rfl,row2,hbY2,-⟩;have HS2:=HK.out _ (bt HO.out.bl (bt hbY1 hbY2));refine ⟨_,rfl,fun _=>HS2,?_⟩;try simp only [zp]
     have hown1':=hown1;obtain ⟨v3,Y3,rA,rR,rO,rT⟩:=(row1.upto hbY2).add row2 (by have:=zFk S wd ht (x:Nat) (y:Nat) 0;have:=zFk S wd ht (x:Nat) (y:Nat) 1;omega);have hbY3:Below wx0.heap.size wx0 Y3:=(bt hbY1 hbY2).trans (rT.below (fun j e=>hown1 j e) (bt hbY1 hbY2).size);obtain ⟨PL,hPL⟩:=ex (ptQ S wd ht (x:Nat) (y:Nat) 0++ptQ S wd ht (x:Nat) (y:Nat) 1);have hPLn:PL.length<=16:=by rw [<-hPL,List.length_append];have:=zFk S wd ht (x:Nat) (y:Nat) 0;have:=zFk S wd ht (x:Nat) (y:Nat) 1;omega
     rw [hPL] at rR;obtain ⟨la,lc,hlv⟩:=rR.slice4;subst hlv;have HS3:=HK.out _ (bt HO.out.bl hbY3);refine zq 10 (by kernel_rfl) rfl rfl (zAj (by rfl) (by rfl) (by rfl) rA) (fun _=>HS3) ?_;try simp only [zp]
     refine zq 11 (by kernel_rfl) rfl rfl (v':=.slice la PL.length lc) (w':=Y3) (zAo (by rfl) (by rfl)) (fun _=>HS3) ?_;try simp only [zp]
     refine zAf (by kernel_rfl) ?_ _;dsimp only [zA1,Exit.then];have HlR:=zAc rR;have HO3:=zAc (HO.out.upto hbY3);have Hnx:Hid ((kl aN (y*aN+(x+1))).flatMap (zDa S wd ht)=(kl aN (y*aN+x)).flatMap (zDa S wd ht)++PL):=zAc (by rw [<-Nat.add_assoc,qC6 hltx,List.flatMap_append,<-hPL];simp [zDa]);have Hln:Hid (((kl aN (y*aN+x)).flatMap (zDa S wd ht)).length<=4096):=zAc (HlenK.out _ (by have:(y+1)*aN<=bN*aN:=Nat.mul_le_mul_right aN hlt;rw [Nat.succ_mul] at this;omega));have HP3:=HP;obtain ⟨base,hbase⟩:=ex ((kl aN (y*aN+x)).flatMap (zDa S wd ht));rw [hbase] at HP3 Hnx Hln;have hPI:(0:Int)<=(PL.length:Nat)/\((PL.length:Nat):Int)<=16:=by omega
     clear HS HS1 HS2 HS3 row1 row2 hbY1 hbY1' hbY2 hbY3 rA rR rO rT hown1 hown1' hPL hbase HO HP;go_wp2_with fail;go_loopw [3,7] (fun u v wr=>∃(i g oc:Nat) (M:List Q4),u = .slice (some ⟨g,0,none⟩) M.length oc/\v = O ii (i:Nat)/\i<=PL.length/\Ot V wr g oc M/\M.Perm (base++PL.take i)/\Below Y3.heap.size Y3 wr) (fun _ v _=>PL.length-(intOf v).toNat)
     case atStart=>exact ⟨0,_,_,_,rfl,rfl,Nat.zero_le _,HO3.out,by rw [List.take_zero,List.append_nil];exact HP3.out,Below.refl _ _⟩
     case round =>
      clear HO3 HP3;obtain ⟨i,g,oc,M,rfl,rfl,hi,hO,hPi,hYi⟩:=hrel;rename World=>wi
      by_cases hlti:i<PL.length
      ·have hiI:(0:Int)<=(i:Nat)/\((i:Nat):Int)<=16:=by omega
       have hlii:((i:Nat):Int)<(PL.length:Nat):=by omega
       have hlt2:i+1<=PL.length:=hlti;have hti:PL[i]? = some PL[i]:=List.getElem?_eq_getElem hlti;obtain ⟨t,ht'⟩:∃t,PL[i]=t:=⟨_,rfl⟩
       rw [ht'] at hti;obtain ⟨tx,ty,ta,tb⟩:=t;obtain ⟨gl,hgl,-,-⟩:=HlR.out.atq hti;subst hgl
       have HSl:Hid (∀Y:World,Below Y3.heap.size Y3 Y->(fun wx:World=>wx.cell? ⟨gl,i*4,none⟩=some (O ii tx)/\wx.cell? ⟨gl,i*4+1,none⟩=some (O ii ty)/\wx.cell? ⟨gl,i*4+2,none⟩=some (O ii ta)/\wx.cell? ⟨gl,i*4+3,none⟩=some (O ii tb)) Y):=zAc fun Y q=>by
        obtain ⟨g',e',-,⟨z0,z1,z2,z3⟩,-⟩:=(HlR.out.upto q).atq hti;cases e';exact ⟨z0,z1,z2,z3⟩
       have HTk:=zAc (zPe hti);have HMl:Hid (M.length<=5000):=zAc (by have:=hPi.length_eq;rw [List.length_append,List.length_take] at this;have:=Hln.out;omega);have hMI:(0:Int)<=(M.length:Nat)/\((M.length:Nat):Int)<=5000:=by have:=HMl.out;omega
       obtain ⟨M',hM'⟩:∃M',M'=M:=⟨_,rfl⟩
       have HOi:=zAc hO;have HPi:=zAc hPi;have HYi:=zAc hYi;clear hO hPi hYi ht' hti hM';go_wp2_with fail;go_loopw [8] (fun v wr=>∃k:Nat,v = O ii (k:Nat)/\k<=M.length/\(∀a∈M.take k,klt a ⟨tx,ty,ta,tb⟩)/\Below wi.heap.size wi wr) (fun v _=>M.length-(intOf v).toNat)
       case atStart=>exact ⟨0,rfl,Nat.zero_le _,(fun a h=>by rw [List.take_zero] at h;cases h),Below.refl _ _⟩
       case round =>
        obtain ⟨k,rfl,hk,hkl,hbk⟩:=hrel;rename World=>Z0;have hkI:(0:Int)<=(k:Nat)/\((k:Nat):Int)<=5000:=by omega
        have HKl:=zAc hkl;have Hk:=zAc hk;obtain ⟨M3,hM3⟩:=ex (M.take k++(⟨tx,ty,ta,tb⟩:Q4)::M.drop k);have HM3:=zAc hM3;clear hkl hM3
        by_cases hltk:k<M.length
        ·have hlk:((k:Nat):Int)<(M.length:Nat):=by omega
         have hmk:M[k]? = some M[k]:=List.getElem?_eq_getElem hltk;obtain ⟨m,hm'⟩:∃m,M[k]=m:=⟨_,rfl⟩
         rw [hm'] at hmk;obtain ⟨mx,my,ma,mb⟩:=m;obtain ⟨g',e',-,⟨z0,z1,z2,z3⟩,-⟩:=(HOi.out.row.upto hbk).atq hmk;cases e';have HS:(fun wx:World=>(wx.cell? ⟨g,k*4,none⟩=some (O ii mx)/\wx.cell? ⟨g,k*4+1,none⟩=some (O ii my)/\wx.cell? ⟨g,k*4+2,none⟩=some (O ii ma)/\wx.cell? ⟨g,k*4+3,none⟩=some (O ii mb))/\wx.cell? ⟨gl,i*4,none⟩=some (O ii tx)/\wx.cell? ⟨gl,i*4+1,none⟩=some (O ii ty)/\wx.cell? ⟨gl,i*4+2,none⟩=some (O ii ta)/\wx.cell? ⟨gl,i*4+3,none⟩=some (O ii tb)) Z0.drew:=⟨⟨z0,z1,z2,z3⟩,HSl.out Z0 (bt HYi.out hbk)⟩
         have HLe:=zAc (fun wx=>qBl ⟨mx,my,ma,mb⟩ ⟨tx,ty,ta,tb⟩ wx);obtain ⟨bq,hbq⟩:∃b,qBm ⟨mx,my,ma,mb⟩ ⟨tx,ty,ta,tb⟩=b:=⟨_,rfl⟩
         rw [hbq] at HLe;have Hbq:=zAc hbq;have Hmk:=zAc hmk;have Hbk:=zAc hbk;clear z0 z1 z2 z3 hmk hm' hbq hbk;go_wp2_with fail;refine zAp ?_;refine zAg (fun wx:World=>(wx.cell? ⟨g,k*4,none⟩=some (O ii mx)/\wx.cell? ⟨g,k*4+1,none⟩=some (O ii my)/\wx.cell? ⟨g,k*4+2,none⟩=some (O ii ma)/\wx.cell? ⟨g,k*4+3,none⟩=some (O ii mb))/\wx.cell? ⟨gl,i*4,none⟩=some (O ii tx)/\wx.cell? ⟨gl,i*4+1,none⟩=some (O ii ty)/\wx.cell? ⟨gl,i*4+2,none⟩=some (O ii ta)/\wx.cell? ⟨gl,i*4+3,none⟩=some (O ii tb)) [] (by kernel_rfl) ?_;refine zv 0 13 30 [O ii (k:Nat),.slice (some ⟨g,0,none⟩) M.length oc,O ii (M.length:Nat),.bool true,.bool true,.slice (some ⟨g,0,none⟩) M.length oc,O ii (k:Nat),.pointer (some ⟨g,k*4,none⟩),rct mx my ma mb,.slice (some ⟨gl,0,none⟩) PL.length lc,O ii (i:Nat),.pointer (some ⟨gl,i*4,none⟩),rct tx ty ta tb] rfl rfl (by kernel_rfl) HS ?_;repeat (refine zc rfl (by rfl) (fun wx hx=>by go_simp) ?_;simp only [zp])
         refine zn ?_;refine zw 13 [] (by kernel_rfl) ?_;refine readyZ.callG rfl (by rfl) (zOb (by rfl) (by rfl) (by simp only [zj];rfl)) (HLe.out _) ?_ readyZ.nil;rintro e Z ⟨rfl,hbZ'⟩;have hbZ:Below wi.heap.size wi Z:=bt Hbk.out (Below.trans (Below.drew (Below.refl Z0.heap.size Z0)) hbZ')
         have HSz:(fun wx:World=>(wx.cell? ⟨g,k*4,none⟩=some (O ii mx)/\wx.cell? ⟨g,k*4+1,none⟩=some (O ii my)/\wx.cell? ⟨g,k*4+2,none⟩=some (O ii ma)/\wx.cell? ⟨g,k*4+3,none⟩=some (O ii mb))/\wx.cell? ⟨gl,i*4,none⟩=some (O ii tx)/\wx.cell? ⟨gl,i*4+1,none⟩=some (O ii ty)/\wx.cell? ⟨gl,i*4+2,none⟩=some (O ii ta)/\wx.cell? ⟨gl,i*4+3,none⟩=some (O ii tb)) Z:=by
          obtain ⟨g',e',-,⟨z0,z1,z2,z3⟩,-⟩:=(HOi.out.row.upto hbZ).atq Hmk.out;cases e';exact ⟨⟨z0,z1,z2,z3⟩,HSl.out Z (bt HYi.out hbZ)⟩
         refine ⟨_,rfl,fun _=>HSz,?_⟩;try simp only [zp]
         refine zt 14 30 (.bool bq) rfl (by kernel_rfl) (by rfl) (fun wx hx=>by go_simp) HSz ?_;try simp only [zp]
         refine zAf (by kernel_rfl) ?_ _;dsimp only [zA1,Exit.then];have HbZ:=zAc hbZ;clear HS HSz hbZ hbZ' HLe Hbk;cases bq
         ·have hk2:∀q r,M.drop k=q::r->¬klt q ⟨tx,ty,ta,tb⟩:=fun q r e hq=>by
           have h1:(M.drop k)[0]? = M[k]? := by rw [List.getElem?_drop,Nat.add_zero]
           rw [e,Hmk.out] at h1;simp at h1;subst h1;have:=(zNe _ _).2 hq;rw [Hbq.out] at this;cases this
          have HOz:=zAc (HOi.out.upto HbZ.out);have HYz:=zAc (bt HYi.out HbZ.out);clear Hmk Hbq HbZ HOi HYi
          have HMs:Hid (zU6 M3/\M3.Perm (base++PL.take (i+1))):=zAc ⟨by rw [<-HM3.out];exact zQb HOz.out.srt HKl.out hk2,by
           rw [<-HM3.out];refine (zM3 M ⟨tx,ty,ta,tb⟩ k).trans ?_;rw [HTk.out,<-List.append_assoc]
           exact HPi.out.append_right _⟩
          have hRd:Rq 122 Z.drew (.slice (some ⟨g,0,none⟩) M.length oc) M:=HOz.out.row;have Hcap:=zAc hRd.caps;have hSof:Hid (∀Y:World,Below Z.drew.heap.size Z.drew Y->(fun wx:World=>wx.cell? ⟨gl,i*4,none⟩=some (O ii tx)/\wx.cell? ⟨gl,i*4+1,none⟩=some (O ii ty)/\wx.cell? ⟨gl,i*4+2,none⟩=some (O ii ta)/\wx.cell? ⟨gl,i*4+3,none⟩=some (O ii tb)) Y):=zAc fun Y q=>HSl.out Y (bt HYz.out (Below.trans (Below.drew (Below.refl Z.heap.size Z)) q));have hMl:=HMl.out;have E1:=Pw.empty (Below.refl Z.drew.heap.size Z.drew);obtain ⟨vA,WA,rA,uA,oA,gA⟩:=(hRd.upto E1.below).app_lo E1.us k Hk.out (by simp;omega);have pA:=E1.step uA gA oA;rw [List.nil_append] at pA;have pA2:=pA.alloc (.cells #[O ii tx,O ii ty,O ii ta,O ii tb] 122);obtain ⟨v2A,W2A,v3A,W3A,r2A,r3A,b2A,p3A⟩:=zD2 (t:=⟨tx,ty,ta,tb⟩) hRd pA2 (Lone.new WA ⟨tx,ty,ta,tb⟩) Hk.out Hcap.out.1 (by omega);have E2:=E1.alloc (.cells #[O ii tx,O ii ty,O ii ta,O ii tb] 122);obtain ⟨vB,WB,rB,uB,oB,gB⟩:=(hRd.upto E2.below).app_lo E2.us k Hk.out (by simp;omega);have pB:=E2.step uB gB oB;rw [List.nil_append] at pB;obtain ⟨v2B,W2B,v3B,W3B,r2B,r3B,b2B,p3B⟩:=zD2 (t:=⟨tx,ty,ta,tb⟩) hRd pB ((Lone.new (Z.drew.alloc (.cells #[] 122)) ⟨tx,ty,ta,tb⟩).turned gB (by simp [Value.ownBlock])) Hk.out Hcap.out.1 (by omega);have B2:Below Z.drew.heap.size Z.drew (Z.drew.alloc (.cells #[O ii tx,O ii ty,O ii ta,O ii tb] 122)):=zAk _ _;have E3:=Pw.empty B2;obtain ⟨vC,WC,rC,uC,oC,gC⟩:=(hRd.upto E3.below).app_lo E3.us k Hk.out (by simp;omega);have pC:=E3.step uC gC oC;rw [List.nil_append] at pC;obtain ⟨v2C,W2C,v3C,W3C,r2C,r3C,b2C,p3C⟩:=zD2 (t:=⟨tx,ty,ta,tb⟩) hRd pC (((Lone.new Z.drew ⟨tx,ty,ta,tb⟩).alloc (.cells #[] 122)).turned gC (by simp [Value.ownBlock])) Hk.out Hcap.out.1 (by omega);obtain ⟨had,hha⟩:∃ad:Addr,(if oc=k then (⟨g,0,none⟩:Addr) else ⟨g,k*4,none⟩)=ad:=⟨_,rfl⟩
          rw [hha] at r3A r3B r3C;have Hha:=zAc hha;clear hha;have b1:=zAc E1.below;have bA:=zAc pA.below;have bA2:=zAc pA2.below;have b12:=zAc E2.below;have bB:=zAc pB.below;have b2:=zAc B2;have b21:=zAc E3.below;have bC:=zAc pC.below
          replace rA:=zAc rA
          replace rB:=zAc rB
          replace rC:=zAc rC
          replace r2A:=zAc r2A
          replace r2B:=zAc r2B
          replace r2C:=zAc r2C
          replace r3A:=zAc r3A
          replace r3B:=zAc r3B
          replace r3C:=zAc r3C
          replace b2A:=zAc b2A
          replace b2B:=zAc b2B
          replace b2C:=zAc b2C
          replace p3A:=zAc p3A
          replace p3B:=zAc p3B
          replace p3C:=zAc p3C
          clear E1 E2 E3 B2 uA uB uC gA gB gC oA oB oC pA pA2 pB pC hRd;clear hMl hk2 HKl HTk HPi;go_wp2_with fail;refine zAp ?_;refine zAg (fun wx:World=>wx.cell? ⟨gl,i*4,none⟩=some (O ii tx)/\wx.cell? ⟨gl,i*4+1,none⟩=some (O ii ty)/\wx.cell? ⟨gl,i*4+2,none⟩=some (O ii ta)/\wx.cell? ⟨gl,i*4+3,none⟩=some (O ii tb)) [] (by kernel_rfl) ?_;refine zv 1 2 40 [.slice (some ⟨g,0,none⟩) M.length oc,O ii (k:Nat)] rfl rfl (by kernel_rfl) (hSof.out _ (Below.refl _ _)) ?_;repeat (refine zc rfl (by rfl) (fun wx hx=>by go_simp) ?_;simp only [zp])
          refine zn ?_;refine zt 3 40 (.slice (some ⟨g,0,none⟩) k oc) rfl (by kernel_rfl) (by rfl) (fun wx hx=>zJ4 (by rfl) (by rfl) (by rfl) (Nat.le_trans Hk.out Hcap.out.1) Hcap.out.2) (hSof.out _ (Below.refl _ _)) ?_;try simp only [zp]
          refine zv 5 4 40 [.slice (some ⟨gl,0,none⟩) PL.length lc,O ii (i:Nat),.pointer (some ⟨gl,i*4,none⟩),rct tx ty ta tb] rfl rfl (by kernel_rfl) (hSof.out _ (Below.refl _ _)) ?_;repeat (refine zc rfl (by rfl) (fun wx hx=>by go_simp) ?_;simp only [zp])
          refine zn ?_;refine zv 11 2 40 [.slice (some ⟨g,0,none⟩) M.length oc,O ii (k:Nat)] rfl rfl (by kernel_rfl) (hSof.out _ (Below.refl _ _)) ?_;repeat (refine zc rfl (by rfl) (fun wx hx=>by go_simp) ?_;simp only [zp])
          refine zn ?_;refine zt 13 40 (.slice (some had) (M.length-k) (oc-k)) rfl (by kernel_rfl) (by rfl) (fun wx hx=>(by rw [<-Hha.out];exact zH3 (by rfl) (by rfl) (by rfl) Hk.out Hcap.out.1 Hcap.out.2)) (hSof.out _ (Below.refl _ _)) ?_;try simp only [zp]
          refine zw 0 [9] (by kernel_rfl) ?_;refine readyZ.cons rfl rfl (zEw (by rfl)) (fun _=>hSof.out _ b1.out) ?_ ?_
          ·try simp only [zp]
           refine zw 4 [9] (by kernel_rfl) ?_;refine readyZ.cons rfl rfl (zAj (by rfl) (by rfl) (by rfl) rA.out) (fun _=>hSof.out _ bA.out) ?_ ?_
           ·try simp only [zp]
            refine zq 9 (by kernel_rfl) rfl rfl (zCe (by rfl) (by rfl)) (fun _=>hSof.out _ bA2.out) ?_;try simp only [zp]
            refine zq 10 (by kernel_rfl) rfl rfl (zAj (by rfl) (by rfl) (by rfl) r2A.out) (fun _=>hSof.out _ b2A.out) ?_;try simp only [zp]
            refine zq 14 (by kernel_rfl) rfl rfl (zAj (by rfl) (by rfl) (by rfl) r3A.out) (fun _=>hSof.out _ p3A.out.below) ?_;try simp only [zp]
            refine zq 15 (by kernel_rfl) rfl rfl (v':=v3A) (w':=W3A) (zAo (by rfl) (by rfl)) (fun _=>hSof.out _ p3A.out.below) ?_;try simp only [zp]
            refine zAf (by kernel_rfl) ?_ _;dsimp only [zA1,Exit.then];obtain ⟨g3,c3,hv3⟩:=p3A.out.us.cons_some;rw [HM3.out] at p3A hv3;subst hv3;have HE:Hid (∃(i' g' oc':Nat) (M':List Q4),(Value.slice (some ⟨g3,0,none⟩) M3.length c3) = .slice (some ⟨g',0,none⟩) M'.length oc'/\(Value.int .i64 (((i:Nat):Int)+1)) = O ii (i':Nat)/\i'<=PL.length/\Ot V W3A g' oc' M'/\M'.Perm (base++PL.take i')/\Below Y3.heap.size Y3 W3A):=zAc ⟨i+1,g3,c3,M3,rfl,by push_cast;rfl,hlt2,⟨bt HOz.out.bl (Below.trans (Below.drew (Below.refl Z.heap.size Z)) p3A.out.below),p3A.out.us,HMs.out.1⟩,HMs.out.2,bt HYz.out (Below.trans (Below.drew (Below.refl Z.heap.size Z)) p3A.out.below)⟩;clear b1 bA bA2 b12 bB b2 b21 bC rA rB rC r2A r2B r2C r3A r3B r3C b2A b2B b2C p3A p3B p3C hSof HM3 HMs HOz HYz Hk Hcap Hha;go_wp2_with fail;go_roundw
            case rel=>first|exact HE.out|(obtain ⟨i',g',oc',M',h1,h2,h3⟩:=HE.out;simp only [Value.slice.injEq,Option.some.injEq,Addr.mk.injEq,and_true,Value.int.injEq,true_and] at h1 h2;exact ⟨i',g',oc',M',h1,h2,h3⟩)
            case measure=>simp [intOf];omega
           ·refine readyZ.cons rfl rfl (zCe (by rfl) (by rfl)) (fun _=>hSof.out _ b12.out) ?_ readyZ.nil;try simp only [zp]
            refine zq 4 (by kernel_rfl) rfl rfl (zAj (by rfl) (by rfl) (by rfl) rB.out) (fun _=>hSof.out _ bB.out) ?_;try simp only [zp]
            refine zq 10 (by kernel_rfl) rfl rfl (zAj (by rfl) (by rfl) (by rfl) r2B.out) (fun _=>hSof.out _ b2B.out) ?_;try simp only [zp]
            refine zq 14 (by kernel_rfl) rfl rfl (zAj (by rfl) (by rfl) (by rfl) r3B.out) (fun _=>hSof.out _ p3B.out.below) ?_;try simp only [zp]
            refine zq 15 (by kernel_rfl) rfl rfl (v':=v3B) (w':=W3B) (zAo (by rfl) (by rfl)) (fun _=>hSof.out _ p3B.out.below) ?_;try simp only [zp]
            refine zAf (by kernel_rfl) ?_ _;dsimp only [zA1,Exit.then];obtain ⟨g3,c3,hv3⟩:=p3B.out.us.cons_some;rw [HM3.out] at p3B hv3;subst hv3;have HE:Hid (∃(i' g' oc':Nat) (M':List Q4),(Value.slice (some ⟨g3,0,none⟩) M3.length c3) = .slice (some ⟨g',0,none⟩) M'.length oc'/\(Value.int .i64 (((i:Nat):Int)+1)) = O ii (i':Nat)/\i'<=PL.length/\Ot V W3B g' oc' M'/\M'.Perm (base++PL.take i')/\Below Y3.heap.size Y3 W3B):=zAc ⟨i+1,g3,c3,M3,rfl,by push_cast;rfl,hlt2,⟨bt HOz.out.bl (Below.trans (Below.drew (Below.refl Z.heap.size Z)) p3B.out.below),p3B.out.us,HMs.out.1⟩,HMs.out.2,bt HYz.out (Below.trans (Below.drew (Below.refl Z.heap.size Z)) p3B.out.below)⟩;clear b1 bA bA2 b12 bB b2 b21 bC rA rB rC r2A r2B r2C r3A r3B r3C b2A b2B b2C p3A p3B p3C hSof HM3 HMs HOz HYz Hk Hcap Hha;go_wp2_with fail;go_roundw
            case rel=>first|exact HE.out|(obtain ⟨i',g',oc',M',h1,h2,h3⟩:=HE.out;simp only [Value.slice.injEq,Option.some.injEq,Addr.mk.injEq,and_true,Value.int.injEq,true_and] at h1 h2;exact ⟨i',g',oc',M',h1,h2,h3⟩)
            case measure=>simp [intOf];omega
          ·refine readyZ.cons rfl rfl (zCe (by rfl) (by rfl)) (fun _=>hSof.out _ b2.out) ?_ readyZ.nil;try simp only [zp]
           refine zq 0 (by kernel_rfl) rfl rfl (zEw (by rfl)) (fun _=>hSof.out _ b21.out) ?_;try simp only [zp]
           refine zq 4 (by kernel_rfl) rfl rfl (zAj (by rfl) (by rfl) (by rfl) rC.out) (fun _=>hSof.out _ bC.out) ?_;try simp only [zp]
           refine zq 10 (by kernel_rfl) rfl rfl (zAj (by rfl) (by rfl) (by rfl) r2C.out) (fun _=>hSof.out _ b2C.out) ?_;try simp only [zp]
           refine zq 14 (by kernel_rfl) rfl rfl (zAj (by rfl) (by rfl) (by rfl) r3C.out) (fun _=>hSof.out _ p3C.out.below) ?_;try simp only [zp]
           refine zq 15 (by kernel_rfl) rfl rfl (v':=v3C) (w':=W3C) (zAo (by rfl) (by rfl)) (fun _=>hSof.out _ p3C.out.below) ?_;try simp only [zp]
           refine zAf (by kernel_rfl) ?_ _;dsimp only [zA1,Exit.then];obtain ⟨g3,c3,hv3⟩:=p3C.out.us.cons_some;rw [HM3.out] at p3C hv3;subst hv3;have HE:Hid (∃(i' g' oc':Nat) (M':List Q4),(Value.slice (some ⟨g3,0,none⟩) M3.length c3) = .slice (some ⟨g',0,none⟩) M'.length oc'/\(Value.int .i64 (((i:Nat):Int)+1)) = O ii (i':Nat)/\i'<=PL.length/\Ot V W3C g' oc' M'/\M'.Perm (base++PL.take i')/\Below Y3.heap.size Y3 W3C):=zAc ⟨i+1,g3,c3,M3,rfl,by push_cast;rfl,hlt2,⟨bt HOz.out.bl (Below.trans (Below.drew (Below.refl Z.heap.size Z)) p3C.out.below),p3C.out.us,HMs.out.1⟩,HMs.out.2,bt HYz.out (Below.trans (Below.drew (Below.refl Z.heap.size Z)) p3C.out.below)⟩;clear b1 bA bA2 b12 bB b2 b21 bC rA rB rC r2A r2B r2C r3A r3B r3C b2A b2B b2C p3A p3B p3C hSof HM3 HMs HOz HYz Hk Hcap Hha;go_wp2_with fail;go_roundw
           case rel=>first|exact HE.out|(obtain ⟨i',g',oc',M',h1,h2,h3⟩:=HE.out;simp only [Value.slice.injEq,Option.some.injEq,Addr.mk.injEq,and_true,Value.int.injEq,true_and] at h1 h2;exact ⟨i',g',oc',M',h1,h2,h3⟩)
           case measure=>simp [intOf];omega
         ·have HE:Hid (∃k':Nat,(Value.int .i64 (((k:Nat):Int)+1)) = O ii (k':Nat)/\k'<=M.length/\(∀a∈M.take k',klt a ⟨tx,ty,ta,tb⟩)/\Below wi.heap.size wi Z):=zAc ⟨k+1,by push_cast;rfl,hltk,(fun a ha=>by
           rw [zPe Hmk.out] at ha;rcases List.mem_append.1 ha with ha|ha
           ·exact HKl.out a ha
           ·simp at ha;subst ha
            exact (zNe _ _).1 Hbq.out),HbZ.out⟩
          clear Hmk Hbq HbZ;go_wp2_with fail;go_roundw
          case rel=>exact HE.out
          case measure=>simp [intOf];omega
        ·have hlk:¬((k:Nat):Int)<(M.length:Nat):=by omega
         have hlk':decide (((k:Nat):Int)<(M.length:Nat))=false:=decide_eq_false hlk
         have hk2:∀q r,M.drop k=q::r->¬klt q ⟨tx,ty,ta,tb⟩:=fun q r e=>by
          rw [List.drop_eq_nil_of_le (by omega)] at e;cases e
         have HS:(fun wx:World=>True) Z0.drew:=trivial;have Hbk:=zAc hbk;clear hbk;go_wp2_with fail;refine zAp ?_;refine zAg (fun wx:World=>True) [] (by kernel_rfl) ?_;refine zv 0 5 30 [O ii (k:Nat),.slice (some ⟨g,0,none⟩) M.length oc,O ii (M.length:Nat),.bool false,.bool false] rfl rfl (by kernel_rfl) HS ?_;repeat (refine zc rfl (by rfl) (fun wx hx=>by go_simp) ?_;simp only [zp])
         refine zn ?_;refine zu 5 30 rfl (by kernel_rfl) (by rfl) HS ?_;try simp only [zp]
         refine zu 6 30 rfl (by kernel_rfl) (by rfl) HS ?_;try simp only [zp]
         refine zu 7 30 rfl (by kernel_rfl) (by rfl) HS ?_;try simp only [zp]
         refine zu 8 30 rfl (by kernel_rfl) (by rfl) HS ?_;try simp only [zp]
         refine zu 9 30 rfl (by kernel_rfl) (by rfl) HS ?_;try simp only [zp]
         refine zu 10 30 rfl (by kernel_rfl) (by rfl) HS ?_;try simp only [zp]
         refine zu 11 30 rfl (by kernel_rfl) (by rfl) HS ?_;try simp only [zp]
         refine zu 12 30 rfl (by kernel_rfl) (by rfl) HS ?_;try simp only [zp]
         refine zu 13 30 rfl (by kernel_rfl) (by rfl) HS ?_;try simp only [zp]
         refine zt 14 30 (.bool false) rfl (by kernel_rfl) (by rfl) (fun wx hx=>by go_simp) HS ?_;try simp only [zp]
         refine zAf (by kernel_rfl) ?_ _;dsimp only [zA1,Exit.then];obtain ⟨Z,hZ⟩:=ex (Z0.drew);have hbZ:Below wi.heap.size wi Z:=by rw [<-hZ];exact Below.drew Hbk.out
         have HOz:=zAc (HOi.out.upto hbZ);have HYz:=zAc (bt HYi.out hbZ);rw [hZ];clear HS Hbk hbZ HOi HYi hZ hlk'
         have HMs:Hid (zU6 M3/\M3.Perm (base++PL.take (i+1))):=zAc ⟨by rw [<-HM3.out];exact zQb HOz.out.srt HKl.out hk2,by
          rw [<-HM3.out];refine (zM3 M ⟨tx,ty,ta,tb⟩ k).trans ?_;rw [HTk.out,<-List.append_assoc]
          exact HPi.out.append_right _⟩
         have hRd:Rq 122 Z.drew (.slice (some ⟨g,0,none⟩) M.length oc) M:=HOz.out.row;have Hcap:=zAc hRd.caps;have hSof:Hid (∀Y:World,Below Z.drew.heap.size Z.drew Y->(fun wx:World=>wx.cell? ⟨gl,i*4,none⟩=some (O ii tx)/\wx.cell? ⟨gl,i*4+1,none⟩=some (O ii ty)/\wx.cell? ⟨gl,i*4+2,none⟩=some (O ii ta)/\wx.cell? ⟨gl,i*4+3,none⟩=some (O ii tb)) Y):=zAc fun Y q=>HSl.out Y (bt HYz.out (Below.trans (Below.drew (Below.refl Z.heap.size Z)) q));have hMl:=HMl.out;have E1:=Pw.empty (Below.refl Z.drew.heap.size Z.drew);obtain ⟨vA,WA,rA,uA,oA,gA⟩:=(hRd.upto E1.below).app_lo E1.us k Hk.out (by simp;omega);have pA:=E1.step uA gA oA;rw [List.nil_append] at pA;have pA2:=pA.alloc (.cells #[O ii tx,O ii ty,O ii ta,O ii tb] 122);obtain ⟨v2A,W2A,v3A,W3A,r2A,r3A,b2A,p3A⟩:=zD2 (t:=⟨tx,ty,ta,tb⟩) hRd pA2 (Lone.new WA ⟨tx,ty,ta,tb⟩) Hk.out Hcap.out.1 (by omega);have E2:=E1.alloc (.cells #[O ii tx,O ii ty,O ii ta,O ii tb] 122);obtain ⟨vB,WB,rB,uB,oB,gB⟩:=(hRd.upto E2.below).app_lo E2.us k Hk.out (by simp;omega);have pB:=E2.step uB gB oB;rw [List.nil_append] at pB;obtain ⟨v2B,W2B,v3B,W3B,r2B,r3B,b2B,p3B⟩:=zD2 (t:=⟨tx,ty,ta,tb⟩) hRd pB ((Lone.new (Z.drew.alloc (.cells #[] 122)) ⟨tx,ty,ta,tb⟩).turned gB (by simp [Value.ownBlock])) Hk.out Hcap.out.1 (by omega);have B2:Below Z.drew.heap.size Z.drew (Z.drew.alloc (.cells #[O ii tx,O ii ty,O ii ta,O ii tb] 122)):=zAk _ _;have E3:=Pw.empty B2;obtain ⟨vC,WC,rC,uC,oC,gC⟩:=(hRd.upto E3.below).app_lo E3.us k Hk.out (by simp;omega);have pC:=E3.step uC gC oC;rw [List.nil_append] at pC;obtain ⟨v2C,W2C,v3C,W3C,r2C,r3C,b2C,p3C⟩:=zD2 (t:=⟨tx,ty,ta,tb⟩) hRd pC (((Lone.new Z.drew ⟨tx,ty,ta,tb⟩).alloc (.cells #[] 122)).turned gC (by simp [Value.ownBlock])) Hk.out Hcap.out.1 (by omega);obtain ⟨had,hha⟩:∃ad:Addr,(if oc=k then (⟨g,0,none⟩:Addr) else ⟨g,k*4,none⟩)=ad:=⟨_,rfl⟩
         rw [hha] at r3A r3B r3C;have Hha:=zAc hha;clear hha;have b1:=zAc E1.below;have bA:=zAc pA.below;have bA2:=zAc pA2.below;have b12:=zAc E2.below;have bB:=zAc pB.below;have b2:=zAc B2;have b21:=zAc E3.below;have bC:=zAc pC.below
         replace rA:=zAc rA
         replace rB:=zAc rB
         replace rC:=zAc rC
         replace r2A:=zAc r2A
         replace r2B:=zAc r2B
         replace r2C:=zAc r2C
         replace r3A:=zAc r3A
         replace r3B:=zAc r3B
         replace r3C:=zAc r3C
         replace b2A:=zAc b2A
         replace b2B:=zAc b2B
         replace b2C:=zAc b2C
         replace p3A:=zAc p3A
         replace p3B:=zAc p3B
         replace p3C:=zAc p3C
         clear E1 E2 E3 B2 uA uB uC gA gB gC oA oB oC pA pA2 pB pC hRd;clear hMl hk2 HKl HTk HPi;go_wp2_with fail;refine zAp ?_;refine zAg (fun wx:World=>wx.cell? ⟨gl,i*4,none⟩=some (O ii tx)/\wx.cell? ⟨gl,i*4+1,none⟩=some (O ii ty)/\wx.cell? ⟨gl,i*4+2,none⟩=some (O ii ta)/\wx.cell? ⟨gl,i*4+3,none⟩=some (O ii tb)) [] (by kernel_rfl) ?_;refine zv 1 2 40 [.slice (some ⟨g,0,none⟩) M.length oc,O ii (k:Nat)] rfl rfl (by kernel_rfl) (hSof.out _ (Below.refl _ _)) ?_;repeat (refine zc rfl (by rfl) (fun wx hx=>by go_simp) ?_;simp only [zp])
         refine zn ?_;refine zt 3 40 (.slice (some ⟨g,0,none⟩) k oc) rfl (by kernel_rfl) (by rfl) (fun wx hx=>zJ4 (by rfl) (by rfl) (by rfl) (Nat.le_trans Hk.out Hcap.out.1) Hcap.out.2) (hSof.out _ (Below.refl _ _)) ?_;try simp only [zp]
         refine zv 5 4 40 [.slice (some ⟨gl,0,none⟩) PL.length lc,O ii (i:Nat),.pointer (some ⟨gl,i*4,none⟩),rct tx ty ta tb] rfl rfl (by kernel_rfl) (hSof.out _ (Below.refl _ _)) ?_;repeat (refine zc rfl (by rfl) (fun wx hx=>by go_simp) ?_;simp only [zp])
         refine zn ?_;refine zv 11 2 40 [.slice (some ⟨g,0,none⟩) M.length oc,O ii (k:Nat)] rfl rfl (by kernel_rfl) (hSof.out _ (Below.refl _ _)) ?_;repeat (refine zc rfl (by rfl) (fun wx hx=>by go_simp) ?_;simp only [zp])
         refine zn ?_;refine zt 13 40 (.slice (some had) (M.length-k) (oc-k)) rfl (by kernel_rfl) (by rfl) (fun wx hx=>(by rw [<-Hha.out];exact zH3 (by rfl) (by rfl) (by rfl) Hk.out Hcap.out.1 Hcap.out.2)) (hSof.out _ (Below.refl _ _)) ?_;try simp only [zp]
         refine zw 0 [9] (by kernel_rfl) ?_;refine readyZ.cons rfl rfl (zEw (by rfl)) (fun _=>hSof.out _ b1.out) ?_ ?_
         ·try simp only [zp]
          refine zw 4 [9] (by kernel_rfl) ?_;refine readyZ.cons rfl rfl (zAj (by rfl) (by rfl) (by rfl) rA.out) (fun _=>hSof.out _ bA.out) ?_ ?_
          ·try simp only [zp]
           refine zq 9 (by kernel_rfl) rfl rfl (zCe (by rfl) (by rfl)) (fun _=>hSof.out _ bA2.out) ?_;try simp only [zp]
           refine zq 10 (by kernel_rfl) rfl rfl (zAj (by rfl) (by rfl) (by rfl) r2A.out) (fun _=>hSof.out _ b2A.out) ?_;try simp only [zp]
           refine zq 14 (by kernel_rfl) rfl rfl (zAj (by rfl) (by rfl) (by rfl) r3A.out) (fun _=>hSof.out _ p3A.out.below) ?_;try simp only [zp]
           refine zq 15 (by kernel_rfl) rfl rfl (v':=v3A) (w':=W3A) (zAo (by rfl) (by rfl)) (fun _=>hSof.out _ p3A.out.below) ?_;try simp only [zp]
           refine zAf (by kernel_rfl) ?_ _;dsimp only [zA1,Exit.then];obtain ⟨g3,c3,hv3⟩:=p3A.out.us.cons_some;rw [HM3.out] at p3A hv3;subst hv3;have HE:Hid (∃(i' g' oc':Nat) (M':List Q4),(Value.slice (some ⟨g3,0,none⟩) M3.length c3) = .slice (some ⟨g',0,none⟩) M'.length oc'/\(Value.int .i64 (((i:Nat):Int)+1)) = O ii (i':Nat)/\i'<=PL.length/\Ot V W3A g' oc' M'/\M'.Perm (base++PL.take i')/\Below Y3.heap.size Y3 W3A):=zAc ⟨i+1,g3,c3,M3,rfl,by push_cast;rfl,hlt2,⟨bt HOz.out.bl (Below.trans (Below.drew (Below.refl Z.heap.size Z)) p3A.out.below),p3A.out.us,HMs.out.1⟩,HMs.out.2,bt HYz.out (Below.trans (Below.drew (Below.refl Z.heap.size Z)) p3A.out.below)⟩;clear b1 bA bA2 b12 bB b2 b21 bC rA rB rC r2A r2B r2C r3A r3B r3C b2A b2B b2C p3A p3B p3C hSof HM3 HMs HOz HYz Hk Hcap Hha;go_wp2_with fail;go_roundw
           case rel=>first|exact HE.out|(obtain ⟨i',g',oc',M',h1,h2,h3⟩:=HE.out;simp only [Value.slice.injEq,Option.some.injEq,Addr.mk.injEq,and_true,Value.int.injEq,true_and] at h1 h2;exact ⟨i',g',oc',M',h1,h2,h3⟩)
           case measure=>simp [intOf];omega
          ·refine readyZ.cons rfl rfl (zCe (by rfl) (by rfl)) (fun _=>hSof.out _ b12.out) ?_ readyZ.nil;try simp only [zp]
           refine zq 4 (by kernel_rfl) rfl rfl (zAj (by rfl) (by rfl) (by rfl) rB.out) (fun _=>hSof.out _ bB.out) ?_;try simp only [zp]
           refine zq 10 (by kernel_rfl) rfl rfl (zAj (by rfl) (by rfl) (by rfl) r2B.out) (fun _=>hSof.out _ b2B.out) ?_;try simp only [zp]
           refine zq 14 (by kernel_rfl) rfl rfl (zAj (by rfl) (by rfl) (by rfl) r3B.out) (fun _=>hSof.out _ p3B.out.below) ?_;try simp only [zp]
           refine zq 15 (by kernel_rfl) rfl rfl (v':=v3B) (w':=W3B) (zAo (by rfl) (by rfl)) (fun _=>hSof.out _ p3B.out.below) ?_;try simp only [zp]
           refine zAf (by kernel_rfl) ?_ _;dsimp only [zA1,Exit.then];obtain ⟨g3,c3,hv3⟩:=p3B.out.us.cons_some;rw [HM3.out] at p3B hv3;subst hv3;have HE:Hid (∃(i' g' oc':Nat) (M':List Q4),(Value.slice (some ⟨g3,0,none⟩) M3.length c3) = .slice (some ⟨g',0,none⟩) M'.length oc'/\(Value.int .i64 (((i:Nat):Int)+1)) = O ii (i':Nat)/\i'<=PL.length/\Ot V W3B g' oc' M'/\M'.Perm (base++PL.take i')/\Below Y3.heap.size Y3 W3B):=zAc ⟨i+1,g3,c3,M3,rfl,by push_cast;rfl,hlt2,⟨bt HOz.out.bl (Below.trans (Below.drew (Below.refl Z.heap.size Z)) p3B.out.below),p3B.out.us,HMs.out.1⟩,HMs.out.2,bt HYz.out (Below.trans (Below.drew (Below.refl Z.heap.size Z)) p3B.out.below)⟩;clear b1 bA bA2 b12 bB b2 b21 bC rA rB rC r2A r2B r2C r3A r3B r3C b2A b2B b2C p3A p3B p3C hSof HM3 HMs HOz HYz Hk Hcap Hha;go_wp2_with fail;go_roundw
           case rel=>first|exact HE.out|(obtain ⟨i',g',oc',M',h1,h2,h3⟩:=HE.out;simp only [Value.slice.injEq,Option.some.injEq,Addr.mk.injEq,and_true,Value.int.injEq,true_and] at h1 h2;exact ⟨i',g',oc',M',h1,h2,h3⟩)
           case measure=>simp [intOf];omega
         ·refine readyZ.cons rfl rfl (zCe (by rfl) (by rfl)) (fun _=>hSof.out _ b2.out) ?_ readyZ.nil;try simp only [zp]
          refine zq 0 (by kernel_rfl) rfl rfl (zEw (by rfl)) (fun _=>hSof.out _ b21.out) ?_;try simp only [zp]
          refine zq 4 (by kernel_rfl) rfl rfl (zAj (by rfl) (by rfl) (by rfl) rC.out) (fun _=>hSof.out _ bC.out) ?_;try simp only [zp]
          refine zq 10 (by kernel_rfl) rfl rfl (zAj (by rfl) (by rfl) (by rfl) r2C.out) (fun _=>hSof.out _ b2C.out) ?_;try simp only [zp]
          refine zq 14 (by kernel_rfl) rfl rfl (zAj (by rfl) (by rfl) (by rfl) r3C.out) (fun _=>hSof.out _ p3C.out.below) ?_;try simp only [zp]
          refine zq 15 (by kernel_rfl) rfl rfl (v':=v3C) (w':=W3C) (zAo (by rfl) (by rfl)) (fun _=>hSof.out _ p3C.out.below) ?_;try simp only [zp]
          refine zAf (by kernel_rfl) ?_ _;dsimp only [zA1,Exit.then];obtain ⟨g3,c3,hv3⟩:=p3C.out.us.cons_some;rw [HM3.out] at p3C hv3;subst hv3;have HE:Hid (∃(i' g' oc':Nat) (M':List Q4),(Value.slice (some ⟨g3,0,none⟩) M3.length c3) = .slice (some ⟨g',0,none⟩) M'.length oc'/\(Value.int .i64 (((i:Nat):Int)+1)) = O ii (i':Nat)/\i'<=PL.length/\Ot V W3C g' oc' M'/\M'.Perm (base++PL.take i')/\Below Y3.heap.size Y3 W3C):=zAc ⟨i+1,g3,c3,M3,rfl,by push_cast;rfl,hlt2,⟨bt HOz.out.bl (Below.trans (Below.drew (Below.refl Z.heap.size Z)) p3C.out.below),p3C.out.us,HMs.out.1⟩,HMs.out.2,bt HYz.out (Below.trans (Below.drew (Below.refl Z.heap.size Z)) p3C.out.below)⟩;clear b1 bA bA2 b12 bB b2 b21 bC rA rB rC r2A r2B r2C r3A r3B r3C b2A b2B b2C p3A p3B p3C hSof HM3 HMs HOz HYz Hk Hcap Hha;go_wp2_with fail;go_roundw
          case rel=>first|exact HE.out|(obtain ⟨i',g',oc',M',h1,h2,h3⟩:=HE.out;simp only [Value.slice.injEq,Option.some.injEq,Addr.mk.injEq,and_true,Value.int.injEq,true_and] at h1 h2;exact ⟨i',g',oc',M',h1,h2,h3⟩)
          case measure=>simp [intOf];omega
      ·have hlii:¬((i:Nat):Int)<(PL.length:Nat):=by omega
       have hie:i=PL.length:=by omega
       have HE:Hid (∃(x' g' oc':Nat) (M':List Q4),(Value.slice (some ⟨g,0,none⟩) M.length oc) = .slice (some ⟨g',0,none⟩) M'.length oc'/\(Value.int .i64 (((x:Nat):Int)+1)) = O ii (x':Nat)/\x'<=aN/\Ot V wi g' oc' M'/\M'.Perm ((kl aN (y*aN+x')).flatMap (zDa S wd ht))):=zAc ⟨x+1,g,oc,M,rfl,by push_cast;rfl,hltx,hO,by rw [Hnx.out];rw [hie,List.take_length] at hPi;exact hPi⟩;clear hO hPi hYi hie;go_wp2_with fail;go_roundw
       case rel=>exact HE.out
       case measure=>simp [intOf];omega
    ·have hlx:¬((x:Nat):Int)<=wb:=by omega
     have hxe:x=aN:=by omega
     have HE:Hid (∃(y' g' oc':Nat) (M':List Q4),(Value.slice (some ⟨g,0,none⟩) M.length oc) = .slice (some ⟨g',0,none⟩) M'.length oc'/\(Value.int .i64 (((y:Nat):Int)+1)) = O ii (y':Nat)/\y'<=bN/\Ot V wx0 g' oc' M'/\M'.Perm ((kl aN (y'*aN)).flatMap (zDa S wd ht))):=zAc ⟨y+1,g,oc,M,rfl,by push_cast;rfl,hlt,HO.out,by rw [Nat.succ_mul];rw [<-hxe];have:=HP.out;exact (by rw [hxe] at this ⊢;exact this)⟩;clear hbe HO HP hxe;go_wp2_with fail;refine (HDw.out _).mono ?_;rintro e w' ⟨rfl,hw'⟩;have hw2:=hw'.symm;clear hw';subst hw2;clear c0 c1 c2;go_wp2_with fail;go_roundw
     case rel=>exact HE.out
     case measure=>simp [intOf];omega
  ·have hli:¬((y:Nat):Int)<=hb:=by omega
   have hye:y=bN:=by omega
   have HE:Hid (∃lv M',Ending.returned (Value.slice (some ⟨g,0,none⟩) M.length oc) = .returned lv/\M'.Perm ((kl aN (bN*aN)).flatMap (zDa S wd ht))/\zU6 M'/\Rq 122 wy lv M'/\Below w.heap.size w wy):=zAc ⟨_,M,rfl,by rw [<-hye];exact HP.out,HO.out.srt,HO.out.row,bt HB0.out HO.out.bl⟩;clear hbe HO HP hye;go_wp2_with fail;refine (HDh.out _).mono ?_;rintro e w' ⟨rfl,hw'⟩;have hw2:=hw'.symm;clear hw';subst hw2;clear c0 c1 c2;go_wp2_with fail;refine bodyPost_ret (v:=.slice (some ⟨g,0,none⟩) M.length oc) (by simp [results,Tryz.results62,go_sem]) rfl ?_;exact HE.out
end Go.Proofs.YthiafmlgialbnaaGreatDoor
