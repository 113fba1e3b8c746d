import Derived.Test.YthiafmlgialbnaaGreatDoorDCst
set_option linter.all false
set_option maxRecDepth 1000000
set_option maxHeartbeats 64000000
open Go.Proofs.Tryz
open Go.Proofs.Tryz renaming prog->pg
open And renaming intro->ai
open Go.Value renaming int->O
open Go.IntKind renaming i64->ii
namespace Go.Proofs.YthiafmlgialbnaaGreatDoor
open Go.RowKit Go.Shelf
attribute [local go_sem] Oper.semAt_some
structure Cx (w W:World) (wd ht N:Nat) (iv:Value) (fx fy ix iy:Int) (rw rh:Nat) (C:Nat->Int):Prop where
 gb:GB W w.heap.size wd ht iv
 fr:Two W (w.heap.size+1) fx fy
 rc:Four W (w.heap.size+1+1) ix iy rw rh
 nm:Nmz W (w.heap.size+1+1+1) N C
 bl:Below w.heap.size w W
section
variable {w W W':World} {wd ht N:Nat} {iv:Value} {fx fy ix iy:Int} {rw rh:Nat} {C:Nat->Int}
theorem Cx.upto (h:Cx w W wd ht N iv fx fy ix iy rw rh C) (hb:Below W.heap.size W W'):Cx w W' wd ht N iv fx fy ix iy rw rh C:=⟨h.gb.upto hb,h.fr.kept hb,h.rc.kept hb,h.nm.upto hb,bt h.bl hb⟩
theorem Cx.set {j:Nat} (h:Cx w W wd ht N iv fx fy ix iy rw rh C) (hj:j<N) (x:Int):Cx w (W.setCell ⟨w.heap.size+1+1+1,j,none⟩ (O ii x)) wd ht N iv fx fy ix iy rw rh (fun i=>if i=j then x else C i):=
 ⟨h.gb.kept (Turns.set (S:=fun k=>k=w.heap.size+1+1+1) W (p:=⟨w.heap.size+1+1+1,j,none⟩) rfl _) (by omega),h.fr.past (by omega),h.rc.past (by omega),h.nm.set hj x,h.bl.setCell (p:=⟨w.heap.size+1+1+1,j,none⟩) (by simp;omega) _⟩
theorem Cx.congr {C':Nat->Int} (h:Cx w W wd ht N iv fx fy ix iy rw rh C) (e:∀k,k<N->C k=C' k):Cx w W wd ht N iv fx fy ix iy rw rh C':=⟨h.gb,h.fr,h.rc,h.nm.congr e,h.bl⟩
end
theorem zQj {w:World} {b N:Nat} {C:Nat->Int} (h:Nmz w b N C) (hN:N<=16384):Cts w (.slice (some ⟨b,0,none⟩) N N) ((List.range N).map C):=by
 refine ⟨by simp,.inr ⟨b,N,_,by simp,Nat.zero_le _,h,by simp,by unfold maxLen;omega,by simp,?_⟩⟩;simp only [List.length_map,List.length_range,Nat.mul_one,List.map_map];rw [List.take_of_length_le (by simp)];rfl
theorem zY5 {ix iy iw ih x y:Int} (hi:0<=ix/\0<=iy/\ix+iw<=128/\iy+ih<=128/\1<=iw/\1<=ih):has ix iy iw ih x y=true↔inB ix iy iw ih (x,y):=by
 rw [zAy,zA0];unfold inB;simp only;omega
theorem zNh {ix iy x y:Int} {rw rh:Nat} (hi:0<=ix/\0<=iy/\ix+rw<=128/\iy+rh<=128) (hq:inB ix iy rw rh (x,y)):∃zy z z':Int,IntKind.i64.wrap (y-iy)=zy/\IntKind.i64.wrap (zy*((rw:Nat):Int))=z/\IntKind.i64.wrap (z+x)=z'/\IntKind.i64.wrap (z'-ix)=((ij ix iy rw x y:Nat):Int):=by
 obtain ⟨⟨h1,h2⟩,h3,h4⟩:=hq;simp only at h1 h2 h3 h4;have hm:0<=(y-iy)*(rw:Int)/\(y-iy)*(rw:Int)<=128*128:=⟨Int.mul_nonneg h3 (by omega),Int.mul_le_mul (by omega) (by omega) (by omega) (by omega)⟩
 refine ⟨y-iy,(y-iy)*rw,(y-iy)*rw+x,IntWalk.i64_in _ (by omega),IntWalk.i64_in _ (by omega),IntWalk.i64_in _ (by omega),?_⟩;rw [IntWalk.i64_in _ (by omega)];unfold ij;omega
theorem zLb {ev:Operand->Value} {o:Oper} {w:World} (ho:o.op = .alloc 47):(execOp ev o).run pg w = .ok (.value (ptr w.heap.size)) (w.alloc (.cells #[O ii 0,O ii 0] 47)):=by
 unfold execOp;rw [ho];go_simp
theorem zPx {ev:Operand->Value} {o:Oper} {w:World} {x y:Operand} {k:Nat} {a b p q:Int} (ho:o.op = .store 47 x y) (hx:ev x=ptr k) (hy:ev y=cel p q) (hF:Two w k a b) :
 (execOp ev o).run pg w = .ok .skip ((w.setCell ⟨k,0,none⟩ (O ii p)).setCell ⟨k,1,none⟩ (O ii q)):=by
 obtain ⟨⟨c0,c1⟩,⟨f0,f1⟩,-⟩:=hF;unfold execOp;rw [ho];simp only [hx,hy];go_simp
def qCm (W H:Int) (tl:List Nat) (f:Int->Int->Option Int) (c s ix iy iw ih fx fy:Int) (w:World) (e:Ending) (w':World):Prop:=
 ∃b n K,e = .returned (.slice (some ⟨b,0,none⟩) n n)/\Below w.heap.size w w'/\(Cts w' (.slice (some ⟨b,0,none⟩) n n) K/\w.heap.size<=b)/\Tbl W H tl f c s ix iy iw ih (fx,fy) K
theorem zO3 {w:World} {wd ht rw rh n0:Nat} {tl:List Nat} {f:Int->Int->Option Int} {c s:Int} {a0:Option Addr} {cap0:Nat} {ix iy fx fy:Int} (hd:(1<=wd/\wd<=128)/\1<=ht/\ht<=128)
 (hG:Rw 4 1 cB w (.slice a0 n0 cap0) ((List.range (wd*ht)).map (fun k=>stB wd ht tl f c s ((k%wd:Nat):Int) ((k/wd:Nat):Int)))) (hr:0<=ix/\0<=iy/\ix+rw<=wd/\iy+rh<=ht) (hr1:1<=rw/\1<=rh) (hN7:rw*rh<=1000) (hf:inB ix iy rw rh (fx,fy)) :
 Calls pg 98 #[gdv wd ht (.slice a0 n0 cap0),cel fx fy,rct ix iy rw rh] w (qCm wd ht tl f c s ix iy rw rh fx fy w):=by
 obtain ⟨N,hN⟩:∃N,N=rw*rh:=⟨_,rfl⟩
 have hN1:N<=1000:=by omega
 obtain ⟨htg,hcl⟩:=zTu hf;obtain ⟨tg,htgd⟩:∃tg,ij ix iy rw fx fy=tg:=⟨_,rfl⟩
 have hi8:0<=ix/\0<=iy/\ix+(rw:Int)<=128/\iy+(rh:Int)<=128:=by omega
 obtain ⟨zy,z,z',hz0,hz1,hz2,hz3⟩:=zNh hi8 hf;simp only at htg hcl;rw [htgd] at hz3 htg hcl;have htN:tg<N:=by omega
 have hhas:∀x y,has ix iy rw rh x y=true↔inB ix iy rw rh (x,y):=fun x y=>zY5 (by omega)
 have hmul:IntKind.i64.wrap ((rw:Int)*(rh:Int))=(N:Nat):=by
  rw [show (rw:Int)*(rh:Int)=((rw*rh:Nat):Int) by push_cast;rfl,<-hN];exact zDv (by omega)
 have hmk:=zKn N (by omega);have HSt:Hid (∀wx,Below w.heap.size w wx->∀x y (d:Int),Calls pg 146 #[gdv wd ht (.slice a0 n0 cap0),cel x y,O ii d] wx fun e w'=>e = .returned (.tuple #[cel (if lg (stB wd ht tl f c s) x y d=true then sX x y d else 0) (if lg (stB wd ht tl f c s) x y d=true then sY x y d else 0),.bool (lg (stB wd ht tl f c s) x y d)])/\Below wx.heap.size wx w'):=zAc fun wx hx x y d=>zWb hd rfl hG d wx hx x y
 have HGt:Hid (∀wx,Below w.heap.size w wx->Calls pg 144 #[gdv wd ht (.slice a0 n0 cap0),cel fx fy] wx fun e w'=>e = .returned (.bool (stB wd ht tl f c s fx fy))/\Below wx.heap.size wx w'):=zAc fun wx hx=>by
  have:=zHh fx fy (show Gd wx wd ht (wd*ht) _ _ from hG.upto hx) ⟨hd.1.2,hd.2.2⟩ rfl
  rwa [qBz hd] at this
 have HHt:Hid (has ix iy rw rh fx fy=true):=zAc ((hhas _ _).2 hf);obtain ⟨X,hX⟩:∃X,(((w.alloc (.cells #[O ii (wd:Nat),O ii (ht:Nat),.slice a0 n0 cap0] 81)).alloc (.cells #[O ii fx,O ii fy] 47)).alloc (.cells #[O ii ix,O ii iy,O ii (rw:Nat),O ii (rh:Nat)] 49)).alloc (.cells (Array.replicate N (O ii 0)) 3)=X:=⟨_,rfl⟩
 have X0:Cx w X wd ht N (.slice a0 n0 cap0) fx fy ix iy rw rh (fun _=>0):=by
  rw [<-hX];refine ⟨((((GB.new w wd ht _).upto (zAk _ _)).upto (zAk _ _)).upto (zAk _ _)),?_,?_,?_,bt (zA5 _ _ _) (zA5 _ _ _)⟩
  ·exact ((Two.newAt (by simp)).alloc).alloc
  ·exact (Four.newAt _ _ _ _ _ (by simp)).kept (zAk _ _)
  ·have:=heap_alloc_new (((w.alloc (.cells #[O ii (wd:Nat),O ii (ht:Nat),.slice a0 n0 cap0] 81)).alloc (.cells #[O ii fx,O ii fy] 47)).alloc (.cells #[O ii ix,O ii iy,O ii (rw:Nat),O ii (rh:Nat)] 49)) (.cells (Array.replicate N (O ii 0)) 3);simp only [World.size_alloc] at this;unfold Nmz;rw [this,show (List.range N).map (fun _=>Value.int .i64 0)=List.replicate N (O ii 0) by rw [List.map_const',List.length_range],List.toArray_replicate]
 have HX0:=zAc X0;have HX:=zAc hX;have HN:=zAc hN;have Hhas:=zAc hhas;have Hcl:=zAc hcl;have Hhi:=zAc (ai hi8 (ai hr hr1));have hNI:((N:Nat):Int)<=1000:=by omega
 have hrw0:¬rw=0:=by omega
 have htI:(0:Int)<=(tg:Nat)/\((tg:Nat):Int)<(N:Nat):=by omega
 have Hhf:=zAc hf;clear hX X0 hN hhas hf hG hcl htgd htg hr hr1 hi8 hN7 hd;go_enter func98,ntmps98;go_wp2_with fail;rw [HX.out];clear hmk hmul;go_loopw [8] (fun d wr=>∃i:Nat,d = O ii (i:Nat)/\i<=N/\Cx w wr wd ht N (.slice a0 n0 cap0) fx fy ix iy rw rh (fun k=>if k<i then -1 else 0)) (fun d _=>N-(intOf d).toNat)
 case atStart=>exact ⟨0,rfl,Nat.zero_le _,HX0.out.congr (fun k _=>by simp)⟩
 case round =>
  obtain ⟨i,rfl,hi,hC⟩:=hrel;clear HX0 HX
  by_cases hlt:i<N
  ·have hli:((i:Nat):Int)<(N:Nat):=by omega
   have hiI:(0:Int)<=(i:Nat)/\((i:Nat):Int)<=1000:=by omega
   have cu:=hC.nm.c hlt;have fu:=hC.nm.fz i
   have HC1:=zAc ((hC.set hlt (-1)).congr (C':=fun k=>if k<i+1 then -1 else 0) (fun k _=>by
    by_cases e:k=i
    ·subst e;simp
    ·simp only [if_neg e]
     by_cases e2:k<i
     ·rw [if_pos e2,if_pos (by omega)]
     ·rw [if_neg e2,if_neg (by omega)]))
   clear hC;go_wp2_with fail;go_roundw
   case rel=>exact ⟨i+1,by go_num,by omega,HC1.out⟩
   case measure=>simp [intOf];omega
  ·have hie:N=i:=by omega
   subst hie;have hli:¬((N:Nat):Int)<(N:Nat):=by omega
   have hC2:Cx w wr wd ht N (.slice a0 n0 cap0) fx fy ix iy rw rh (fun _=>-1):=hC.congr (fun k hk=>by rw [if_pos hk]);have HC2:=zAc hC2;obtain ⟨⟨g0,g1⟩,g2⟩:=hC2.gb.c;obtain ⟨⟨t0,t1⟩,-,-⟩:=hC2.fr;clear hC hC2;go_wp2_with fail;refine (HGt.out _ HC2.out.bl).mono ?_;rintro e w2 ⟨rfl,hb2⟩;have HC3:=zAc (HC2.out.upto hb2);clear hb2 g0 g1 g2 t0 t1 HC2 HGt;cases hst:stB wd ht tl f c s fx fy
   ·have HE:Hid (qCm wd ht tl f c s ix iy rw rh fx fy w (.returned (.slice (some ⟨w.heap.size+1+1+1,0,none⟩) N N)) w2):=zAc (by
     refine ⟨_,_,(List.range N).map (fun _=>-1),rfl,HC3.out.bl,⟨zQj HC3.out.nm (by omega),by omega⟩,?_⟩;have:=Tbl.none (W:=wd) (H:=ht) (tl:=tl) (f:=f) (c:=c) (s:=s) (ix:=ix) (iy:=iy) (iw:=rw) (ih:=rh) (s0:=(fx,fy)) (N:=N) (by rw [zJp];exact HN.out) (fun q=>by have:=q.2;simp only at this;rw [hst] at this;cases this)
     rwa [show (List.range N).map (fun _=>(-1:Int))=List.replicate N (-1) by rw [List.map_const',List.length_range]])
    go_wp2_with fail;refine bodyPost_ret (v:=.slice (some ⟨w.heap.size+1+1+1,0,none⟩) N N) (by simp [results,Tryz.results98,go_sem]) rfl ?_;exact HE.out
   have Hst:=zAc hst;clear hst;obtain ⟨⟨t2,t3⟩,-,-⟩:=HC3.out.fr;obtain ⟨⟨r0,r1,r2,r3⟩,-,-⟩:=HC3.out.rc;go_wp2_with fail;refine (zBo _ HHt.out).mono ?_;rintro e w3 ⟨rfl,hb3⟩;have HC4:=zAc (HC3.out.upto hb3);obtain ⟨⟨t4,t5⟩,-,-⟩:=HC4.out.fr;obtain ⟨⟨s0,s1,s2,s3⟩,-,-⟩:=HC4.out.rc;have cu:=HC4.out.nm.c htN;have fu:=HC4.out.nm.fz tg;have HC5:=zAc (HC4.out.set htN 0);have HBf:Hid (Bf wd ht tl f c s ix iy rw rh tg (fun j=>if j=tg then 0 else -1)):=zAc (Bf.start (by rw [<-HN.out];exact htN));clear hb3 t2 t3 r0 r1 r2 r3 HC3 HHt;go_wp2_with fail;clear t4 t5 s0 s1 s2 s3 cu fu HC4 hz0 hz1 hz2 hz3;obtain ⟨w4,hw4⟩:∃w4,w3.setCell ⟨w.heap.size+1+1+1,tg,none⟩ (O ii 0)=w4:=⟨_,rfl⟩
   rw [hw4] at HC5;rw [hw4];clear hw4;go_loopw [9] (fun tb wr=>∃(C:Nat->Int) (b:Bool),tb = .bool b/\Cx w wr wd ht N (.slice a0 n0 cap0) fx fy ix iy rw rh C/\Bf wd ht tl f c s ix iy rw rh tg C/\(b=false->∀i',i'<N->∀d,d<8->Fn wd ht tl f c s ix iy rw rh C i' d)) (fun tb wr=>2*sW wr (w.heap.size+1+1+1)+qDa tb)
   case atStart=>exact ⟨_,true,rfl,HC5.out,HBf.out,fun e=>by cases e⟩
   case round =>
    obtain ⟨C0,b0,rfl,hC,hBf,hFn⟩:=hrel;clear HC5 HBf;rename World=>wa;cases b0
    ·have HE:Hid (qCm wd ht tl f c s ix iy rw rh fx fy w (.returned (.slice (some ⟨w.heap.size+1+1+1,0,none⟩) N N)) wa):=zAc (by
      refine ⟨_,_,(List.range N).map C0,rfl,hC.bl,⟨zQj hC.nm (by omega),by omega⟩,?_⟩;have h9:=hBf.tbl (by rw [<-HN.out];exact hFn rfl) (by rw [<-HN.out];exact htN) (by rw [Hcl.out];exact ⟨(Hhas.out _ _).2 Hhf.out,Hst.out⟩) (by rw [<-HN.out];omega);rw [Hcl.out,<-HN.out] at h9
      exact h9)
     clear hC hBf hFn;go_wp2_with fail;refine bodyPost_ret (v:=.slice (some ⟨w.heap.size+1+1+1,0,none⟩) N N) (by simp [results,Tryz.results98,go_sem]) rfl ?_;exact HE.out
    ·obtain ⟨s0,hs0⟩:∃s0,sC N C0=s0:=⟨_,rfl⟩
     have Hs0:Hid (sW wa (w.heap.size+1+1+1)=s0):=zAc ((qAm hC.nm).trans hs0);have HC:=zAc hC;have HBf:=zAc hBf;have Hsc:=zAc hs0;clear hC hBf hFn hs0;go_wp2_with fail;go_loopw [9,10] (fun tb d wr=>∃(k:Nat) (C:Nat->Int) (b:Bool),tb = .bool b/\d = O ii (k:Nat)/\k<=N/\Cx w wr wd ht N (.slice a0 n0 cap0) fx fy ix iy rw rh C/\Bf wd ht tl f c s ix iy rw rh tg C/\sC N C<=s0/\(b=true->sC N C<s0)/\(b=false->∀i',i'<k->∀d,d<8->Fn wd ht tl f c s ix iy rw rh C i' d)) (fun _ d _=>N-(intOf d).toNat)
     case atStart=>exact ⟨0,C0,false,rfl,rfl,Nat.zero_le _,HC.out,HBf.out,by rw [Hsc.out];exact Nat.le_refl _,(fun e=>by cases e),fun _ i' hi'=>by omega⟩
     case round =>
      obtain ⟨k,C1,b1,rfl,rfl,hk,hC,hBf,hle,hlts,hFn⟩:=hrel;clear HC HBf;rename World=>wb
      by_cases hkl:k<N
      ·have hkI:((k:Nat):Int)<(N:Nat):=by omega
       have hk0:(0:Int)<=(k:Nat)/\((k:Nat):Int)<=1000:=by omega
       obtain ⟨rx,hrx⟩:∃rx:Int,((k%rw:Nat):Int)=rx:=⟨_,rfl⟩
       obtain ⟨qy,hqy⟩:∃qy:Int,((k/rw:Nat):Int)=qy:=⟨_,rfl⟩
       have hrem:(k:Int).tmod (rw:Int)=rx:=hrx;have hrem2:(k:Int)%(rw:Int)=rx:=by rw [<-hrx];exact (Int.natCast_emod k rw).symm
       have hquo:IntKind.i64.wrap ((k:Int)/(rw:Int))=qy:=by
        rw [<-hqy,<-Int.natCast_ediv];exact zDv (Nat.le_trans (Nat.div_le_self k rw) (by omega))
       have hckl:cl ix iy rw k=(ix+rx,iy+qy):=by unfold cl;rw [hrx,hqy]
       have hkin:inB ix iy rw rh (ix+rx,iy+qy):=by rw [<-hckl];exact zUn (by rw [<-HN.out];exact hkl)
       obtain ⟨kx,hkx⟩:∃kx,ix+rx=kx:=⟨_,rfl⟩
       obtain ⟨ky,hky⟩:∃ky,iy+qy=ky:=⟨_,rfl⟩
       rw [hkx,hky] at hckl hkin;have hkb:(0<=kx/\kx<=128)/\0<=ky/\ky<=128:=by have:=Hhi.out;obtain ⟨⟨a1,a2⟩,a3,a4⟩:=hkin;simp only at a1 a2 a3 a4;omega
       have hax:IntKind.i64.wrap (ix+rx)=kx:=by rw [hkx];exact IntWalk.i64_in _ (by omega)
       have hay:IntKind.i64.wrap (iy+qy)=ky:=by rw [hky];exact IntWalk.i64_in _ (by omega)
       have HC:=zAc hC;have HBf:=zAc hBf;have Hle:=zAc hle;have Hlts:=zAc hlts;have HFn:=zAc hFn;have Hck:=zAc (ai hckl hkin);have HSx:Hid (∀wx C,Cx w wx wd ht N (.slice a0 n0 cap0) fx fy ix iy rw rh C->(fun wx:World=>(wx.cell? ⟨w.heap.size+1+1,0,none⟩=some (O ii ix)/\wx.cell? ⟨w.heap.size+1+1,1,none⟩=some (O ii iy))/\wx.cell? ⟨w.heap.size+1+1,2,none⟩=some (O ii (rw:Nat))) wx):=zAc fun wx C h=>⟨⟨h.rc.1.1,h.rc.1.2.1⟩,h.rc.1.2.2.1⟩
       have HS:(fun wx:World=>(wx.cell? ⟨w.heap.size+1+1,0,none⟩=some (O ii ix)/\wx.cell? ⟨w.heap.size+1+1,1,none⟩=some (O ii iy))/\wx.cell? ⟨w.heap.size+1+1,2,none⟩=some (O ii (rw:Nat))) wb.drew:=HSx.out _ _ (hC.upto (Below.refl _ wb).drew);clear hC hBf hle hlts hFn hrx hqy hckl hkin hkx hky hkb;go_wp2_with fail;refine zAp ?_;refine zAg (fun wx:World=>(wx.cell? ⟨w.heap.size+1+1,0,none⟩=some (O ii ix)/\wx.cell? ⟨w.heap.size+1+1,1,none⟩=some (O ii iy))/\wx.cell? ⟨w.heap.size+1+1,2,none⟩=some (O ii (rw:Nat))) [] (by kernel_rfl) ?_;refine zv 0 17 18 [.pointer (some ⟨w.heap.size+1+1,0,none⟩),.pointer (some ⟨w.heap.size+1+1,0,none⟩),O ii ix,O ii (k:Nat),.pointer (some ⟨w.heap.size+1+1,2,none⟩),O ii (rw:Nat),O ii rx,O ii kx,.pointer (some ⟨w.heap.size+1+1,0,none⟩),.pointer (some ⟨w.heap.size+1+1,1,none⟩),O ii iy,O ii (k:Nat),.pointer (some ⟨w.heap.size+1+1,2,none⟩),O ii (rw:Nat),O ii qy,O ii ky,cel kx ky] rfl rfl (by kernel_rfl) HS ?_;repeat (refine zc rfl (by rfl) (fun wx hx=>by go_simp) ?_;simp only [zp])
       refine zn ?_;refine zw 17 [] (by kernel_rfl) ?_;have BA:Below wb.heap.size wb (wb.drew.alloc (.cells #[O ii 0,O ii 0] 47)):=((Below.refl _ wb).drew).trans ((zAk wb.drew _).mono (Nat.le_refl _));have FA:Two (wb.drew.alloc (.cells #[O ii 0,O ii 0] 47)) wb.heap.size 0 0:=Two.newAt rfl;refine readyZ.cons rfl rfl (zLb (by rfl)) (fun _=>HSx.out _ _ (HC.out.upto BA)) ?_ readyZ.nil;try simp only [zp]
       try rw [show wb.drew.heap.size=wb.heap.size from rfl]
       obtain ⟨wc,hwc⟩:∃wc,wb.drew.alloc (.cells #[O ii 0,O ii 0] 47)=wc:=⟨_,rfl⟩
       rw [hwc] at BA FA ⊢;refine zw 18 [] (by kernel_rfl) ?_;have TB:Two ((wc.setCell ⟨wb.heap.size,0,none⟩ (O ii kx)).setCell ⟨wb.heap.size,1,none⟩ (O ii ky)) wb.heap.size kx ky:=FA.set;have BB:Below wb.heap.size wb ((wc.setCell ⟨wb.heap.size,0,none⟩ (O ii kx)).setCell ⟨wb.heap.size,1,none⟩ (O ii ky)):=(BA.setCell (p:=⟨wb.heap.size,0,none⟩) (by simp) _).setCell (p:=⟨wb.heap.size,1,none⟩) (by simp) _;refine readyZ.skip rfl rfl (zPx (by rfl) (by rfl) (by rfl) FA) (fun _=>HSx.out _ _ (HC.out.upto BB)) ?_ readyZ.nil;try simp only [zp]
       refine zAf (by kernel_rfl) ?_ _;dsimp only [zA1,Exit.then];have HC1:=zAc (HC.out.upto BB);have HT1:=zAc TB;have Hbc:Hid (w.heap.size+1+1+1<wb.heap.size):=zAc HC.out.nm.lt;obtain ⟨Bc,hBc⟩:∃Bc,wb.heap.size=Bc:=⟨_,rfl⟩
       obtain ⟨wn,hwn⟩:∃wn,(wc.setCell ⟨wb.heap.size,0,none⟩ (O ii kx)).setCell ⟨wb.heap.size,1,none⟩ (O ii ky)=wn:=⟨_,rfl⟩
       rw [hwn] at HC1 HT1;try rw [hwn]
       rw [hBc] at HT1 Hbc;try rw [hBc] at hwn
       try rw [hwn]
       try rw [hBc]
       clear BB BA TB FA hBc hwn hwc HC HS HSx hrem hrem2 hquo hax hay;go_wp2_with fail;go_loopw [9,12] (fun tb d wr=>∃(dd:Nat) (C:Nat->Int) (b:Bool),tb = .bool b/\d = O ii (dd:Nat)/\dd<=8/\Cx w wr wd ht N (.slice a0 n0 cap0) fx fy ix iy rw rh C/\Bf wd ht tl f c s ix iy rw rh tg C/\sC N C<=s0/\(b=true->sC N C<s0)/\(b=false->(∀i',i'<k->∀d,d<8->Fn wd ht tl f c s ix iy rw rh C i' d)/\∀d,d<dd->Fn wd ht tl f c s ix iy rw rh C k d)/\Two wr Bc kx ky) (fun _ d _=>8-(intOf d).toNat)
       case atStart=>exact ⟨0,C1,b1,rfl,rfl,by omega,HC1.out,HBf.out,Hle.out,Hlts.out,fun e=>⟨HFn.out e,fun d hd=>by omega⟩,HT1.out⟩
       case round =>
        obtain ⟨dd,C,bb,rfl,rfl,hdd,hC,hBf,hle,hlts,hFn,hT⟩:=hrel;clear HC1 HT1 HBf Hle Hlts HFn;obtain ⟨ck,hck⟩:∃ck,C k=ck:=⟨_,rfl⟩
        have cu:=hC.nm.c hkl;rw [hck] at cu;have hckb:ck<=14000:=by rw [<-hck];have:=hBf.le (by rw [<-HN.out];exact hkl);have:=HN.out;omega
        have HC:=zAc hC;have HBf:=zAc hBf;have Hle:=zAc hle;have Hlts:=zAc hlts;have HFn:=zAc hFn;have HT:=zAc hT;have Hckk:=zAc hck;clear hC hBf hle hlts hFn hT hck
        by_cases hc0:0<=ck
        ·by_cases hd8:dd<8
         ·have hdI:((dd:Nat):Int)<8:=by omega
          obtain ⟨r,hr⟩:∃r,lg (stB wd ht tl f c s) kx ky (dd:Nat)=r:=⟨_,rfl⟩
          obtain ⟨ox,hox⟩:∃ox,(if r=true then sX kx ky (dd:Nat) else 0)=ox:=⟨_,rfl⟩
          obtain ⟨oy,hoy⟩:∃oy,(if r=true then sY kx ky (dd:Nat) else 0)=oy:=⟨_,rfl⟩
          have HSp:Hid (∀wx,Below w.heap.size w wx->Calls pg 146 #[gdv wd ht (.slice a0 n0 cap0),cel kx ky,O ii (dd:Nat)] wx fun e' w'=>e' = .returned (.tuple #[cel ox oy,.bool r])/\Below wx.heap.size wx w'):=zAc fun wx hx=>by
           have:=HSt.out wx hx kx ky (dd:Nat);rw [hr,hox,hoy] at this;exact this
          have Hr:=zAc hr;have Hox:=zAc hox;have Hoy:=zAc hoy;obtain ⟨⟨g0,g1⟩,g2⟩:=HC.out.gb.c;obtain ⟨⟨y0,y1⟩,-,-⟩:=HT.out;clear hr hox hoy;go_wp2_with fail;refine (HSp.out _ HC.out.bl).mono ?_;rintro e' w5 ⟨rfl,hb5⟩;have B5:=bt hb5 (zAk w5 (.cells #[O ii ox,O ii oy] 47));have HC5:=zAc (HC.out.upto B5);have HT5:=zAc (HT.out.kept B5);have b9:Two (w5.alloc (.cells #[O ii ox,O ii oy] 47)) w5.heap.size ox oy:=Two.newAt rfl;clear hb5 B5 HSp g0 g1 g2 y0 y1 cu HC HT;cases r
          ·clear b9
           have HF2:Hid (bb=false->(∀i',i'<k->∀d,d<8->Fn wd ht tl f c s ix iy rw rh C i' d)/\∀d,d<dd+1->Fn wd ht tl f c s ix iy rw rh C k d):=zAc fun e=>⟨(HFn.out e).1,fun d hd=>by
            by_cases e2:d=dd
            ·subst e2;intro _ k' _ hL;rw [Hck.out.1] at hL;rw [Hr.out] at hL;cases hL
            ·exact (HFn.out e).2 d (by omega)⟩
           go_wp2_with fail;go_roundw
           case rel=>exact ⟨dd+1,C,bb,rfl,by go_num,by omega,HC5.out,HBf.out,Hle.out,Hlts.out,HF2.out,HT5.out⟩
           case measure=>simp [intOf];omega
          ·have hsk:stB wd ht tl f c s kx ky=true:=by
            have h9:=(HBf.out.wk k (by rw [<-HN.out];exact hkl) (by rw [Hckk.out];exact hc0)).toS (by rw [Hcl.out];exact ⟨(Hhas.out _ _).2 Hhf.out,Hst.out⟩);rw [Hck.out.1] at h9;exact h9.2.2
           have hsB:sB kx ky (dd:Nat)=true:=by have:=Hr.out;unfold lg at this;rw [Bool.and_eq_true] at this;exact this.1
           have ex:kx+dX dd=ox:=by rw [<-Hox.out,if_pos rfl,zEr hsB];rfl
           have ey:ky+dY dd=oy:=by rw [<-Hoy.out,if_pos rfl,zEq hsB];rfl
           obtain ⟨hh,hhh⟩:∃hh,has ix iy rw rh ox oy=hh:=⟨_,rfl⟩
           have HHj:=zAc hhh;obtain ⟨⟨o0,o1⟩,-,-⟩:=id b9;obtain ⟨⟨r0,r1,r2,r3⟩,-,-⟩:=HC5.out.rc;have Hb9:=zAc b9;have Hexy:=zAc (ai ex (ai ey hsk));clear hhh b9 ex ey hsk hsB;go_wp2_with fail;refine (zBo _ HHj.out).mono ?_;rintro e' w6 ⟨rfl,hb6⟩;have HC6:=zAc (HC5.out.upto hb6);have HT6:=zAc (HT5.out.kept hb6);have Hb6:=zAc (Hb9.out.kept hb6);clear hb6 o0 o1 r0 r1 r2 r3 HC5 HT5 Hb9;cases hh
           ·have HF2:Hid (bb=false->(∀i',i'<k->∀d,d<8->Fn wd ht tl f c s ix iy rw rh C i' d)/\∀d,d<dd+1->Fn wd ht tl f c s ix iy rw rh C k d):=zAc fun e=>⟨(HFn.out e).1,fun d hd=>by
             by_cases e2:d=dd
             ·subst e2;intro _ k' hk' hL hn;have h9:=zUn (ix:=ix) (iy:=iy) (rw:=rw) (rh:=rh) (j:=k') hk';rw [hn,Hck.out.1,Hexy.out.1,Hexy.out.2.1] at h9;have h8:=(Hhas.out _ _).2 h9;rw [HHj.out] at h8;cases h8
             ·exact (HFn.out e).2 d (by omega)⟩
            go_wp2_with fail;go_roundw
            case rel=>exact ⟨dd+1,C,bb,rfl,by go_num,by omega,HC6.out,HBf.out,Hle.out,Hlts.out,HF2.out,HT6.out⟩
            case measure=>simp [intOf];omega
           ·have hoin:inB ix iy rw rh (ox,oy):=(Hhas.out _ _).1 HHj.out;obtain ⟨hjN',hjc⟩:=zTu hoin;obtain ⟨zy,z,z',hz0,hz1,hz2,hz3⟩:=zNh Hhi.out.1 hoin;simp only at hjN' hjc;obtain ⟨j,hj⟩:∃j,ij ix iy rw ox oy=j:=⟨_,rfl⟩
            rw [hj] at hjN' hjc hz3;have hjN:j<N:=by rw [HN.out];exact hjN'
            obtain ⟨co1,hco⟩:∃co1,co ((dd:Nat):Int)=co1:=⟨_,rfl⟩
            have hcoI:10<=co1/\co1<=14:=by rw [<-hco];exact zNr ⟨dd,hd8⟩
            have HSR:Hid (zBh wd ht tl f c s ix iy rw rh (cl ix iy rw k) (cl ix iy rw j) co1.toNat):=zAc (by
             rw [hjc,Hck.out.1];have h9:=(zQv (ix:=ix) (iy:=iy) (iw:=rw) (ih:=rh) hd8 Hexy.out.2.2).1 ⟨Hr.out,by rw [Hexy.out.1,Hexy.out.2.1];exact HHj.out⟩;refine ⟨⟨dd,hd8⟩,h9.1,h9.2,by simp only [Hexy.out.1,Hexy.out.2.1],?_⟩;simp only
             omega)
            have Hone:Hid (∀j',j'<rw*rh->cl ix iy rw j'=(ox,oy)->j'=j):=zAc fun j' hj' he=>by
             have h9:=zZl ix iy (rw:=rw) (by have:=Hhi.out;omega) j';rw [he] at h9;exact h9.symm.trans hj
            have HCo:Hid (∀wx,Calls pg 147 #[O ii (dd:Nat)] wx fun e w'=>e = .returned (O ii co1)/\w'=wx):=zAc fun wx=>by rw [<-hco];exact zLt _ wx
            have Hco:=zAc hco;obtain ⟨⟨o2,o3⟩,-,-⟩:=Hb6.out;obtain ⟨⟨s4,s5,s6,s7⟩,-,-⟩:=HC6.out.rc;have hjI:(0:Int)<=(j:Nat)/\((j:Nat):Int)<(N:Nat):=by omega
            clear hoin hjN' hjc hj hco;go_wp2_with fail;have cq:∀m:Lat w6,m.w.cell? ⟨w.heap.size+1+1+1,k,none⟩=some (O ii ck):=fun m=>by rw [<-Hckk.out];exact (HC6.out.upto m.h).nm.c hkl
            have hvw:IntKind.i64.wrap (ck+co1)=ck+co1:=by rw [IntKind.wrap_i64];omega
            have hne:=zAq w6;clear o2 o3 s4 s5 s6 s7 hz0 hz1 hz2 hz3;refine zAh (by kernel_rfl) (by kernel_rfl) ?_;repeat (go_big_quiet_step (first|(go_at_call 147;exact zA3 (HCo.out _))))
            refine wpQuiet_nil ?_;rintro _ ⟨m,rfl⟩;have HCm:=zAc (HC6.out.upto m.h);have HTm:=zAc (HT6.out.kept m.h);obtain ⟨cj,hcj⟩:∃cj,C j=cj:=⟨_,rfl⟩
            have cu:=HCm.out.nm.c hjN;rw [hcj] at cu;have fu:=HCm.out.nm.fz j;have Hcj:=zAc hcj;clear cq hne HCo HC6 HT6 Hb6 hcj
            by_cases hj0:cj<0
            ·have HCn:=zAc ((HCm.out.set hjN (ck+co1)).congr (C':=fun m=>if m=j then C k+co1 else C m) (fun m _=>by rw [Hckk.out]));have HBn:Hid (Bf wd ht tl f c s ix iy rw rh tg (fun m=>if m=j then C k+co1 else C m)):=zAc (HBf.out.turn (by rw [<-HN.out];exact hkl) (by rw [<-HN.out];exact hjN) hcoI HSR.out (by rw [Hckk.out];exact hc0) (.inl (by rw [Hcj.out];exact hj0)));have HSn:Hid (sC N (fun m=>if m=j then C k+co1 else C m)<s0):=zAc (Nat.lt_of_lt_of_le (zPr hjN (by rw [Hckk.out];omega) (by rw [Hckk.out];omega) (.inl (by rw [Hcj.out];exact hj0))) Hle.out);have HTn:=zAc (HTm.out.past (k:=w.heap.size+1+1+1) (o:=j) (s:=O ii (ck+co1)) (by have:=Hbc.out;omega));clear HCm HTm;go_wp2_with fail;go_roundw
             case rel=>exact ⟨dd+1,_,true,rfl,by go_num,by omega,HCn.out,HBn.out,Nat.le_of_lt HSn.out,fun _=>HSn.out,(fun e=>by cases e),HTn.out⟩
             case measure=>simp [intOf];omega
            ·by_cases hjv:ck+co1<cj
             ·have HCn:=zAc ((HCm.out.set hjN (ck+co1)).congr (C':=fun m=>if m=j then C k+co1 else C m) (fun m _=>by rw [Hckk.out]));have HBn:Hid (Bf wd ht tl f c s ix iy rw rh tg (fun m=>if m=j then C k+co1 else C m)):=zAc (HBf.out.turn (by rw [<-HN.out];exact hkl) (by rw [<-HN.out];exact hjN) hcoI HSR.out (by rw [Hckk.out];exact hc0) (.inr (by rw [Hcj.out,Hckk.out];exact hjv)));have HSn:Hid (sC N (fun m=>if m=j then C k+co1 else C m)<s0):=zAc (Nat.lt_of_lt_of_le (zPr hjN (by rw [Hckk.out];omega) (by rw [Hckk.out];omega) (.inr (by rw [Hcj.out,Hckk.out];exact hjv))) Hle.out);have HTn:=zAc (HTm.out.past (k:=w.heap.size+1+1+1) (o:=j) (s:=O ii (ck+co1)) (by have:=Hbc.out;omega));clear HCm HTm;go_wp2_with fail;go_roundw
              case rel=>exact ⟨dd+1,_,true,rfl,by go_num,by omega,HCn.out,HBn.out,Nat.le_of_lt HSn.out,fun _=>HSn.out,(fun e=>by cases e),HTn.out⟩
              case measure=>simp [intOf];omega
             ·have HF2:Hid (bb=false->(∀i',i'<k->∀d,d<8->Fn wd ht tl f c s ix iy rw rh C i' d)/\∀d,d<dd+1->Fn wd ht tl f c s ix iy rw rh C k d):=zAc fun e=>⟨(HFn.out e).1,fun d hd=>by
               by_cases e2:d=dd
               ·subst e2;intro _ k' hk' hL hn;rw [Hck.out.1,Hexy.out.1,Hexy.out.2.1] at hn;rw [Hone.out k' hk' hn,Hcj.out,Hckk.out,Hco.out];omega
               ·exact (HFn.out e).2 d (by omega)⟩
              go_wp2_with fail;go_roundw
              case rel=>exact ⟨dd+1,C,bb,rfl,by go_num,by omega,HCm.out,HBf.out,Hle.out,Hlts.out,HF2.out,HTm.out⟩
              case measure=>simp [intOf];omega
         ·have hdI:¬((dd:Nat):Int)<8:=by omega
          have hde:dd=8:=by omega
          subst hde
          have HF2:Hid (bb=false->∀i',i'<k+1->∀d,d<8->Fn wd ht tl f c s ix iy rw rh C i' d):=zAc fun e i' hi' d hd=>by
           by_cases e2:i'=k
           ·subst e2;exact (HFn.out e).2 d hd
           ·exact (HFn.out e).1 i' (by omega) d hd
          go_wp2_with fail;go_roundw
          case rel=>exact ⟨k+1,C,bb,rfl,by go_num,by omega,HC.out,HBf.out,Hle.out,Hlts.out,HF2.out⟩
          case measure=>simp [intOf];omega
        ·have HF2:Hid (bb=false->∀i',i'<k+1->∀d,d<8->Fn wd ht tl f c s ix iy rw rh C i' d):=zAc fun e i' hi' d hd=>by
          by_cases e2:i'=k
          ·subst e2;intro h9;rw [Hckk.out] at h9;exact absurd h9 hc0
          ·exact (HFn.out e).1 i' (by omega) d hd
         go_wp2_with fail;go_roundw
         case rel=>exact ⟨k+1,C,bb,rfl,by go_num,by omega,HC.out,HBf.out,Hle.out,Hlts.out,HF2.out⟩
         case measure=>simp [intOf];omega
      ·have hkI:¬((k:Nat):Int)<(N:Nat):=by omega
       have hke:N=k:=by omega
       subst hke;have HC:=zAc hC;have HBf:=zAc hBf;have HFn:=zAc hFn;have Hm:Hid (b1=true->sC N C1<s0):=zAc hlts;have Hl:=zAc hle;have Hsw:=zAc (qAm hC.nm);clear hC hBf hle hlts hFn;go_wp2_with fail;go_roundw
       case rel=>exact ⟨C1,b1,rfl,HC.out,HBf.out,HFn.out⟩
       case measure =>
        rw [Hsw.out,Hs0.out];cases b1
        ·have:=Hl.out;simp only [qDa];omega
        ·have:=Hm.out rfl;simp only [qDa];omega
end Go.Proofs.YthiafmlgialbnaaGreatDoor
