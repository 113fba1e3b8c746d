import Derived.Test.YtejjcenhjpjefaaGreatDoorHpo
import Derived.Test.YtejjcenhjpjefaaGreatDoorStands
set_option linter.all false
set_option maxRecDepth 1000000
set_option maxHeartbeats 64000000
open Go.Proofs.Tryz
open Go.Proofs.Tryz renaming prog->pg
open Array renaming getElem?_eq_some_iff->gE
open And renaming intro->ai
open Go.Value renaming int->O
open Go.IntKind renaming i64->ii
namespace Go.Proofs.YtejjcenhjpjefaaGreatDoor
open Go.RowKit
section
def Sr (w:World) (k p:Nat) (c s ix iy iw ih:Int) (gv cv:Value) (b:Nat) (lf:Value):Prop:=
 w.heap[k]? = some (.cells #[ptr p,O ii c,O ii s,O ii ix,O ii iy,O ii iw,O ii ih,gv,cv,ptr b,lf] 116 (0,0))
section
variable {w w':World} {k p:Nat} {c s ix iy iw ih:Int} {gv cv:Value} {b:Nat} {lf:Value}
theorem Sr.lt (h:Sr w k p c s ix iy iw ih gv cv b lf):k<w.heap.size:=(gE.1 h).1
theorem Sr.kept {S:Nat->Prop} (h:Sr w k p c s ix iy iw ih gv cv b lf) (ht:Turns S w w') (hs:¬S k):Sr w' k p c s ix iy iw ih gv cv b lf:=ht.same hs h
theorem Sr.upto (h:Sr w k p c s ix iy iw ih gv cv b lf) (hb:Below w.heap.size w w'):Sr w' k p c s ix iy iw ih gv cv b lf:=h.kept (S:=NoB) (Turns.of_below hb) id
theorem Sr.cl (h:Sr w k p c s ix iy iw ih gv cv b lf) (j:Nat):w.cell? ⟨k,j,none⟩=(#[ptr p,O ii c,O ii s,O ii ix,O ii iy,O ii iw,O ii ih,gv,cv,ptr b,lf]:Array Value)[j]? := cell_of_row w k j _ _ _ h
end
theorem zCr {a b c d m n:Int} (ha:0<=a) (ha':a<n) (hb:0<=b) (hb':b<m):0<=a*m+b/\a*m+b<n*m:=by
 have h1:0<=a*m:=Int.mul_nonneg ha (by omega);have h2:(a+1)*m<=n*m:=Int.mul_le_mul_of_nonneg_right (by omega) (by omega);have h3:(a+1)*m=a*m+m:=by rw [Int.add_mul,Int.one_mul]
 omega
theorem zCt (k p:Nat) (c s ix iy iw ih:Int) (gv cv:Value) (b:Nat) (lf:Value) (x y:Int) (w:World) (h:Sr w k p c s ix iy iw ih gv cv b lf)
 (hx:0<=x-ix/\x-ix<iw) (hy:0<=y-iy/\y-iy<ih) (hi:0<=ix/\0<=iy/\ix+iw<=1048576/\iy+ih<=1048576) :
 Calls pg 50 #[ptr k,.agg #[O ii x,O ii y]] w fun e w'=>e = .returned (O ii ((y-iy)*iw+(x-ix)))/\Below w.heap.size w w':=by
 have B0:=zAh w (.cells #[O ii x,O ii y] 23);have hS:=h.upto B0;have c3:=hS.cl 3;have c4:=hS.cl 4;have c5:=hS.cl 5;have hI:=zCr (c:=0) (d:=0) hy.1 hy.2 hx.1 hx.2;have hM:ih*iw<=1048576*1048576:=Int.mul_le_mul (by omega) (by omega) (by omega) (by omega);have w1:IntKind.i64.wrap (y-iy)=y-iy:=IntWalk.i64_in _ (by omega);have w2:IntKind.i64.wrap ((y-iy)*iw)=(y-iy)*iw:=IntWalk.i64_in _ (by omega);have w3:IntKind.i64.wrap ((y-iy)*iw+x)=(y-iy)*iw+x:=IntWalk.i64_in _ (by omega);have w4:IntKind.i64.wrap ((y-iy)*iw+x-ix)=(y-iy)*iw+x-ix:=IntWalk.i64_in _ (by omega);simp at c3 c4 c5;have HS:(fun wx:World=>wx.cell? ⟨k,3,none⟩=some (O ii ix)/\wx.cell? ⟨k,4,none⟩=some (O ii iy)/\wx.cell? ⟨k,5,none⟩=some (O ii iw)/\wx.cell? ⟨w.heap.size,0,none⟩=some (O ii x)/\wx.cell? ⟨w.heap.size,1,none⟩=some (O ii y)) (w.alloc (.cells #[O ii x,O ii y] 23)).drew:=⟨c3,c4,c5,by simp [go_sem],by simp [go_sem]⟩
 clear c3 c4 c5 hS;go_enter func50,ntmps50;go_wp2_with fail;refine zAj ?_;refine zAe (fun wx:World=>wx.cell? ⟨k,3,none⟩=some (O ii ix)/\wx.cell? ⟨k,4,none⟩=some (O ii iy)/\wx.cell? ⟨k,5,none⟩=some (O ii iw)/\wx.cell? ⟨w.heap.size,0,none⟩=some (O ii x)/\wx.cell? ⟨w.heap.size,1,none⟩=some (O ii y)) [] (by kernel_rfl) ?_;refine zv 0 26 8 [.pointer (some ⟨w.heap.size,1,none⟩),O ii (y),ptr k,ptr k,.pointer (some ⟨k,3,none⟩),.pointer (some ⟨k,3,none⟩),.pointer (some ⟨k,4,none⟩),O ii (iy),O ii (y-iy),ptr k,ptr k,.pointer (some ⟨k,3,none⟩),.pointer (some ⟨k,5,none⟩),O ii (iw),O ii ((y-iy)*iw),.pointer (some ⟨w.heap.size,0,none⟩),O ii (x),O ii ((y-iy)*iw+x),ptr k,ptr k,.pointer (some ⟨k,3,none⟩),.pointer (some ⟨k,3,none⟩),.pointer (some ⟨k,3,none⟩),O ii (ix),O ii ((y-iy)*iw+x-ix),O ii ((y-iy)*iw+x-ix)] rfl rfl (by kernel_rfl) HS ?_;repeat (refine zc rfl (by rfl) (fun wx hx=>by go_simp) ?_;simp only [zp])
 refine zn ?_;refine zAd (by kernel_rfl) ?_ _;dsimp only [zAv,Exit.then];go_wp2_with fail;refine bodyPost_ret (v:=O ii ((y-iy)*iw+x-ix)) (by simp [results,Tryz.results50,go_sem]) rfl ?_;exact ⟨zH4 (by omega),B0.drew⟩
end
theorem zVe {a b c d m:Int} (hb:0<=b) (hb':b<m) (hd:0<=d) (hd':d<m) (h:a*m+b=c*m+d):a=c/\b=d:=by
 have key:∀u v:Int,u<v->u*m+m<=v*m:=fun u v huv=>by
  have h2:(u+1)*m<=v*m:=Int.mul_le_mul_of_nonneg_right (by omega) (by omega);rw [Int.add_mul,Int.one_mul] at h2;exact h2
 rcases Int.lt_trichotomy a c with q|q|q
 ·have:=key _ _ q;omega
 ·subst q;exact ⟨rfl,by omega⟩
 ·have:=key _ _ q;omega
theorem Tls.got {w:World} {g cap:Nat} {l:List Nat} (h:Tls w (.slice (some ⟨g,0,none⟩) l.length cap) l) {j n:Nat} (hj:l[j]? = some n):w.cell? ⟨g,j,none⟩=some (.int .u8 (n:Nat))/\w.frozen? ⟨g,j,none⟩=false:=by
 refine ⟨?_,?_⟩
 ·have:=World.ownsRow.cells h (g:=g) rfl j (.int .u8 (n:Nat)) (by simp [hj]);simpa [Addr.add_lit] using this
 ·rcases h.2 with ⟨e,_⟩|⟨g',cap',cur,e,hb,hg,r⟩
  ·cases e
  ·simp only [Value.slice.injEq,Option.some.injEq,Addr.mk.injEq,and_true,true_and] at e;obtain ⟨rfl,-⟩:=e;simp [World.frozen?,hg]
theorem Tls.put {w:World} {g cap:Nat} {l:List Nat} (h:Tls w (.slice (some ⟨g,0,none⟩) l.length cap) l) (j m:Nat):Tls (w.setCell ⟨g,j,none⟩ (.int .u8 (m:Nat))) (.slice (some ⟨g,0,none⟩) l.length cap) (l.set j m):=by
 unfold Tls;rw [List.map_set,List.length_set];exact (World.ownsRow.stored h j _).1
theorem Tls.upto {w w':World} {v:Value} {l:List Nat} (h:Tls w v l) (hb:Below w.heap.size w w'):Tls w' v l:=h.kept (S:=NoB) (Turns.of_below hb) (fun _ _=>id)
theorem Sr.ne_row {w:World} {k p:Nat} {c s ix iy iw ih:Int} {gv cv:Value} {b:Nat} {lf:Value} (h:Sr w k p c s ix iy iw ih gv cv b lf) {u:Value} {e:TypeId} {z m:Nat} {xs:List Value} (hv:w.ownsRow 0 e z u m xs) (he:e≠116):u.ownBlock≠some k:=by
 intro hh;rcases hv.2 with ⟨rfl,_⟩|⟨g,cap,cur,rfl,hb,hg,_⟩
 ·simp [Value.ownBlock] at hh
 ·simp [Value.ownBlock] at hh;subst hh;rw [show w.heap[g]? = _ from h] at hg;simp at hg;exact he hg.2.symm
def ij (ix iy iw x y:Int):Nat:=((y-iy)*iw+(x-ix)).toNat
def Gok (W H:Int) (tl:List Nat) (f:Int->Int->Option Int) (c s ix iy iw ih:Int) (G:List Nat):Prop:=
 G.length=(ih*iw).toNat/\∀x y,(0<=x-ix/\x-ix<iw)->(0<=y-iy/\y-iy<ih)->∃n,G[ij ix iy iw x y]? = some n/\(n=0\/n=if stB W H tl f c s x y=true then 1 else 2)
theorem Gok.put {W H:Int} {tl:List Nat} {f:Int->Int->Option Int} {c s ix iy iw ih:Int} {G:List Nat} (h:Gok W H tl f c s ix iy iw ih G) {x y:Int} (hx:0<=x-ix/\x-ix<iw) (hy:0<=y-iy/\y-iy<ih) :
 Gok W H tl f c s ix iy iw ih (G.set (ij ix iy iw x y) (if stB W H tl f c s x y=true then 1 else 2)):=by
 refine ⟨by rw [List.length_set];exact h.1,fun x' y' hx' hy'=>?_⟩
 by_cases e:ij ix iy iw x' y'=ij ix iy iw x y
 ·have hI:=zCr (c:=0) (d:=0) hy.1 hy.2 hx.1 hx.2;have hI':=zCr (c:=0) (d:=0) hy'.1 hy'.2 hx'.1 hx'.2;have e2:(y'-iy)*iw+(x'-ix)=(y-iy)*iw+(x-ix):=by unfold ij at e;omega
  obtain ⟨e3,e4⟩:=zVe hx'.1 hx'.2 hx.1 hx.2 e2;have ex:x'=x:=by omega
  have ey:y'=y:=by omega
  subst ex ey;obtain ⟨n,hn,-⟩:=h.2 x' y' hx' hy';have hl:ij ix iy iw x' y'<G.length:=(List.getElem?_eq_some_iff.1 hn).1;exact ⟨_,by rw [List.getElem?_set_self hl],.inr rfl⟩
 ·obtain ⟨n,hn,hv⟩:=h.2 x' y' hx' hy';exact ⟨n,by rw [List.getElem?_set_ne (fun q=>e q.symm)];exact hn,hv⟩
theorem zCd:Rcl 50:=zl fun _ _=>by go_simp
theorem zMp:Rcl 8:=zl fun _ _=>by go_simp
theorem zMi (w0:World) (k p:Nat) (c s ix iy iw ih:Int) (gv cv:Value) (b:Nat) (lf:Value) (W H:Int) (tl:List Nat) (f:Int->Int->Option Int) (G:List Nat) (x y:Int) (w:World)
 (hw:Wl w0 p W H tl f) (hg:Grnd w0) (hB:Below w0.heap.size w0 w) (h:Sr w k p c s ix iy iw ih gv cv b lf) (hG:Tls w gv G) (hok:Gok W H tl f c s ix iy iw ih G) (hgv:∀j,gv.ownBlock=some j->w0.heap.size<=j)
 (hx:0<=x-ix/\x-ix<iw) (hy:0<=y-iy/\y-iy<ih) (hi:0<=ix/\0<=iy/\ix+iw<=1048576/\iy+ih<=1048576) :
 Calls pg 151 #[ptr k,cel x y] w fun e w'=>e = .returned (.bool (stB W H tl f c s x y))/\∃G',Gok W H tl f c s ix iy iw ih G'/\Tls w' gv G'/\Turns (fun j=>gv.ownBlock=some j) w w':=by
 obtain ⟨X,hX⟩:∃X,w.alloc (.cells #[O ii x,O ii y] 23)=X:=⟨_,rfl⟩
 have B0:Below w.heap.size w X:=hX▸zAh _ _;have F0:Two X w.heap.size x y:=by rw [<-hX];exact Two.newAt rfl
 have hI:=zCr (c:=0) (d:=0) hy.1 hy.2 hx.1 hx.2;obtain ⟨J,hJ⟩:∃J:Nat,(y-iy)*iw+(x-ix)=(J:Int):=⟨((y-iy)*iw+(x-ix)).toNat,by omega⟩
 have hJi:ij ix iy iw x y=J:=by unfold ij;omega
 obtain ⟨n,hn,hnv⟩:=hok.2 x y hx hy;have hput:=hok.put hx hy;rw [hJi] at hn hput;obtain ⟨a0,cap,rfl,hcap,hmax,hfo⟩:=hG.form;obtain ⟨g,rfl,hgl,-⟩:=hfo J n hn;have hJl:J<G.length:=(List.getElem?_eq_some_iff.1 hn).1;have hJli:(J:Int)<(G.length:Nat):=by omega
 have hgk:g≠k:=fun e=>h.ne_row hG (by decide) (by rw [e];rfl);have hkl:=h.lt;have hg0:w0.heap.size<=g:=hgv g rfl;have szX:X.heap.size=w.heap.size+1:=by rw [<-hX];simp
 have HI:=zAb (zCt k p c s ix iy iw ih _ cv b lf x y X.drew (h.upto B0.drew) hx hy hi);rw [hJ] at HI;have HS:(fun wx:World=>wx.cell? ⟨k,7,none⟩=some (.slice (some ⟨g,0,none⟩) G.length cap)/\wx.cell? ⟨w.heap.size,0,none⟩=some (O ii x)/\wx.cell? ⟨w.heap.size,1,none⟩=some (O ii y)) X.drew:=⟨(h.upto B0).cl 7,F0.1.1,F0.1.2⟩
 have HX:=zAb hX
 have HK:Hid (∀w2,Below X.drew.heap.size X.drew w2->(fun wx:World=>wx.cell? ⟨k,7,none⟩=some (.slice (some ⟨g,0,none⟩) G.length cap)/\wx.cell? ⟨w.heap.size,0,none⟩=some (O ii x)/\wx.cell? ⟨w.heap.size,1,none⟩=some (O ii y)) w2/\(Sr w2 k p c s ix iy iw ih (.slice (some ⟨g,0,none⟩) G.length cap) cv b lf/\Tls w2 (.slice (some ⟨g,0,none⟩) G.length cap) G/\Two w2 w.heap.size x y/\Below w.heap.size w w2)):=zAb fun w2 hb=>by
  have hb':Below X.heap.size X w2:=(Below.refl _ X).drew.trans hb;have k1:=(h.upto B0).upto hb';have k2:=F0.kept hb';exact ⟨⟨k1.cl 7,k2.1.1,k2.1.2⟩,k1,(hG.upto B0).upto hb',k2,bt B0 hb'⟩
 have HSu:=zAb h;have HB:=zAb hB;clear hX B0 F0 hfo h hB hI hJ;go_enter func151,ntmps151;go_wp2_with (rw [HX.out]);refine zAj ?_;refine zAe (fun wx:World=>wx.cell? ⟨k,7,none⟩=some (.slice (some ⟨g,0,none⟩) G.length cap)/\wx.cell? ⟨w.heap.size,0,none⟩=some (O ii x)/\wx.cell? ⟨w.heap.size,1,none⟩=some (O ii y)) [] (by kernel_rfl) ?_;refine zv 0 6 8 [ptr k,ptr k,.pointer (some ⟨k,7,none⟩),.slice (some ⟨g,0,none⟩) G.length cap,ptr k,cel x y] rfl rfl (by kernel_rfl) HS ?_;repeat (refine zc rfl (by rfl) (fun wx hx=>by go_simp) ?_;simp only [zp])
 refine zn ?_;refine zw 6 [] (by kernel_rfl) ?_;refine readyZ.call rfl rfl (zCd (by rfl) (by rfl) (by simp only [zj];rfl)) HI.out ?_ readyZ.nil;rintro e w2 ⟨rfl,hb2⟩;obtain ⟨hs2,sr2,g2,b2,bw2⟩:=HK.out w2 hb2;refine ⟨_,rfl,fun _=>hs2,?_⟩;clear HS;try simp only [zp]
 refine zv 7 2 8 [.pointer (some ⟨g,J,none⟩),.pointer (some ⟨g,J,none⟩)] rfl rfl (by kernel_rfl) hs2 ?_;repeat (refine zc rfl (by rfl) (fun wx hx=>by go_simp) ?_;simp only [zp])
 refine zn ?_;refine zAd (by kernel_rfl) ?_ _;dsimp only [zAv,Exit.then];obtain ⟨cJ,fJ⟩:=g2.got hn;rcases hnv with rfl|hnv
 ·
  rw [show ((0:Nat):Int)=0 from rfl] at cJ;obtain ⟨Y3,hY3⟩:∃Y3,w2.setCell ⟨g,J,none⟩ (.int .u8 2)=Y3:=⟨_,rfl⟩
  have T3:Turns (fun j=>j=g) w2 Y3:=hY3▸Turns.set (S:=fun j=>j=g) w2 (p:=⟨g,J,none⟩) rfl _;have sr3:=sr2.kept T3 (fun e=>hgk e.symm);have hgw:¬w.heap.size=g:=by omega
  have b3:Two Y3 w.heap.size x y:=hY3▸b2.past hgw;have t3:Tls Y3 (.slice (some ⟨g,0,none⟩) G.length cap) (G.set J 2):=hY3▸g2.put J 2;have B3:Below w0.heap.size w0 Y3:=(bt HB.out bw2).trans (T3.below (B:=w0.heap.size) (fun j e=>by rw [e];exact hg0) (Nat.le_trans HB.out.size bw2.size));have HSt:=zAb (zCc p W H tl f c s x y Y3.drew (hw.kept B3.drew) (hg.kept B3.drew));have TT3:Turns (fun j=>(.slice (some ⟨g,0,none⟩) G.length cap:Value).ownBlock=some j) w Y3:=(Turns.of_below bw2).trans (T3.mono (fun j _ e => .inl (by rw [e];rfl)));have HS2:(fun wx:World=>wx.cell? ⟨k,0,none⟩=some (ptr p)/\wx.cell? ⟨k,1,none⟩=some (O ii c)/\wx.cell? ⟨k,2,none⟩=some (O ii s)/\wx.cell? ⟨w.heap.size,0,none⟩=some (O ii x)/\wx.cell? ⟨w.heap.size,1,none⟩=some (O ii y)) Y3.drew:=⟨sr3.cl 0,sr3.cl 1,sr3.cl 2,b3.1.1,b3.1.2⟩
  have HK3:Hid (∀w4,Below Y3.drew.heap.size Y3.drew w4->(fun wx:World=>wx.cell? ⟨k,0,none⟩=some (ptr p)/\wx.cell? ⟨k,1,none⟩=some (O ii c)/\wx.cell? ⟨k,2,none⟩=some (O ii s)/\wx.cell? ⟨w.heap.size,0,none⟩=some (O ii x)/\wx.cell? ⟨w.heap.size,1,none⟩=some (O ii y)) w4/\Tls w4 (.slice (some ⟨g,0,none⟩) (G.set J 2).length cap) (G.set J 2)/\Turns (fun j=>(.slice (some ⟨g,0,none⟩) G.length cap:Value).ownBlock=some j) w w4):=zAb fun w4 hb=>by
   have hb':Below Y3.heap.size Y3 w4:=(Below.refl _ Y3).drew.trans hb;have k1:=sr3.upto hb';have k2:=b3.kept hb';exact ⟨⟨k1.cl 0,k1.cl 1,k1.cl 2,k2.1.1,k2.1.2⟩,by rw [List.length_set];exact t3.upto hb',TT3.trans (Turns.of_below hb')⟩
  have HY3:=zAb hY3;clear hs2 sr2 g2 b2 bw2 hY3 T3 sr3 b3 t3 B3 TT3;go_wp2_with (rw [HY3.out]);refine zAj ?_;refine zAe (fun wx:World=>wx.cell? ⟨k,0,none⟩=some (ptr p)/\wx.cell? ⟨k,1,none⟩=some (O ii c)/\wx.cell? ⟨k,2,none⟩=some (O ii s)/\wx.cell? ⟨w.heap.size,0,none⟩=some (O ii x)/\wx.cell? ⟨w.heap.size,1,none⟩=some (O ii y)) [] (by kernel_rfl) ?_;refine zv 0 9 8 [ptr k,ptr k,.pointer (some ⟨k,0,none⟩),ptr p,ptr k,ptr k,.pointer (some ⟨k,1,none⟩),shv c s,cel x y] rfl rfl (by kernel_rfl) HS2 ?_;repeat (refine zc rfl (by rfl) (fun wx hx=>by go_simp) ?_;simp only [zp])
  refine zn ?_;refine zw 9 [] (by kernel_rfl) ?_;refine readyZ.call rfl rfl (zMp (by rfl) (by rfl) (by simp only [zj];rfl)) HSt.out ?_ readyZ.nil;rintro e w4 ⟨rfl,hb4⟩;obtain ⟨hs4,t4,T4⟩:=HK3.out w4 hb4;refine ⟨_,rfl,fun _=>hs4,?_⟩;try simp only [zp]
  refine zAd (by kernel_rfl) ?_ _;dsimp only [zAv,Exit.then];obtain ⟨c4,f4⟩:=t4.got (j:=J) (n:=2) (List.getElem?_set_self hJl);rw [show ((2:Nat):Int)=2 from rfl] at c4;have t5:=t4.put J 1;rw [List.set_set,List.length_set] at t5;rw [List.length_set] at t4;have T5:Turns (fun j=>(.slice (some ⟨g,0,none⟩) G.length cap:Value).ownBlock=some j) w (w4.setCell ⟨g,J,none⟩ (.int .u8 1)):=T4.trans (Turns.set _ (p:=⟨g,J,none⟩) (.inl rfl) _);have H4:=zAb (ai t4 T4);have H5:=zAb (ai t5 T5);have HP:=zAb hput;clear HS2 HK3 HSt hs4 t4 T4 t5 T5 HI HK hput;cases hst:stB W H tl f c s x y
  ·rw [hst] at HP;go_wp2_with fail;refine bodyPost_ret (v:=.bool false) (by simp [results,Tryz.results151,go_sem]) rfl ?_;exact ⟨by first|rfl|exact zAm hst.symm,_,HP.out,H4.out.1,H4.out.2⟩
  ·rw [hst] at HP;go_wp2_with fail;refine bodyPost_ret (v:=.bool true) (by simp [results,Tryz.results151,go_sem]) rfl ?_;exact ⟨by first|rfl|exact zAm hst.symm,_,HP.out,H5.out.1,H5.out.2⟩
 ·have HO:=zAb hok;have HE:Hid (Tls w2 (.slice (some ⟨g,0,none⟩) G.length cap) G/\Turns (fun j=>(.slice (some ⟨g,0,none⟩) G.length cap:Value).ownBlock=some j) w w2):=zAb ⟨g2,Turns.of_below bw2⟩;clear hs2 sr2 g2 b2 bw2 HK HI hput hok;cases hst:stB W H tl f c s x y
  ·rw [hst] at hnv;simp at hnv;subst hnv;rw [show ((2:Nat):Int)=2 from rfl] at cJ;go_wp2_with fail;refine bodyPost_ret (v:=.bool false) (by simp [results,Tryz.results151,go_sem]) rfl ?_;exact ⟨by first|rfl|exact zAm hst.symm,_,HO.out,HE.out.1,HE.out.2⟩
  ·rw [hst] at hnv;simp at hnv;subst hnv;rw [show ((1:Nat):Int)=1 from rfl] at cJ;go_wp2_with fail;refine bodyPost_ret (v:=.bool true) (by simp [results,Tryz.results151,go_sem]) rfl ?_;exact ⟨by first|rfl|exact zAm hst.symm,_,HO.out,HE.out.1,HE.out.2⟩
def Cts (w:World) (v:Value) (C:List Int):Prop:=w.ownsRow 0 3 1 v C.length (C.map (fun n=>Value.int .i64 n))
theorem Cts.kept {w w':World} {v:Value} {l:List Int} {S:Nat->Prop} (h:Cts w v l) (ht:Turns S w w') (hs:∀k,v.ownBlock=some k->¬S k):Cts w' v l:=zA3 h ht hs
theorem Cts.upto {w w':World} {v:Value} {l:List Int} (h:Cts w v l) (hb:Below w.heap.size w w'):Cts w' v l:=h.kept (S:=NoB) (Turns.of_below hb) (fun _ _=>id)
theorem Cts.form {w:World} {v:Value} {l:List Int} (h:Cts w v l) (hl:0<l.length):∃g cap,v = .slice (some ⟨g,0,none⟩) l.length cap/\g<w.heap.size:=by
 rcases h.2 with ⟨e,h0⟩|⟨g,cap,cur,e,hb,hg,hn,hm,hs,ht⟩
 ·omega
 ·exact ⟨g,cap,e,(gE.1 hg).1⟩
theorem Cts.got {w:World} {g cap:Nat} {l:List Int} (h:Cts w (.slice (some ⟨g,0,none⟩) l.length cap) l) {j:Nat} {n:Int} (hj:l[j]? = some n):w.cell? ⟨g,j,none⟩=some (O ii n)/\w.frozen? ⟨g,j,none⟩=false:=by
 refine ⟨?_,?_⟩
 ·have:=World.ownsRow.cells h (g:=g) rfl j (O ii n) (by simp [hj]);simpa [Addr.add_lit] using this
 ·rcases h.2 with ⟨e,_⟩|⟨g',cap',cur,e,hb,hg,r⟩
  ·cases e
  ·simp only [Value.slice.injEq,Option.some.injEq,Addr.mk.injEq,and_true,true_and] at e;obtain ⟨rfl,-⟩:=e;simp [World.frozen?,hg]
theorem Cts.put {w:World} {g cap:Nat} {l:List Int} (h:Cts w (.slice (some ⟨g,0,none⟩) l.length cap) l) (j:Nat) (m:Int):Cts (w.setCell ⟨g,j,none⟩ (O ii m)) (.slice (some ⟨g,0,none⟩) l.length cap) (l.set j m):=by
 unfold Cts;rw [List.map_set,List.length_set];exact (World.ownsRow.stored h j _).1
def Lfo (w0:World) (lf:Value) (L:Int->Int->Int):Prop:=
 ∀x y,∃fl vs,(∀(ev:Operand->Value) (o:Oper) (w:World) (c:Operand) (ar:Array Operand) (ts:Array TypeId),o.op = .call { callee:=.value c,args:=ar,argTypes:=ts }->ev c=lf->ar.map ev=#[cel x y]->(execOp ev o).run pg w = .ok (.enter fl vs) w)/\
  ∀w,Below w0.heap.size w0 w->Calls pg fl vs w fun e w'=>e = .returned (O ii (L x y))/\Below w.heap.size w w'
theorem zG8:Rcl 113:=zl fun _ _=>by go_simp
theorem zFp {ev:Operand->Value} {o:Oper} {w:World} {x:Operand} {ad:Addr} {u:Value} {t:TypeId} (ht:t=111\/t=114) (ho:o.op = .load t x) (hx:ev x = .pointer (some ad)) (h0:w.cell? ad=some u):(execOp ev o).run pg w = .ok (.value u) w:=by
 rcases ht with rfl|rfl<;>(unfold execOp;rw [ho];simp only [hx];go_simp)
structure Sch (w0 w:World) (k p:Nat) (c s ix iy iw ih:Int) (gv cv:Value) (b:Nat) (lf:Value) (G:List Nat) (C:List Int) (hv:Value) (n:Int) (S:List It):Prop where
 bel:Below w0.heap.size w0 w
 sr:Sr w k p c s ix iy iw ih gv cv b lf
 gr:Tls w gv G
 ct:Cts w cv C
 hs:Hs w b hv n S
 kn:w0.heap.size<=k
 bn:w0.heap.size<=b
 gn:∀j,gv.ownBlock=some j->w0.heap.size<=j
 cn:∀j,cv.ownBlock=some j->w0.heap.size<=j
 hn:∀j,hv.ownBlock=some j->w0.heap.size<=j
theorem Hs.row {w:World} {b:Nat} {v:Value} {n:Int} {S:List It} (h:Hs w b v n S):∃l,Its w v l/\Hp w b v n false:=by
 obtain ⟨l,h1,h2,-,-⟩:=h;exact ⟨l,h2,h1⟩
theorem Sch.upto {w0 w w':World} {k p:Nat} {c s ix iy iw ih:Int} {gv cv:Value} {b:Nat} {lf:Value} {G:List Nat} {C:List Int} {hv:Value} {n:Int} {S:List It} (h:Sch w0 w k p c s ix iy iw ih gv cv b lf G C hv n S) (hb:Below w.heap.size w w'):Sch w0 w' k p c s ix iy iw ih gv cv b lf G C hv n S:=
 ⟨bt h.bel hb,h.sr.upto hb,h.gr.upto hb,h.ct.upto hb,h.hs.upto hb,h.kn,h.bn,h.gn,h.cn,h.hn⟩
theorem Sch.cost {w0 w:World} {k p:Nat} {c s ix iy iw ih:Int} {gv:Value} {g cap:Nat} {b:Nat} {lf:Value} {G:List Nat} {C:List Int} {hv:Value} {n:Int} {S:List It} (h:Sch w0 w k p c s ix iy iw ih gv (.slice (some ⟨g,0,none⟩) C.length cap) b lf G C hv n S) (J:Nat) (m:Int):Sch w0 (w.setCell ⟨g,J,none⟩ (O ii m)) k p c s ix iy iw ih gv (.slice (some ⟨g,0,none⟩) C.length cap) b lf G (C.set J m) hv n S:=by
 have T:Turns (fun j=>j=g) w (w.setCell ⟨g,J,none⟩ (O ii m)):=Turns.set (S:=fun j=>j=g) w (p:=⟨g,J,none⟩) rfl _;have hgn:w0.heap.size<=g:=h.cn g rfl;obtain ⟨l,hl,hp⟩:=h.hs.row;refine ⟨h.bel.trans (T.below (fun j e=>by rw [e];exact hgn) h.bel.size),h.sr.kept T (fun e=>h.sr.ne_row h.ct (by decide) (by rw [e];rfl)),h.gr.kept T (fun j e q=>zC5 h.gr h.ct (by decide) e (by rw [q];rfl)),h.ct.put J m,h.hs.kept T (fun e=>hp.ne_row h.ct (by decide) (by rw [e];rfl)) (fun j e q=>zC5 hl h.ct (by decide) e (by rw [q];rfl)),h.kn,h.bn,h.gn,h.cn,h.hn⟩
theorem Sch.push {w0 w w':World} {k p:Nat} {c s ix iy iw ih:Int} {gv cv:Value} {b:Nat} {lf:Value} {G:List Nat} {C:List Int} {hv:Value} {n:Int} {S:List It} {t:It} (h:Sch w0 w k p c s ix iy iw ih gv cv b lf G C hv n S) (hp:zHo w b hv n S t w'):∃hv',Sch w0 w' k p c s ix iy iw ih gv cv b lf G C hv' (n+1) (t::S)/\Turns (fun j=>j=b\/hv.ownBlock=some j) w w'/\∀j,hv'.ownBlock=some j->hv.ownBlock=some j\/w.heap.size<=j:=by
 obtain ⟨hv',h1,h2,h3⟩:=hp;obtain ⟨l,hl,hq⟩:=h.hs.row;have hbs:=h.bel.size;refine ⟨hv',⟨h.bel.trans (h2.below (fun j e=>?_) hbs),h.sr.kept h2 (fun e=>?_),h.gr.kept h2 (fun j e q=>?_),h.ct.kept h2 (fun j e q=>?_),h1,h.kn,h.bn,h.gn,h.cn,fun j e=>?_⟩,h2,h3⟩
 ·rcases e with rfl|e
  ·exact h.bn
  ·exact h.hn j e
 ·rcases e with rfl|e
  ·have a1:w.heap[k]? = _:=h.sr;have a2:w.heap[k]? = _:=hq;rw [a1] at a2;simp at a2
  ·exact h.sr.ne_row hl (by decide) e
 ·rcases q with rfl|q
  ·exact hq.ne_row h.gr (by decide) e
  ·exact zC5 h.gr hl (by decide) e q
 ·rcases q with rfl|q
  ·exact hq.ne_row h.ct (by decide) e
  ·exact zC5 h.ct hl (by decide) e q
 ·rcases h3 j e with q|q
  ·exact h.hn j q
  ·omega
def Own (gv cv:Value) (b:Nat) (hv:Value):Nat->Prop:=fun j=>gv.ownBlock=some j\/cv.ownBlock=some j\/j=b\/hv.ownBlock=some j
theorem zOu (w0:World) (k p:Nat) (c s ix iy iw ih:Int) (gv cv:Value) (b:Nat) (lf:Value) (G:List Nat) (C:List Int) (hv:Value) (n:Int) (S:List It) (L:Int->Int->Int) (x y cost m:Int) (w:World)
 (h:Sch w0 w k p c s ix iy iw ih gv cv b lf G C hv n S) (hlf:Lfo w0 lf L) (hm:C[ij ix iy iw x y]? = some m)
 (hx:0<=x-ix/\x-ix<iw) (hy:0<=y-iy/\y-iy<ih) (hi:0<=ix/\0<=iy/\ix+iw<=1048576/\iy+ih<=1048576)
 (hc:0<=cost+L x y/\cost+L x y<=1152921504606846976) (hn:0<=n/\n+1<=9223372036854775807) (hlen:(S.length+1)*40<=140737488355328) :
 Calls pg 85 #[ptr k,cel x y,O ii cost] w fun e w'=>e = .returned (.tuple #[])/\∃C' hv' n' S',Sch w0 w' k p c s ix iy iw ih gv cv b lf G C' hv' n' S'/\
  ((m≠-1/\m<=cost)/\C'=C/\n'=n/\S'=S\/¬(m≠-1/\m<=cost)/\C'=C.set (ij ix iy iw x y) cost/\n'=n+1/\S'=⟨x,y,cost,cost+L x y,n⟩ :: S)/\
  Turns (Own gv cv b hv) w w'/\∀j,hv'.ownBlock=some j->hv.ownBlock=some j\/w.heap.size<=j:=by
 obtain ⟨X,hX⟩:=ex (w.alloc (.cells #[O ii x,O ii y] 23));have B0:Below w.heap.size w X:=hX▸zAh _ _;have F0:Two X w.heap.size x y:=by rw [<-hX];exact Two.newAt rfl
 have hI:=zCr (c:=0) (d:=0) hy.1 hy.2 hx.1 hx.2;obtain ⟨J,hJ⟩:∃J:Nat,(y-iy)*iw+(x-ix)=(J:Int):=⟨((y-iy)*iw+(x-ix)).toNat,by omega⟩
 have hJi:ij ix iy iw x y=J:=by unfold ij;omega
 rw [hJi] at hm ⊢;have hJl:J<C.length:=(List.getElem?_eq_some_iff.1 hm).1;obtain ⟨g,cap,rfl,hgl⟩:=h.ct.form (by omega);have hJli:(J:Int)<(C.length:Nat):=by omega
 have HI:=zAb (zCt k p c s ix iy iw ih _ _ b lf x y X.drew (h.sr.upto B0.drew) hx hy hi);rw [hJ] at HI;have HS:(fun wx:World=>wx.cell? ⟨k,8,none⟩=some (.slice (some ⟨g,0,none⟩) C.length cap)/\wx.cell? ⟨w.heap.size,0,none⟩=some (O ii x)/\wx.cell? ⟨w.heap.size,1,none⟩=some (O ii y)) X.drew:=⟨(h.sr.upto B0).cl 8,F0.1.1,F0.1.2⟩
 have HX:=zAb hX
 have HK:Hid (∀w2,Below X.drew.heap.size X.drew w2->(fun wx:World=>wx.cell? ⟨k,8,none⟩=some (.slice (some ⟨g,0,none⟩) C.length cap)/\wx.cell? ⟨w.heap.size,0,none⟩=some (O ii x)/\wx.cell? ⟨w.heap.size,1,none⟩=some (O ii y)) w2/\Sch w0 w2 k p c s ix iy iw ih gv (.slice (some ⟨g,0,none⟩) C.length cap) b lf G C hv n S/\Two w2 w.heap.size x y/\Below w.heap.size w w2):=zAb fun w2 hb=>by
  have hb':Below X.heap.size X w2:=(Below.refl _ X).drew.trans hb;have k1:=(h.upto B0).upto hb';have k2:=F0.kept hb';exact ⟨⟨k1.sr.cl 8,k2.1.1,k2.1.2⟩,k1,k2,bt B0 hb'⟩
 obtain ⟨fl,vs,hr,hcl⟩:=hlf x y;have HR:=zAb hr;have HCl:=zAb hcl;clear hX B0 F0 h hI hJ hr hcl hlf;go_enter func85,ntmps85;go_wp2_with (rw [HX.out]);refine zAj ?_;refine zAe (fun wx:World=>wx.cell? ⟨k,8,none⟩=some (.slice (some ⟨g,0,none⟩) C.length cap)/\wx.cell? ⟨w.heap.size,0,none⟩=some (O ii x)/\wx.cell? ⟨w.heap.size,1,none⟩=some (O ii y)) [] (by kernel_rfl) ?_;refine zv 0 6 8 [ptr k,ptr k,.pointer (some ⟨k,8,none⟩),.slice (some ⟨g,0,none⟩) C.length cap,ptr k,cel x y] rfl rfl (by kernel_rfl) HS ?_;repeat (refine zc rfl (by rfl) (fun wx hx=>by go_simp) ?_;simp only [zp])
 refine zn ?_;refine zw 6 [] (by kernel_rfl) ?_;refine readyZ.call rfl rfl (zCd (by rfl) (by rfl) (by simp only [zj];rfl)) HI.out ?_ readyZ.nil;rintro e w2 ⟨rfl,hb2⟩;obtain ⟨hs2,h2,b2,bw2⟩:=HK.out w2 hb2;refine ⟨_,rfl,fun _=>hs2,?_⟩;clear HS HI HK hb2;try simp only [zp]
 refine zv 7 2 8 [.pointer (some ⟨g,J,none⟩),.pointer (some ⟨g,J,none⟩)] rfl rfl (by kernel_rfl) hs2 ?_;repeat (refine zc rfl (by rfl) (fun wx hx=>by go_simp) ?_;simp only [zp])
 refine zn ?_;refine zAd (by kernel_rfl) ?_ _;dsimp only [zAv,Exit.then];obtain ⟨cJ,fJ⟩:=h2.ct.got hm;have hwr:IntKind.i64.wrap (cost+L x y)=cost+L x y:=IntWalk.i64_in _ (by omega)
 by_cases hk:m≠-1/\m<=cost
 ·obtain ⟨hk1,hk2⟩:=hk;have HE:Hid (Sch w0 w2 k p c s ix iy iw ih gv (.slice (some ⟨g,0,none⟩) C.length cap) b lf G C hv n S/\Turns (Own gv (.slice (some ⟨g,0,none⟩) C.length cap) b hv) w w2):=zAb ⟨h2,Turns.of_below bw2⟩;clear hs2 h2 b2 bw2;go_wp2_with fail;refine bodyPost_ret (v:=.tuple #[]) (by simp [results,Tryz.results85,go_sem]) rfl ?_;exact ⟨rfl,_,_,_,_,HE.out.1,.inl ⟨⟨hk1,hk2⟩,rfl,rfl,rfl⟩,HE.out.2,fun j e => .inl e⟩
 ·obtain ⟨Y,hY⟩:=ex (w2.setCell ⟨g,J,none⟩ (O ii cost));have hwg:¬w.heap.size=g:=by omega
  have h3:Sch w0 Y k p c s ix iy iw ih gv (.slice (some ⟨g,0,none⟩) C.length cap) b lf G (C.set J cost) hv n S:=hY▸h2.cost J cost;have b3:Two Y w.heap.size x y:=hY▸b2.past hwg;have T3:Turns (Own gv (.slice (some ⟨g,0,none⟩) C.length cap) b hv) w Y:=(Turns.of_below bw2).trans (hY▸Turns.set w2 (p:=⟨g,J,none⟩) (.inl (.inr (.inl rfl))) _);have HS2:(fun wx:World=>wx.cell? ⟨k,9,none⟩=some (ptr b)/\wx.cell? ⟨k,10,none⟩=some lf/\wx.cell? ⟨w.heap.size,0,none⟩=some (O ii x)/\wx.cell? ⟨w.heap.size,1,none⟩=some (O ii y)) Y.drew:=⟨h3.sr.cl 9,h3.sr.cl 10,b3.1.1,b3.1.2⟩
  have HY:Hid ((∀w4,Below Y.drew.heap.size Y.drew w4->(fun wx:World=>wx.cell? ⟨k,9,none⟩=some (ptr b)/\wx.cell? ⟨k,10,none⟩=some lf/\wx.cell? ⟨w.heap.size,0,none⟩=some (O ii x)/\wx.cell? ⟨w.heap.size,1,none⟩=some (O ii y)) w4/\Sch w0 w4 k p c s ix iy iw ih gv (.slice (some ⟨g,0,none⟩) C.length cap) b lf G (C.set J cost) hv n S/\Turns (Own gv (.slice (some ⟨g,0,none⟩) C.length cap) b hv) w w4/\w.heap.size<=w4.heap.size)/\w2.setCell ⟨g,J,none⟩ (O ii cost)=Y/\Sch w0 Y k p c s ix iy iw ih gv (.slice (some ⟨g,0,none⟩) C.length cap) b lf G (C.set J cost) hv n S/\True):=zAb ⟨fun w4 hb=>by
   have hb':Below Y.heap.size Y w4:=(Below.refl _ Y).drew.trans hb;have k1:=h3.upto hb';have k2:=b3.kept hb';have k3:=T3.trans (Turns.of_below hb')
   exact ⟨⟨k1.sr.cl 9,k1.sr.cl 10,k2.1.1,k2.1.2⟩,k1,k3,k3.size⟩,hY,h3,trivial⟩
  clear hs2 h2 b2 bw2 hY h3 b3 T3
  by_cases hm1:m = -1
  ·subst hm1;go_wp2_with (rw [HY.out.2.1]);refine zAj ?_;refine zAe (fun wx:World=>wx.cell? ⟨k,9,none⟩=some (ptr b)/\wx.cell? ⟨k,10,none⟩=some lf/\wx.cell? ⟨w.heap.size,0,none⟩=some (O ii x)/\wx.cell? ⟨w.heap.size,1,none⟩=some (O ii y)) [15] (by kernel_rfl) ?_;refine zv 0 3 8 [ptr k,ptr k,.pointer (some ⟨k,9,none⟩)] rfl rfl (by kernel_rfl) HS2 ?_;repeat (refine zc rfl (by rfl) (fun wx hx=>by go_simp) ?_;simp only [zp])
   refine zn ?_;refine zt 3 8 (ptr b) rfl (by kernel_rfl) (by rfl) (fun wx hx=>zFp (.inr rfl) (by rfl) (by rfl) hx.1) HS2 ?_;try simp only [zp]
   refine zv 4 6 8 [cel x y,O ii cost,O ii cost,ptr k,ptr k,.pointer (some ⟨k,10,none⟩)] rfl rfl (by kernel_rfl) HS2 ?_;repeat (refine zc rfl (by rfl) (fun wx hx=>by go_simp) ?_;simp only [zp])
   refine zn ?_;refine zt 10 8 lf rfl (by kernel_rfl) (by rfl) (fun wx hx=>zFp (.inl rfl) (by rfl) (by rfl) hx.2.1) HS2 ?_;try simp only [zp]
   refine zt 11 8 (cel x y) rfl (by kernel_rfl) (by rfl) (fun wx hx=>by go_simp) HS2 ?_;try simp only [zp]
   refine zw 12 [] (by kernel_rfl) ?_;refine readyZ.call rfl rfl (HR.out _ _ _ _ _ _ rfl (by rfl) (by simp only [zj];rfl)) (HCl.out _ HY.out.2.2.1.bel.drew) ?_ readyZ.nil;rintro e w4 ⟨rfl,hb4⟩;obtain ⟨hs4,h4,T4,hsz4⟩:=HY.out.1 w4 hb4;refine ⟨_,rfl,fun _=>hs4,?_⟩;clear HS2;try simp only [zp]
   refine zv 13 2 8 [O ii (cost+L x y),rv x y cost (cost+L x y)] rfl rfl (by kernel_rfl) hs4 ?_;repeat (refine zc rfl (by rfl) (fun wx hx=>by go_simp) ?_;simp only [zp])
   refine zn ?_;refine zw 15 [] (by kernel_rfl) ?_;refine readyZ.call rfl rfl (zG8 (by rfl) (by rfl) (by simp only [zj];rfl)) (push_is b hv n S x y cost (cost+L x y) w4 h4.hs hn hlen) ?_ readyZ.nil;rintro e w5 ⟨rfl,hp5⟩;obtain ⟨hv',h5,T5,o5⟩:=h4.push hp5;have HF:=zAb (ai h5 (ai (T4.trans (T5.mono (fun j _ e => .inl (e.elim (fun e => .inr (.inr (.inl e))) (fun e => .inr (.inr (.inr e))))))) (fun j e=>(o5 j e).imp id (fun e=>Nat.le_trans hsz4 e))));refine ⟨_,rfl,fun h=>absurd (by decide) h,?_⟩;clear hs4 h4 T4 hp5 h5 T5 o5 HY;try simp only [zp]
   refine zAd (by kernel_rfl) ?_ _;dsimp only [zAv,Exit.then];go_end0
   exact ⟨rfl,_,_,_,_,HF.out.1,.inr ⟨hk,rfl,rfl,rfl⟩,HF.out.2.1,HF.out.2.2⟩
  ·have hgt:¬m<=cost:=fun q=>hk ⟨hm1,q⟩;go_wp2_with (rw [HY.out.2.1]);refine zAj ?_;refine zAe (fun wx:World=>wx.cell? ⟨k,9,none⟩=some (ptr b)/\wx.cell? ⟨k,10,none⟩=some lf/\wx.cell? ⟨w.heap.size,0,none⟩=some (O ii x)/\wx.cell? ⟨w.heap.size,1,none⟩=some (O ii y)) [15] (by kernel_rfl) ?_;refine zv 0 3 8 [ptr k,ptr k,.pointer (some ⟨k,9,none⟩)] rfl rfl (by kernel_rfl) HS2 ?_;repeat (refine zc rfl (by rfl) (fun wx hx=>by go_simp) ?_;simp only [zp])
   refine zn ?_;refine zt 3 8 (ptr b) rfl (by kernel_rfl) (by rfl) (fun wx hx=>zFp (.inr rfl) (by rfl) (by rfl) hx.1) HS2 ?_;try simp only [zp]
   refine zv 4 6 8 [cel x y,O ii cost,O ii cost,ptr k,ptr k,.pointer (some ⟨k,10,none⟩)] rfl rfl (by kernel_rfl) HS2 ?_;repeat (refine zc rfl (by rfl) (fun wx hx=>by go_simp) ?_;simp only [zp])
   refine zn ?_;refine zt 10 8 lf rfl (by kernel_rfl) (by rfl) (fun wx hx=>zFp (.inl rfl) (by rfl) (by rfl) hx.2.1) HS2 ?_;try simp only [zp]
   refine zt 11 8 (cel x y) rfl (by kernel_rfl) (by rfl) (fun wx hx=>by go_simp) HS2 ?_;try simp only [zp]
   refine zw 12 [] (by kernel_rfl) ?_;refine readyZ.call rfl rfl (HR.out _ _ _ _ _ _ rfl (by rfl) (by simp only [zj];rfl)) (HCl.out _ HY.out.2.2.1.bel.drew) ?_ readyZ.nil;rintro e w4 ⟨rfl,hb4⟩;obtain ⟨hs4,h4,T4,hsz4⟩:=HY.out.1 w4 hb4;refine ⟨_,rfl,fun _=>hs4,?_⟩;clear HS2;try simp only [zp]
   refine zv 13 2 8 [O ii (cost+L x y),rv x y cost (cost+L x y)] rfl rfl (by kernel_rfl) hs4 ?_;repeat (refine zc rfl (by rfl) (fun wx hx=>by go_simp) ?_;simp only [zp])
   refine zn ?_;refine zw 15 [] (by kernel_rfl) ?_;refine readyZ.call rfl rfl (zG8 (by rfl) (by rfl) (by simp only [zj];rfl)) (push_is b hv n S x y cost (cost+L x y) w4 h4.hs hn hlen) ?_ readyZ.nil;rintro e w5 ⟨rfl,hp5⟩;obtain ⟨hv',h5,T5,o5⟩:=h4.push hp5;have HF:=zAb (ai h5 (ai (T4.trans (T5.mono (fun j _ e => .inl (e.elim (fun e => .inr (.inr (.inl e))) (fun e => .inr (.inr (.inr e))))))) (fun j e=>(o5 j e).imp id (fun e=>Nat.le_trans hsz4 e))));refine ⟨_,rfl,fun h=>absurd (by decide) h,?_⟩;clear hs4 h4 T4 hp5 h5 T5 o5 HY;try simp only [zp]
   refine zAd (by kernel_rfl) ?_ _;dsimp only [zAv,Exit.then];go_end0
   exact ⟨rfl,_,_,_,_,HF.out.1,.inr ⟨hk,rfl,rfl,rfl⟩,HF.out.2.1,HF.out.2.2⟩
end Go.Proofs.YtejjcenhjpjefaaGreatDoor
