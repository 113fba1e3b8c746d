import Derived.Test.YtejjcenhjpjefaaGreatDoorTold
import Derived.Test.YtejjcenhjpjefaaGreatDoorBg
import Derived.Deep.LoopGhost
set_option linter.all false
set_option maxRecDepth 1000000
set_option maxHeartbeats 64000000
open Go.Proofs.Tryz
open Go.Proofs.Tryz renaming prog->pg
open Array renaming getElem?_eq_some_iff->gE
open And renaming intro->ai
open Go.Value renaming int->O
open Go.IntKind renaming i64->ii
namespace Go.Proofs.YtejjcenhjpjefaaGreatDoor
open Go.RowKit Go.Shelf
section
def bkF (t:Fin 8):Fin 8:=match t with
 |0=>2|1=>3|2=>0|3=>1|4=>6|5=>7|6=>4|7=>5
theorem zV6:∀t:Fin 8,dX (bkF t).val = - dX t.val:=by decide
theorem zV2:∀t:Fin 8,dY (bkF t).val = - dY t.val:=by decide
theorem zY2:∀t:Fin 8,co (((bkF t).val:Nat):Int)=co ((t.val:Nat):Int):=by decide
theorem zY0:∀t:Fin 8,oc (((bkF t).val:Nat):Int)=oc ((t.val:Nat):Int):=by decide
theorem zYr (t:Fin 8):isD ((t.val:Nat):Int)=true:=(zD9 _).2 (by have:=t.isLt;omega)
theorem zPv:∀t:Fin 8,co ((t.val:Nat):Int)%2=0:=by decide
section
variable {W H:Int} {tl:List Nat} {f:Int->Int->Option Int} {c s ix iy iw ih:Int}
def Std (W H:Int) (tl:List Nat) (f:Int->Int->Option Int) (c s ix iy iw ih:Int) (a:Int×Int):Prop:=has ix iy iw ih a.1 a.2=true/\stB W H tl f c s a.1 a.2=true
def zTq (W H:Int) (tl:List Nat) (f:Int->Int->Option Int) (c s ix iy iw ih:Int) (a b:Int×Int) (k:Nat):Prop:=Std W H tl f c s ix iy iw ih a/\zAx W H tl f c s ix iy iw ih a b k
theorem zF0 {a b:Int×Int} {k:Nat} (h:zAx W H tl f c s ix iy iw ih a b k):Std W H tl f c s ix iy iw ih b:=by
 obtain ⟨t,h1,h2,rfl,h4⟩:=h;unfold inn at h1;unfold stp at h2;rw [Bool.and_eq_true] at h1 h2;exact ⟨h1.2,h2.1⟩
theorem zIq {a b:Int×Int} {k:Nat} (h:zAx W H tl f c s ix iy iw ih a b k):10<=k/\k<=14/\k%2=0:=by
 obtain ⟨t,h1,h2,h3,h4⟩:=h;have:=zFd t;have:=zPv t;omega
theorem zFz {a b:Int×Int} {k:Nat} (h:zTq W H tl f c s ix iy iw ih a b k):zTq W H tl f c s ix iy iw ih b a k:=by
 obtain ⟨ha,hs⟩:=h;have hb:=zF0 hs;obtain ⟨t,h1,h2,rfl,h4⟩:=hs;obtain ⟨x,y⟩:=a;refine ⟨hb,bkF t,?_,?_,?_,by rw [zY2];exact h4⟩
 ·unfold inn sB at h1 ⊢;have e1:x+dX t.val+dX (bkF t).val=x:=by rw [zV6];omega
  have e2:y+dY t.val+dY (bkF t).val=y:=by rw [zV2];omega
  simp only [Bool.and_eq_true,Int.toNat_natCast] at h1 ⊢;rw [e1,e2];exact ⟨⟨⟨zYr _,h1.1.2⟩,h1.1.1.2⟩,ha.1⟩
 ·unfold stp at h2 ⊢;have e1:x+dX t.val+dX (bkF t).val=x:=by rw [zV6];omega
  have e2:y+dY t.val+dY (bkF t).val=y:=by rw [zV2];omega
  simp only [Int.toNat_natCast,zY0] at h2 ⊢;rw [e1,e2];have h3:stB W H tl f c s x y=true:=ha.2;rw [Bool.and_eq_true] at h2 ⊢;refine ⟨h3,?_⟩;have h5:=h2.2;rw [Bool.or_eq_true,Bool.and_eq_true] at h5 ⊢;rcases h5 with h5|h5
  ·exact .inl h5
  ·exact .inr ⟨h5.2,h5.1⟩
 ·simp only [zV6,zV2,Prod.mk.injEq];omega
theorem Wk.toS {a b:Int×Int} {n:Nat} (ha:Std W H tl f c s ix iy iw ih a) (h:Wk (zAx W H tl f c s ix iy iw ih) a b n):Wk (zTq W H tl f c s ix iy iw ih) a b n/\Std W H tl f c s ix iy iw ih b:=by
 induction h using Wk.ind with
 |nil=>exact ⟨.nil _,ha⟩
 |snoc _ hs ih=>exact ⟨.snoc ih.1 ⟨ih.2,hs⟩,zF0 hs⟩
theorem Wk.even {a b:Int×Int} {n:Nat} (h:Wk (zAx W H tl f c s ix iy iw ih) a b n):n%2=0:=by
 induction h using Wk.ind with
 |nil=>rfl
 |snoc _ hs ih=>have:=zIq hs;omega
theorem Wk.zero {a b:Int×Int} {n:Nat} (h:Wk (zAx W H tl f c s ix iy iw ih) a b n) (hn:n=0):a=b:=by
 cases h using Wk.cs with
 |nil=>rfl
 |snoc _ hs=>have:=zIq hs;omega
end
end
theorem zK0 {ix iy iw ih W H:Int} (h:0<=ix/\0<=iy/\ix+iw<=W/\iy+ih<=H) (h1:0<iw) (h2:0<ih) (hW:W<=128) (hH:H<=128):0<iw*ih/\iw*ih<=16384:=by
 have e1:0<iw*ih:=Int.mul_pos h1 h2;have e2:iw*ih<=128*128:=Int.mul_le_mul (by omega) (by omega) (by omega) (by omega);omega
theorem zKr {W H:Int} {tl:List Nat} {f:Int->Int->Option Int} {c s ix iy iw ih:Int} {N:Nat} (hN:N=(ih*iw).toNat):Gok W H tl f c s ix iy iw ih (List.replicate N 0):=by
 refine ⟨by simp [hN],fun x y hx hy=>⟨0,?_,.inl rfl⟩⟩;rw [List.getElem?_replicate,if_pos];rw [hN];exact zGy (p:=(x,y)) ⟨hx,hy⟩
section
attribute [local go_sem] Oper.semAt_some
section
variable {W H:Int} {tl:List Nat} {f:Int->Int->Option Int} {c s ix iy iw ih:Int}
def Tbl (W H:Int) (tl:List Nat) (f:Int->Int->Option Int) (c s ix iy iw ih:Int) (s0:Int×Int) (C:List Int):Prop:=
 C.length=(ih*iw).toNat/\∀q:Int×Int,inB ix iy iw ih q->(∃n:Nat,C[ij ix iy iw q.1 q.2]? = some (n:Int)/\n<=229376/\Std W H tl f c s ix iy iw ih s0/\Least (zAx W H tl f c s ix iy iw ih) s0 q n)\/
  (C[ij ix iy iw q.1 q.2]? = some (-1)/\∀n,¬(Std W H tl f c s ix iy iw ih s0/\Wk (zAx W H tl f c s ix iy iw ih) s0 q n))
theorem Tbl.of {s0:Int×Int} {C:List Int} (hl:C.length=(ih*iw).toNat) (hb:∀m∈C,-1<=m/\m<=229376) (h0:Std W H tl f c s ix iy iw ih s0) (hsk:Sk (zAx W H tl f c s ix iy iw ih) s0 (tab ix iy iw ih C) []):Tbl W H tl f c s ix iy iw ih s0 C:=by
 refine ⟨hl,fun q hq=>?_⟩;have hj:=zGy hq;rw [<-hl] at hj;have hg:C[ij ix iy iw q.1 q.2]? = some (C[ij ix iy iw q.1 q.2]'hj):=List.getElem?_eq_getElem hj;have hm:=hb _ (List.getElem_mem hj);generalize (C[ij ix iy iw q.1 q.2]'hj)=m at hg hm;have ht:=zFy hq hg
 by_cases h1:m = -1
 ·rw [if_pos h1] at ht;subst h1;exact .inr ⟨hg,fun n k=>hsk.no ht n k.2⟩
 ·rw [if_neg h1] at ht;refine .inl ⟨m.toNat,by rw [hg];congr 1;omega,by omega,h0,?_⟩;obtain ⟨k,hk,hL⟩:=Least.exists _ (hsk.real _ _ ht);have:=hsk.done hL;rw [ht] at this;injection this with e
  rw [e];exact hL
theorem Tbl.none {s0:Int×Int} {N:Nat} (hN:N=(ih*iw).toNat) (h0:¬Std W H tl f c s ix iy iw ih s0):Tbl W H tl f c s ix iy iw ih s0 (List.replicate N (-1)):=by
 refine ⟨by simp [hN],fun q hq => .inr ⟨?_,fun n k=>h0 k.1⟩⟩;rw [List.getElem?_replicate,if_pos (by rw [hN];exact zGy hq)]
end
theorem zL6 (w0:World):Lfo w0 (.func (.func 121) #[] #[]) (fun _ _=>0):=fun x y=>by
 refine ⟨121,#[cel x y],?_,fun w hb=>?_⟩
 ·intro ev o w c ar ts hop hf hvs;unfold execOp;simp only [hop,resolve,hf,hvs];go_simp
 ·go_enter func121,ntmps121;go_wp2_with fail;go_ret;exact ⟨rfl,zAh _ _⟩
theorem zVt {w:World} {g N:Nat} (hN:N<=16384) (h:w.heap[g]? = some (.cells (zGd (-1) N N).toArray 3)):Cts w (.slice (some ⟨g,0,none⟩) N N) (List.replicate N (-1)):=by
 refine ⟨by simp,.inr ⟨g,N,_,by simp,Nat.zero_le _,h,by simp,by unfold maxLen;omega,by simp [zH5],?_⟩⟩;simp [zH5]
theorem zTj {ix iy iw ih W H:Int} (hW:W<=128) (hH:H<=128) (h:wi ix iy iw ih 0 0 W H=true):0<=ix/\0<=iy/\ix+iw<=W/\iy+ih<=H/\0<iw/\0<ih:=by
 unfold wi at h;rw [Bool.and_eq_true,Bool.and_eq_true] at h;have h1:=(zBz _ _ _ _ _ _).1 h.2.1;have h2:=(zBz _ _ _ _ _ _).1 h.2.2;have h3:=(zA5 _ _ _ _).1 h.1;omega
def zFv (W H:Int) (tl:List Nat) (f:Int->Int->Option Int) (c s ix iy iw ih fx fy:Int) (w:World) (e:Ending) (w':World):Prop:=
 ∃va vn vc C,e = .returned (.tuple #[.slice va vn vc,O ii 0])/\Below w.heap.size w w'/\(Cts w' (.slice va vn vc) C/\∀j,(Value.slice va vn vc).ownBlock=some j->w.heap.size<=j)/\Tbl W H tl f c s ix iy iw ih (fx,fy) C
def Cl (w0:World) (k p:Nat) (c s ix iy iw ih:Int) (gv cv:Value) (b:Nat) (W H:Int) (tl:List Nat) (f:Int->Int->Option Int) (fx fy:Int) (gk:Nat) (s11 s12:Value) (wr:World):Prop:=
 ∃(i kb:Nat) (C:List Int) (n:Int) (S R:List It) (hv:Value) (G:List Nat) (tx ty tc tf:Int) (ok:Bool),(s11=ptr kb/\s12 = .bool ok/\i+gk=(ih*iw).toNat+1)/\Okk W H tl f c s ix iy iw ih (fun _ _=>0) fx fy i C n S/\Nx ix iy iw C S tx ty tc tf ok R/\
  (Sch w0 wr k p c s ix iy iw ih gv cv b (.func (.func 121) #[] #[]) G C hv n R/\Gok W H tl f c s ix iy iw ih G)/\Four wr kb tx ty tc tf/\(∀j,Own gv cv b hv j->j≠kb)/\w0.heap.size<=kb/\k≠kb
theorem zE2 (p:Nat) (W H:Int) (tl:List Nat) (f:Int->Int->Option Int) (c s fx fy ix iy iw ih:Int) (w:World) (hw:Wl w p W H tl f) (hg:Grnd w) (ho:Offs w) (hW:W<=128) (hH:H<=128) (hwi:wi ix iy iw ih 0 0 W H=true) (hh:has ix iy iw ih fx fy=true) :
 Calls pg 92 #[ptr p,shv c s,cel fx fy,rct ix iy iw ih] w (zFv W H tl f c s ix iy iw ih fx fy w):=by
 obtain ⟨X,hX⟩:=ex (((w.alloc (.cells #[O ii c,O ii s] 29)).alloc (.cells #[O ii fx,O ii fy] 23)).alloc (.cells #[O ii ix,O ii iy,O ii iw,O ii ih] 65));have B0:Below w.heap.size w X:=hX▸bt (zBe _ _ _) (zAh _ _);have F0:Two X w.heap.size c s:=by rw [<-hX];exact ((Two.newAt rfl).alloc).alloc
 have F1:Two X (w.heap.size+1) fx fy:=by rw [<-hX];exact (Two.newAt (by simp)).alloc
 have F2:Four X (w.heap.size+2) ix iy iw ih:=by rw [<-hX];exact Four.newAt _ _ _ _ _ (by simp)
 obtain ⟨hr1,hr2,hr3,hr4,hr5,hr6⟩:=zTj hW hH hwi;have har:=zK0 (ix:=ix) (iy:=iy) (iw:=iw) (ih:=ih) ⟨hr1,hr2,hr3,hr4⟩ hr5 hr6 hW hH;have hf:=(zBz _ _ _ _ _ _).1 hh;have hfx:0<=fx-ix/\fx-ix<iw:=by omega
 have hfy:0<=fy-iy/\fy-iy<ih:=by omega
 have hi:0<=ix/\0<=iy/\ix+iw<=1048576/\iy+ih<=1048576:=by omega
 have hcm:ih*iw=iw*ih:=Int.mul_comm _ _;obtain ⟨N,hN⟩:∃N:Nat,iw*ih=(N:Nat):=⟨(iw*ih).toNat,by omega⟩
 have hN':N=(ih*iw).toNat:=by omega
 have HX:=zAb hX;obtain ⟨d0,d1⟩:=F1.lat;obtain ⟨g0,g1,g2,g3⟩:=F2.lat;have hne:=zA8 X;have HAl:Hid (∀n:Lat X,Calls pg 21 #[ptr p] n.w fun e w'=>e = .returned (rct 0 0 W H)/\Below n.w.heap.size n.w w'):=zAb fun n=>zGt (hw.kept (bt B0 n.h));have HHa:Hid (∀n:Lat X,Calls pg 42 #[rct ix iy iw ih,cel fx fy] n.w fun e w'=>e = .returned (.bool true)/\Below n.w.heap.size n.w w'):=zAb fun n=>by have:=zIe ix iy iw ih fx fy n.w;rwa [hh] at this
 have HWi:=zAb hwi
 have HB:Hid (∀wx,Below X.heap.size X wx->(Two wx w.heap.size c s/\Two wx (w.heap.size+1) fx fy/\Four wx (w.heap.size+2) ix iy iw ih)/\(Below w.heap.size w wx/\Wl wx p W H tl f/\Grnd wx/\Offs wx)):=zAb fun wx q =>
  ⟨⟨F0.kept q,F1.kept q,F2.kept q⟩,bt B0 q,hw.kept (bt B0 q),hg.kept (bt B0 q),ho.kept (bt B0 q)⟩
 have HSt:Hid (∀wx,Below X.heap.size X wx->Calls pg 8 #[ptr p,shv c s,cel fx fy] wx fun e w'=>e = .returned (.bool (stB W H tl f c s fx fy))/\Below wx.heap.size wx w'):=zAb fun wx q=>zCc p W H tl f c s fx fy wx (hw.kept (bt B0 q)) (hg.kept (bt B0 q));have Hnum:=zAb (ai hfx (ai hfy (ai hi (ai hN (ai hN' har)))));have hwN:IntKind.i64.wrap (iw*ih)=(N:Nat):=by rw [hN];exact IntWalk.i64_in _ (by omega)
 have Hhh:=zAb hh;have Hpo:Hid (0<iw/\0<ih):=zAb ⟨hr5,hr6⟩;clear hX B0 F0 F1 F2 hw hg ho hwi hh hr1 hr2 hr3 hr4 hr5 hr6 har hf hfx hfy hi hcm hN hN' hW hH;go_enter func92,ntmps92;go_wp2_with (rw [HX.out]);refine zAp (by kernel_rfl) (by kernel_rfl) ?_;repeat (go_big_quiet_step (first|(go_at_call 21;exact zAr (HAl.out _))|(go_at_call 20;exact zAr (zFw _ HWi.out))|(go_at_call 42;exact zAr (HHa.out _))))
 refine wpQuiet_nil ?_;rintro _ ⟨m,rfl⟩;have Hm:=zAb m.h;obtain ⟨⟨b0,b1,-⟩,-⟩:=HB.out m.w m.h;obtain ⟨w1,hw1⟩:=ex (m.w);rw [hw1] at Hm b0 b1;rw [hw1];obtain ⟨⟨c0,c1⟩,-,-⟩:=b0;obtain ⟨⟨e0,e1⟩,-,-⟩:=b1;have HS1:=zAb (HSt.out w1 Hm.out);clear d0 d1 g0 g1 g2 g3 hw1 hne HAl HHa HWi HSt;go_wp2_with fail;refine HS1.out.mono ?_;rintro e w2 ⟨rfl,hb2⟩;have HB2:=zAb (bt Hm.out hb2);obtain ⟨⟨b0,b1,b2⟩,hB2,hWl,hGr,hOf⟩:=HB.out w2 HB2.out;have Hw2:=zAb (ai hB2 (ai hWl (ai hGr hOf)));clear c0 c1 e0 e1 hb2 HS1 hB2 hWl hGr hOf;cases hst:stB W H tl f c s fx fy
 ·have Hns:Hid (¬Std W H tl f c s ix iy iw ih (fx,fy)):=zAb fun q=>by have:=q.2;simp only at this;rw [hst] at this;cases this
  obtain ⟨Y3,hY3⟩:∃Y,w2.alloc (.cells #[O ii (-1)] 3)=Y:=⟨_,rfl⟩
  have B3:Below w2.heap.size w2 Y3:=hY3▸zAh _ _;have c3:Y3.heap[w2.heap.size]? = some (.cells #[O ii (-1)] 3):=hY3▸heap_alloc_new w2 _;have HR:=zAb (zI3 w2.heap.size (-1) N (by have:=Hnum.out;omega) Y3 (by rw [cell_of_row _ _ 0 _ _ _ c3];rfl) (gE.1 c3).1);have HB3:=zAb B3;obtain ⟨⟨g0,g1,g2,g3⟩,-,-⟩:=b2.kept B3;have HY3:=zAb hY3;clear b0 b1 b2 B3 hst c3 hY3;go_wp2_with (first|rw [HY3.out]|fail);refine HR.out.mono ?_;rintro e w3 ⟨rfl,hr3,hb3⟩
  have HE:Hid (zFv W H tl f c s ix iy iw ih fx fy w (.returned (.tuple #[.slice (some ⟨Y3.heap.size,0,none⟩) N N,O ii 0])) w3):=zAb (by
   obtain ⟨-,-,-,h4,h5,h6⟩:=Hnum.out;refine ⟨_,_,_,List.replicate N (-1),rfl,bt Hw2.out.1 (bt HB3.out hb3),⟨zVt (by omega) hr3,fun j e=>?_⟩,Tbl.none h5 Hns.out⟩;simp only [Value.ownBlock,Option.some.injEq] at e;have:=Hw2.out.1.size;have:=HB3.out.size
   omega)
  clear hr3 hb3 g0 g1 g2 g3 HR;go_wp2_with fail;refine bodyPost_ret (v:=.tuple #[.slice (some ⟨Y3.heap.size,0,none⟩) N N,O ii 0]) (by simp [results,Tryz.f92,go_sem]) rfl ?_;exact HE.out
 ·have Hst:Hid (Std W H tl f c s ix iy iw ih (fx,fy)):=zAb ⟨Hhh.out,hst⟩;obtain ⟨⟨c0,c1⟩,-,-⟩:=b0;obtain ⟨⟨e0,e1⟩,-,-⟩:=b1;obtain ⟨⟨g0,g1,g2,g3⟩,-,-⟩:=b2;have HBg:=zAb (zMa w2 p c s ix iy iw ih (.func 121) #[] #[] N (fun _ _=>0) fx fy w2 (Below.refl _ _) (zL6 w2) Hnum.out.2.2.2.1 (by have:=Hnum.out;omega) Hnum.out.1 Hnum.out.2.1 Hnum.out.2.2.1 (by omega));clear hst;go_wp2_with fail;refine HBg.out.mono ?_;rintro e w3 ⟨k,gv,cv,b,hv,rfl,hS3,hb3⟩;obtain ⟨hfx,hfy,hi,hN,hN',har⟩:=Hnum.out;have hO:Okk W H tl f c s ix iy iw ih (fun _ _=>0) fx fy 0 ((List.replicate N (-1)).set (ij ix iy iw fx fy) 0) 1 [⟨fx,fy,0,0,0⟩]:=Okk.begin hN' ⟨hfx,hfy⟩;have hG:=zKr (W:=W) (H:=H) (tl:=tl) (f:=f) (c:=c) (s:=s) (ix:=ix) (iy:=iy) (iw:=iw) (ih:=ih) hN';have hNe:=zGh w2 k p c s ix iy iw ih gv cv b _ _ _ hv 1 _ w3 hS3 hO.len hO.inr hi (by omega) (by simp);have HNe:=zAb hNe;have HO:=zAb (ai hO hG);have Hk3:=zAb hS3.sr.lt;clear hfx hfy hi hN hN' har hO hG hNe hb3 hS3 c0 c1 e0 e1 g0 g1 g2 g3 HBg;go_wp2_with fail;refine HNe.out.mono ?_;rintro e w4 ⟨tx,ty,tc,tf,ok,R,hv4,rfl,hnx,hS4,how4,hT4⟩;obtain ⟨Y,hY,hFY,BY⟩:=zIg w4 tx ty tc tf;have HY:=zAb hY;have Hcl:Hid (Cl w2 k p c s ix iy iw ih gv cv b W H tl f fx fy ((ih*iw).toNat+1) (ptr w4.heap.size) (.bool ok) Y):=zAb ⟨0,w4.heap.size,_,_,_,R,hv4,_,tx,ty,tc,tf,ok,⟨rfl,rfl,by omega⟩,HO.out.1,hnx,⟨hS4.upto BY,HO.out.2⟩,hFY,fun j e q=>by have:=hS4.own_lt e;omega,hS4.bel.size,by have:=Hk3.out;have:=hT4.size;omega⟩;clear hY hFY BY hnx hS4 how4 hT4 HNe HO;go_wp2_with (rw [HY.out]);go_loopg [11,12] ((ih*iw).toNat+1) (fun gk s11 s12 wr=>Cl w2 k p c s ix iy iw ih gv cv b W H tl f fx fy gk s11 s12 wr)
  case atStart=>exact Hcl.out
  case round =>
   clear Hcl HY;obtain ⟨i,kb,C,n,S,R,hv,G,tx,ty,tc,tf,ok,⟨rfl,rfl,hgk⟩,hO,hnx,⟨hS,hG⟩,hF,hown,hkb,hkk⟩:=hrel;have hsm:=hO.small;obtain ⟨hfx,hfy,hi,hN,hN',har⟩:=Hnum.out;have hcm:ih*iw=iw*ih:=Int.mul_comm _ _;cases ok
   ·obtain ⟨xs,h1,⟨-,rfl,h2⟩|⟨q,-⟩⟩:=hnx
    ·have hD:=hO.drops h1 h2;have hsk:Sk (zAx W H tl f c s ix iy iw ih) (fx,fy) (tab ix iy iw ih C) []:=hD.sk;have hT:Tbl W H tl f c s ix iy iw ih (fx,fy) C:=Tbl.of hD.len (fun m hm=>by have:=hD.tb m hm;omega) Hst.out hsk;obtain ⟨g,cap,hcv,hgl⟩:=hS.ct.form (by rw [hD.len];omega);subst hcv;have HE:Hid (zFv W H tl f c s ix iy iw ih fx fy w (.returned (.tuple #[.slice (some ⟨g,0,none⟩) C.length cap,O ii 0])) wr):=zAb ⟨_,_,_,C,rfl,Hw2.out.1.trans (hS.bel.mono Hw2.out.1.size),⟨hS.ct,fun j e=>by have:=hS.cn j e;have:=Hw2.out.1.size;omega⟩,hT⟩;have c8:wr.cell? ⟨k,8,none⟩=some (.slice (some ⟨g,0,none⟩) C.length cap):=hS.sr.cl 8;clear hO hS hG hF hown hkb hkk hD hsk hT h1 h2 hsm hfx hfy hi hN hN' har hcm hgk hgl;go_wp2_with fail;refine bodyPost_ret (v:=.tuple #[.slice (some ⟨g,0,none⟩) C.length cap,O ii 0]) (by simp [results,Tryz.f92,go_sem]) rfl ?_;exact HE.out
    ·cases q
   ·obtain ⟨t,ht,rfl,rfl,rfl,rfl⟩:=hnx.mem;have hcs:=hO.cst t ht;have hcn:=hO.cnt;have hfw:=hO.few;have hRl:=hnx.len;have HSp:=zAb (zF1 w2 k p c s ix iy iw ih gv cv b _ G C hv n R W H tl f (fun _ _=>0) t.x t.y t.c t.f wr hS Hw2.out.2.1 Hw2.out.2.2.1 Hw2.out.2.2.2 hG (zL6 w2) hO.len (hO.inr t ht).1 (hO.inr t ht).2 hi (by omega) (by intro u v;omega) (by omega) (by omega));have HN:=zAb (fun a ha=>Okk.next (a:=a) (L:=fun _ _=>0) (fun a b k hk=>by omega) (fun u v=>by omega) hO hnx ha);obtain ⟨⟨f0,f1,f2,f3⟩,-,-⟩:=id hF;have Hst2:=zAb (ai hF (ai hown (ai hkb (ai hkk hgk))));have Hbig:=zAb (ai hi (ai hN (ai hN' har)));have hkl:=hS.sr.lt;have Hkl:=zAb hkl;clear hO hnx hS hG hF hown hkb hkk hsm hfx hfy hi hN hN' har hcm hgk hcs hcn hfw hRl ht hkl;obtain ⟨tx,htx⟩:=ex (t.x);obtain ⟨ty,hty⟩:=ex (t.y);obtain ⟨tc,htc⟩:=ex (t.c);obtain ⟨tf,htf⟩:=ex (t.f);rw [htx,hty,htc,htf] at HSp Hst2;rw [htx,hty,htc] at HN;rw [htx] at f0;rw [hty] at f1;rw [htc] at f2;rw [htf] at f3;clear htx hty htc htf t;go_wp2_with fail;refine HSp.out.mono ?_;rintro e w5 ⟨rfl,G5,C5,hv5,n5,S5,s1,s2,s3,s4,s5⟩;obtain ⟨hF,hown,hkb,hkk,hgk⟩:=Hst2.out;have hF5:=hF.turned s4 (fun e=>hown _ e rfl);have hO5:=HN.out _ s3;obtain ⟨hi,hN,hN',har⟩:=Hbig.out;have hcm:ih*iw=iw*ih:=Int.mul_comm _ _;have hsm5:=hO5.small;have hpos:0<iw/\0<ih:=Hpo.out;obtain ⟨Y,hY,hFY,BY⟩:=zIg w5 tx ty tc tf;have hSY:=s1.upto BY;have hf5:=hO5.few;have HNe:=zAb (zGh w2 k p c s ix iy iw ih gv cv b _ G5 C5 hv5 n5 S5 Y hSY hO5.len hO5.inr hi hpos (by simp only at hf5 ⊢;omega));have HY:=zAb hY;obtain ⟨⟨f0,f1,f2,f3⟩,-,-⟩:=id hF5;have H5:=zAb (ai hO5 (ai s2 (ai hFY (ai (fun j (e:Own gv cv b hv5 j)=>s1.own_lt e) (ai s1.bel.size hsm5)))));have Hgk:=zAb (ai hgk (ai BY.size (s4.size)));clear s1 s2 s3 s4 s5 hF hown hkb hkk hgk hF5 hO5 hi hN hN' har hcm hsm5 hY hFY BY hSY hf5 HSp HN;go_wp2_with (first|rw [HY.out]|fail);refine HNe.out.mono ?_;rintro e w6 ⟨tx',ty',tc',tf',ok',R',hv6,rfl,hnx6,hS6,how6,hT6⟩;obtain ⟨hO5,hG5,hFY,hol,hbz,hsm5⟩:=H5.out;obtain ⟨hgk,hz1,hz2⟩:=Hgk.out;have hno5:∀j,Own gv cv b hv5 j->j≠w5.heap.size:=fun j e q=>by have:=hol j e;omega
    have hF6:=hFY.turned hT6 (fun e=>hno5 _ e rfl);obtain ⟨Z,hZ⟩:=ex ((((w6.setCell ⟨w5.heap.size,0,none⟩ (O ii tx')).setCell ⟨w5.heap.size,1,none⟩ (O ii ty')).setCell ⟨w5.heap.size,2,none⟩ (O ii tc')).setCell ⟨w5.heap.size,3,none⟩ (O ii tf'));have hFZ:Four Z w5.heap.size tx' ty' tc' tf':=hZ▸hF6.set tx' ty' tc' tf';have TZ:Turns (fun j=>j=w5.heap.size) w6 Z:=hZ▸zB2 w6 w5.heap.size _ _ _ _;have hno6:∀j,Own gv cv b hv6 j->j≠w5.heap.size:=fun j e=>hno5 j (e.imp id (fun e=>e.imp id (fun e=>e.imp id (how6 j))));have hkl:=Hkl.out;have hSZ:=hS6.leave TZ (fun j e=>by omega) (fun e=>by omega) (fun j e q=>hno6 j e q);have HE:Hid (∀gk',gk' + 1=gk->Cl w2 k p c s ix iy iw ih gv cv b W H tl f fx fy gk' (ptr w5.heap.size) (.bool ok') Z):=zAb fun gk' hg'=>⟨i+1,w5.heap.size,_,_,_,R',hv6,G5,tx',ty',tc',tf',ok',⟨rfl,rfl,by omega⟩,hO5,hnx6,⟨hSZ,hG5⟩,hFZ,hno6,hbz,by omega⟩
    have Hpos:Hid (0<gk):=zAb (by omega);obtain ⟨⟨y0,y1,y2,y3⟩,⟨y4,y5,y6,y7⟩,-⟩:=id hF6;have HZ:=zAb hZ;clear hO5 hG5 hFY hol hbz hsm5 hgk hz1 hz2 hno5 hF6 hFZ TZ hno6 hkl hSZ hZ hnx6 hS6 how6 hT6 f0 f1 f2 f3;go_wp2_with (first|rw [HZ.out]|fail);go_roundg (gk-1)
    case measure=>have:=Hpos.out;omega
    case rel=>exact HE.out (gk-1) (by have:=Hpos.out;omega)
end
end Go.Proofs.YtejjcenhjpjefaaGreatDoor
