import Derived.Test.YtejjcenhjpjefaaGreatDoorCou
import Derived.Test.YtejjcenhjpjefaaGreatDoorPla
import Derived.Deep.RegionWith
import Derived.Deep.DeepCutAuto
set_option linter.all false
set_option maxRecDepth 1000000
set_option maxHeartbeats 64000000
open Go.Proofs.Tryz
open Go.Proofs.Tryz renaming prog->pg
open Array renaming getElem?_eq_some_iff->gE
open And renaming intro->ai
open Go.Value renaming int->O
open Go.IntKind renaming i64->ii
namespace Go.Proofs.YtejjcenhjpjefaaGreatDoor
open Go.RowKit Go.Shelf
attribute [local go_sem] Oper.semAt_some
theorem Rq7:Rcl 7:=zl fun _ _=>by go_simp
def qBg (w:World) (gp:Nat) (fx fy tx ty:Int) (n:Nat):Prop:=∀wx,Below w.heap.size w wx->Calls pg 7 #[ptr gp,cel fx fy,cel tx ty] wx fun e w'=>∃lv L,e = .returned lv/\RC w' lv L/\L.length=n/\Below wx.heap.size wx w'
theorem zY9 {w:World} {v:Value} {L:List (Int×Int)} (h:RC w v L) {i:Nat} {t:Int×Int} (hi:L[i]? = some t) :
 ∃g cap,v = .slice (some ⟨g,0,none⟩) L.length cap/\w.cell? ⟨g,i*2,none⟩=some (O ii t.1)/\w.cell? ⟨g,i*2+1,none⟩=some (O ii t.2):=by
 obtain ⟨a,cap,e,hle,hc⟩:=Rw.form (k:=2) (cs:=cC2) (fun a=>by cases a;rfl) h;obtain ⟨g,rfl,hg,hcell⟩:=hc i t hi;exact ⟨g,cap,e,hcell 0 _ rfl,hcell 1 _ rfl⟩
def nA:Nat->Int×Int
 |0=>(0,3)
 |1=>(7,3)
 |2=>(8,3)
 |_=>(15,3)
def nL:Nat->Nat
 |0=>0
 |1=>7
 |2=>8
 |_=>15
def nS:Nat->Nat
 |0=>7
 |1=>1
 |_=>7
theorem zZ1:∀i,i<3->cL[i]? = some (nA (i+1))
 |0,_=>rfl
 |1,_=>rfl
 |2,_=>rfl
theorem zSt:∀i,i<3->nL i+nS i=nL (i+1)/\nL i<=15/\nS i<=7
 |0,_=>by decide
 |1,_=>by decide
 |2,_=>by decide
def TwoV (w:World) (b:Nat) (u v:Value):Prop:=(w.cell? ⟨b,0,none⟩=some u/\w.cell? ⟨b,1,none⟩=some v)/\(w.frozen? ⟨b,0,none⟩=false/\w.frozen? ⟨b,1,none⟩=false)/\b<w.heap.size
theorem TwoV.turn {S:Nat->Prop} {W W':World} {k:Nat} {u v:Value} (h:TwoV W k u v) (ht:Turns S W W') (hs:¬S k):TwoV W' k u v:=by
 have hb:=ht.block k h.2.2 hs;have hf:∀o,W'.frozen? ⟨k,o,none⟩=W.frozen? ⟨k,o,none⟩:=fun o=>by simp [World.frozen?,hb]
 exact ⟨⟨ht.cell hs h.1.1,ht.cell hs h.1.2⟩,⟨(hf 0).trans h.2.1.1,(hf 1).trans h.2.1.2⟩,Nat.lt_of_lt_of_le h.2.2 ht.size⟩
theorem TwoV.upto {W W':World} {k:Nat} {u v:Value} (h:TwoV W k u v) (hb:Below W.heap.size W W'):TwoV W' k u v:=h.turn (Turns.of_below (S:=fun _=>False) hb) id
theorem TwoV.new {W:World} {u v:Value} {t:TypeId}:TwoV (W.alloc (.cells #[u,v] t)) W.heap.size u v:=by
 have h:=World.alloc_heap_new W (.cells #[u,v] t);refine ⟨⟨(cell_of_row _ _ 0 _ _ _ h).trans rfl,(cell_of_row _ _ 1 _ _ _ h).trans rfl⟩,⟨by unfold World.frozen?;simp only;rw [h];rfl,by unfold World.frozen?;simp only;rw [h];rfl⟩,by simp⟩
theorem TwoV.set1 {w:World} {b:Nat} {u v t:Value} (h:TwoV w b u v):TwoV (w.setCell ⟨b,1,none⟩ t) b u t:=by
 obtain ⟨⟨h0,h1⟩,⟨f0,f1⟩,hz⟩:=h;refine ⟨⟨?_,?_⟩,⟨?_,?_⟩,?_⟩
 ·simp [go_sem,h0]
 ·simp [go_sem,h1]
 ·simpa [go_sem] using f0
 ·simpa [go_sem] using f1
 ·simpa using hz
theorem zWk (X:World) (b o:Nat) (v:Value):Turns (fun j=>j=b) X (X.setCell ⟨b,o,none⟩ v):=Turns.set (S:=fun j=>j=b) X (p:=⟨b,o,none⟩) rfl v
theorem zHw (X:World) (b:Nat) (v u:Value):Turns (fun j=>j=b) X ((X.setCell ⟨b,0,none⟩ v).setCell ⟨b,1,none⟩ u):=(zWk X b 0 v).trans ((zWk _ b 1 u).mono (fun j _ e => .inl e))
def zY5 (X:World) (b:Nat) (v:Value):Prop:=TwoV X b (O ii 1) v
structure FI (w W1:World) (i:Nat) (X:World):Prop where
 way:∃v L,zY5 X W1.heap.size v/\RC X v L/\L.length=nL i/\∀g,v.ownBlock=some g->W1.heap.size<g
 frm:Two X w.heap.size (nA i).1 (nA i).2
 tn:Turns (fun k=>k=w.heap.size\/W1.heap.size<=k) W1 X
theorem FI.upto {w W1:World} {i:Nat} {X Y:World} (h:FI w W1 i X) (hb:Below X.heap.size X Y):FI w W1 i Y:=by
 obtain ⟨v,L,h1,h2,h3,h4⟩:=h.way;exact ⟨⟨v,L,TwoV.upto h1 hb,Rw.upto h2 hb,h3,h4⟩,h.frm.kept hb,h.tn.trans ((Turns.of_below (S:=fun _=>False) hb).mono fun k _ e=>e.elim)⟩
theorem FI.step {w W1 Y W3 W4:World} {i:Nat} {v v':Value} {L M:List (Int×Int)} (hi:i<3) (h1:zY5 Y W1.heap.size v) (h2:RC Y v L) (h3:L.length=nL i) (h4:∀g,v.ownBlock=some g->W1.heap.size<g) (hf:Two Y w.heap.size (nA i).1 (nA i).2) (ht:Turns (fun k=>k=w.heap.size\/W1.heap.size<=k) W1 Y) (hb:Below Y.heap.size Y W3)
 (hm:M.length=nS i) (q2:RC W4 v' (L++M)) (q3:∀k,v'.ownBlock=some k->v.ownBlock=some k\/W3.heap.size<=k) (q4:Turns (fun k=>v.ownBlock=some k) W3 W4) (hs:w.heap.size+3<=W1.heap.size) {nx ny:Int} (hn:nA (i+1)=(nx,ny)) :
 FI w W1 (i+1) (((W4.setCell ⟨W1.heap.size,1,none⟩ v').setCell ⟨w.heap.size,0,none⟩ (O ii nx)).setCell ⟨w.heap.size,1,none⟩ (O ii ny))/\zY5 W4 W1.heap.size v/\Two (W4.setCell ⟨W1.heap.size,1,none⟩ v') w.heap.size (nA i).1 (nA i).2:=by
 have hW4:zY5 W4 W1.heap.size v:=TwoV.turn (TwoV.upto h1 hb) q4 (fun e=>by have:=h4 _ e;omega);have hlt:W1.heap.size<Y.heap.size:=h1.2.2;have hown:∀g,v'.ownBlock=some g->W1.heap.size<g:=fun g e=>(q3 g e).elim (h4 g) (fun q=>by have:=hb.size;omega);have hf4:Two W4 w.heap.size (nA i).1 (nA i).2:=zAy (hf.kept hb) q4 (fun e=>by have:=h4 _ e;omega);have hf5:Two (W4.setCell ⟨W1.heap.size,1,none⟩ v') w.heap.size (nA i).1 (nA i).2:=zAy hf4 (zWk _ _ _ _) (fun e=>by omega);refine ⟨⟨⟨v',L++M,TwoV.turn (TwoV.set1 hW4) (zHw _ _ _ _) (fun e=>by omega),?_,?_,hown⟩,by rw [hn];exact hf5.set,?_⟩,hW4,hf5⟩
 ·exact zA3 (zA3 q2 (zWk _ _ _ _) (fun g e q=>by have:=hown g e;omega)) (zHw _ _ _ _) (fun g e q=>by have:=hown g e;omega)
 ·rw [List.length_append,h3,hm];exact (zSt i hi).1
 ·refine ((ht.trans ((Turns.of_below (S:=fun k=>v.ownBlock=some k) hb).trans (q4.mono (fun k _ e => .inl e)) |>.mono (fun k _ e => .inl (.inr (by have:=h4 k e;omega))))).trans ((zWk W4 W1.heap.size 1 v').mono (fun k _ e => .inl (.inr (by omega))))).trans ((zHw _ w.heap.size _ _).mono (fun k _ e => .inl (.inl e)))
theorem zZa {w:World} {gp p:Nat} (hq:Q14 w gp p) (hl:∀i,i<3->qBg w gp (nA i).1 (nA i).2 (nA (i+1)).1 (nA (i+1)).2 (nS i)) :
 Calls pg 4 #[ptr gp,cel 0 3,cel 15 3] w fun e w'=>∃wv L,e = .returned (.tuple #[.agg #[O ii 1,wv],O ii 150])/\RC w' wv L/\L.length=15/\Below w.heap.size w w':=by
 obtain ⟨X,hX⟩:=ex (((w.alloc (.cells #[O ii 0,O ii 3] 23)).alloc (.cells #[O ii 15,O ii 3] 23)).alloc (.cells #[O ii 0,.slice none 0 0] 36));have BX:Below w.heap.size w X:=by rw [<-hX];exact bt (zBe _ _ _) (zAh _ _)
 have TA:Two X w.heap.size 0 3:=by rw [<-hX];exact ((Two.newAt rfl).alloc).alloc
 have TB:Two X (w.heap.size+1) 15 3:=by rw [<-hX];exact (Two.newAt (by simp)).alloc
 have RB:TwoV X (w.heap.size+2) (O ii 0) (.slice none 0 0):=by
  rw [<-hX];have:=TwoV.new (W:=(w.alloc (.cells #[O ii 0,O ii 3] 23)).alloc (.cells #[O ii 15,O ii 3] 23)) (u:=O ii 0) (v:=.slice none 0 0) (t:=36);simpa using this
 have zX:X.heap.size=w.heap.size+3:=by rw [<-hX];simp
 obtain ⟨⟨a0,a1⟩,-,-⟩:=id TA;obtain ⟨⟨b0,b1⟩,-,-⟩:=id TB;have HCo:=zAb (zSd (hq.upto BX));have HX:=zAb hX;have HBX:=zAb BX;have HTA:=zAb TA;have HRB:=zAb RB;have Hl:=zAb hl;clear hX BX TA TB RB hq hl;go_enter func4,ntmps4;go_wp2_with (rw [HX.out]);refine HCo.out.mono ?_;rintro e W1 ⟨cv,rfl,hR,hb1,hown⟩;obtain ⟨ca,cc,hcv⟩:∃a c,cv = .slice a 3 c:=zBk hR;subst hcv;obtain ⟨W2,hW2⟩:=ex (W1.alloc (.cells #[O ii 1,.slice none 0 0] 36));have b2:Below W1.heap.size W1 W2:=by rw [<-hW2];exact zAh _ _
 have h1s:W1.heap.size≥w.heap.size+3:=by have:=hb1.size;omega
 have HF0:=zAb (show FI w W1 0 W2 from ⟨⟨.slice none 0 0,[],by rw [<-hW2];exact TwoV.new,Rw.nil _ _ _ _,rfl,fun g e=>(by cases e)⟩,(HTA.out.kept hb1).kept b2,Turns.of_below b2⟩);have HB1:=zAb hb1;have HR:=zAb hR;have HO:=zAb hown;have HW2:=zAb hW2;clear hR hb1 hown b2 hW2 HCo a0 a1 b0 b1;go_wp2_with (rw [HW2.out]);go_loopw [28] (fun v wr=>∃i:Nat,v = O ii (i:Nat)/\i<=3/\FI w W1 i wr) (fun v _=>3-(intOf v).toNat)
 case atStart=>exact ⟨0,rfl,by omega,HF0.out⟩
 case round =>
  obtain ⟨i,rfl,hi,hf⟩:=hrel
  by_cases hlt:i<3
  ·have hat:=zZ1 i hlt;have hCr:RC wr (.slice ca 3 cc) cL:=zA3 HR.out hf.tn (fun g e q=>by have:=HO.out g e;obtain ⟨cur,hc⟩:=zQc HR.out e;have:=(gE.1 hc).1;omega);obtain ⟨g,cap,hsl,c0,c1⟩:=zY9 hCr hat;cases hsl;obtain ⟨n,hn⟩:∃n:Int×Int,nA (i+1)=n:=⟨_,rfl⟩
   obtain ⟨o,ho⟩:∃o:Int×Int,nA i=o:=⟨_,rfl⟩
   obtain ⟨nx,ny⟩:=n;obtain ⟨ox,oy⟩:=o;rw [hn] at c0 c1;simp only at c0 c1;have BX1:Below X.heap.size X W1:=HB1.out;obtain ⟨v,L,y1',y2',y3',y4'⟩:=hf.way;have hwr:W1.heap.size<wr.heap.size:=y1'.2.2;have hnv:¬v.ownBlock=some wr.heap.size:=fun e=>by obtain ⟨cur,hc⟩:=zQc y2' e;have:=(gE.1 hc).1;omega
   obtain ⟨U,hU⟩:=ex (wr.alloc (.cells #[O ii nx,O ii ny] 23));have bU:Below wr.heap.size wr U:=by rw [<-hU];exact zAh _ _
   have tU:Two U wr.heap.size nx ny:=by rw [<-hU];exact Two.newAt rfl
   obtain ⟨Y,hY⟩:=ex (U.drew);have bY:Below U.heap.size U Y:=by rw [<-hY];exact (Below.refl _ _).drew
   have fY:=(hf.upto bU).upto bY;have tY:=tU.kept bY;have y1:=TwoV.upto (TwoV.upto y1' bU) bY;have y2:=Rw.upto (Rw.upto y2' bU) bY;have y3:=y3';have y4:=y4';have yf:=fY.frm;have yt:=fY.tn;rw [ho] at yf;have bwY:Below w.heap.size w Y:=(bt' HBX.out HB1.out).trans (yt.below (fun k e=>by omega) (by omega))
   have HLg:=zAb (show Calls pg 7 #[ptr gp,cel ox oy,cel nx ny] Y fun e w'=>∃lv L,e = .returned lv/\RC w' lv L/\L.length=nS i/\Below Y.heap.size Y w' from by
    have:=Hl.out i hlt Y bwY;rw [hn,ho] at this
    exact this)
   have HRd:=zAb (show ∀wx,Below Y.heap.size Y wx->zY5 wx W1.heap.size v/\Two wx w.heap.size ox oy/\Two wx wr.heap.size nx ny from fun wx q=>⟨TwoV.upto y1 q,yf.kept q,tY.kept q⟩);obtain ⟨va,vc,hv⟩:=zBk y2;have HY:=zAb hY;have HU:=zAb hU;have Hy:=zAb (ai y1 (ai y2 (ai y3 (ai y4 (ai fY.frm (ai yt tY))))));have Hlt:=zAb hlt;have Hwr:=zAb hwr;have Hnv:=zAb hnv;have Hno:=zAb (ai hn ho);have hki:(i:Int)<3:=by omega
   clear hwr hnv y1' y2' y3' y4' hf hCr hat bU tU bY fY tY y1 y2 y3 y4 yf yt bwY hU hY BX1 hn ho;go_wp2_with (rw [HU.out]);refine zAj ?_;refine zAe (fun wx:World=>Below Y.heap.size Y wx) [6,7,8] (by kernel_rfl) ?_;rw [HY.out];refine zx 0 5 9 rfl (by kernel_rfl) (Below.refl _ _) ?_;refine zxc (v:=.pointer (some ⟨W1.heap.size,1,none⟩)) rfl (by rfl) (fun wx hx=>by go_simp) ?_;simp only [zp];refine zxc (v:=v) rfl (by rfl) (fun wx hx=>by obtain ⟨⟨⟨q0,q1⟩,-,-⟩,-,-⟩:=HRd.out wx hx;go_simp) ?_;simp only [zp];refine zxc rfl (by rfl) (fun wx hx=>by go_simp;rfl) ?_;simp only [zp];refine zxc (v:=cel ox oy) rfl (by rfl) (fun wx hx=>by obtain ⟨-,⟨⟨q0,q1⟩,-,-⟩,-⟩:=HRd.out wx hx;go_simp) ?_;simp only [zp];refine zxc (v:=cel nx ny) rfl (by rfl) (fun wx hx=>by obtain ⟨-,-,⟨⟨q0,q1⟩,-,-⟩⟩:=HRd.out wx hx;go_simp) ?_;simp only [zp];refine zxn ?_;refine zw 5 [] (by kernel_rfl) ?_;refine readyZ.call rfl rfl (Rq7 (by rfl) (by rfl) (by simp only [zj];rfl)) HLg.out ?_ readyZ.nil;rintro e W3 ⟨lv,M,rfl,m1,m2,m3⟩;refine ⟨_,rfl,fun _=>m3,?_⟩;simp only [zp]
   have hlen:L.length+M.length<=1000:=by
    have e1:=zSt i Hlt.out;rw [Hy.out.2.2.1,m2];omega
   obtain ⟨v',W4,hr,e1,e2,e3⟩:=zY3 (Rw.upto Hy.out.2.1 m3) m1 (by omega);obtain ⟨xa,xc,hxv⟩:=zBk e1;obtain ⟨hF,hW4,hT5⟩:=FI.step Hlt.out Hy.out.1 Hy.out.2.1 Hy.out.2.2.1 Hy.out.2.2.2.1 Hy.out.2.2.2.2.1 Hy.out.2.2.2.2.2.1 m3 m2 e1 e2 e3 h1s Hno.out.1
   have hT5b:Two (W4.setCell ⟨W1.heap.size,1,none⟩ v') wr.heap.size nx ny:=by
    have hgt:W1.heap.size<wr.heap.size:=by have:=Hwr.out;exact this
    refine zAy (zAy (Hy.out.2.2.2.2.2.2.kept m3) e3 (fun e=>?_)) (zWk _ _ _ _) (fun e=>by omega);exact Hnv.out e
   refine zq 6 (v':=v') (w':=W4) (by kernel_rfl) rfl rfl (zCe rfl rfl rfl hr) (fun h=>absurd (by decide) h) ?_;simp only [zp];refine zq 7 (v':=.pointer (some ⟨W1.heap.size,1,none⟩)) (w':=W4) (by kernel_rfl) rfl rfl (by go_simp) (fun h=>absurd (by decide) h) ?_;simp only [zp];obtain ⟨⟨k0,k1⟩,⟨l0,l1⟩,-⟩:=id hW4;refine zw 8 [] (by kernel_rfl) ?_;refine readyZ.skip rfl rfl (w':=W4.setCell ⟨W1.heap.size,1,none⟩ v') (by clear hr hF hT5 hT5b e2;subst hxv;go_simp) (fun h=>absurd (by decide) h) ?_ readyZ.nil;refine zAd (by kernel_rfl) ?_ _;dsimp only [zAv,Exit.then];obtain ⟨W5,hW5⟩:=ex (W4.setCell ⟨W1.heap.size,1,none⟩ v');rw [hW5] at hF hT5 hT5b ⊢;have HF:=zAb hF;obtain ⟨⟨t0,t1⟩,⟨s0,s1⟩,-⟩:=id hT5;obtain ⟨⟨p0,p1⟩,-,-⟩:=id hT5b;clear k0 k1 l0 l1 m1 m2 m3 hr e1 e2 e3 hF hW4 hT5 hT5b hW5;go_wp2_with fail;go_round
   case rel=>exact ⟨i+1,by go_num,by omega,HF.out⟩
   case measure=>simp only [intOf];omega
  ·have hi3:i=3:=by omega
   subst hi3;obtain ⟨v,L,y1,y2,y3,y4⟩:=hf.way;have hr:=HRB.out.upto HB1.out;have hr2:TwoV wr (w.heap.size+1+1) (O ii 0) (.slice none 0 0):=TwoV.turn hr hf.tn (fun e=>by omega);obtain ⟨va,vc,hv⟩:=zBk y2;rw [show L.length=15 from y3] at hv;subst hv;have hwb:Below w.heap.size w wr:=(bt' HBX.out HB1.out).trans (hf.tn.below (fun k e=>by omega) (by omega));obtain ⟨Z,hZ⟩:=ex ((wr.setCell ⟨w.heap.size+1+1,0,none⟩ (O ii 1)).setCell ⟨w.heap.size+1+1,1,none⟩ (.slice va 15 vc));have TZ:Turns (fun j=>j=w.heap.size+1+1) wr Z:=by rw [<-hZ];exact zHw _ _ _ _
   have HE:=zAb (show RC Z (.slice va 15 vc) L/\L.length=15/\Below w.heap.size w Z from ⟨zA3 y2 TZ (fun g e q=>by have:=y4 g e;omega),y3,hwb.trans (TZ.below (fun k e=>by omega) hwb.size)⟩);obtain ⟨⟨k0,k1⟩,-,-⟩:=id y1;obtain ⟨⟨t0,t1⟩,⟨s0,s1⟩,-⟩:=id hr2;have z0:Z.cell? ⟨w.heap.size+1+1,0,none⟩=some (O ii 1):=by rw [<-hZ];simp [go_sem,t0,t1]
   have z1:Z.cell? ⟨w.heap.size+1+1,1,none⟩=some (.slice va 15 vc):=by rw [<-hZ];simp [go_sem,t0,t1]
   have HZ:=zAb hZ;clear hf hr hr2 hwb TZ hZ y1 y2 y3 y4;go_wp2_with (rw [HZ.out]);exact bodyPost_ret (v:=.tuple #[.agg #[O ii 1,.slice va 15 vc],O ii 150]) (by simp [results,Tryz.f4,go_sem,z0,z1]) rfl ⟨_,_,rfl,HE.out⟩
theorem qAj {w:World} {gp p wb eb:Nat} {ep:Int} (hE:En w p 16 8 zA4 (zB9 [])) (hG:Gp w gp p 0 1 ep wb eb):JnK w gp p 0 1 15 3 8 0 8 8 24 70:=by
 refine ⟨fun wx q=>zHg (hG.upto q),fun wx q=>zHh (hG.upto q),fun wx q=>?_,fun wx q=>?_⟩
 ·have:=zFs 1 0 (hE.1.kept q)
  rwa [rV,show rB 16 8 1 0=true by decide,if_pos rfl] at this
 ·refine (zE2 p 16 8 zA4 (zB9 []) 0 1 15 3 8 0 8 8 wx (hE.1.kept q) (hE.2.1.kept q) (hE.2.2.kept q) (by decide) (by decide) (by decide) (by decide)).mono ?_;rintro e w' ⟨va,vn,vc,C,rfl,hb,⟨hC,-⟩,hl,ht⟩;have hl:C.length=64:=hl;obtain ⟨g,cap,hv,hg⟩:=hC.form (by omega);rw [hv] at hC
  obtain ⟨n,h1,h2,h3,h4⟩:∃n:Nat,C[24]? = some (n:Int)/\n<=229376/\Std 16 8 zA4 (zB9 []) 0 1 8 0 8 8 (15,3)/\Least (zAx 16 8 zA4 (zB9 []) 0 1 8 0 8 8) (15,3) (8,3) n:=by
   rcases ht (8,3) (by unfold inB;decide) with h|⟨-,h⟩
   ·exact h
   ·exact absurd ⟨zW1,zXg⟩ (h 70)
  have e70:n=70:=h4.eq zLi;subst e70;cases hv;exact ⟨g,_,_,rfl,hb,by rw [hl];decide,by rw [hl];decide,hg,(hC.got h1).1⟩
theorem qAk {w:World} {gp p wb eb:Nat} {ep:Int} (hE:En w p 16 8 zA4 (zB9 [])) (hG:Gp w gp p 0 1 ep wb eb):JnK w gp p 0 1 0 3 0 0 8 8 31 70:=by
 refine ⟨fun wx q=>zHg (hG.upto q),fun wx q=>zHh (hG.upto q),fun wx q=>?_,fun wx q=>?_⟩
 ·have:=zFs 0 0 (hE.1.kept q)
  rwa [rV,show rB 16 8 0 0=true by decide,if_pos rfl] at this
 ·refine (zE2 p 16 8 zA4 (zB9 []) 0 1 0 3 0 0 8 8 wx (hE.1.kept q) (hE.2.1.kept q) (hE.2.2.kept q) (by decide) (by decide) (by decide) (by decide)).mono ?_;rintro e w' ⟨va,vn,vc,C,rfl,hb,⟨hC,-⟩,hl,ht⟩;have hl:C.length=64:=hl;obtain ⟨g,cap,hv,hg⟩:=hC.form (by omega);rw [hv] at hC
  obtain ⟨n,h1,h2,h3,h4⟩:∃n:Nat,C[31]? = some (n:Int)/\n<=229376/\Std 16 8 zA4 (zB9 []) 0 1 0 0 8 8 (0,3)/\Least (zAx 16 8 zA4 (zB9 []) 0 1 0 0 8 8) (0,3) (7,3) n:=by
   rcases ht (7,3) (by unfold inB;decide) with h|⟨-,h⟩
   ·exact h
   ·exact absurd ⟨zW2,zX9⟩ (h 70)
  have e70:n=70:=h4.eq zRe;subst e70;cases hv;exact ⟨g,_,_,rfl,hb,by rw [hl];decide,by rw [hl];decide,hg,(hC.got h1).1⟩
theorem zPg {LW:Int×Int->List (Int×Int)} {KE:List (Int×Int)} {LE:Int×Int->List E3} (h:GD 16 8 zA4 (zB9 []) 0 1 (fun k=>rB 16 8 k.1 k.2=true) LW KE LE) :
 (LW (0,0)=[(7,3)]/\LW (1,0)=[(8,3)])/\(LE (7,3)=[⟨8,3,10⟩]/\LE (8,3)=[⟨7,3,10⟩])/\LE (0,3)=[]/\LE (15,3)=[]:=by
 have w0:LW (0,0)=[(7,3)]:=by
  have hN:IsN zWo 16 8 0 0 (LW (0,0)):=h.fa (0,0) (by decide);exact zNj hN.1 (List.pairwise_singleton _ _) (fun a=>by rw [hN.2,nd0];simp)
 have w1:LW (1,0)=[(8,3)]:=by
  have hN:IsN zWo 16 8 1 0 (LW (1,0)):=h.fa (1,0) (by decide);exact zNj hN.1 (List.pairwise_singleton _ _) (fun a=>by rw [hN.2,nd1];simp)
 have k7:((7:Int),(3:Int))∈KE:=(h.fc _).2 (by rw [show clu ((7:Int),(3:Int))=(0,0) by decide,w0];simp);have k8:((8:Int),(3:Int))∈KE:=(h.fc _).2 (by rw [show clu ((8:Int),(3:Int))=(1,0) by decide,w1];simp);refine ⟨⟨w0,w1⟩,⟨?_,?_⟩,h.fe _ (fun q=>?_),h.fe _ (fun q=>?_)⟩
 ·have hE:IsE 16 8 zA4 (zB9 []) 0 1 0 0 (7,3) (LE (7,3)):=h.fd (7,3) (by decide) k7;refine zNi hE.1 (List.pairwise_singleton _ _) (fun e=>?_);rw [hE.2];unfold Ed;rw [show acL (stB 16 8 zA4 (zB9 []) 0 1) 16 8 0 0=[⟨7,3,8,3⟩] from ac0];constructor
  ·rintro (⟨t,ht,-,rfl⟩|⟨h1,h2,-⟩)
   ·simp at ht;subst ht;simp
   ·exact absurd ((nd0 _).1 h1) h2
  ·intro he;simp at he;subst he;exact .inl ⟨_,List.mem_singleton.2 rfl,rfl,rfl⟩
 ·have hE:IsE 16 8 zA4 (zB9 []) 0 1 1 0 (8,3) (LE (8,3)):=h.fd (8,3) (by decide) k8;refine zNi hE.1 (List.pairwise_singleton _ _) (fun e=>?_);rw [hE.2];unfold Ed;rw [show acL (stB 16 8 zA4 (zB9 []) 0 1) 16 8 1 0=[⟨8,3,7,3⟩] from ac1];constructor
  ·rintro (⟨t,ht,-,rfl⟩|⟨h1,h2,-⟩)
   ·simp at ht;subst ht;simp
   ·exact absurd ((nd1 _).1 h1) h2
  ·intro he;simp at he;subst he;exact .inl ⟨_,List.mem_singleton.2 rfl,rfl,rfl⟩
 ·rw [h.fc,show clu ((0:Int),(3:Int))=(0,0) by decide,w0] at q;simp at q
 ·rw [h.fc,show clu ((15:Int),(3:Int))=(1,0) by decide,w1] at q;simp at q
theorem zXh {w w':World} {gp p wb eb:Nat} {ep:Int} (hE0:En w p 16 8 zA4 (zB9 [])) (h:qBh w w' gp p 0 1 ep wb eb 16 8 zA4 (zB9 [])):Q14 w' gp p:=by
 obtain ⟨⟨KW,LW,KE,LE,hg,hd,-⟩,hb,-,-,-⟩:=h;have hE:=hE0.upto hb;obtain ⟨⟨w0,w1⟩,⟨e7,e8⟩,e0,e15⟩:=zPg hd;obtain ⟨FW,m1,r1⟩:=hg.wm;obtain ⟨FE,m2,r2⟩:=hg.em
 have hw:∀(x y:Int) (L:List (Int×Int)),W64 x->W64 y->LW (x,y)=L->L.length<=10->∀wx,Below w'.heap.size w' wx->Calls pg 58 #[ptr gp,cel x y] wx fun e w'=>∃lv,e = .returned lv/\RC w' lv L/\Below wx.heap.size wx w'/\∀g,lv.ownBlock=some g->wx.heap.size<=g:=fun x y L hx hy hL hl wx q=>by
  have:=Rw.upto (r1 x y) q;rw [hL] at this;exact zKp (hg.g.upto q) (MapS.upto m1 q) hx hy this (by omega)
 have he:∀(x y:Int) (L:List E3),W64 x->W64 y->LE (x,y)=L->L.length<=10->zK2 w' gp x y L:=fun x y L hx hy hL hl wx q=>by
  have:=Rw.upto (r2 x y) q;rw [hL] at this;exact zM6 (hg.g.upto q) (MapS.upto m2 q) hx hy this (by omega)
 refine ⟨⟨qAj hE hg.g,qAk hE hg.g,hw 1 0 _ (by decide) (by decide) w1 (by decide),hw 0 0 _ (by decide) (by decide) w0 (by decide),he 7 3 _ (by decide) (by decide) e7 (by decide),he 8 3 _ (by decide) (by decide) e8 (by decide),he 0 3 _ (by decide) (by decide) e0 (by decide),he 15 3 _ (by decide) (by decide) e15 (by decide)⟩,fun wx q=>?_,fun wx q=>?_⟩
 ·have:=zCc p 16 8 zA4 (zB9 []) 0 1 0 3 wx (hE.1.kept q) (hE.2.1.kept q)
  rwa [show stB 16 8 zA4 (zB9 []) 0 1 0 3=true by kernel_rfl] at this
 ·have:=zCc p 16 8 zA4 (zB9 []) 0 1 15 3 wx (hE.1.kept q) (hE.2.1.kept q)
  rwa [show stB 16 8 zA4 (zB9 []) 0 1 15 3=true by kernel_rfl] at this
attribute [local go_sem] Oper.semAt_some
theorem zZh:Rcl 18:=zl fun _ _=>by go_simp
theorem zSx {w:World} {gp p:Nat} {fx tx kx ix:Int} (hWd:∀wx,Below w.heap.size w wx->Calls pg 9 #[ptr gp] wx fun e w'=>e = .returned (ptr p)/\Below wx.heap.size wx w')
 (hSh:∀wx,Below w.heap.size w wx->Calls pg 10 #[ptr gp] wx fun e w'=>e = .returned (shv 0 1)/\Below wx.heap.size wx w')
 (hRc:∀wx,Below w.heap.size w wx->Calls pg 17 #[ptr p,cel kx 0] wx fun e w'=>e = .returned (.tuple #[rct ix 0 8 8,.bool true])/\Below wx.heap.size wx w')
 (hOf:∀wx,Below w.heap.size w wx->Calls pg 16 #[cel fx 3] wx fun e w'=>e = .returned (cel kx 0)/\Below wx.heap.size wx w')
 (hOt:∀wx,Below w.heap.size w wx->Calls pg 16 #[cel tx 3] wx fun e w'=>e = .returned (cel kx 0)/\Below wx.heap.size wx w')
 (hFd:∀wx,Below w.heap.size w wx->Calls pg 18 #[ptr p,shv 0 1,cel fx 3,cel tx 3,rct ix 0 8 8,O ii 64] wx fun e w'=>∃va vn vc L o cost,e = .returned (.tuple #[.agg #[O ii o,.slice va vn vc],O ii cost])/\RC w' (.slice va vn vc) L/\L.length=7/\(∀g,(Value.slice va vn vc).ownBlock=some g->wx.heap.size<=g)/\Below wx.heap.size wx w') :
 Calls pg 7 #[ptr gp,cel fx 3,cel tx 3] w fun e w'=>∃lv L,e = .returned lv/\RC w' lv L/\L.length=7/\Below w.heap.size w w':=by
 obtain ⟨X,hX⟩:=ex ((w.alloc (.cells #[O ii fx,O ii 3] 23)).alloc (.cells #[O ii tx,O ii 3] 23));have BX:=zAb (show Below w.heap.size w X by rw [<-hX];exact zBe _ _ _);have TA:=zAb (show Two X w.heap.size fx 3 by rw [<-hX];exact (Two.newAt rfl).alloc);have TB:=zAb (show Two X (w.heap.size+1) tx 3 by rw [<-hX];exact Two.newAt (by simp));obtain ⟨⟨a0,a1⟩,-,-⟩:=id TA.out;have HX:=zAb hX;have GWd:=zAb hWd;have GSh:=zAb hSh;have GRc:=zAb hRc;have GOt:=zAb hOt;have GFd:=zAb hFd;have GOf:=zAb (hOf X BX.out);clear hX hWd hSh hRc hOf hOt hFd;go_enter func7,ntmps7;go_wp2_with (rw [HX.out]);refine GOf.out.mono ?_;rintro e W1 ⟨rfl,hb1⟩;obtain ⟨W2,hW2⟩:=ex (W1.alloc (.cells #[O ii kx,O ii 0] 23));have B2:=zAb (show Below X.heap.size X W2 by rw [<-hW2];exact bt hb1 (zAh _ _));have TK:=zAb (show Two W2 W1.heap.size kx 0 by rw [<-hW2];exact Two.newAt rfl);have HW2:=zAb hW2;have hs1:=zAb hb1.size;clear hW2 hb1 a0 a1 GOf;go_wp2_with (rw [HW2.out]);obtain ⟨Y0,hY0⟩:∃Y,W2.drew=Y:=⟨_,rfl⟩
 have BY0:=zAb (show Below X.heap.size X Y0 by rw [<-hY0];exact bt B2.out (Below.refl _ _).drew);have bY0:=zAb (show Below W2.heap.size W2 Y0 by rw [<-hY0];exact (Below.refl _ _).drew);have HY0:=zAb hY0;clear hY0;refine zAj ?_;refine zAe (fun wx:World=>Below Y0.heap.size Y0 wx) [] (by kernel_rfl) ?_;rw [HY0.out];refine zx 0 2 4 rfl (by kernel_rfl) (Below.refl _ _) ?_;refine zxc (v:=cel kx 0) rfl (by rfl) (fun wx hx=>by obtain ⟨⟨q0,q1⟩,-,-⟩:=(TK.out.kept bY0.out).kept hx;go_simp) ?_;simp only [zp];refine zxc (v:=cel tx 3) rfl (by rfl) (fun wx hx=>by obtain ⟨⟨q0,q1⟩,-,-⟩:=(TB.out.kept BY0.out).kept hx;go_simp) ?_;simp only [zp];refine zxn ?_;refine zw 2 [] (by kernel_rfl) ?_;refine readyZ.call rfl rfl (zSc (by rfl) (by rfl) (by simp only [zj];rfl)) (GOt.out Y0 (bt BX.out BY0.out)) ?_ readyZ.nil;rintro e W3 ⟨rfl,hb3⟩;refine ⟨_,rfl,fun _=>hb3,?_⟩;simp only [zp];refine zx 3 1 4 rfl (by kernel_rfl) hb3 ?_;refine zxc (v:=.bool false) rfl (by rfl) (fun wx hx=>by go_simp) ?_;simp only [zp];refine zxn ?_;refine zAd (by kernel_rfl) ?_ _;dsimp only [zAv,Exit.then];have B3:=zAb (show Below X.heap.size X W3 from bt BY0.out hb3);have TK3:=zAb (show Two W3 W1.heap.size kx 0 from (TK.out.kept bY0.out).kept hb3);clear hb3;go_wp2_with fail;go_cut [8,9] (fun s8 s9 wx=>s9 = .bool true/\∃b,s8=ptr b/\Four wx b ix 0 8 8/\Below X.heap.size X wx)
 case first =>
  obtain ⟨Y,hY⟩:=ex (W3.drew);have BY:=zAb (show Below X.heap.size X Y by rw [<-hY];exact bt B3.out (Below.refl _ _).drew);have hsY:=zAb BY.out.size;have TKY:=zAb (show Two Y W1.heap.size kx 0 by rw [<-hY];exact TK3.out.kept (Below.refl _ _).drew);have HWd:=zAb (fun (W:World) (q:Below Y.heap.size Y W)=>GWd.out W (bt BX.out (bt BY.out q)));have HRc:=zAb (fun (W:World) (q:Below Y.heap.size Y W)=>GRc.out W (bt BX.out (bt BY.out q)));have HY:=zAb hY;clear hY;refine zAj ?_;refine zAe (fun wx:World=>Below Y.heap.size Y wx) [] (by kernel_rfl) ?_;rw [HY.out];refine zx 0 1 10 rfl (by kernel_rfl) (Below.refl _ _) ?_;refine zxc rfl (by rfl) (fun wx hx=>by go_simp;rfl) ?_;simp only [zp];refine zxn ?_;refine zx 2 1 10 rfl (by kernel_rfl) (Below.refl _ _) ?_;refine zxc (v:=cel kx 0) rfl (by rfl) (fun wx hx=>by obtain ⟨⟨q0,q1⟩,-,-⟩:=TKY.out.kept hx;go_simp) ?_;simp only [zp];refine zxn ?_;have BB:Below Y.heap.size Y Y:=Below.refl _ _;refine zw 1 [7] (by kernel_rfl) ?_;refine readyZ.call rfl rfl (Rf9 (by rfl) (by rfl) (by simp only [zj];rfl)) (HWd.out Y BB) ?_ ?_
  ·rintro e V1 ⟨rfl,hV1⟩;have BV1:Below Y.heap.size Y V1:=bt BB hV1;refine ⟨_,rfl,fun _=>BV1,?_⟩;simp only [zp];refine zw 3 [7] (by kernel_rfl) ?_;refine readyZ.call rfl rfl (zWg (by rfl) (by rfl) (by simp only [zj];rfl)) (HRc.out V1 BV1) ?_ ?_
   ·rintro e V3 ⟨rfl,hV3⟩;have BV3:Below Y.heap.size Y V3:=bt BV1 hV3;refine ⟨_,rfl,fun _=>BV3,?_⟩;simp only [zp];refine zx 4 3 10 rfl (by kernel_rfl) BV3 ?_
    iterate 3 (refine zxc rfl (by rfl) (fun wx hx=>by go_simp;rfl) ?_;simp only [zp])
    refine zxn ?_;obtain ⟨Az,hAz⟩:∃V,V3.alloc (.cells #[O ii 0,O ii 0,O ii 0,O ii 0] 65)=V:=⟨_,rfl⟩
    have KAz:Four Az V3.heap.size 0 0 0 0:=by rw [<-hAz];exact Four.new _ _ _ _ _ _
    have BAz:Below Y.heap.size Y Az:=by rw [<-hAz];exact bt BV3 (zAh _ _)
    have hzAz:=BV3.size;refine zq 7 (by kernel_rfl) rfl rfl (v':=ptr V3.heap.size) (w':=Az) (by rw [<-hAz];go_simp) (fun _=>BAz) ?_;simp only [zp];clear hAz;have bz:Below Y.heap.size Y ((((Az.setCell ⟨V3.heap.size,0,none⟩ (O ii ix)).setCell ⟨V3.heap.size,1,none⟩ (O ii 0)).setCell ⟨V3.heap.size,2,none⟩ (O ii 8)).setCell ⟨V3.heap.size,3,none⟩ (O ii 8)):=zBn BAz (by omega) _ _ _ _;obtain ⟨⟨r0,r1,r2,r3⟩,⟨f0,f1,f2,f3⟩,-⟩:=id KAz;refine zw 8 [] (by kernel_rfl) ?_;refine readyZ.skip rfl rfl (w':=((((Az.setCell ⟨V3.heap.size,0,none⟩ (O ii ix)).setCell ⟨V3.heap.size,1,none⟩ (O ii 0)).setCell ⟨V3.heap.size,2,none⟩ (O ii 8)).setCell ⟨V3.heap.size,3,none⟩ (O ii 8))) (by go_simp) (fun _=>bz) ?_ readyZ.nil;refine zq 9 (v':=.bool true) (by kernel_rfl) rfl rfl (zBd rfl rfl) (fun _=>bz) ?_;refine zAd (by kernel_rfl) ?_ _;dsimp only [zAv,Exit.then];simp only [zp];go_wp2_with fail;go_meet
    exact ⟨rfl,V3.heap.size,rfl,zB6 KAz,BY.out.trans (bz.mono hsY.out)⟩
   ·obtain ⟨A3,hA3⟩:∃V,V1.alloc (.cells #[O ii 0,O ii 0,O ii 0,O ii 0] 65)=V:=⟨_,rfl⟩
    have KA3:Four A3 V1.heap.size 0 0 0 0:=by rw [<-hA3];exact Four.new _ _ _ _ _ _
    have BA3:Below Y.heap.size Y A3:=by rw [<-hA3];exact bt BV1 (zAh _ _)
    refine readyZ.cons rfl rfl (v':=ptr V1.heap.size) (w':=A3) (by rw [<-hA3];go_simp) (fun _=>BA3) ?_ readyZ.nil;have hzA3:=BV1.size;simp only [zp];clear hA3;refine zw 3 [] (by kernel_rfl) ?_;refine readyZ.call rfl rfl (zWg (by rfl) (by rfl) (by simp only [zj];rfl)) (HRc.out A3 BA3) ?_ readyZ.nil;rintro e Vx3 ⟨rfl,hVx3⟩;have BVx3:Below Y.heap.size Y Vx3:=bt BA3 hVx3;have KVx3:=(KA3).kept hVx3;refine ⟨_,rfl,fun _=>BVx3,?_⟩;simp only [zp];refine zx 4 3 10 rfl (by kernel_rfl) BVx3 ?_
    iterate 3 (refine zxc rfl (by rfl) (fun wx hx=>by go_simp;rfl) ?_;simp only [zp])
    refine zxn ?_;have bz:Below Y.heap.size Y ((((Vx3.setCell ⟨V1.heap.size,0,none⟩ (O ii ix)).setCell ⟨V1.heap.size,1,none⟩ (O ii 0)).setCell ⟨V1.heap.size,2,none⟩ (O ii 8)).setCell ⟨V1.heap.size,3,none⟩ (O ii 8)):=zBn BVx3 (by omega) _ _ _ _;obtain ⟨⟨r0,r1,r2,r3⟩,⟨f0,f1,f2,f3⟩,-⟩:=id KVx3;refine zw 8 [] (by kernel_rfl) ?_;refine readyZ.skip rfl rfl (w':=((((Vx3.setCell ⟨V1.heap.size,0,none⟩ (O ii ix)).setCell ⟨V1.heap.size,1,none⟩ (O ii 0)).setCell ⟨V1.heap.size,2,none⟩ (O ii 8)).setCell ⟨V1.heap.size,3,none⟩ (O ii 8))) (by go_simp) (fun _=>bz) ?_ readyZ.nil;refine zq 9 (v':=.bool true) (by kernel_rfl) rfl rfl (zBd rfl rfl) (fun _=>bz) ?_;refine zAd (by kernel_rfl) ?_ _;dsimp only [zAv,Exit.then];simp only [zp];go_wp2_with fail;go_meet
    exact ⟨rfl,V1.heap.size,rfl,zB6 KVx3,BY.out.trans (bz.mono hsY.out)⟩
  ·obtain ⟨A1,hA1⟩:∃V,Y.alloc (.cells #[O ii 0,O ii 0,O ii 0,O ii 0] 65)=V:=⟨_,rfl⟩
   have KA1:Four A1 Y.heap.size 0 0 0 0:=by rw [<-hA1];exact Four.new _ _ _ _ _ _
   have BA1:Below Y.heap.size Y A1:=by rw [<-hA1];exact bt BB (zAh _ _)
   refine readyZ.cons rfl rfl (v':=ptr Y.heap.size) (w':=A1) (by rw [<-hA1];go_simp) (fun _=>BA1) ?_ readyZ.nil;have hzA1:=BB.size;simp only [zp];clear hA1;refine zw 1 [] (by kernel_rfl) ?_;refine readyZ.call rfl rfl (Rf9 (by rfl) (by rfl) (by simp only [zj];rfl)) (HWd.out A1 BA1) ?_ readyZ.nil;rintro e Vx1 ⟨rfl,hVx1⟩;have BVx1:Below Y.heap.size Y Vx1:=bt BA1 hVx1;have KVx1:=(KA1).kept hVx1;refine ⟨_,rfl,fun _=>BVx1,?_⟩;simp only [zp];refine zw 3 [] (by kernel_rfl) ?_;refine readyZ.call rfl rfl (zWg (by rfl) (by rfl) (by simp only [zj];rfl)) (HRc.out Vx1 BVx1) ?_ readyZ.nil;rintro e Vx3 ⟨rfl,hVx3⟩;have BVx3:Below Y.heap.size Y Vx3:=bt BVx1 hVx3;have KVx3:=(KVx1).kept hVx3;refine ⟨_,rfl,fun _=>BVx3,?_⟩;simp only [zp];refine zx 4 3 10 rfl (by kernel_rfl) BVx3 ?_
   iterate 3 (refine zxc rfl (by rfl) (fun wx hx=>by go_simp;rfl) ?_;simp only [zp])
   refine zxn ?_;have bz:Below Y.heap.size Y ((((Vx3.setCell ⟨Y.heap.size,0,none⟩ (O ii ix)).setCell ⟨Y.heap.size,1,none⟩ (O ii 0)).setCell ⟨Y.heap.size,2,none⟩ (O ii 8)).setCell ⟨Y.heap.size,3,none⟩ (O ii 8)):=zBn BVx3 (by omega) _ _ _ _;obtain ⟨⟨r0,r1,r2,r3⟩,⟨f0,f1,f2,f3⟩,-⟩:=id KVx3;refine zw 8 [] (by kernel_rfl) ?_;refine readyZ.skip rfl rfl (w':=((((Vx3.setCell ⟨Y.heap.size,0,none⟩ (O ii ix)).setCell ⟨Y.heap.size,1,none⟩ (O ii 0)).setCell ⟨Y.heap.size,2,none⟩ (O ii 8)).setCell ⟨Y.heap.size,3,none⟩ (O ii 8))) (by go_simp) (fun _=>bz) ?_ readyZ.nil;refine zq 9 (v':=.bool true) (by kernel_rfl) rfl rfl (zBd rfl rfl) (fun _=>bz) ?_;refine zAd (by kernel_rfl) ?_ _;dsimp only [zAv,Exit.then];simp only [zp];go_wp2_with fail;go_meet
   exact ⟨rfl,Y.heap.size,rfl,zB6 KVx3,BY.out.trans (bz.mono hsY.out)⟩
 case rest =>
  rename World=>w1;obtain ⟨rfl,b,rfl,hF4,hB1⟩:=hcut;have F4:=zAb hF4;have HB1:=zAb hB1;clear hF4 hB1;go_wp2_with fail;go_cut [10,11] (fun s10 s11 wx=>∃b va vn vc L,s10=ptr b/\wx.cell? ⟨b,1,none⟩=some (.slice va vn vc)/\RC wx (.slice va vn vc) L/\L.length=7/\Below X.heap.size X wx)
  case first =>
   obtain ⟨Y,hY⟩:=ex (w1.drew);have BY:=zAb (show Below X.heap.size X Y by rw [<-hY];exact bt HB1.out (Below.refl _ _).drew);have hsY:=zAb BY.out.size;have F4Y:=zAb (show Four Y b ix 0 8 8 by rw [<-hY];exact F4.out.kept (Below.refl _ _).drew);have HWd:=zAb (fun (W:World) (q:Below Y.heap.size Y W)=>GWd.out W (bt BX.out (bt BY.out q)));have HSh:=zAb (fun (W:World) (q:Below Y.heap.size Y W)=>GSh.out W (bt BX.out (bt BY.out q)));have HFd:=zAb (fun (W:World) (q:Below Y.heap.size Y W)=>GFd.out W (bt BX.out (bt BY.out q)));have HRd:=zAb (show ∀wx,Below Y.heap.size Y wx->Two wx w.heap.size fx 3/\Two wx (w.heap.size+1) tx 3/\Four wx b ix 0 8 8 from fun wx q=>⟨TA.out.kept (bt BY.out q),TB.out.kept (bt BY.out q),F4Y.out.kept q⟩);have HY:=zAb hY;clear hY;refine zAj ?_;refine zAe (fun wx:World=>Below Y.heap.size Y wx) [] (by kernel_rfl) ?_;rw [HY.out];refine zx 0 1 19 rfl (by kernel_rfl) (Below.refl _ _) ?_;refine zxc rfl (by rfl) (fun wx hx=>by go_simp;rfl) ?_;simp only [zp];refine zxn ?_;refine zx 2 1 19 rfl (by kernel_rfl) (Below.refl _ _) ?_;refine zxc rfl (by rfl) (fun wx hx=>by go_simp;rfl) ?_;simp only [zp];refine zxn ?_;refine zx 4 8 19 rfl (by kernel_rfl) (Below.refl _ _) ?_;refine zxc (v:=cel fx 3) rfl (by rfl) (fun wx hx=>by obtain ⟨⟨⟨q0,q1⟩,-,-⟩,-,-⟩:=HRd.out wx hx;go_simp) ?_;simp only [zp];refine zxc (v:=cel tx 3) rfl (by rfl) (fun wx hx=>by obtain ⟨-,⟨⟨q0,q1⟩,-,-⟩,-⟩:=HRd.out wx hx;go_simp) ?_;simp only [zp];refine zxc (v:=rct ix 0 8 8) rfl (by rfl) (fun wx hx=>by obtain ⟨-,-,⟨⟨q0,q1,q2,q3⟩,-,-⟩⟩:=HRd.out wx hx;go_simp) ?_;simp only [zp]
   iterate 5 (refine zxc rfl (by rfl) (fun wx hx=>by obtain ⟨-,-,⟨⟨q0,q1,q2,q3⟩,-,-⟩⟩:=HRd.out wx hx;go_simp;rfl) ?_;simp only [zp])
   refine zxn ?_;have BB:Below Y.heap.size Y Y:=Below.refl _ _;refine zw 1 [16] (by kernel_rfl) ?_;refine readyZ.call rfl rfl (Rf9 (by rfl) (by rfl) (by simp only [zj];rfl)) (HWd.out Y BB) ?_ ?_
   ·rintro e V1 ⟨rfl,hV1⟩;have BV1:Below Y.heap.size Y V1:=bt BB hV1;refine ⟨_,rfl,fun _=>BV1,?_⟩;simp only [zp];refine zw 3 [16] (by kernel_rfl) ?_;refine readyZ.call rfl rfl (zZi (by rfl) (by rfl) (by simp only [zj];rfl)) (HSh.out V1 BV1) ?_ ?_
    ·rintro e V3 ⟨rfl,hV3⟩;have BV3:Below Y.heap.size Y V3:=bt BV1 hV3;refine ⟨_,rfl,fun _=>BV3,?_⟩;simp only [zp];refine zw 12 [16] (by kernel_rfl) ?_;refine readyZ.call rfl rfl (zZh (by rfl) (by rfl) (by simp only [zj];rfl)) (HFd.out V3 BV3) ?_ ?_
     ·rintro e V12 ⟨va,vn,vc,L,o,cost,rfl,hRL,hLn,hown,hV12⟩;have BV12:Below Y.heap.size Y V12:=bt BV3 hV12;refine ⟨_,rfl,fun _=>BV12,?_⟩;simp only [zp];refine zx 13 3 19 rfl (by kernel_rfl) BV12 ?_
      iterate 3 (refine zxc rfl (by rfl) (fun wx hx=>by go_simp;rfl) ?_;simp only [zp])
      refine zxn ?_;obtain ⟨Az,hAz⟩:∃V,V12.alloc (.cells #[O ii 0,.slice none 0 0] 36)=V:=⟨_,rfl⟩
      have KAz:TwoV Az V12.heap.size (O ii 0) (.slice none 0 0):=by rw [<-hAz];exact TwoV.new
      have BAz:Below Y.heap.size Y Az:=by rw [<-hAz];exact bt BV12 (zAh _ _)
      have hzAz:=BV12.size;refine zq 16 (by kernel_rfl) rfl rfl (v':=ptr V12.heap.size) (w':=Az) (by rw [<-hAz];go_simp) (fun _=>BAz) ?_;simp only [zp];have hne:∀g,(Value.slice va vn vc).ownBlock=some g->¬g=V12.heap.size:=fun g e q=>by obtain ⟨cur,hc⟩:=zQc hRL e;have:=(gE.1 hc).1;omega
      replace hRL:RC Az (.slice va vn vc) L:=by rw [<-hAz];exact Rw.upto hRL (zAh _ _)
      clear hAz;have tz:Turns (fun j=>j=V12.heap.size) Az ((Az.setCell ⟨V12.heap.size,0,none⟩ (O ii o)).setCell ⟨V12.heap.size,1,none⟩ (.slice va vn vc)):=zHw _ _ _ _;have bz:Below Y.heap.size Y ((Az.setCell ⟨V12.heap.size,0,none⟩ (O ii o)).setCell ⟨V12.heap.size,1,none⟩ (.slice va vn vc)):=BAz.trans (tz.below (fun j e=>by omega) BAz.size);obtain ⟨⟨r0,r1⟩,⟨f0,f1⟩,-⟩:=id KAz;refine zw 17 [] (by kernel_rfl) ?_;refine readyZ.skip rfl rfl (w':=((Az.setCell ⟨V12.heap.size,0,none⟩ (O ii o)).setCell ⟨V12.heap.size,1,none⟩ (.slice va vn vc))) (by go_simp) (fun _=>bz) ?_ readyZ.nil;refine zq 18 (v':=O ii cost) (by kernel_rfl) rfl rfl (zBd rfl rfl) (fun _=>bz) ?_;refine zAd (by kernel_rfl) ?_ _;dsimp only [zAv,Exit.then];simp only [zp];go_wp2_with fail;go_meet
      exact ⟨V12.heap.size,va,vn,vc,L,rfl,by simp [go_sem,r0,r1],zA3 hRL tz (fun g e q=>hne g e q),hLn,BY.out.trans (bz.mono hsY.out)⟩
     ·obtain ⟨A12,hA12⟩:∃V,V3.alloc (.cells #[O ii 0,.slice none 0 0] 36)=V:=⟨_,rfl⟩
      have KA12:TwoV A12 V3.heap.size (O ii 0) (.slice none 0 0):=by rw [<-hA12];exact TwoV.new
      have BA12:Below Y.heap.size Y A12:=by rw [<-hA12];exact bt BV3 (zAh _ _)
      refine readyZ.cons rfl rfl (v':=ptr V3.heap.size) (w':=A12) (by rw [<-hA12];go_simp) (fun _=>BA12) ?_ readyZ.nil;have hzA12:=BV3.size;simp only [zp];clear hA12;refine zw 12 [] (by kernel_rfl) ?_;refine readyZ.call rfl rfl (zZh (by rfl) (by rfl) (by simp only [zj];rfl)) (HFd.out A12 BA12) ?_ readyZ.nil;rintro e Vx12 ⟨va,vn,vc,L,o,cost,rfl,hRL,hLn,hown,hVx12⟩;have hne:∀g,(Value.slice va vn vc).ownBlock=some g->¬g=V3.heap.size:=fun g e q=>by have h1:=hown g e;have h2:=(KA12).2.2;omega
      have BVx12:Below Y.heap.size Y Vx12:=bt BA12 hVx12;have KVx12:=TwoV.upto (KA12) hVx12;refine ⟨_,rfl,fun _=>BVx12,?_⟩;simp only [zp];refine zx 13 3 19 rfl (by kernel_rfl) BVx12 ?_
      iterate 3 (refine zxc rfl (by rfl) (fun wx hx=>by go_simp;rfl) ?_;simp only [zp])
      refine zxn ?_;have tz:Turns (fun j=>j=V3.heap.size) Vx12 ((Vx12.setCell ⟨V3.heap.size,0,none⟩ (O ii o)).setCell ⟨V3.heap.size,1,none⟩ (.slice va vn vc)):=zHw _ _ _ _;have bz:Below Y.heap.size Y ((Vx12.setCell ⟨V3.heap.size,0,none⟩ (O ii o)).setCell ⟨V3.heap.size,1,none⟩ (.slice va vn vc)):=BVx12.trans (tz.below (fun j e=>by omega) BVx12.size);obtain ⟨⟨r0,r1⟩,⟨f0,f1⟩,-⟩:=id KVx12;refine zw 17 [] (by kernel_rfl) ?_;refine readyZ.skip rfl rfl (w':=((Vx12.setCell ⟨V3.heap.size,0,none⟩ (O ii o)).setCell ⟨V3.heap.size,1,none⟩ (.slice va vn vc))) (by go_simp) (fun _=>bz) ?_ readyZ.nil;refine zq 18 (v':=O ii cost) (by kernel_rfl) rfl rfl (zBd rfl rfl) (fun _=>bz) ?_;refine zAd (by kernel_rfl) ?_ _;dsimp only [zAv,Exit.then];simp only [zp];go_wp2_with fail;go_meet
      exact ⟨V3.heap.size,va,vn,vc,L,rfl,by simp [go_sem,r0,r1],zA3 hRL tz (fun g e q=>hne g e q),hLn,BY.out.trans (bz.mono hsY.out)⟩
    ·obtain ⟨A3,hA3⟩:∃V,V1.alloc (.cells #[O ii 0,.slice none 0 0] 36)=V:=⟨_,rfl⟩
     have KA3:TwoV A3 V1.heap.size (O ii 0) (.slice none 0 0):=by rw [<-hA3];exact TwoV.new
     have BA3:Below Y.heap.size Y A3:=by rw [<-hA3];exact bt BV1 (zAh _ _)
     refine readyZ.cons rfl rfl (v':=ptr V1.heap.size) (w':=A3) (by rw [<-hA3];go_simp) (fun _=>BA3) ?_ readyZ.nil;have hzA3:=BV1.size;simp only [zp];clear hA3;refine zw 3 [] (by kernel_rfl) ?_;refine readyZ.call rfl rfl (zZi (by rfl) (by rfl) (by simp only [zj];rfl)) (HSh.out A3 BA3) ?_ readyZ.nil;rintro e Vx3 ⟨rfl,hVx3⟩;have BVx3:Below Y.heap.size Y Vx3:=bt BA3 hVx3;have KVx3:=TwoV.upto (KA3) hVx3;refine ⟨_,rfl,fun _=>BVx3,?_⟩;simp only [zp];refine zw 12 [] (by kernel_rfl) ?_;refine readyZ.call rfl rfl (zZh (by rfl) (by rfl) (by simp only [zj];rfl)) (HFd.out Vx3 BVx3) ?_ readyZ.nil;rintro e Vx12 ⟨va,vn,vc,L,o,cost,rfl,hRL,hLn,hown,hVx12⟩;have hne:∀g,(Value.slice va vn vc).ownBlock=some g->¬g=V1.heap.size:=fun g e q=>by have h1:=hown g e;have h2:=(KVx3).2.2;omega
     have BVx12:Below Y.heap.size Y Vx12:=bt BVx3 hVx12;have KVx12:=TwoV.upto (KVx3) hVx12;refine ⟨_,rfl,fun _=>BVx12,?_⟩;simp only [zp];refine zx 13 3 19 rfl (by kernel_rfl) BVx12 ?_
     iterate 3 (refine zxc rfl (by rfl) (fun wx hx=>by go_simp;rfl) ?_;simp only [zp])
     refine zxn ?_;have tz:Turns (fun j=>j=V1.heap.size) Vx12 ((Vx12.setCell ⟨V1.heap.size,0,none⟩ (O ii o)).setCell ⟨V1.heap.size,1,none⟩ (.slice va vn vc)):=zHw _ _ _ _;have bz:Below Y.heap.size Y ((Vx12.setCell ⟨V1.heap.size,0,none⟩ (O ii o)).setCell ⟨V1.heap.size,1,none⟩ (.slice va vn vc)):=BVx12.trans (tz.below (fun j e=>by omega) BVx12.size);obtain ⟨⟨r0,r1⟩,⟨f0,f1⟩,-⟩:=id KVx12;refine zw 17 [] (by kernel_rfl) ?_;refine readyZ.skip rfl rfl (w':=((Vx12.setCell ⟨V1.heap.size,0,none⟩ (O ii o)).setCell ⟨V1.heap.size,1,none⟩ (.slice va vn vc))) (by go_simp) (fun _=>bz) ?_ readyZ.nil;refine zq 18 (v':=O ii cost) (by kernel_rfl) rfl rfl (zBd rfl rfl) (fun _=>bz) ?_;refine zAd (by kernel_rfl) ?_ _;dsimp only [zAv,Exit.then];simp only [zp];go_wp2_with fail;go_meet
     exact ⟨V1.heap.size,va,vn,vc,L,rfl,by simp [go_sem,r0,r1],zA3 hRL tz (fun g e q=>hne g e q),hLn,BY.out.trans (bz.mono hsY.out)⟩
   ·obtain ⟨A1,hA1⟩:∃V,Y.alloc (.cells #[O ii 0,.slice none 0 0] 36)=V:=⟨_,rfl⟩
    have KA1:TwoV A1 Y.heap.size (O ii 0) (.slice none 0 0):=by rw [<-hA1];exact TwoV.new
    have BA1:Below Y.heap.size Y A1:=by rw [<-hA1];exact bt BB (zAh _ _)
    refine readyZ.cons rfl rfl (v':=ptr Y.heap.size) (w':=A1) (by rw [<-hA1];go_simp) (fun _=>BA1) ?_ readyZ.nil;have hzA1:=BB.size;simp only [zp];clear hA1;refine zw 1 [] (by kernel_rfl) ?_;refine readyZ.call rfl rfl (Rf9 (by rfl) (by rfl) (by simp only [zj];rfl)) (HWd.out A1 BA1) ?_ readyZ.nil;rintro e Vx1 ⟨rfl,hVx1⟩;have BVx1:Below Y.heap.size Y Vx1:=bt BA1 hVx1;have KVx1:=TwoV.upto (KA1) hVx1;refine ⟨_,rfl,fun _=>BVx1,?_⟩;simp only [zp];refine zw 3 [] (by kernel_rfl) ?_;refine readyZ.call rfl rfl (zZi (by rfl) (by rfl) (by simp only [zj];rfl)) (HSh.out Vx1 BVx1) ?_ readyZ.nil;rintro e Vx3 ⟨rfl,hVx3⟩;have BVx3:Below Y.heap.size Y Vx3:=bt BVx1 hVx3;have KVx3:=TwoV.upto (KVx1) hVx3;refine ⟨_,rfl,fun _=>BVx3,?_⟩;simp only [zp];refine zw 12 [] (by kernel_rfl) ?_;refine readyZ.call rfl rfl (zZh (by rfl) (by rfl) (by simp only [zj];rfl)) (HFd.out Vx3 BVx3) ?_ readyZ.nil;rintro e Vx12 ⟨va,vn,vc,L,o,cost,rfl,hRL,hLn,hown,hVx12⟩;have hne:∀g,(Value.slice va vn vc).ownBlock=some g->¬g=Y.heap.size:=fun g e q=>by have h1:=hown g e;have h2:=(KVx3).2.2;omega
    have BVx12:Below Y.heap.size Y Vx12:=bt BVx3 hVx12;have KVx12:=TwoV.upto (KVx3) hVx12;refine ⟨_,rfl,fun _=>BVx12,?_⟩;simp only [zp];refine zx 13 3 19 rfl (by kernel_rfl) BVx12 ?_
    iterate 3 (refine zxc rfl (by rfl) (fun wx hx=>by go_simp;rfl) ?_;simp only [zp])
    refine zxn ?_;have tz:Turns (fun j=>j=Y.heap.size) Vx12 ((Vx12.setCell ⟨Y.heap.size,0,none⟩ (O ii o)).setCell ⟨Y.heap.size,1,none⟩ (.slice va vn vc)):=zHw _ _ _ _;have bz:Below Y.heap.size Y ((Vx12.setCell ⟨Y.heap.size,0,none⟩ (O ii o)).setCell ⟨Y.heap.size,1,none⟩ (.slice va vn vc)):=BVx12.trans (tz.below (fun j e=>by omega) BVx12.size);obtain ⟨⟨r0,r1⟩,⟨f0,f1⟩,-⟩:=id KVx12;refine zw 17 [] (by kernel_rfl) ?_;refine readyZ.skip rfl rfl (w':=((Vx12.setCell ⟨Y.heap.size,0,none⟩ (O ii o)).setCell ⟨Y.heap.size,1,none⟩ (.slice va vn vc))) (by go_simp) (fun _=>bz) ?_ readyZ.nil;refine zq 18 (v':=O ii cost) (by kernel_rfl) rfl rfl (zBd rfl rfl) (fun _=>bz) ?_;refine zAd (by kernel_rfl) ?_ _;dsimp only [zAv,Exit.then];simp only [zp];go_wp2_with fail;go_meet
    exact ⟨Y.heap.size,va,vn,vc,L,rfl,by simp [go_sem,r0,r1],zA3 hRL tz (fun g e q=>hne g e q),hLn,BY.out.trans (bz.mono hsY.out)⟩
  case rest =>
   rename World=>w2;obtain ⟨b2,va,vn,vc,L,rfl,q1,q2,q3,q4⟩:=hcut;have HE:=zAb (show RC w2 (.slice va vn vc) L/\L.length=7/\Below w.heap.size w w2 from ⟨q2,q3,bt BX.out q4⟩);clear q2 q3 q4;go_wp2_with fail;exact bodyPost_ret (v:=.slice va vn vc) (by simp [results,Tryz.f7,go_sem]) rfl ⟨_,_,rfl,HE.out⟩
attribute [local go_sem] Oper.semAt_some
theorem zL5 {w:World} {p:Nat} (hE:En w p 16 8 zA4 (zB9 [])) {fx tx ix:Int} (hix:0<=ix/\ix<=8) (h1:Std 16 8 zA4 (zB9 []) 0 1 ix 0 8 8 (fx,3)) (h2:Std 16 8 zA4 (zB9 []) 0 1 ix 0 8 8 (tx,3)) (hb:inB ix 0 8 8 (fx,3))
 (hL:Least (zAx 16 8 zA4 (zB9 []) 0 1 ix 0 8 8) (tx,3) (fx,3) 70) (hd:7<=tx-fx\/7<=fx-tx) (hm:mtV ix 0 8 8 0 0 16 8=rct ix 0 8 8) :
 ∀wx,Below w.heap.size w wx->Calls pg 18 #[ptr p,shv 0 1,cel fx 3,cel tx 3,rct ix 0 8 8,O ii 64] wx fun e w'=>∃va vn vc L o cost,e = .returned (.tuple #[.agg #[O ii o,.slice va vn vc],O ii cost])/\RC w' (.slice va vn vc) L/\L.length=7/\(∀g,(Value.slice va vn vc).ownBlock=some g->wx.heap.size<=g)/\Below wx.heap.size wx w':=fun wx q=>by
 refine (zVr p 16 8 zA4 (zB9 []) 0 1 fx 3 tx 3 ix 0 8 8 ix 0 8 8 64 wx (hE.1.kept q) (hE.2.1.kept q) (hE.2.2.kept q) (by decide) (by decide) hm (by decide)).mono ?_;rintro e w' ⟨o,v,cost,rfl,hB,h⟩
 have hst:((has ix 0 8 8 fx 3&&stB 16 8 zA4 (zB9 []) 0 1 fx 3)&&(has ix 0 8 8 tx 3&&stB 16 8 zA4 (zB9 []) 0 1 tx 3))=true:=by
  rw [h1.1,h1.2,h2.1,h2.2];rfl
 rcases h with ⟨e,-⟩|⟨-,⟨-,-,-,h⟩|⟨-,-,-,h⟩|⟨rfl,hc,hl,C,P,⟨hC,hbC⟩,⟨Hq,hsk,hH⟩,hW,hP,hown⟩⟩
 ·rw [hst] at e;cases e
 ·omega
 ·exact absurd hL.1 (h 70)
 ·have e70:cost.toNat=70:=hl.eq hL;have hA:At 16 8 zA4 (zB9 []) 0 1 ix 0 8 8 (tx,3) fx 3 cost:=⟨h1,hc.1,hl⟩
  have hy:=zWu (fun m hm=>(hbC m hm).1) hsk hH (fun q k hk=>zSa hix hb q k hk) h2 hW 0 hA (Wk.nil _) (by omega);have l1:=hy.len;have l2:=hy.far hA;obtain ⟨va,vn,vc,rfl⟩:=hP.slice;exact ⟨va,vn,vc,P,1,cost,rfl,hP,by simp only at l2;omega,hown,hB⟩
theorem zT7 (w:World) (x y:Int):RC (w.alloc (.cells #[O ii x,O ii y] 23)) (.slice (some ⟨w.heap.size,0,none⟩) 1 1) [(x,y)]:=
 ⟨rfl,.inr ⟨w.heap.size,1,_,rfl,Nat.zero_le _,heap_alloc_new w _,Nat.le_refl _,by decide,rfl,rfl⟩⟩
theorem zU1 {w:World} {gp:Nat} {fx tx kx:Int} (hkx:kx≠1)
 (hOf:∀wx,Below w.heap.size w wx->Calls pg 16 #[cel fx 3] wx fun e w'=>e = .returned (cel kx 0)/\Below wx.heap.size wx w')
 (hOt:∀wx,Below w.heap.size w wx->Calls pg 16 #[cel tx 3] wx fun e w'=>e = .returned (cel 1 0)/\Below wx.heap.size wx w') :
 Calls pg 7 #[ptr gp,cel fx 3,cel tx 3] w fun e w'=>∃lv L,e = .returned lv/\RC w' lv L/\L.length=1/\Below w.heap.size w w':=by
 obtain ⟨X,hX⟩:=ex ((w.alloc (.cells #[O ii fx,O ii 3] 23)).alloc (.cells #[O ii tx,O ii 3] 23));have BX:=zAb (show Below w.heap.size w X by rw [<-hX];exact zBe _ _ _);have TA:=zAb (show Two X w.heap.size fx 3 by rw [<-hX];exact (Two.newAt rfl).alloc);have TB:=zAb (show Two X (w.heap.size+1) tx 3 by rw [<-hX];exact Two.newAt (by simp));obtain ⟨⟨a0,a1⟩,-,-⟩:=id TA.out;have HX:=zAb hX;have GOt:=zAb hOt;have GOf:=zAb (hOf X BX.out);clear hX hOf hOt;go_enter func7,ntmps7;go_wp2_with (rw [HX.out]);refine GOf.out.mono ?_;rintro e W1 ⟨rfl,hb1⟩;obtain ⟨W2,hW2⟩:=ex (W1.alloc (.cells #[O ii kx,O ii 0] 23));have B2:=zAb (show Below X.heap.size X W2 by rw [<-hW2];exact bt hb1 (zAh _ _));have TK:=zAb (show Two W2 W1.heap.size kx 0 by rw [<-hW2];exact Two.newAt rfl);have HW2:=zAb hW2;clear hW2 hb1 a0 a1 GOf;go_wp2_with (rw [HW2.out]);obtain ⟨Y0,hY0⟩:∃Y,W2.drew=Y:=⟨_,rfl⟩
 have BY0:=zAb (show Below X.heap.size X Y0 by rw [<-hY0];exact bt B2.out (Below.refl _ _).drew);have bY0:=zAb (show Below W2.heap.size W2 Y0 by rw [<-hY0];exact (Below.refl _ _).drew);have HY0:=zAb hY0;clear hY0;refine zAj ?_;refine zAe (fun wx:World=>Below Y0.heap.size Y0 wx) [] (by kernel_rfl) ?_;rw [HY0.out];refine zx 0 2 4 rfl (by kernel_rfl) (Below.refl _ _) ?_;refine zxc (v:=cel kx 0) rfl (by rfl) (fun wx hx=>by obtain ⟨⟨q0,q1⟩,-,-⟩:=(TK.out.kept bY0.out).kept hx;go_simp) ?_;simp only [zp];refine zxc (v:=cel tx 3) rfl (by rfl) (fun wx hx=>by obtain ⟨⟨q0,q1⟩,-,-⟩:=(TB.out.kept BY0.out).kept hx;go_simp) ?_;simp only [zp];refine zxn ?_;refine zw 2 [] (by kernel_rfl) ?_;refine readyZ.call rfl rfl (zSc (by rfl) (by rfl) (by simp only [zj];rfl)) (GOt.out Y0 (bt BX.out BY0.out)) ?_ readyZ.nil;rintro e W3 ⟨rfl,hb3⟩;refine ⟨_,rfl,fun _=>hb3,?_⟩;simp only [zp];refine zx 3 1 4 rfl (by kernel_rfl) hb3 ?_;refine zxc (v:=.bool true) rfl (by rfl) (fun wx hx=>by go_simp) ?_;simp only [zp];refine zxn ?_;refine zAd (by kernel_rfl) ?_ _;dsimp only [zAv,Exit.then];have B3:=zAb (show Below w.heap.size w W3 from bt BX.out (bt BY0.out hb3));obtain ⟨⟨t0,t1⟩,-,-⟩:=(TB.out.kept BY0.out).kept hb3;clear hb3;go_wp2_with fail;exact bodyPost_ret (v:=.slice (some ⟨W3.heap.size,0,none⟩) 1 1) (by simp [results,Tryz.f7,go_sem]) rfl ⟨_,_,rfl,zT7 W3 tx 3,rfl,bt B3.out (zAh _ _)⟩
theorem zHc {w:World} (x k:Int) (hx:W64 x) (hk:x/8=k):∀wx,Below w.heap.size w wx->Calls pg 16 #[cel x 3] wx fun e w'=>e = .returned (cel k 0)/\Below wx.heap.size wx w':=fun wx q=>by
 have:=zHd x 3 hx (by decide) wx
 rwa [hk,show (3:Int)/8=0 by decide] at this
theorem zX8 {w:World} {gp p:Nat} (hE:En w p 16 8 zA4 (zB9 [])) (hq:Q14 w gp p):∀i,i<3->qBg w gp (nA i).1 (nA i).2 (nA (i+1)).1 (nA (i+1)).2 (nS i)
 |0,_=>fun wx q=>zSx (kx:=0) (ix:=0) (fun wy r=>hq.g.jf.wd wy (bt q r)) (fun wy r=>hq.g.jf.sh wy (bt q r)) (fun wy r=>hq.g.jf.rc wy (bt q r)) (zHc 0 0 (by decide) (by decide)) (zHc 7 0 (by decide) (by decide))
  (fun wy r=>zL5 hE (by decide) zW2 zZp (by unfold inB;decide) zRd (by decide) (by kernel_rfl) wy (bt q r))
 |1,_=>fun wx q=>zU1 (kx:=0) (by decide) (zHc 7 0 (by decide) (by decide)) (zHc 8 1 (by decide) (by decide))
 |2,_=>fun wx q=>zSx (kx:=1) (ix:=8) (fun wy r=>hq.g.jt.wd wy (bt q r)) (fun wy r=>hq.g.jt.sh wy (bt q r)) (fun wy r=>hq.g.jt.rc wy (bt q r)) (zHc 8 1 (by decide) (by decide)) (zHc 15 1 (by decide) (by decide))
  (fun wy r=>zL5 hE (by decide) zZo zW1 (by unfold inB;decide) zLi (by decide) (by kernel_rfl) wy (bt q r))
end Go.Proofs.YtejjcenhjpjefaaGreatDoor
