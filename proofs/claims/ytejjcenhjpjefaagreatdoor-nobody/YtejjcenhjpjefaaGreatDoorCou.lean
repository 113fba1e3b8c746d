import Derived.Test.YtejjcenhjpjefaaGreatDoorCmp
import Derived.Test.YtejjcenhjpjefaaGreatDoorHi0
import Derived.Test.YtejjcenhjpjefaaGreatDoorRch2
import Derived.Test.YtejjcenhjpjefaaGreatDoorInOrd
import Derived.Test.YtejjcenhjpjefaaGreatDoorNr
set_option linter.all false
set_option maxRecDepth 1000000
set_option maxHeartbeats 64000000
open Go.Proofs.Tryz
open Go.Proofs.Tryz renaming prog->pg
open Array renaming getElem?_eq_some_iff->gE
open And renaming intro->ai
open Go.Value renaming int->O
open Go.IntKind renaming i64->ii
namespace Go.Proofs.YtejjcenhjpjefaaGreatDoor
open Go.RowKit Go.Shelf
attribute [local go_sem] Oper.semAt_some
theorem qAw (p q:E3) (w:World):Calls pg 66 #[p.v,q.v] w fun e w'=>e = .returned (O ii (cfE p q))/\GrD w w':=by
 obtain ⟨a,b,k⟩:=p;obtain ⟨c,d,l⟩:=q;obtain ⟨X,hX⟩:=ex ((w.alloc (.cells #[O ii a,O ii b,O ii k] 88)).alloc (.cells #[O ii c,O ii d,O ii l] 88));have G0:GrD w X:=hX▸(GrD.box w _).trans (GrD.box _ _);have h0:X.heap[w.heap.size]? = some (.cells #[O ii a,O ii b,O ii k] 88):=by rw [<-hX];exact (Below.heap_alloc _ _ _ (by simp)).trans (World.alloc_heap_new w _)
 have h1:X.heap[w.heap.size+1]? = some (.cells #[O ii c,O ii d,O ii l] 88):=by rw [<-hX];have:=World.alloc_heap_new (w.alloc (.cells #[O ii a,O ii b,O ii k] 88)) (.cells #[O ii c,O ii d,O ii l] 88);rwa [World.size_alloc] at this
 obtain ⟨Y,hY⟩:=ex (X.drew);have c0:Y.cell? ⟨w.heap.size,0,none⟩=some (O ii a):=by rw [<-hY];exact (cell_of_row X _ 0 _ _ _ h0).trans rfl
 have c1:Y.cell? ⟨w.heap.size,1,none⟩=some (O ii b):=by rw [<-hY];exact (cell_of_row X _ 1 _ _ _ h0).trans rfl
 have c2:Y.cell? ⟨w.heap.size+1,0,none⟩=some (O ii c):=by rw [<-hY];exact (cell_of_row X _ 0 _ _ _ h1).trans rfl
 have c3:Y.cell? ⟨w.heap.size+1,1,none⟩=some (O ii d):=by rw [<-hY];exact (cell_of_row X _ 1 _ _ _ h1).trans rfl
 have GY:GrD w Y:=hY▸G0.trans (GrD.draw X);have HX:=zAb hX;have HY:=zAb hY;have HG:=zAb GY;unfold cfE cfC;simp only;clear hX hY G0 GY h0 h1;go_enter func66,ntmps66;go_wp2_with (rw [HX.out]);refine zAj ?_;refine zAe (fun wx:World=>wx=Y) [14,15,16] (by kernel_rfl) ?_;rw [HY.out];refine zx 0 6 17 rfl (by kernel_rfl) rfl ?_
 iterate 6 (refine zxc rfl (by rfl) (fun wx hx=>by subst hx;go_simp;rfl) ?_;simp only [zp])
 refine zxn ?_;refine zx 7 6 11 rfl (by kernel_rfl) rfl ?_
 iterate 6 (refine zxc rfl (by rfl) (fun wx hx=>by subst hx;go_simp;rfl) ?_;simp only [zp])
 refine zxn ?_;refine zw 6 [] (by kernel_rfl) ?_;refine readyZ.call rfl rfl (zFr (by rfl) (by rfl) (by simp only [zj];rfl)) (zGp b d _) ?_ readyZ.nil;rintro e w1 ⟨rfl,rfl⟩;refine ⟨_,rfl,fun _=>rfl,?_⟩;simp only [zp];refine zw 13 [] (by kernel_rfl) ?_;refine readyZ.call rfl rfl (zFr (by rfl) (by rfl) (by simp only [zj];rfl)) (zGp a c _) ?_ readyZ.nil;rintro e w1 ⟨rfl,rfl⟩;refine ⟨_,rfl,fun _=>rfl,?_⟩;simp only [zp];refine zq 14 (by kernel_rfl) rfl rfl (zIy (by rfl) (by rfl) (by rfl)) (fun h=>absurd (by decide) h) ?_;simp only [zp];obtain ⟨Z,hZ⟩:=ex (w1.alloc (.cells #[O ii (zD0 b d),O ii (zD0 a c)] 3));have GZ:GrD w Z:=HG.out.trans (hZ▸GrD.box _ _);have hcy:Z.heap[w1.heap.size]? = some (.cells #[O ii (zD0 b d),O ii (zD0 a c)] 3):=hZ▸heap_alloc_new _ _;rw [hZ];refine zw 15 [] (by kernel_rfl) ?_;refine readyZ.call rfl rfl (zLe (by rfl) (by rfl) (by simp only [zj];rfl)) (zSn _ _ _ _ hcy) ?_ readyZ.nil;rintro e w2 ⟨rfl,rfl⟩;refine ⟨_,rfl,fun h=>absurd (by decide) h,?_⟩;simp only [zp];refine zq 16 (by kernel_rfl) rfl rfl (zBb (by rfl) (by rfl)) (fun h=>absurd (by decide) h) ?_;simp only [zp];refine zAd (by kernel_rfl) ?_ _;dsimp only [zAv,Exit.then];clear c0 c1 c2 c3;go_wp2_with fail;refine bodyPost_ret (v:=O ii (orI (zD0 b d) (zD0 a c))) (by simp [results,Tryz.f66,go_sem]) rfl ?_;exact ⟨rfl,GZ⟩
theorem zW6 {L:List E3} {v:Value} {w:World} (hlen:L.length<=1000000) (h:RE w v L) :
 Calls pg 65 #[v,.func (.func 66) #[] #[]] w fun e w'=>e = .returned (.tuple #[])/\∃M,M.Perm L/\zQd M/\RE w' v M/\Turns (fun j=>v.ownBlock=some j) w w':=by
 rcases h.2 with ⟨rfl,h0⟩|⟨g,cap,cur,rfl,-,hg,hn,hm,hsz,ht⟩
 ·have h1:L=[]:=List.eq_nil_of_length_eq_zero h0;subst h1;have hcon:=AnyF.slices_SortFunc_none zFm none 0 (.func (.func 66) #[] #[]) w;change Calls pg 65 _ _ _ at hcon;refine hcon.mono ?_;rintro e w' ⟨rfl,rfl⟩;exact ⟨rfl,[],.refl _,List.Pairwise.nil,Rw.nil _ _ _ _,Turns.of_below (Below.refl _ _)⟩
 have hI:Inhabited (E3):=⟨⟨0,0,0⟩⟩
 have eg:∀args w,(callFunc 66 args).run pg w = .ok (.enter 66 args) w:=enters_of func66 (by kernel_rfl) rfl;have hcon:=AnyQ.slices_SortFunc zFm 3 Tryz.isAgg88 Tryz.sizeOf88 E3.cs zNa zUe cfE zW0 66 #[] g 0 cap L.toArray w eg (fun _ _ _ _ x y=>(qAw x y _).mono (fun e w' ⟨h1,n,os,h2⟩=>⟨h1,n,os,h2⟩)) (zPc hg hn hsz ht) (gE.1 hg).1 (by simp;omega);change Calls pg 65 _ _ _ at hcon;rw [List.size_toArray] at hcon;refine hcon.mono ?_;rintro e w' ⟨rfl,d',n,os,hpm,hso,rfl⟩;obtain ⟨z1,-,z3⟩:=hpm;have zs:d'.size=L.length:=by rw [z1];simp
 have hp':d'.toList.Perm L:=by
  have e1:d'.extract 0 L.length=d':=by rw [<-zs];simp
  have e2:L.toArray.extract 0 L.length=L.toArray:=by simp
  rwa [e1,e2] at z3
 have hlL:d'.toList.length=L.length:=hp'.length_eq
 have hss:zQd d'.toList:=by
  unfold zQd;rw [List.pairwise_iff_getElem];intro i j hi hj hij;have:=hso i j (Nat.zero_le _) hij (by omega);rw [zX4] at this;rw [getElem!_pos _ j (by simpa using hj),getElem!_pos _ i (by simpa using hi)] at this;simpa using this
 obtain ⟨r1,r2⟩:=zP1 (L:=d'.toList) (n:=n) (os:=os) hg (by omega) hm hsz;have hd:d'.toList.toArray=d':=by simp
 rw [hd,hlL] at r1;rw [hd] at r2;exact ⟨rfl,d'.toList,hp',hss,r1,r2.mono (fun j _ e=>by rw [e];rfl)⟩
attribute [local go_sem] Oper.semAt_some
def sM:Nat->List E3
 |0=>[⟨7,3,70⟩]
 |1=>[⟨0,3,70⟩,⟨8,3,10⟩]
 |_=>[⟨7,3,10⟩,⟨15,3,70⟩]
def sI:Nat->Nat
 |0=>0
 |_=>1
theorem zK7 {M:List E3} {a b:E3} (hp:M.Perm [a,b]) (hs:zQd M) (h:clt b.to a.to):M=[b,a]:=by
 have hl:=hp.length_eq
 match M,hl with
 | [p,q],_ =>
  have hne:¬a=b:=fun e=>by rw [e] at h;exact zCf _ h
  have ma:a∈[p,q]:=hp.mem_iff.2 (by simp);have mb:b∈[p,q]:=hp.mem_iff.2 (by simp);have hs:[p,q].Pairwise (fun p q=>¬clt q.to p.to):=hs;simp at ma mb hs;rcases ma with ma|ma<;>rcases mb with mb|mb
  ·exact absurd (ma.trans mb.symm) hne
  ·subst ma mb;exact absurd h hs
  ·subst ma mb;rfl
  ·exact absurd (ma.trans mb.symm) hne
theorem zZr:∀m,m<=2->∀M:List E3,M.Perm (eG m++eA m)->zQd M->M=sM m
 |0,_,M,hp,_=>List.perm_singleton.1 hp
 |1,_,M,hp,hs=>zK7 hp hs (by unfold clt E3.to;decide)
 |2,_,M,hp,hs=>by
  have hp':M.Perm [⟨15,3,70⟩,⟨7,3,10⟩]:=hp.trans (List.Perm.swap _ _ _);exact zK7 hp' hs (by unfold clt E3.to;decide)
theorem zW9:∀m,m<=2->∀i e,(sM m)[i]? = some e->i<=sI m->(W64 e.x/\W64 e.y)/\(e.x,e.y)∈g0.K/\(0<=g0.C e.x e.y/\g0.C e.x e.y<=150/\0<=e.c/\e.c<=70)/\((g0.C e.x e.y+e.c==(tT m).c)=(i==sI m))/\(i=sI m->e.x=(tT (m+1)).x/\e.y=(tT (m+1)).y)
 |0,_,0,e,he,_=>by cases he;decide
 |1,_,0,e,he,_=>by cases he;decide
 |1,_,1,e,he,_=>by cases he;decide
 |2,_,0,e,he,_=>by cases he;decide
 |2,_,1,e,he,_=>by cases he;decide
theorem zW8:∀m,m<=2->sI m<(sM m).length
 |0,_=>by decide
 |1,_=>by decide
 |2,_=>by decide
theorem zTv:∀m,m<=2->(sM m).length<=10
 |0,_=>by decide
 |1,_=>by decide
 |2,_=>by decide
theorem zVn:∀m,m<=2->g0.C (tT m).x (tT m).y=(tT m).c
 |0,_=>rfl
 |1,_=>rfl
 |2,_=>rfl
theorem zXt {G0 w:World} {B l gp p ab cb hb:Nat} {v:Value} {F:Int->Int->Value} (hg:G14 G0 gp p) (bg:Below G0.heap.size G0 w) (h:S14 B w l gp ab cb hb g0.K g0.C v g0.n g0.S F) {m:Nat} (hm:m<=2) :
 Calls pg 31 #[ptr l,cel (tT m).x (tT m).y] w fun e w'=>e = .returned (cel (tT (m+1)).x (tT (m+1)).y)/\Below w.heap.size w w':=by
 have htw:=qA7 m (by omega);have hgE:=qBc hg m (by omega);have hE:=qBb m (by omega);have hhit:=zW9 m hm;have hcst:=zVn m hm;generalize (tT m).c=tc at hhit hcst htw;generalize (tT m).f=tf at htw;generalize (tT m).x=x at htw hgE hE hhit hcst ⊢;generalize (tT m).y=y at htw hgE hE hhit hcst ⊢;generalize (tT (m+1)).x=rx at hhit ⊢;generalize (tT (m+1)).y=ry at hhit ⊢;obtain ⟨X,hX⟩:∃X,(w.alloc (.cells #[O ii x,O ii y] 23)).alloc (.cells #[O ii 0,O ii 0] 23)=X:=⟨_,rfl⟩
 have BX:Below w.heap.size w X:=by rw [<-hX];exact zBe _ _ _
 have T0:Two X w.heap.size x y:=by rw [<-hX];exact (Two.newAt rfl).alloc
 have T1:Two X (w.heap.size+1) 0 0:=by rw [<-hX];exact Two.newAt (by simp)
 have sX:=h.sea.upto BX
 have HEd:=zAb (show Calls pg 30 #[ptr l,cel x y] X fun e w'=>∃lv,e = .returned lv/\RE w' lv (eG m++eA m)/\Below X.heap.size X w'/\∀g,lv.ownBlock=some g->X.heap.size<=g from by
  have q3:=(h.add.upto BX).rows x y;rw [hE] at q3
  exact zPo sX (h.add.upto BX).mp htw.1 htw.2.1 (fun wx q=>hgE wx (bt (bg.trans (BX.mono bg.size)) q)) q3 (zS6 m (by omega)))
 have HEl:=zAb (show (eG m++eA m).length<=10 from zPp m (by omega));have HsM:=zAb (zZr m hm);have HLn:=zAb (zW8 m hm);have Hhit:=zAb hhit;have Hcst:=zAb hcst;have Hxy:=zAb (ai htw.1 htw.2.1);have HC:=zAb h.costs;have HBX:=zAb BX;have HS:=zAb h.sea;have HT0:=zAb T0;have HT1:=zAb T1;obtain ⟨⟨x0,x1⟩,-,-⟩:=id T0;have HX:=zAb hX;have zX:X.heap.size=w.heap.size+2:=by rw [<-hX];simp
 clear hhit hcst htw hgE hE hX BX T0 T1 sX h hg;go_enter func31,ntmps31;go_wp2_with (rw [HX.out]);refine HEd.out.mono ?_;rintro e W1 ⟨lv,rfl,hR1,hb1,hown⟩;have HSo:=zAb (zW6 (by have:=HEl.out;omega) hR1);have HB1:=zAb hb1;have HO:=zAb hown;clear hR1 hb1 hown x0 x1 HEd;go_wp2_with fail;refine HSo.out.mono ?_;rintro e W2 ⟨rfl,M,hp,hs,hR2,hT2⟩;obtain rfl:=HsM.out M hp hs;have HB2:=zAb (show Below X.heap.size X W2 from HB1.out.trans (hT2.below (fun k e=>HO.out k e) HB1.out.size));obtain ⟨la,lc,hlv⟩:=zB3 hR2;subst hlv;have HR2:=zAb hR2;clear hp hs hR2 hT2 HB1 HO HSo HsM;go_wp2_with fail;have HML:=zAb (show (sM m).length<=10 from zTv m hm);obtain ⟨M,hM⟩:∃M,sM m=M:=⟨_,rfl⟩
 obtain ⟨ix,hix⟩:∃ix,sI m=ix:=⟨_,rfl⟩
 rw [hM] at HML HR2 HLn Hhit ⊢;rw [hix] at HLn Hhit;clear hM hix;go_loopw [17] (fun v wr=>∃i:Nat,v = O ii (i:Nat)/\i<=ix/\Below W2.heap.size W2 wr) (fun v _=>M.length-(intOf v).toNat)
 case atStart=>exact ⟨0,rfl,Nat.zero_le _,Below.refl _ _⟩
 case round =>
  obtain ⟨i,rfl,hi,hbw⟩:=hrel;have hlt:i<M.length:=by have:=HLn.out;omega
  obtain ⟨e,he⟩:∃e,M[i]? = some e:=⟨_,List.getElem?_eq_getElem hlt⟩
  have hbX:Below X.heap.size X wr:=HB2.out.trans (hbw.mono HB2.out.size);have RR:RE wr (.slice la M.length lc) M:=zA3 HR2.out (Turns.of_below (S:=fun _=>False) hbw) (fun _ _=>id);obtain ⟨g,cap,hsl,a0,a1,a2⟩:=zQa RR he;cases hsl;have hh:=Hhit.out i e he hi;obtain ⟨ex,ey,ec⟩:=e;simp only at hh a0 a1 a2;obtain ⟨U,hU⟩:∃U,wr.alloc (.cells #[O ii ex,O ii ey,O ii ec] 88)=U:=⟨_,rfl⟩
  have bU:Below wr.heap.size wr U:=by rw [<-hU];exact zAh _ _
  have cU:U.heap[wr.heap.size]? = some (.cells #[O ii ex,O ii ey,O ii ec] 88):=by rw [<-hU];exact World.alloc_heap_new _ _
  obtain ⟨Y,hY⟩:∃Y,U.drew=Y:=⟨_,rfl⟩
  have bY:Below U.heap.size U Y:=by rw [<-hY];exact (Below.refl _ _).drew
  have cY:Y.heap[wr.heap.size]? = some (.cells #[O ii ex,O ii ey,O ii ec] 88):=(bY.block _ (gE.1 cU).1).trans cU;obtain ⟨V,hV⟩:∃V,Y.drew=V:=⟨_,rfl⟩
  have bV:Below Y.heap.size Y V:=by rw [<-hV];exact (Below.refl _ _).drew
  have cV:V.heap[wr.heap.size]? = some (.cells #[O ii ex,O ii ey,O ii ec] 88):=(bV.block _ (gE.1 cY).1).trans cY;have BwX:Below w.heap.size w wr:=bt HBX.out hbX;have BwY:Below w.heap.size w Y:=bt (bt BwX bU) bY;have BwV:Below w.heap.size w V:=bt BwY bV;have y6:=(HS.out.upto BwY).c 6 _ rfl;have y0:Y.cell? ⟨wr.heap.size,0,none⟩=some (O ii ex):=(cell_of_row Y _ 0 _ _ _ cY).trans rfl;have y1:Y.cell? ⟨wr.heap.size,1,none⟩=some (O ii ey):=(cell_of_row Y _ 1 _ _ _ cY).trans rfl;have HMY:=zAb (MapS.upto HC.out BwY);have HMV:=zAb (MapS.upto HC.out BwV);have v6:=zAb ((HS.out.upto BwV).c 6 _ rfl);have v0:=zAb (show V.cell? ⟨wr.heap.size,0,none⟩=some (O ii ex) from (cell_of_row V _ 0 _ _ _ cV).trans rfl);have v1:=zAb (show V.cell? ⟨wr.heap.size,1,none⟩=some (O ii ey) from (cell_of_row V _ 1 _ _ _ cV).trans rfl);have v2:=zAb (show V.cell? ⟨wr.heap.size,2,none⟩=some (O ii ec) from (cell_of_row V _ 2 _ _ _ cV).trans rfl);have bXV:Below X.heap.size X V:=bt (bt (bt hbX bU) bY) bV;have tV:=zAb (HT0.out.kept bXV);have rV:=zAb (HT1.out.kept bXV);have HBV:=zAb BwV;have HWV:=zAb (show Below W2.heap.size W2 V from bt (bt (bt hbw bU) bY) bV);have HU:=zAb hU;have HY:=zAb hY;have HV:=zAb hV;have Hh:=zAb hh;have hb10:M.length<=10:=HML.out;have hki:(i:Int)<(M.length:Nat):=by omega
  clear hU hY hV hh bU cU bY cY bV cV BwX BwY BwV hbw hbX RR bXV he;go_wp2_with (rw [HU.out]);refine zAj ?_;refine zAe (fun wx:World=>wx=Y) [] (by kernel_rfl) ?_;rw [HY.out];refine zx 0 12 12 rfl (by kernel_rfl) rfl ?_
  iterate 6 (refine zxc rfl (by rfl) (fun wx hx=>by subst hx;go_simp;rfl) ?_;simp only [zp])
  refine zxc (v:=.tuple #[O ii (g0.C ex ey),.bool true]) rfl (by rfl) (fun wx hx'=>by subst hx';exact (zDn Tryz.underlying50 (zGx _) Hh.out.1.1 Hh.out.1.2 rfl rfl rfl HMY.out).trans (by rw [decide_eq_true Hh.out.2.1])) ?_;simp only [zp]
  iterate 5 (refine zxc rfl (by rfl) (fun wx hx=>by subst hx;go_simp;rfl) ?_;simp only [zp])
  refine zxn ?_;refine zAd (by kernel_rfl) ?_ _;dsimp only [zAv,Exit.then];have Hw1:=zAb (show IntKind.i64.wrap (g0.C ex ey+ec)=g0.C ex ey+ec from IntWalk.i64_in _ (by have:=Hh.out.2.2.1;omega));have Hhb:=zAb Hh.out.2.2.2;obtain ⟨r,hr⟩:∃r,g0.C ex ey=r:=⟨_,rfl⟩
  rw [hr] at Hw1 Hhb ⊢;obtain ⟨bb,hbb⟩:∃b,(i==ix)=b:=⟨_,rfl⟩
  rw [hbb] at Hhb;clear y6 y0 y1;go_wp2_with fail;refine zAj ?_;refine zAe (fun wx:World=>wx=V) [] (by kernel_rfl) ?_;rw [HV.out];have e6:=v6.out;have e0:=v0.out;have e1:=v1.out;have e2:=v2.out;obtain ⟨⟨t0,t1⟩,-,-⟩:=id tV.out;refine zx 0 14 14 rfl (by kernel_rfl) rfl ?_
  iterate 5 (refine zxc rfl (by rfl) (fun wx hx=>by subst hx;go_simp;rfl) ?_;simp only [zp])
  refine zxc (v:=O ii (r+ec)) rfl (by rfl) (fun wx hx=>by subst hx;go_simp;rw [Hw1.out]) ?_;simp only [zp]
  iterate 5 (refine zxc rfl (by rfl) (fun wx hx=>by subst hx;go_simp;rfl) ?_;simp only [zp])
  refine zxc (v:=O ii tc) rfl (by rfl) (fun wx hx'=>by subst hx';exact (zDo Tryz.underlying50 (zGx _) Hxy.out.1 Hxy.out.2 rfl rfl rfl HMV.out).trans (by rw [Hcst.out])) ?_;simp only [zp];refine zxc (v:=.bool bb) rfl (by rfl) (fun wx hx=>by subst hx;go_simp;rw [<-Hhb.out.1]) ?_;simp only [zp];refine zxc (v:=.bool bb) rfl (by rfl) (fun wx hx=>by subst hx;go_simp) ?_;simp only [zp];refine zxn ?_;refine zAd (by kernel_rfl) ?_ _;dsimp only [zAv,Exit.then];clear e6 e2 t0 t1;cases bb
  ·have hne:i≠ix:=by simpa using hbb
   clear e0 e1;go_wp2_with fail;go_round
   case rel=>exact ⟨i+1,by go_num,by omega,HWV.out⟩
   case measure=>simp only [intOf];omega
  ·have hie:i=ix:=by simpa using hbb
   have hres:=zAb (Hhb.out.2 hie);obtain ⟨⟨r0,r1⟩,⟨f0,f1⟩,-⟩:=id rV.out;go_wp2_with fail;obtain ⟨h1,h2⟩:=hres.out;subst h1 h2;obtain ⟨Q,hQ⟩:∃Q,(V.setCell ⟨w.heap.size+1,0,none⟩ (O ii ex)).setCell ⟨w.heap.size+1,1,none⟩ (O ii ey)=Q:=⟨_,rfl⟩
   have q0:Q.cell? ⟨w.heap.size+1,0,none⟩=some (O ii ex):=by rw [<-hQ];simp [go_sem,r0,r1,f0,f1]
   have q1:Q.cell? ⟨w.heap.size+1,1,none⟩=some (O ii ey):=by rw [<-hQ];simp [go_sem,r0,r1,f0,f1]
   rw [hQ]
   have bQ:Below w.heap.size V Q:=by
    rw [<-hQ];have t:∀(X:World) (o:Nat) (v:Value),Turns (fun j=>j=w.heap.size+1) X (X.setCell ⟨w.heap.size+1,o,none⟩ v):=fun X o v=>Turns.set (S:=fun j=>j=w.heap.size+1) X (p:=⟨w.heap.size+1,o,none⟩) rfl v;exact ((t V 0 _).trans ((t _ 1 _).mono (fun j _ e => .inl e))).below (fun k e=>by omega) HBV.out.size
   exact bodyPost_ret (v:=cel ex ey) (by simp [results,Tryz.f31,go_sem,q0,q1]) rfl ⟨rfl,HBV.out.trans bQ⟩
attribute [local go_sem] Oper.semAt_some
def cL:List (Int×Int):=[(7,3),(8,3),(15,3)]
theorem zYy:∀k,k<=2->cL[k]? = some ((tT (k+1)).x,(tT (k+1)).y)
 |0,_=>rfl
 |1,_=>rfl
 |2,_=>rfl
theorem zZk:∀k,k<=2->((tT k).x==15)=false
 |0,_=>by decide
 |1,_=>by decide
 |2,_=>by decide
theorem bt' {B:Nat} {a b c:World} (h:Below B a b) (k:Below b.heap.size b c) (hB:B<=a.heap.size:=by omega):Below B a c:=h.trans (k.mono (Nat.le_trans hB h.size))
structure CI (w:World) (k:Nat) (nv:Value) (av:Nat) (X:World):Prop where
 row:RC X nv (cL.take k)
 own:∀g,nv.ownBlock=some g->w.heap.size<=g
 at':Two X av (tT k).x (tT k).y
 lo:w.heap.size<=av
 ne:nv.ownBlock≠some av
 bb:Below w.heap.size w X
structure CI' (w:World) (k:Nat) (nv:Value) (av:Nat) (X:World) (x y:Int):Prop where
 row:RC X nv (cL.take k)
 own:∀g,nv.ownBlock=some g->w.heap.size<=g
 at':Two X av x y
 lo:w.heap.size<=av
 ne:nv.ownBlock≠some av
 bb:Below w.heap.size w X
theorem zR0 {G0 w:World} {B l gp p ab cb hb:Nat} {v:Value} {F:Int->Int->Value} (hg:G14 G0 gp p) (bg:Below G0.heap.size G0 w) (h:S14 B w l gp ab cb hb g0.K g0.C v g0.n g0.S F) :
 Calls pg 13 #[ptr l] w fun e w'=>∃cv,e = .returned cv/\RC w' cv cL/\Below w.heap.size w w'/\∀g,cv.ownBlock=some g->w.heap.size<=g:=by
 have HUp:=zAb (show ∀Y,Below w.heap.size w Y->S14 B Y l gp ab cb hb g0.K g0.C v g0.n g0.S F from fun Y q=>⟨h.sea.upto q,h.add.upto q,MapS.upto h.costs q,h.heap.upto q,h.nac,h.lo⟩);have c1:=h.sea.c 1 _ rfl;have c2:=h.sea.c 2 _ rfl;obtain ⟨X,hX⟩:=ex (w.alloc (.cells #[O ii 0,O ii 3] 23));have HC0:=zAb (show CI w 0 (.slice none 0 0) w.heap.size X from ⟨Rw.nil _ _ _ _,fun g e=>(by cases e),by rw [<-hX];exact Two.newAt rfl,Nat.le_refl _,fun e=>(by cases e),by rw [<-hX];exact zAh _ _⟩);have HX:=zAb hX;clear hX h;go_enter func13,ntmps13;go_wp2_with (rw [HX.out]);clear c1 c2;go_loopw [3,4] (fun nv q wr=>∃k av,k<=3/\q=ptr av/\CI w k nv av wr/\∃a c,nv = .slice a k c) (fun nv _ _=>3-zSh (some nv))
 case atStart=>exact ⟨0,w.heap.size,by omega,rfl,HC0.out,_,_,rfl⟩
 case round =>
  obtain ⟨k,av,hk,rfl,hc,sa,sc,rfl⟩:=hrel;obtain ⟨Y,hY⟩:=ex (wr.drew);have bY:Below wr.heap.size wr Y:=by rw [<-hY];exact (Below.refl _ _).drew
  have BY:Below w.heap.size w Y:=bt' hc.bb bY;have sY:=HUp.out Y BY;have y3:=sY.sea.c 3 _ rfl;have y4:=sY.sea.c 4 _ rfl;obtain ⟨⟨t0,t1⟩,⟨f0,f1⟩,-⟩:=id (hc.at'.kept bY);have HY:=zAb hY;have HbY:=zAb bY;have HBY:=zAb BY;have Hc:=zAb hc;clear hY bY BY sY hc
  by_cases hk2:k<=2
  ·have HNx:=zAb (show Calls pg 31 #[ptr l,cel (tT k).x (tT k).y] Y fun e w'=>e = .returned (cel (tT (k+1)).x (tT (k+1)).y)/\Below Y.heap.size Y w' from zXt hg (bg.trans (HBY.out.mono bg.size)) (HUp.out Y HBY.out) hk2);have hne:=zZk k hk2;have Hat:=zAb (zYy k hk2);have Hcc:=zAb (ai Hc.out.row (ai Hc.out.own (ai Hc.out.ne (ai Hc.out.lo (Hc.out.at'.kept HbY.out)))));generalize (tT k).x=x at t0 HNx hne Hcc;generalize (tT k).y=y at t1 HNx Hcc;clear Hc;go_wp2_with fail;refine zAj ?_;refine zAe (fun wx:World=>wx=Y) [] (by kernel_rfl) ?_;rw [HY.out];refine zx 0 6 6 rfl (by kernel_rfl) rfl ?_
   iterate 5 (refine zxc rfl (by rfl) (fun wx hx=>by subst hx;go_simp;rfl) ?_;simp only [zp])
   refine zxc (v:=.bool true) rfl (by rfl) (fun wx hx=>by subst hx;go_simp) ?_;simp only [zp];refine zxn ?_;refine zAd (by kernel_rfl) ?_ _;dsimp only [zAv,Exit.then];clear y3 y4;go_wp2_with fail;refine HNx.out.mono ?_;rintro e W1 ⟨rfl,hb1⟩;have HB1:=zAb hb1;clear t0 t1 f0 f1 hb1;generalize (tT (k+1)).x=nx at Hat HNx ⊢;generalize (tT (k+1)).y=ny at Hat HNx ⊢;obtain ⟨W2,hW2⟩:=ex ((W1.setCell ⟨av,0,none⟩ (O ii nx)).setCell ⟨av,1,none⟩ (O ii ny));have bW1:Below wr.heap.size wr W1:=bt HbY.out HB1.out;have atW1:=Hcc.out.2.2.2.2.kept HB1.out;have atW2:Two W2 av nx ny:=by rw [<-hW2];exact atW1.set
   have T2:Turns (fun j=>j=av) W1 W2:=by
    rw [<-hW2];have t:∀(X:World) (o:Nat) (v:Value),Turns (fun j=>j=av) X (X.setCell ⟨av,o,none⟩ v):=fun X o v=>Turns.set (S:=fun j=>j=av) X (p:=⟨av,o,none⟩) rfl v;exact (t W1 0 _).trans ((t _ 1 _).mono (fun j _ e => .inl e))
   have r1:RC W1 (.slice sa k sc) (cL.take k):=zA3 Hcc.out.1 (Turns.of_below (S:=fun _=>False) bW1) (fun _ _=>id);have r2:RC W2 (.slice sa k sc) (cL.take k):=zA3 r1 T2 (fun g e q=>Hcc.out.2.2.1 (by rw [e,q]));have BW2:Below w.heap.size w W2:=(bt' HBY.out HB1.out).trans (T2.below (fun j e=>by rw [e];exact Hcc.out.2.2.2.1) (by have:=HBY.out.size;have:=HB1.out.size;omega));obtain ⟨v',W4,p1,p2,p3,p4⟩:=zSl r2 (nx,ny) (by rw [List.length_take];omega);obtain ⟨na,nc,hv'⟩:=zBk p2;have hl:(cL.take k++[(nx,ny)]).length=k+1:=by rw [List.length_append,List.length_take];simp [cL];omega
   rw [hl] at hv';subst hv';have nav:¬(Value.slice sa k sc).ownBlock=some av:=Hcc.out.2.2.1;have atW4:Two W4 av nx ny:=zAy atW2 p4 nav;have BW4:Below w.heap.size w W4:=BW2.trans (p4.below (fun j e=>Hcc.out.2.1 j e) BW2.size);obtain ⟨W5,hW5⟩:=ex (W4.alloc (.cells #[O ii nx,O ii ny] 23));have b5:Below W4.heap.size W4 W5:=by rw [<-hW5];exact zAh _ _
   have HN:=zAb (show CI' w (k+1) (.slice na (k+1) nc) W4.heap.size W5 nx ny from ⟨by
    have e:=Hat.out;rw [List.take_add_one,e];exact zA3 p2 (Turns.of_below (S:=fun _=>False) b5) (fun _ _=>id),fun g e=>(p3 g e).elim (fun q=>Hcc.out.2.1 g q) (fun q=>by have:=BW2.size;omega),by rw [<-hW5];exact Two.newAt rfl,BW4.size,fun e=>by
    obtain ⟨cur,hq⟩:=zQc p2 e;have:=(gE.1 hq).1
    omega,bt' BW4 b5⟩)
   obtain ⟨⟨t0,t1⟩,⟨f0,f1⟩,-⟩:=id atW1;obtain ⟨⟨s0,s1⟩,-,-⟩:=id atW2;obtain ⟨⟨q0,q1⟩,-,-⟩:=id atW4;have HA:=zAb p1;have HW2:=zAb hW2;have HW5:=zAb hW5;clear p1 p2 p3 p4 hW2 hW5 atW1 atW2 atW4 r1 r2 T2 bW1 BW2 BW4 b5 hl HNx Hcc nav;go_wp2_with (first|rw [HW2.out]|rw [HW5.out]|(at_builtin;refine zA0 rfl _ _ 34 rfl _ _ rfl rfl HA.out ?_));have e:=(zYy k hk2).symm.trans Hat.out;simp only [Option.some.injEq,Prod.mk.injEq] at e;obtain ⟨e1,e2⟩:=e;refine ⟨⟨k+1,_,by omega,rfl,⟨HN.out.row,HN.out.own,by rw [e1,e2];exact HN.out.at',HN.out.lo,HN.out.ne,HN.out.bb⟩,_,_,rfl⟩,?_⟩;simp only [zSh];omega
  ·have hk3:k=3:=by omega
   subst hk3;have u0:Y.cell? ⟨av,0,none⟩=some (O ii 15):=t0;have u1:Y.cell? ⟨av,1,none⟩=some (O ii 3):=t1;clear t0 t1;go_wp2_with fail;refine zAj ?_;refine zAe (fun wx:World=>wx=Y) [] (by kernel_rfl) ?_;rw [HY.out];refine zx 0 6 6 rfl (by kernel_rfl) rfl ?_
   iterate 5 (refine zxc rfl (by rfl) (fun wx hx=>by subst hx;go_simp;rfl) ?_;simp only [zp])
   refine zxc (v:=.bool false) rfl (by rfl) (fun wx hx=>by subst hx;go_simp) ?_;simp only [zp];refine zxn ?_;refine zAd (by kernel_rfl) ?_ _;dsimp only [zAv,Exit.then];clear y3 y4 u0 u1 f0 f1;go_wp2_with fail;refine bodyPost_ret (v:=.slice sa 3 sc) (by simp [results,Tryz.f13,go_sem]) rfl ?_;exact ⟨_,rfl,Rw.upto Hc.out.row HbY.out,HBY.out,Hc.out.own⟩
section
attribute [local go_sem] Oper.semAt_some
theorem zVs (b:Nat) (w:World):Calls pg 29 #[ptr b] w fun e w'=>e = .returned (.func (.func 62) #[] #[ptr w.heap.size])/\w'=w.alloc (.cells #[ptr b] 51):=by
 go_enter func29,ntmps29;go_wp2_with fail;go_ret;exact ⟨rfl,rfl⟩
theorem zP9 {B:Nat} {w w':World} {v:Value} {L:List E3} (h:RE w v L) (ht:Trn B w w'):RE w' v L:=zA3 h ht (ht.row h (by decide) (by decide))
def It4 (W:World) (b:Nat) (t:It):Prop:=W.heap[b]? = some (.cells #[O ii t.x,O ii t.y,O ii t.c,O ii t.f] 78 (0,0))
theorem It4.c {W:World} {b:Nat} {t:It} (h:It4 W b t) (j:Nat) (u:Value) (hu:(#[O ii t.x,O ii t.y,O ii t.c,O ii t.f]:Array Value)[j]? = some u):W.cell? ⟨b,j,none⟩=some u:=(cell_of_row W b j _ _ _ h).trans hu
theorem It4.upto {W W':World} {b:Nat} {t:It} (h:It4 W b t) (hb:Below W.heap.size W W'):It4 W' b t:=(hb.block b (gE.1 h).1).trans h
theorem It4.turn {B:Nat} {W W':World} {b:Nat} {t:It} (h:It4 W b t) (ht:Trn B W W'):It4 W' b t:=ht.keep h (by decide) (by decide)
structure LI (G0 w:World) (B D l gp ab cb hb lb c:Nat) (s:St14) (co:Int) (L:List E3) (Z:World) (lv:Value) (Bx:Nat) (t:It) (i:Nat) (X:World):Prop where
 row:RE X lv L
 jr:JR G0 w B D l gp ab cb hb lb c (s.mets co (L.take i)) X
 it:It4 X Bx t
 kl:Hh.Kl D Z X
 d1:∃o,X.heap[D]? = some (.deferred o)
 d2:∃o,X.heap[D+1]? = some (.loop o)
 sz:D+2<=X.heap.size
section
variable {G0 w:World} {B D l gp ab cb hb lb c:Nat} {s:St14} {co:Int} {L:List E3} {Z:World} {lv:Value} {Bx:Nat} {t:It} {i:Nat} {X Y:World}
theorem LI.upto (h:LI G0 w B D l gp ab cb hb lb c s co L Z lv Bx t i X) (hb':Below X.heap.size X Y):LI G0 w B D l gp ab cb hb lb c s co L Z lv Bx t i Y:=by
 have k:=Hh.Kl.of_below hb' (show D+1<X.heap.size by have:=h.sz;omega);obtain ⟨o1,q1⟩:=h.d1;obtain ⟨o2,q2⟩:=h.d2;exact ⟨zP9 (B:=B) h.row (Trn.of_below hb'),h.jr.upto hb',h.it.upto hb',h.kl.trans k,⟨o1,k.2.1.trans q1⟩,⟨o2,k.2.2.trans q2⟩,Nat.le_trans h.sz k.1⟩
theorem LI.meet (h:LI G0 w B D l gp ab cb hb lb c s co L Z lv Bx t i X) {e:E3} (he:L[i]? = some e) (hf:s.few 10) (hl:L.length<=10) (hc:0<=co/\co<=150) (hw:∀e∈L,W64 e.x/\W64 e.y/\0<=e.c/\e.c<=70/\0<=ocN 0 3 e.x e.y/\ocN 0 3 e.x e.y<=1000) :
 Calls pg 28 #[ptr l,cel e.x e.y,O ii (co+e.c)] X fun r Y=>r = .returned (.tuple #[])/\LI G0 w B D l gp ab cb hb lb c s co L Z lv Bx t (i+1) Y:=by
 obtain ⟨w1,w2,w3,w4,w5,w6⟩:=hw e (List.mem_of_getElem? he);have hfew:(s.mets co (L.take i)).ok:=(@St14.few.mets s co (L.take i) s 10 hf).ok (by rw [List.length_take];omega);refine (h.jr.meet h.sz hfew (o:=ocN 0 3 e.x e.y) w1 w2 rfl ⟨w5,by omega⟩ ⟨by omega,by omega⟩).mono ?_;rintro r Y ⟨rfl,j,T⟩;have k:=T.kl (show D+1<X.heap.size by have:=h.sz;omega) h.d1 h.d2;obtain ⟨o1,q1⟩:=h.d1;obtain ⟨o2,q2⟩:=h.d2;refine ⟨rfl,zP9 h.row T,?_,h.it.turn T,h.kl.trans k,⟨o1,k.2.1.trans q1⟩,⟨o2,k.2.2.trans q2⟩,Nat.le_trans h.sz k.1⟩;rw [List.take_add_one,he,Option.toList,St14.mets_more];exact j
end
def J14 (G0 w:World) (B D l gp ab cb hb lb c:Nat) (m:Nat) (Z:World):Prop:=m<=4/\JR G0 w B D l gp ab cb hb lb c (gQ m) Z
def P14 (G0 w:World) (B D l gp ab cb hb lb c:Nat) (m:Nat) (Z:World):Prop:=m<=3/\JR G0 w B D l gp ab cb hb lb c ((gQ (m+1)).popd) Z
theorem zT6 {G0 w:World} {B l gp p ab cb hb:Nat} {v:Value} {F:Int->Int->Value} (hg:G14 G0 gp p) (bg:Below G0.heap.size G0 w) (gB:G0.heap.size<=B) (BX:B<=w.heap.size) (h:S14 B w l gp ab cb hb g4.K g4.C v g4.n g4.S F) :
 Calls pg 12 #[ptr l] w fun e w'=>e = .returned (.bool true)/\Below B w w'/\∃v' F',S14 B w' l gp ab cb hb g0.K g0.C v' g0.n g0.S F':=by
 refine (callsIn_wide (n:=10)).1 ?_;refine callsIn_of_wp_marks func12 rfl trivial ?_ rfl;simp only [ntmps12,List.size_toArray,List.length_cons,List.length_nil,Nat.reduceAdd,Nat.reduceSub,Array.replicate_succ,Array.replicate_zero,List.push_toArray,List.append_toArray,List.nil_append,List.cons_append];obtain ⟨X,hX⟩:∃X,w.alloc (.cells #[ptr l] 47)=X:=⟨_,rfl⟩
 have B0:Below w.heap.size w X:=by rw [<-hX];exact zAh _ _
 have K0:=zAb (show Boxed X w.heap.size 47 (ptr l) by rw [<-hX];exact Boxed.new w 47 _);have zX:X.heap.size=w.heap.size+1:=by rw [<-hX];simp
 have c7:=(h.sea.upto B0).c 7 _ rfl;have cK:=K0.out.cell;have HX:=zAb hX;have HB0:=zAb B0;have HS:=zAb h;clear hX B0 h;gi_wp2_with (rw [HX.out]);refine ⟨trivial,?_⟩;refine (callsIn_wide.2 (zVs hb X)).mono ?_;rintro e X1 ⟨rfl,h1X⟩;have B1:=zAb (show Below X.heap.size X X1 by rw [h1X];exact zAh _ _);have D1:=zAb (show Boxed X1 (w.heap.size+1) 51 (ptr hb) by rw [h1X,<-zX];exact Boxed.new X 51 _);have z1:X1.heap.size=w.heap.size+2:=by rw [h1X];simp [zX]
 rw [zX];clear c7 cK h1X HX
 have HJ:Hid (J14 G0 w B X1.heap.size l gp ab cb hb w.heap.size (w.heap.size+1) 4 X1):=zAb (by
  have h:=HS.out;have bb:=bt HB0.out B1.out;have o:=h.heap.own';have q1:=h.sea.lt;have q2:=MapS.lt h.add.mp;have q3:=MapS.lt h.costs;have q4:=o.1;refine ⟨Nat.le_refl _,⟨v,F,⟨h.sea.upto bb,h.add.upto bb,MapS.upto h.costs bb,h.heap.upto bb,h.nac,h.lo⟩,fun g e => .inl ?_,fun x y g e=>?_⟩,?_,D1.out,bg.trans (bb.mono bg.size),gB,bb.mono BX,⟨by omega,by omega,by omega,by omega,by omega,by omega⟩,by omega⟩
  ·have:=o.2.1 g e;omega
  ·have:=h.add.lt e;omega
  ·exact zAi K0.out B1.out K0.out.lt)
 have Hb1:=zAb (bt HB0.out B1.out);have HG:=zAb hg;clear B1 D1 K0 HB0 hg;gi_wp2_with fail
 refine Hh.range_steps (n:=10) (c:=w.heap.size+1) (b:=hb) (by omega) rfl rfl tT (J14 G0 w B X1.heap.size l gp ab cb hb w.heap.size (w.heap.size+1)) (P14 G0 w B X1.heap.size l gp ab cb hb w.heap.size (w.heap.size+1)) (zZd hb) 4
  (fun m X q=>q.2.bc) (fun m X Y q b=>⟨q.1,q.2.upto b⟩) (fun m X Y q b=>⟨q.1,q.2.upto b⟩) (fun m X Y q b=>⟨q.1,q.2.two b⟩) (fun m X Y q b=>⟨q.1,q.2.two b⟩)
  (fun m X Y q r=>by rw [q.2.mu,r.2.mu];exact qAo m (by have:=q.1;omega))
  (fun X q=>by
   obtain ⟨v,F,a,-,-⟩:=q.2.st;obtain ⟨ll,h1,h2,-,h3⟩:=a.heap;have hl:ll.length=0:=by rw [h3.length_eq];rfl
   obtain ⟨aa,cap,rfl,-⟩:=h2.slice;rw [hl] at h1
   exact ⟨aa,cap,_,h1⟩)
  (fun m X q hz _ _=>(q.2.pop (zYn m (by have:=q.1;omega)) hz).mono fun e Y ⟨x1,x2,x3⟩=>⟨x1,⟨by have:=q.1;omega,x2⟩,x3⟩)
  HJ.out
  (fun m a' Z=>∃Bx,X1.heap.size+2<=Bx/\It4 Z Bx (tT m)/\a'={ tmps:=#[ptr l,ptr w.heap.size,.bool false,ptr Bx,undef,undef,undef,undef,undef,undef,ptr l,ptr l,.pointer (some ⟨l,7,none⟩),ptr hb,.func (.func 62) #[] #[ptr (w.heap.size+1)],Hh.itv (tT m),undef,undef,undef,undef,undef,undef,undef,undef,undef,undef,undef,undef,undef,undef,undef,undef,undef,undef,undef,undef,undef,undef,undef,undef,undef,undef,undef,undef,undef,undef,undef,undef,undef,undef,undef,undef,undef,undef,undef,undef,undef,undef,undef,undef,undef,undef,undef,undef,undef,undef,undef,undef,undef,undef,undef,undef,undef,undef,undef,undef,undef],defers:=[] })
  (fun m a' Z Y q T=>by obtain ⟨Bx,e1,e2,e3⟩:=q;exact ⟨Bx,e1,T.same (fun e=>by unfold Hh.Two2 at e;omega) e2,e3⟩)
  ?assign ?body ?done
 case assign =>
  rintro l' m Z K q hz hK;gi_wp2
  exact hK _ _ (Hh.Kl.of_below (zAh _ _) (by omega)) ⟨q.1,q.2.upto (zAh _ _)⟩ ⟨Z.heap.size,hz,World.alloc_heap_new _ _,rfl⟩
 case body =>
  rintro l' m a' Z hl ⟨hm,hj⟩ ⟨Bx,hBx,hI,rfl⟩ hz hd hlp;obtain ⟨s0,hs0⟩:∃s0,(gQ (m+1)).popd=s0:=⟨_,rfl⟩
  obtain ⟨t,ht⟩:∃t,tT m=t:=⟨_,rfl⟩
  rw [hs0] at hj;rw [ht] at hI;have hin:=qAp m hm;have hC0:=qAq m hm;have htf:=qBj m hm;have htC:s0.C t.x t.y=t.c:=by rw [<-hs0,<-ht];exact zVm m hm
  have htw:=qA7 m hm;have hfw:s0.few 10:=by rw [<-hs0];exact zYo m hm
  rw [hs0] at hin hC0;rw [ht] at htf htw ⊢;obtain ⟨tx,ty,tc,tf,tp⟩:=t;simp only at htf htw htC;subst htf;obtain ⟨fd,hfd⟩:∃fd,(m==0)=fd:=⟨_,rfl⟩
  rw [hfd] at hin;have hC0':fd=true->s0.C 0 3=150:=fun e=>by rw [hC0,if_pos (by rw [<-hfd] at e;simpa using e)]
  obtain ⟨c0,hc0⟩:∃c0,s0.C 0 3=c0:=⟨_,rfl⟩
  obtain ⟨Y,hY⟩:∃Y,Z.drew=Y:=⟨_,rfl⟩
  have bY:Below Z.heap.size Z Y:=by rw [<-hY];exact (Below.refl _ _).drew
  have jY:=hj.upto bY;obtain ⟨v1,F1,a1,-,-⟩:=jY.st;have hm1:=a1.costs;have c1:=a1.sea.c 1 _ rfl;have c2:=a1.sea.c 2 _ rfl;have c6:=a1.sea.c 6 _ rfl;have cl:=jY.bx.cell;obtain ⟨V,hV⟩:∃V,Y.drew=V:=⟨_,rfl⟩
  have bV0:Below Y.heap.size Y V:=by rw [<-hV];exact (Below.refl _ _).drew
  have bV:Below Z.heap.size Z V:=bt bY bV0;have jV:=hj.upto bV;obtain ⟨v2,F2,a2,-,-⟩:=jV.st;have iV:=hI.upto bV;have HmV:=zAb a2.costs;have d6:=zAb (a2.sea.c 6 _ rfl);have dl:=zAb jV.bx.cell;have i0:=zAb (iV.c 0 _ rfl);have i1:=zAb (iV.c 1 _ rfl);have i2:=zAb (iV.c 2 _ rfl);have i3Y:=zAb ((hI.upto bY).c 3 _ rfl);obtain ⟨L,hL⟩:∃L,eG m++eA m=L:=⟨_,rfl⟩
  have HLw:=zAb (qBp m hm);have HL2:=zAb (zPp m hm);have HNx:=zAb (zVl m hm);rw [hL] at HLw HL2 HNx;have HbV:=zAb bV
  have HEd:=zAb (show Calls pg 30 #[ptr l,cel tx ty] V fun e w'=>∃lv,e = .returned lv/\RE w' lv L/\Below V.heap.size V w'/\∀g,lv.ownBlock=some g->V.heap.size<=g from by
   have q1:=qBc (HG.out.upto jV.bg) m hm;have q2:=qBb m hm;rw [ht] at q1 q2;have q3:=a2.add.rows tx ty;have q2:E4 (tx,ty)=eA m:=q2;rw [q2] at q3;rw [<-hL]
   exact zPo a2.sea a2.add.mp htw.1 htw.2.1 q1 q3 (zS6 m hm))
  clear hL;have HM1:=zAb hm1;have HY:=zAb hY;have HV:=zAb hV;have Hj:=zAb hj;have HI:=zAb hI;have Hfd:=zAb hfd;have HC0:=zAb hC0';have Hc0:=zAb hc0;have Hin:=zAb hin;have Hs0:=zAb hs0;have Ht:=zAb ht;have HtC:=zAb htC;have Htw:=zAb htw;have Hfw:=zAb hfw;have Hd:=zAb hd;have Hlp:=zAb hlp;clear hY hV hj hI hfd hC0 hC0' hc0 hin hs0 ht htC htw hfw hd hlp bY jY a1 hm1 bV0 bV jV a2 iV;gi_wp2_with fail;refine zA1 ?_;refine zAw (fun wx:World=>wx=Y) [] zC7 (by kernel_rfl) (by kernel_rfl) ?_;rw [HY.out];refine zx 0 14 14 rfl (by kernel_rfl) rfl ?_
  iterate 8 (refine zxc rfl (by rfl) (fun wx hx=>by subst hx;go_simp;rfl) ?_;simp only [zp])
  refine zxc (v:=.tuple #[O ii c0,.bool fd]) rfl (by rfl) (fun wx hx'=>by subst hx';exact (zDn Tryz.underlying50 (zGx _) (by decide) (by decide) rfl rfl rfl HM1.out).trans (by rw [Hin.out,Hc0.out])) ?_;simp only [zp]
  iterate 5 (refine zxc rfl (by rfl) (fun wx hx=>by subst hx;go_simp;rfl) ?_;simp only [zp])
  refine zxn ?_;refine zAd (by kernel_rfl) ?_ _;dsimp only [zAv,Exit.then];clear c1 c2 c6 cl;have HK4:fd=true->c0=150:=fun e=>by rw [<-Hc0.out];exact HC0.out e
  cases fd
  ·clear HK4;gi_wp2_with fail;refine zA1 ?_;refine zAw (fun wx:World=>wx=V) [] zC7 (by kernel_rfl) (by kernel_rfl) ?_;rw [HV.out];have e6:=d6.out;have el:=dl.out;have e0:=i0.out;have e1:=i1.out;have e2:=i2.out;refine zx 0 10 10 rfl (by kernel_rfl) rfl ?_
   iterate 8 (refine zxc rfl (by rfl) (fun wx hx=>by subst hx;go_simp;rfl) ?_;simp only [zp])
   refine zxc (v:=O ii tc) rfl (by rfl) (fun wx hx'=>by subst hx';exact (zDo Tryz.underlying50 (zGx _) Htw.out.1 Htw.out.2.1 rfl rfl rfl HmV.out).trans (by rw [HtC.out])) ?_;simp only [zp];refine zxc (v:=.bool false) rfl (by rfl) (fun wx hx=>by subst hx;go_simp) ?_;simp only [zp];refine zxn ?_;refine zAd (by kernel_rfl) ?_ _;dsimp only [zAv,Exit.then];clear e6;gi_wp2_with fail;clear el e0 e1 e2;refine ⟨trivial,?_⟩;refine (CallsIn.inRound l' (callsIn_wide.2 HEd.out)).mono ?_;rintro e V1 ⟨lv,rfl,hR1,hB1,hown⟩;obtain ⟨la,lc,hlv⟩:=zB3 hR1;subst hlv;have HR1:=zAb hR1;have HB1:=zAb hB1;have Hown:=zAb hown;clear hR1 hB1 hown;gi_wp2_with fail
   have HL0:Hid (LI G0 w B X1.heap.size l gp ab cb hb w.heap.size (w.heap.size+1) s0 tc L Z (.slice la L.length lc) Bx ⟨tx,ty,tc,150,tp⟩ 0 V1):=zAb (by
    have b0:Below Z.heap.size Z V1:=bt HbV.out HB1.out;have k:=Hh.Kl.of_below b0 (show X1.heap.size+1<Z.heap.size by omega);obtain ⟨o1,q1⟩:=Hd.out;obtain ⟨o2,q2⟩:=Hlp.out
    exact ⟨HR1.out,Hj.out.upto b0,HI.out.upto b0,k,⟨o1,k.2.1.trans q1⟩,⟨o2,k.2.2.trans q2⟩,Nat.le_trans hz k.1⟩)
   clear HR1 HB1 Hown HEd HmV HM1 d6 dl i0 i1 i2 i3Y;gi_loopw [50] (fun v wr=>∃i:Nat,v = O ii (i:Nat)/\i<=L.length/\LI G0 w B X1.heap.size l gp ab cb hb w.heap.size (w.heap.size+1) s0 tc L Z (.slice la L.length lc) Bx ⟨tx,ty,tc,150,tp⟩ i wr) (fun v _=>L.length-(intOf v).toNat)
   case atStart=>exact ⟨0,rfl,Nat.zero_le _,HL0.out⟩
   case round =>
    obtain ⟨i,rfl,hi,hLI⟩:=hrel
    by_cases hlt:i<L.length
    ·obtain ⟨e,he⟩:∃e,L[i]? = some e:=⟨_,List.getElem?_eq_getElem hlt⟩
     obtain ⟨g,cap,hsl,a0,a1,a2⟩:=zQa hLI.row he;cases hsl;obtain ⟨U,hU⟩:∃U,wr.alloc (.cells #[O ii e.x,O ii e.y,O ii e.c] 88)=U:=⟨_,rfl⟩
     have bU:Below wr.heap.size wr U:=by rw [<-hU];exact zAh _ _
     have lU:=hLI.upto bU;have HMt:=zAb (lU.meet he Hfw.out HL2.out ⟨Htw.out.2.2.1,Htw.out.2.2.2.1⟩ HLw.out);have cU:U.cell? ⟨wr.heap.size,0,none⟩=some (O ii e.x)/\U.cell? ⟨wr.heap.size,1,none⟩=some (O ii e.y)/\U.cell? ⟨wr.heap.size,2,none⟩=some (O ii e.c):=by rw [<-hU];simp [go_sem]
     have el:=lU.jr.bx.cell;have i1:=lU.it.c 2 _ rfl;have Hei:=zAb (HLw.out e (List.mem_of_getElem? he));have hki:(i:Int)<(L.length:Nat):=by omega
     obtain ⟨ex,hex⟩:∃z,e.x=z:=⟨_,rfl⟩
     obtain ⟨ey,hey⟩:∃z,e.y=z:=⟨_,rfl⟩
     obtain ⟨ec,hec⟩:∃z,e.c=z:=⟨_,rfl⟩
     simp only [hex,hey,hec] at HMt hU a0 a1 a2 cU;have HU:=zAb hU;have hec':=hec;clear hLI lU bU hU he hex hey hec;obtain ⟨b0,b1,b2⟩:=cU
     have Hwr:=zAb (show wrap64 (tc+ec)=tc+ec from by
      have q1:=Htw.out;have q2:=Hei.out;simp only [hec'] at q2
      unfold wrap64;omega)
     have hb10:L.length<=10:=HL2.out;gi_wp2_with (rw [HU.out]);rw [Hwr.out];refine ⟨trivial,?_⟩;refine (CallsIn.inRound l' (callsIn_wide.2 HMt.out)).mono ?_;rintro r wn ⟨rfl,hN⟩;have HN:=zAb hN;clear hN;gi_wp2_with fail;go_roundw
     case rel=>exact ⟨i+1,by go_num,by omega,HN.out⟩
     case measure=>simp only [intOf];omega
    ·have hi':i=L.length:=by omega
     subst hi'
     have hJm:JR G0 w B X1.heap.size l gp ab cb hb w.heap.size (w.heap.size+1) (gQ m) wr:=by
      have q:=hLI.jr;have e:gQ m=s0.mets tc L:=by have:=HNx.out;rw [Hs0.out,Ht.out] at this;exact this
      rw [List.take_length,<-e] at q;exact q
     have HE:=zAb (show Hh.Kl X1.heap.size Z wr/\J14 G0 w B X1.heap.size l gp ab cb hb w.heap.size (w.heap.size+1) m wr from ⟨hLI.kl,by omega,hJm⟩);clear hLI hJm;gi_wp2_with fail;exact HE.out
  ·obtain rfl:=HK4 rfl;clear HK4;have i3y:=i3Y.out;gi_wp2_with fail;clear i3y;refine zA1 ?_;refine zAw (fun wx:World=>wx=V) [] zC7 (by kernel_rfl) (by kernel_rfl) ?_;rw [HV.out];have e6:=d6.out;have el:=dl.out;have e0:=i0.out;have e1:=i1.out;have e2:=i2.out;refine zx 0 10 10 rfl (by kernel_rfl) rfl ?_
   iterate 8 (refine zxc rfl (by rfl) (fun wx hx=>by subst hx;go_simp;rfl) ?_;simp only [zp])
   refine zxc (v:=O ii tc) rfl (by rfl) (fun wx hx'=>by subst hx';exact (zDo Tryz.underlying50 (zGx _) Htw.out.1 Htw.out.2.1 rfl rfl rfl HmV.out).trans (by rw [HtC.out])) ?_;simp only [zp];refine zxc (v:=.bool false) rfl (by rfl) (fun wx hx=>by subst hx;go_simp) ?_;simp only [zp];refine zxn ?_;refine zAd (by kernel_rfl) ?_ _;dsimp only [zAv,Exit.then];clear e6;gi_wp2_with fail;clear el e0 e1 e2;refine ⟨trivial,?_⟩;refine (CallsIn.inRound l' (callsIn_wide.2 HEd.out)).mono ?_;rintro e V1 ⟨lv,rfl,hR1,hB1,hown⟩;obtain ⟨la,lc,hlv⟩:=zB3 hR1;subst hlv;have HR1:=zAb hR1;have HB1:=zAb hB1;have Hown:=zAb hown;clear hR1 hB1 hown;gi_wp2_with fail
   have HL0:Hid (LI G0 w B X1.heap.size l gp ab cb hb w.heap.size (w.heap.size+1) s0 tc L Z (.slice la L.length lc) Bx ⟨tx,ty,tc,150,tp⟩ 0 V1):=zAb (by
    have b0:Below Z.heap.size Z V1:=bt HbV.out HB1.out;have k:=Hh.Kl.of_below b0 (show X1.heap.size+1<Z.heap.size by omega);obtain ⟨o1,q1⟩:=Hd.out;obtain ⟨o2,q2⟩:=Hlp.out
    exact ⟨HR1.out,Hj.out.upto b0,HI.out.upto b0,k,⟨o1,k.2.1.trans q1⟩,⟨o2,k.2.2.trans q2⟩,Nat.le_trans hz k.1⟩)
   clear HR1 HB1 Hown HEd HmV HM1 d6 dl i0 i1 i2 i3Y;gi_loopw [50] (fun v wr=>∃i:Nat,v = O ii (i:Nat)/\i<=L.length/\LI G0 w B X1.heap.size l gp ab cb hb w.heap.size (w.heap.size+1) s0 tc L Z (.slice la L.length lc) Bx ⟨tx,ty,tc,150,tp⟩ i wr) (fun v _=>L.length-(intOf v).toNat)
   case atStart=>exact ⟨0,rfl,Nat.zero_le _,HL0.out⟩
   case round =>
    obtain ⟨i,rfl,hi,hLI⟩:=hrel
    by_cases hlt:i<L.length
    ·obtain ⟨e,he⟩:∃e,L[i]? = some e:=⟨_,List.getElem?_eq_getElem hlt⟩
     obtain ⟨g,cap,hsl,a0,a1,a2⟩:=zQa hLI.row he;cases hsl;obtain ⟨U,hU⟩:∃U,wr.alloc (.cells #[O ii e.x,O ii e.y,O ii e.c] 88)=U:=⟨_,rfl⟩
     have bU:Below wr.heap.size wr U:=by rw [<-hU];exact zAh _ _
     have lU:=hLI.upto bU;have HMt:=zAb (lU.meet he Hfw.out HL2.out ⟨Htw.out.2.2.1,Htw.out.2.2.2.1⟩ HLw.out);have cU:U.cell? ⟨wr.heap.size,0,none⟩=some (O ii e.x)/\U.cell? ⟨wr.heap.size,1,none⟩=some (O ii e.y)/\U.cell? ⟨wr.heap.size,2,none⟩=some (O ii e.c):=by rw [<-hU];simp [go_sem]
     have el:=lU.jr.bx.cell;have i1:=lU.it.c 2 _ rfl;have Hei:=zAb (HLw.out e (List.mem_of_getElem? he));have hki:(i:Int)<(L.length:Nat):=by omega
     obtain ⟨ex,hex⟩:∃z,e.x=z:=⟨_,rfl⟩
     obtain ⟨ey,hey⟩:∃z,e.y=z:=⟨_,rfl⟩
     obtain ⟨ec,hec⟩:∃z,e.c=z:=⟨_,rfl⟩
     simp only [hex,hey,hec] at HMt hU a0 a1 a2 cU;have HU:=zAb hU;have hec':=hec;clear hLI lU bU hU he hex hey hec;obtain ⟨b0,b1,b2⟩:=cU
     have Hwr:=zAb (show wrap64 (tc+ec)=tc+ec from by
      have q1:=Htw.out;have q2:=Hei.out;simp only [hec'] at q2
      unfold wrap64;omega)
     have hb10:L.length<=10:=HL2.out;gi_wp2_with (rw [HU.out]);rw [Hwr.out];refine ⟨trivial,?_⟩;refine (CallsIn.inRound l' (callsIn_wide.2 HMt.out)).mono ?_;rintro r wn ⟨rfl,hN⟩;have HN:=zAb hN;clear hN;gi_wp2_with fail;go_roundw
     case rel=>exact ⟨i+1,by go_num,by omega,HN.out⟩
     case measure=>simp only [intOf];omega
    ·have hi':i=L.length:=by omega
     subst hi'
     have hJm:JR G0 w B X1.heap.size l gp ab cb hb w.heap.size (w.heap.size+1) (gQ m) wr:=by
      have q:=hLI.jr;have e:gQ m=s0.mets tc L:=by have:=HNx.out;rw [Hs0.out,Ht.out] at this;exact this
      rw [List.take_length,<-e] at q;exact q
     have HE:=zAb (show Hh.Kl X1.heap.size Z wr/\J14 G0 w B X1.heap.size l gp ab cb hb w.heap.size (w.heap.size+1) m wr from ⟨hLI.kl,by omega,hJm⟩);clear hLI hJm;gi_wp2_with fail;exact HE.out
 case done =>
  rintro D W hD hJ0 hK;have hj:=hJ0.2;have hDl:=(gE.1 hK).1;obtain ⟨Y,hY⟩:∃Y,W.drew=Y:=⟨_,rfl⟩
  have bY:Below W.heap.size W Y:=by rw [<-hY];exact (Below.refl _ _).drew
  have jY:=hj.upto bY;have hKY:Y.heap[D]? = some (.deferred (some [])):=(bY.block D hDl).trans hK;obtain ⟨v1,F1,a1,-,-⟩:=jY.st;have hm1:=a1.costs;have c1:=a1.sea.c 1 _ rfl;have c2:=a1.sea.c 2 _ rfl;have c6:=a1.sea.c 6 _ rfl;have cl:=jY.bx.cell;have HY:=zAb hY;have HM1:=zAb hm1;clear hY hj hJ0 a1 hm1;gi_wp2_with fail;refine zA1 ?_;refine zBi (fun wx:World=>wx=Y) [] (by kernel_rfl) ?_;rw [HY.out];refine zx 0 14 14 rfl (by kernel_rfl) rfl ?_
  iterate 8 (refine zxc rfl (by rfl) (fun wx hx=>by subst hx;go_simp;rfl) ?_;simp only [zp])
  refine zxc (v:=.tuple #[O ii 150,.bool true]) rfl (by rfl) (fun wx hx'=>by subst hx';exact (zDn Tryz.underlying50 (zGx _) (by decide) (by decide) rfl rfl rfl HM1.out).trans (by rfl)) ?_;simp only [zp]
  iterate 5 (refine zxc rfl (by rfl) (fun wx hx=>by subst hx;go_simp;rfl) ?_;simp only [zp])
  refine zxn ?_;refine zAd (by kernel_rfl) ?_ _;dsimp only [zAv,Exit.then];clear c1 c2 c6 cl;gi_wp2_with fail;refine ⟨by simp,.inl ⟨_,_,rfl,run_takeDeferred hKY,?_⟩⟩;have jF:=jY.two (Y:=Y.putObj D (.deferred none)) (zCh _ _ _ (.inl hD.symm));obtain ⟨v2,F2,a2,-,-⟩:=jF.st;exact ⟨.bool true,by simp [results,Tryz.f12,go_sem],rfl,jF.bb,v2,F2,a2⟩
end
attribute [local go_sem] Oper.semAt_some
theorem Rq8:Rcl 8:=zl fun _ _=>by go_simp
theorem Rq9:Rcl 9:=zl fun _ _=>by go_simp
theorem qA2:Rcl 10:=zl fun _ _=>by go_simp
theorem qBt:Rcl 13:=zl fun _ _=>by go_simp
structure Q14 (w:World) (gp p:Nat):Prop where
 g:G14 w gp p
 s0:∀wx,Below w.heap.size w wx->Calls pg 8 #[ptr p,shv 0 1,cel 0 3] wx fun e w'=>e = .returned (.bool true)/\Below wx.heap.size wx w'
 s1:∀wx,Below w.heap.size w wx->Calls pg 8 #[ptr p,shv 0 1,cel 15 3] wx fun e w'=>e = .returned (.bool true)/\Below wx.heap.size wx w'
theorem Q14.upto {w w':World} {gp p:Nat} (h:Q14 w gp p) (hb:Below w.heap.size w w'):Q14 w' gp p:=
 ⟨h.g.upto hb,fun wx q=>h.s0 wx (bt hb q),fun wx q=>h.s1 wx (bt hb q)⟩
theorem zSd {w:World} {gp p:Nat} (hq:Q14 w gp p) :
 Calls pg 5 #[ptr gp,cel 0 3,cel 15 3] w fun e w'=>∃cv,e = .returned (.tuple #[cv,O ii 150,.bool true])/\RC w' cv cL/\Below w.heap.size w w'/\∀g,cv.ownBlock=some g->w.heap.size<=g:=by
 obtain ⟨X,hX⟩:=ex ((w.alloc (.cells #[O ii 0,O ii 3] 23)).alloc (.cells #[O ii 15,O ii 3] 23));have BX:Below w.heap.size w X:=by rw [<-hX];exact zBe _ _ _
 have TA:Two X w.heap.size 0 3:=by rw [<-hX];exact (Two.newAt rfl).alloc
 have TB:Two X (w.heap.size+1) 15 3:=by rw [<-hX];exact Two.newAt (by simp)
 obtain ⟨Y,hY⟩:=ex (X.drew);have bY:Below X.heap.size X Y:=by rw [<-hY];exact (Below.refl _ _).drew
 have BY:=zAb (bt BX bY);have HA:=zAb (TA.kept bY);have HAb:=zAb (TB.kept bY);have hqY:=hq.upto BY.out;have Hwd:=zAb (fun wx (q:Below Y.heap.size Y wx)=>hqY.g.jt.wd wx q);have Hsh:=zAb (fun wx (q:Below Y.heap.size Y wx)=>hqY.g.jt.sh wx q);have Hs0:=zAb (fun wx (q:Below Y.heap.size Y wx)=>hqY.s0 wx q);have Hs1:=zAb (fun wx (q:Below Y.heap.size Y wx)=>hqY.s1 wx q);have HG:=zAb hq.g;have HX:=zAb hX;have HY:=zAb hY;clear hX hY BX TA TB bY hqY hq;go_enter func5,ntmps5;go_wp2_with (rw [HX.out]);refine zAj ?_;refine zAe (fun wx:World=>Below Y.heap.size Y wx) [] (by kernel_rfl) ?_;rw [HY.out];refine zx 0 1 16 rfl (by kernel_rfl) (Below.refl _ _) ?_
 iterate 1 (refine zxc rfl (by rfl) (fun wx hx=>by go_simp;rfl) ?_;simp only [zp])
 refine zxn ?_;refine zx 2 1 15 rfl (by kernel_rfl) (Below.refl _ _) ?_
 iterate 1 (refine zxc rfl (by rfl) (fun wx hx=>by go_simp;rfl) ?_;simp only [zp])
 refine zxn ?_;refine zx 4 1 14 rfl (by kernel_rfl) (Below.refl _ _) ?_
 iterate 1 (refine zxc (v:=cel 0 3) rfl (by rfl) (fun wx hx=>by obtain ⟨⟨q0,q1⟩,-,-⟩:=HA.out.kept hx;go_simp) ?_;simp only [zp])
 refine zxn ?_;refine zw 1 [] (by kernel_rfl) ?_;refine readyZ.call rfl (by rfl) (Rq9 (by rfl) (by rfl) (by simp only [zj];rfl)) (Hwd.out Y (Below.refl _ _)) ?_ readyZ.nil;rintro e V1 ⟨rfl,hV1⟩;have BV1:Below Y.heap.size Y V1:=bt (Below.refl _ _) hV1;refine ⟨_,rfl,fun _=>BV1,?_⟩;simp only [zp];refine zw 3 [] (by kernel_rfl) ?_;refine readyZ.call rfl (by rfl) (qA2 (by rfl) (by rfl) (by simp only [zj];rfl)) (Hsh.out V1 BV1) ?_ readyZ.nil;rintro e V2 ⟨rfl,hV2⟩;have BV2:Below Y.heap.size Y V2:=bt BV1 hV2;refine ⟨_,rfl,fun _=>BV2,?_⟩;simp only [zp];refine zw 5 [] (by kernel_rfl) ?_;refine readyZ.call rfl (by rfl) (Rq8 (by rfl) (by rfl) (by simp only [zj];rfl)) (Hs0.out V2 BV2) ?_ readyZ.nil;rintro e V3 ⟨rfl,hV3⟩;have BV3:Below Y.heap.size Y V3:=bt BV2 hV3;refine ⟨_,rfl,fun _=>BV3,?_⟩;simp only [zp];refine zx 6 3 10 rfl (by kernel_rfl) BV3 ?_
 iterate 3 (refine zxc rfl (by rfl) (fun wx hx=>by go_simp;rfl) ?_;simp only [zp])
 refine zxn ?_;refine zx 10 1 7 rfl (by kernel_rfl) BV3 ?_
 iterate 1 (refine zxc rfl (by rfl) (fun wx hx=>by go_simp;rfl) ?_;simp only [zp])
 refine zxn ?_;refine zx 12 1 6 rfl (by kernel_rfl) BV3 ?_
 iterate 1 (refine zxc (v:=cel 15 3) rfl (by rfl) (fun wx hx=>by obtain ⟨⟨q0,q1⟩,-,-⟩:=HAb.out.kept hx;go_simp) ?_;simp only [zp])
 refine zxn ?_;refine zw 9 [] (by kernel_rfl) ?_;refine readyZ.callG rfl (by rfl) (Rq9 (by rfl) (by rfl) (by simp only [zj];rfl)) (Hwd.out V3 BV3) ?_ readyZ.nil;rintro e V4 ⟨rfl,hV4⟩;have BV4:Below Y.heap.size Y V4:=bt BV3 hV4;refine ⟨_,rfl,fun _=>BV4,?_⟩;simp only [zp];refine zw 11 [] (by kernel_rfl) ?_;refine readyZ.callG rfl (by rfl) (qA2 (by rfl) (by rfl) (by simp only [zj];rfl)) (Hsh.out V4 BV4) ?_ readyZ.nil;rintro e V5 ⟨rfl,hV5⟩;have BV5:Below Y.heap.size Y V5:=bt BV4 hV5;refine ⟨_,rfl,fun _=>BV5,?_⟩;simp only [zp];refine zw 13 [] (by kernel_rfl) ?_;refine readyZ.callG rfl (by rfl) (Rq8 (by rfl) (by rfl) (by simp only [zj];rfl)) (Hs1.out V5 BV5) ?_ readyZ.nil;rintro e V6 ⟨rfl,hV6⟩;have BV6:Below Y.heap.size Y V6:=bt BV5 hV6;refine ⟨_,rfl,fun _=>BV6,?_⟩;simp only [zp];refine zx 14 2 2 rfl (by kernel_rfl) BV6 ?_
 iterate 2 (refine zxc rfl (by rfl) (fun wx hx=>by go_simp;rfl) ?_;simp only [zp])
 refine zxn ?_;refine zAd (by kernel_rfl) ?_ _;dsimp only [zAv,Exit.then];have HB6:=zAb (bt BY.out BV6);have hG6:=zAb (HG.out.upto HB6.out);have BV6':=BV6;clear hV1 BV1 hV2 BV2 hV3 BV3 hV4 BV4 hV5 BV5 hV6 BV6;obtain ⟨⟨a0,a1⟩,-,-⟩:=id (HA.out.kept BV6');obtain ⟨⟨b0,b1⟩,-,-⟩:=id (HAb.out.kept BV6');have HBe:=zAb (zV7 (hG6.out) (Below.refl _ _));have H6:=zAb BV6';clear BV6';go_wp2_with fail;refine HBe.out.mono ?_;rintro e W1 ⟨l,ab,cb,hb,v,F,rfl,hS,hb1⟩;have HRe:=zAb (zT6 hG6.out hb1 (Nat.le_refl _) hb1.size hS);have HB1:=zAb hb1;clear hb1 hS a0 a1 b0 b1 HBe;go_wp2_with fail;refine HRe.out.mono ?_;rintro e W2 ⟨rfl,hb2,v2,F2,hS2⟩;obtain ⟨Z,hZ⟩:=ex (W2.drew);have bZ:Below W2.heap.size W2 Z:=by rw [<-hZ];exact (Below.refl _ _).drew
 have B2:Below V6.heap.size V6 W2:=HB1.out.trans hb2;have BZ6:Below V6.heap.size V6 Z:=bt B2 bZ;have SZ:S14 V6.heap.size Z l gp ab cb hb g0.K g0.C v2 g0.n g0.S F2:=⟨hS2.sea.upto bZ,hS2.add.upto bZ,MapS.upto hS2.costs bZ,hS2.heap.upto bZ,hS2.nac,hS2.lo⟩
 have HCo:=zAb (zR0 hG6.out BZ6 SZ);have HMz:=zAb (fun wx (q:Below Z.heap.size Z wx)=>MapS.upto SZ.costs q);have HSz:=zAb (fun wx (q:Below Z.heap.size Z wx)=>(SZ.sea.upto q).c 6 _ rfl);have HAz:=zAb ((HA.out.kept H6.out).kept BZ6);have HBZ:=zAb (bt HB6.out BZ6);have HZ:=zAb hZ;clear hZ bZ B2 BZ6 SZ hS2 hb2 HRe;go_wp2_with fail;refine zAj ?_;refine zAe (fun wx:World=>Below Z.heap.size Z wx) [] (by kernel_rfl) ?_;rw [HZ.out];refine zx 0 1 11 rfl (by kernel_rfl) (Below.refl _ _) ?_
 iterate 1 (refine zxc rfl (by rfl) (fun wx hx=>by go_simp;rfl) ?_;simp only [zp])
 refine zxn ?_;refine zx 2 6 10 rfl (by kernel_rfl) (Below.refl _ _) ?_
 iterate 3 (refine zxc rfl (by rfl) (fun wx hx=>by have q6:=HSz.out wx hx;go_simp;rfl) ?_;simp only [zp])
 refine zxc (v:=.map (some cb)) rfl (by rfl) (fun wx hx=>by have q6:=HSz.out wx hx;go_simp) ?_;simp only [zp];refine zxc (v:=cel 0 3) rfl (by rfl) (fun wx hx=>by obtain ⟨⟨q0,q1⟩,-,-⟩:=HAz.out.kept hx;go_simp) ?_;simp only [zp];refine zxc (v:=O ii 150) rfl (by rfl) (fun wx hx'=>by exact (zDo Tryz.underlying50 (zGx _) (by decide) (by decide) rfl rfl rfl (HMz.out wx hx')).trans (by rfl)) ?_;simp only [zp];refine zxn ?_;refine zw 1 [] (by kernel_rfl) ?_;refine readyZ.call rfl rfl (qBt (by rfl) (by rfl) (by simp only [zj];rfl)) HCo.out ?_ readyZ.nil;rintro e W3 ⟨cv,rfl,hR3,hb3,hown⟩;refine ⟨_,rfl,fun _=>hb3,?_⟩;simp only [zp];refine zx 8 3 3 rfl (by kernel_rfl) hb3 ?_
 iterate 3 (refine zxc rfl (by rfl) (fun wx hx=>by go_simp;rfl) ?_;simp only [zp])
 refine zxn ?_;refine zAd (by kernel_rfl) ?_ _;dsimp only [zAv,Exit.then];have HF:=zAb (show RC W3 cv cL/\Below w.heap.size w W3/\∀g,cv.ownBlock=some g->w.heap.size<=g from ⟨hR3,bt HBZ.out hb3,fun g e=>by have q1:=hown g e;have q2:=HBZ.out.size;omega⟩);clear hR3 hb3 hown;go_wp2_with fail;refine bodyPost_ret (v:=.tuple #[cv,O ii 150,.bool true]) (by simp [results,Tryz.f5,go_sem]) rfl ?_;exact ⟨_,rfl,HF.out⟩
end Go.Proofs.YtejjcenhjpjefaaGreatDoor
