import Derived.Test.YtejjcenhjpjefaaGreatDoorAcr0
set_option linter.all false
set_option maxRecDepth 1000000
set_option maxHeartbeats 64000000
open Go.Proofs.Tryz
open Go.Proofs.Tryz renaming prog->pg
open Array renaming getElem?_eq_some_iff->gE
open And renaming intro->ai
open Go.Value renaming int->O
open Go.IntKind renaming i64->ii
namespace Go.Proofs.YtejjcenhjpjefaaGreatDoor
open Go.RowKit Go.Shelf
section
attribute [local go_sem] Oper.semAt_some
structure AcI (w Y:World) (gp:Nat) (kx ky:Int) (B:Nat) (L:List Q4):Prop where
 bel:Below w.heap.size w Y
 b0:Boxed Y w.heap.size 26 (ptr gp)
 b1:Y.heap[w.heap.size+1]? = some (.cells #[O ii kx,O ii ky] 23 (0,0))
 b3:Boxed Y (w.heap.size+3) 31 (.map (some (w.heap.size+2)))
 ac:AcS (w.heap.size+4) Y (w.heap.size+2) L
 sz:B<=Y.heap.size
section
variable {w Y Y':World} {gp:Nat} {kx ky:Int} {B:Nat} {L:List Q4}
theorem AcI.turned {S:Nat->Prop} (h:AcI w Y gp kx ky B L) (T:Turns S Y Y') (hlo:∀k,S k->w.heap.size<=k) (hm:¬S (w.heap.size+2)) (hc:∀k o,S k->Y.heap[k]? = some o->o.isCells=false):AcI w Y' gp kx ky B L:=by
 have hn:∀{k:Nat} {cs:Array Value} {t:Nat} {fz:Nat×Nat},Y.heap[k]? = some (.cells cs t fz)->¬S k:=fun hk hs=>by have:=hc _ _ hs hk;cases this
 exact ⟨h.bel.trans (T.below hlo h.bel.size),zAg h.b0 T (hn h.b0),T.same (hn h.b1) h.b1,zAg h.b3 T (hn h.b3),h.ac.kept T hm (fun g cur hk=>hn hk),Nat.le_trans h.sz T.size⟩
theorem AcI.upto (h:AcI w Y gp kx ky B L) (hb:Below Y.heap.size Y Y'):AcI w Y' gp kx ky B L:=h.turned (S:=NoB) (Turns.of_below hb) (fun _ q=>q.elim) id (fun _ _ q=>q.elim)
theorem AcI.own_from (hB:w.heap.size+4<=B) {β:Type} (fl:β->List Q4):OwnFrom B (fun b Y=>AcI w Y gp kx ky B (fl b)):=by
 intro b X Y row h hg hr
 exact h.turned (S:=fun k=>row=some k) (Turns.of_grown hg (fun k e=>e)) (fun k e=>by have:=(hr k e).1;omega) (fun e=>by have:=(hr _ e).1;omega) (fun k o e ho=>by
  obtain ⟨-,o',ho',hn⟩:=hr k e;rw [ho] at ho';cases ho'
  exact hn)
theorem AcI.add (h:AcI w Y gp kx ky B L) (hB:w.heap.size+4<=B) (t:Q4) (hx:W64 t.x) (hy:W64 t.y) (hlen:L.length<=500) :
 ∃fv st w1 v2 w2 w3,(∃a n c,fv = .slice a n c)/\(∃a n c,v2 = .slice a n c)/\(Instr.mapEntry 31 (.map (some (w.heap.size+2))) (cel t.x t.y)).run pg (Y.alloc (.cells #[O ii t.a,O ii t.b,O ii 10] 88)) = .ok (.tuple #[fv,O ii (st:Nat)]) w1/\
  (Builtin.append_ #[85,85] 85 #[fv,.slice (some ⟨Y.heap.size,0,none⟩) 1 1]).run pg w1 = .ok v2 w2/\(Instr.entryStore 31 (.map (some (w.heap.size+2))) (O ii (st:Nat)) v2).run pg w2 = .ok () w3/\
  AcI w w3 gp kx ky B (L++[t])/\KeepT 88 B Y w3/\w3.heap[1]? = Y.heap[1]?/\(∀lv M,Rq 178 Y lv M->Rq 178 w3 lv M):=by
 obtain ⟨fv,st,w1,v2,w2,w3,f1,f2,r1,r2,r3,a3,So,T,hSo⟩:=h.ac.add t hx hy hlen (Nat.le_trans hB h.sz);have hs:=h.bel.size;have hsz:=h.sz
 have hn:∀{k:Nat} {cs:Array Value} {u:Nat},Y.heap[k]? = some (.cells cs u (0,0))->u≠88->¬So k:=fun hk hu hs=>by
  rcases hSo _ hs with e|⟨cur,e,-⟩
  ·obtain ⟨K,F,m,-⟩:=h.ac;exact zI9 m.mp hk e
  ·rw [hk] at e;cases e;exact hu rfl
 refine ⟨fv,st,w1,v2,w2,w3,f1,f2,r1,r2,r3,⟨h.bel.trans (T.below (fun k e=>?_) h.bel.size),zAg h.b0 T (hn h.b0 (by decide)),T.same (hn h.b1 (by decide)) h.b1,zAg h.b3 T (hn h.b3 (by decide)),a3,Nat.le_trans h.sz T.size⟩,⟨T.size,fun k o hk ho hno=>?_⟩,?_,fun lv M hM=>hM.kept T (fun g e=>?_)⟩
 ·rcases hSo k e with q|⟨_,_,q⟩<;>omega
 ·refine T.same (fun e=>?_) ho;rcases hSo k e with q|⟨cur,q,-⟩
  ·omega
  ·rw [q] at ho;cases ho;cases hno
 ·by_cases h0:1<Y.heap.size
  ·exact T.block 1 h0 (fun e=>by rcases hSo 1 e with q|⟨_,_,q⟩<;>omega)
  ·omega
 ·obtain ⟨cur,hc⟩:=hM.blk e;exact hn hc (by decide)
end
theorem zN5 {S:Int->Int->Bool} {W H kx ky:Int} (hW:1<=W/\W<=128) (hH:1<=H/\H<=128) (hS:∀u v,S u v=true->(0<=u/\u<W)/\0<=v/\v<H) {d:Nat} {t:Q4} (ht:t∈zFa S W H kx ky d):W64 t.x/\W64 t.y:=by
 by_cases hd:d<4
 ·have:=hS _ _ (zC6 hW hH hS hd ht).2.2.2.1;exact ⟨zBr (by omega),zBr (by omega)⟩
 ·match d,hd with
  |0,h=>exact absurd (by decide) h
  |1,h=>exact absurd (by decide) h
  |2,h=>exact absurd (by decide) h
  |3,h=>exact absurd (by decide) h
  |d+4,_=>simp [zFa] at ht
theorem zP4 {w:World} {gp p:Nat} {c s ep:Int} {wb eb:Nat} {W H:Int} {tl:List Nat} {f:Int->Int->Option Int} (hG:Gp w gp p c s ep wb eb) (hw:Wl w p W H tl f) (hg:Grnd w) (ho:Offs w) (hS:∀u v,stB W H tl f c s u v=true->(0<=u/\u<W)/\0<=v/\v<H) (kx ky:Int) :
 Calls pg 77 #[ptr gp,cel kx ky] w fun e w'=>∃mb,e = .returned (.map (some mb))/\AcS w.heap.size w' mb (acL (stB W H tl f c s) W H kx ky)/\w.heap.size<=mb/\Below w.heap.size w w':=by
 obtain ⟨hW,hH⟩:=hw.sides;refine (callsIn_wide (n:=10)).1 ?_;refine callsIn_of_wp_marks func77 rfl trivial ?_ rfl;simp only [ntmps77,List.size_toArray,List.length_cons,List.length_nil,Nat.reduceAdd,Nat.reduceSub,Array.replicate_succ,Array.replicate_zero,List.push_toArray,List.append_toArray,List.nil_append,List.cons_append];obtain ⟨X,hX⟩:=ex ((w.alloc (.cells #[ptr gp] 26)).alloc (.cells #[O ii kx,O ii ky] 23));obtain ⟨V,hV⟩:=ex ((X.alloc (.map #[] 0)).alloc (.cells #[.map (some (w.heap.size+2))] 31));have zX:X.heap.size=w.heap.size+2:=by rw [<-hX];simp
 have zV:V.heap.size=w.heap.size+4:=by rw [<-hV];simp [zX]
 have BX:Below w.heap.size w X:=hX▸zBe _ _ _;have BXV:Below X.heap.size X V:=hV▸zBe _ _ _;have BV:=bt BX BXV
 have o0:Boxed V w.heap.size 26 (ptr gp):=by
  refine zAi ?_ BXV (by omega);rw [<-hX];exact (Boxed.new w 26 _).alloc _
 have o1:V.heap[w.heap.size+1]? = some (.cells #[O ii kx,O ii ky] 23 (0,0)):=by
  refine (BXV.block _ (by omega)).trans ?_;rw [<-hX];have:=World.alloc_heap_new (w.alloc (.cells #[ptr gp] 26)) (.cells #[O ii kx,O ii ky] 23);rwa [World.size_alloc] at this
 have o3:Boxed V (w.heap.size+3) 31 (.map (some (w.heap.size+2))):=by
  rw [<-hV];have:=Boxed.new (X.alloc (.map #[] 0)) 31 (.map (some (w.heap.size+2)));rw [World.size_alloc,zX] at this;exact this
 have o2:AcS (w.heap.size+4) V (w.heap.size+2) []:=by
  have m:=MapS.made zDb X;rw [zX] at m;refine ⟨[],_,⟨m.upto (by rw [<-hV];exact zAh _ _),fun x y=>Rw.nil _ _ _ _,fun x y u v g e=>(by cases e),fun x y g e=>(by cases e)⟩,fun q=>by simp,Nat.le_refl _⟩
 have I0:AcI w V gp kx ky V.heap.size []:=⟨BV,o0,o1,o3,o2,Nat.le_refl _⟩
 have hd:Below V.heap.size V V.drew:=⟨rfl,rfl,rfl,Nat.le_refl _,fun _ _=>rfl⟩
 have GV:=hG.upto (bt BV hd);have h0:=GV.c0;have c0:=(zAi o0 hd o0.lt).cell;have e0:V.drew.cell? ⟨w.heap.size+1,0,none⟩=some (O ii kx):=by rw [cell_of_row V.drew _ 0 _ _ _ o1];rfl
 have e1:V.drew.cell? ⟨w.heap.size+1,1,none⟩=some (O ii ky):=by rw [cell_of_row V.drew _ 1 _ _ _ o1];rfl
 have HS:V.drew.cell? ⟨gp,0,none⟩=some (ptr p)/\V.drew.cell? ⟨w.heap.size,0,none⟩=some (ptr gp)/\V.drew.cell? ⟨w.heap.size+1,0,none⟩=some (O ii kx)/\V.drew.cell? ⟨w.heap.size+1,1,none⟩=some (O ii ky):=⟨h0,c0,e0,e1⟩
 have Hd:=zAb hd;have HI0:=zAb I0;have HBV:=zAb BV;have Hall:=zAb (ai hG (ai hw (ai hg (ai ho hS))));have HX:=zAb hX;have HV:=zAb hV;have HWH:=zAb (ai hW hH);have hgl:=hG.lt;clear BX BXV BV o0 o1 o2 o3 I0 hd GV h0 c0 e0 e1 hX hV hG hw hg ho hS hW hH;have hmm:=run_makeMap (P:=pg) 31 X;rw [zX] at hmm;gi_wp2_with (first|rw [HX.out]|rw [HV.out]);clear hmm;refine zA1 ?_;refine zBi (fun wx:World=>wx.cell? ⟨gp,0,none⟩=some (ptr p)/\wx.cell? ⟨w.heap.size,0,none⟩=some (ptr gp)/\wx.cell? ⟨w.heap.size+1,0,none⟩=some (O ii kx)/\wx.cell? ⟨w.heap.size+1,1,none⟩=some (O ii ky)) [5] (by kernel_rfl) ?_;refine zv 0 5 8 [ptr gp,ptr gp,.pointer (some ⟨gp,0,none⟩),ptr p,cel kx ky] rfl rfl (by kernel_rfl) HS ?_;repeat (refine zc rfl (by rfl) (fun wx hx=>by go_simp) ?_;simp only [zp])
 refine zn ?_;refine zw 5 [] (by kernel_rfl) ?_;refine readyZ.call rfl rfl (zTy (by rfl) (by rfl) (by simp only [zj];rfl)) (zR7 p kx ky _) ?_ readyZ.nil;rintro e w1 ⟨rfl,hw1⟩;refine ⟨_,rfl,fun h=>absurd (by decide) h,?_⟩;try simp only [zp]
 refine zAd (by kernel_rfl) ?_ _;dsimp only [zAv,Exit.then];clear HS;have z1:w1.heap.size=w.heap.size+6:=by rw [hw1];simp [show V.drew.heap.size=V.heap.size from rfl,zV]
 have zD:V.drew.heap.size=w.heap.size+4:=zV;have B1:Below V.heap.size V w1:=by rw [hw1];exact bt Hd.out (zBe _ _ _)
 have P1:Boxed w1 (w.heap.size+4) 27 (ptr p):=by
  rw [hw1,<-zD];exact (Boxed.new V.drew 27 _).alloc _
 have T1:Two w1 (w.heap.size+4+1) kx ky:=by rw [hw1,<-zD];exact Two.newAt (by simp)
 have BW1:=bt HBV.out B1;have hseq:=zR2 9 p (w.heap.size+4) W H kx ky tl f w1 (by omega) P1 T1 (Hall.out.2.1.kept BW1) (Hall.out.2.2.2.1.kept BW1)
 have I1:AcI w w1 gp kx ky w1.heap.size []:=by
  have q:=HI0.out.upto B1;exact ⟨q.bel,q.b0,q.b1,q.b3,q.ac,Nat.le_refl _⟩
 rw [zD];have hB4:w.heap.size+4<=w1.heap.size:=by omega
 have hr1:=(Hall.out.2.2.2.1.kept BW1).1;clear hw1 zD;gi_wp2_with fail
 refine zGe (n:=10) (ty:=88) (by omega) (gf:=136) (lb:=#[ptr (w.heap.size+4),ptr (w.heap.size+4+1)]) rfl (enters_of func136 (by kernel_rfl) rfl) hseq (fun h k=>k.trans h) (zWm (by omega)) (Below.refl _ _) (fun _=>rfl)
  (fun pre Y=>AcI w Y gp kx ky w1.heap.size (pre.flatMap (fun d:Fin 8=>zFa (stB W H tl f c s) W H kx ky d.val))) (fun _ _=>False) (AcI.own_from hB4 _) (fun _ _ _ _ h _ _=>h.elim)
  I1
  (fun d a' Y=>∃Bx,w1.heap.size<=Bx/\Y.heap[Bx]? = some (.cells #[O ii (kx+dX d.val),O ii (ky+dY d.val)] 23 (0,0))/\a'={ tmps:=#[ptr gp,cel kx ky,ptr w.heap.size,ptr (w.heap.size+1),.map none,ptr (w.heap.size+2+1),O ii ((d.val:Nat):Int),ptr Bx,undef,undef,.map (some (w.heap.size+2)),ptr gp,ptr gp,ptr gp,ptr p,cel kx ky,.func (.func 136) #[] #[ptr (w.heap.size+4),ptr (w.heap.size+4+1)],O ii ((d.val:Nat):Int),cel (kx+dX d.val) (ky+dY d.val),undef,undef,undef,undef,undef,undef,undef,undef,undef,undef,undef,undef,undef,undef,undef,undef,undef,undef,undef,undef,undef,undef,undef],defers:=[] })
  (fun q a' _ Y Z row hs hg hr=>by
   obtain ⟨B,h1,h2,h3⟩:=hs
   exact ⟨B,h1,zEn (β:=Unit) w1.heap.size B _ _ () Y Z row h2 hg hr,h3⟩)
  ?assign ?body ?done ?stop
 case assign =>
  rintro lo pre d Y K hI hK;have b1:=zAh Y (.cells #[O ii (kx+dX d.val),O ii (ky+dY d.val)] 23);have hn:=heap_alloc_new Y (.cells #[O ii (kx+dX d.val),O ii (ky+dY d.val)] 23);have HE:=zAb (ai (hI.upto b1) (ai b1 (ai hn hI.sz)));clear b1 hn hI;gi_wp2
  refine hK _ _ (KeepT.of_below HE.out.2.1) (HE.out.2.1.block 1 (by have:=HE.out.2.2.2;omega)) HE.out.1 ⟨Y.heap.size,HE.out.2.2.2,HE.out.2.2.1,rfl⟩
 case body =>
  rintro lo pre d a' Y hlo hI ⟨Bx,hBx,hBc,rfl⟩ hlt;obtain ⟨nx,hnx⟩:=ex (kx+dX d.val);obtain ⟨ny,hny⟩:=ex (ky+dY d.val);have c0:=hI.b0.cell;have e0:Y.cell? ⟨w.heap.size+1,0,none⟩=some (O ii kx):=by rw [cell_of_row Y _ 0 _ _ _ hI.b1];rfl
  have e1:Y.cell? ⟨w.heap.size+1,1,none⟩=some (O ii ky):=by rw [cell_of_row Y _ 1 _ _ _ hI.b1];rfl
  have f0:Y.cell? ⟨Bx,0,none⟩=some (O ii (kx+dX d.val)):=by rw [cell_of_row Y _ 0 _ _ _ hBc];rfl
  have f1:Y.cell? ⟨Bx,1,none⟩=some (O ii (ky+dY d.val)):=by rw [cell_of_row Y _ 1 _ _ _ hBc];rfl
  have HP:=zAb (zMw (Hall.out.1.upto hI.bel) (Hall.out.2.1.kept hI.bel) (Hall.out.2.2.1.kept hI.bel) (Hall.out.2.2.2.1.kept hI.bel) Hall.out.2.2.2.2 kx ky d);have HPl:=zAb (zH6 (S:=stB W H tl f c s) (W:=W) (H:=H) (kx:=kx) (ky:=ky) d.val);have HPm:=zAb (fun t (ht:t∈zFa (stB W H tl f c s) W H kx ky d.val)=>zN5 HWH.out.1 HWH.out.2 Hall.out.2.2.2.2 ht);have hfl:(pre++[d]).flatMap (fun d:Fin 8=>zFa (stB W H tl f c s) W H kx ky d.val)=pre.flatMap (fun d:Fin 8=>zFa (stB W H tl f c s) W H kx ky d.val)++zFa (stB W H tl f c s) W H kx ky d.val:=by simp
  have hpl:(pre.flatMap (fun d:Fin 8=>zFa (stB W H tl f c s) W H kx ky d.val)).length<=pre.length*8:=by
   clear hlt hfl hI
   induction pre with
   |nil=>simp
   |cons a r ih=>rw [List.flatMap_cons,List.length_append,List.length_cons];have:=zH6 (S:=stB W H tl f c s) (W:=W) (H:=H) (kx:=kx) (ky:=ky) a.val;omega
  obtain ⟨L0,hL0⟩:=ex (pre.flatMap (fun d:Fin 8=>zFa (stB W H tl f c s) W H kx ky d.val));obtain ⟨PL,hPL⟩:=ex (zFa (stB W H tl f c s) W H kx ky d.val);have HLP:Hid ((pre++[d]).flatMap (fun d:Fin 8=>zFa (stB W H tl f c s) W H kx ky d.val)=L0++PL):=zAb (by rw [hfl,hL0,hPL]);rw [hL0] at hI hpl;rw [hPL] at HP HPl HPm;rw [hnx,hny] at HP;rw [hnx] at f0;rw [hny] at f1;simp only [hnx,hny];obtain ⟨dd,hdd⟩:∃dd:Int,((d.val:Nat):Int)=dd:=⟨_,rfl⟩
  rw [hdd] at HP ⊢;have HI:=zAb hI;have hzY:=hI.sz;have Hsz:=zAb (ai z1 (ai zV (ai zX (ai hB4 (ai hr1 (ai hzY hlo))))));clear hI hBc hnx hny hfl hL0 hPL hdd HI0 hseq I1 z1 zV zX hr1 hzY hlo P1 T1 B1 BW1 HX HV hgl hBx;gi_wp2_with fail;refine ⟨trivial,?_⟩;refine (callsIn_wide.2 HP.out).mono ?_;rintro e w2 ⟨lv,rfl,hR2,hb2,hown2⟩;obtain ⟨la,lc,hlv⟩:=Rw.slice4 hR2;subst hlv;have HR2:=zAb hR2;have HI2:=zAb (HI.out.upto hb2);have HB2:=zAb hb2;clear hR2 hb2 hown2 c0 e0 e1 f0 f1 HP;gi_wp2_with fail;gi_loopw [25] (fun v wr=>∃i:Nat,v = O ii (i:Nat)/\i<=PL.length/\Rq 178 wr (.slice la PL.length lc) PL/\AcI w wr gp kx ky w1.heap.size (L0++PL.take i)/\KeepT 88 w1.heap.size Y wr/\wr.heap[1]? = Y.heap[1]?) (fun v _=>PL.length-(intOf v).toNat)
  case atStart=>exact ⟨0,rfl,Nat.zero_le _,HR2.out,by simpa using HI2.out,KeepT.of_below HB2.out,HB2.out.block 1 (by have:=Hsz.out;omega)⟩
  case round =>
   obtain ⟨i,rfl,hi,hR,hIr,hK,h0r⟩:=hrel
   by_cases hlt2:i<PL.length
   ·obtain ⟨t,ht⟩:∃t,PL[i]? = some t:=⟨_,List.getElem?_eq_getElem hlt2⟩
    have htm:=HPm.out t (List.mem_of_getElem? ht);obtain ⟨g,rfl,hgl2,⟨a0,a1,a2,a3⟩,hfz⟩:=Rw.atq hR ht;obtain ⟨Z,hZ⟩:=ex (wr.alloc (.cells #[O ii t.x,O ii t.y,O ii t.a,O ii t.b] 178));have bZ:Below wr.heap.size wr Z:=hZ▸zAh _ _;have F4:Four Z wr.heap.size t.x t.y t.a t.b:=by rw [<-hZ];exact Four.new12 _ _ _ _ _ _
    have hIZ:=hIr.upto bZ;have cm:=hIZ.b3.cell;have hll:(L0++PL.take i).length<=500:=by rw [List.length_append,List.length_take];have:=HPl.out;omega
    obtain ⟨fv,st,x1,v2,x2,x3,⟨fa,fn,fc,rfl⟩,⟨va,vn,vc,rfl⟩,r1,r2,r3,q1,q2,q3,q4⟩:=hIZ.add hB4 t htm.1 htm.2 hll;obtain ⟨Z1,hZ1⟩:=ex (Z.alloc (.cells #[O ii t.a,O ii t.b,O ii 10] 88));rw [hZ1] at r1;have bZ1:Below Z.heap.size Z Z1:=hZ1▸zAh _ _;have cm1:=(zAi hIZ.b3 bZ1 hIZ.b3.lt).cell;have HN:Hid (Rq 178 x3 (.slice (some ⟨g,0,none⟩) PL.length lc) PL/\AcI w x3 gp kx ky w1.heap.size (L0++PL.take (i+1))/\KeepT 88 w1.heap.size Y x3/\x3.heap[1]? = Y.heap[1]?):=zAb ⟨q4 _ _ (hR.upto bZ),by rw [List.take_add_one,ht];simpa [List.append_assoc] using q1,hK.trans ((KeepT.of_below bZ).trans q2),(q3.trans (bZ.block 1 (by have:=hIr.sz;have:=Hsz.out;omega))).trans h0r⟩;obtain ⟨⟨f0,f1,f2,f3⟩,-,-⟩:=id F4;have HZ:=zAb hZ;have HZ1:=zAb hZ1;have HA:=zAb r2;have hki:(i:Int)<(PL.length:Nat):=by omega
    clear hR hIr hK h0r hZ hZ1 bZ bZ1 F4 hIZ q1 q2 q3 q4 r2 ht htm hll hfz;obtain ⟨tx,htx⟩:∃z,t.x=z:=⟨_,rfl⟩
    obtain ⟨ty,hty⟩:∃z,t.y=z:=⟨_,rfl⟩
    obtain ⟨ta,hta⟩:∃z,t.a=z:=⟨_,rfl⟩
    obtain ⟨tb,htb⟩:∃z,t.b=z:=⟨_,rfl⟩
    rw [htx,hty,hta,htb] at HZ;rw [hta,htb] at HZ1;rw [htx,hty] at r1;rw [htx] at a0 f0;rw [hty] at a1 f1;rw [hta] at a2 f2;rw [htb] at a3 f3;clear htx hty hta htb t;have Hb4:=zAb hB4;clear hB4 hpl hlt hlt2 hgl2;have hb8:PL.length<=8:=HPl.out;gi_wp2_with (rw [HZ.out]);rw [HZ1.out,r1];gi_wp2_with (gi_at_builtin;refine zB8 rfl _ _ 85 rfl _ _ rfl rfl HA.out ?_);go_roundw
    case rel=>exact ⟨i+1,by go_num,by omega,HN.out.1,HN.out.2.1,HN.out.2.2.1,HN.out.2.2.2⟩
    case measure=>simp only [intOf];omega
   ·have hi':i=PL.length:=by omega
    subst hi';rw [List.take_length] at hIr;have HF:=zAb (ai hK (ai h0r hIr));clear hR hIr hK h0r;gi_wp2_with fail;refine ⟨HF.out.1,HF.out.2.1,?_⟩;show AcI w wr gp kx ky w1.heap.size _;rw [HLP.out];exact HF.out.2.2
 case done =>
  rintro D xs Y hD rfl hI hK;rw [zUk HWH.out.1 HWH.out.2 Hall.out.2.2.2.2] at hI;have cv:=hI.b3.cell;have HI:=zAb hI;clear hI;gi_wp2_with fail;refine ⟨by simp,.inl ⟨_,_,rfl,run_takeDeferred hK,?_⟩⟩;have tp:Turns (fun k=>k=D) Y (Y.putObj D (.deferred none)):=zEs _ _ _ rfl;have hI':=HI.out.turned tp (fun k e=>by have:=HI.out.bel.size;omega) (by omega) (fun k o e ho=>by subst e;rw [hK] at ho;cases ho;rfl);obtain ⟨K,F,m1,m2,m3⟩:=hI'.ac;exact ⟨.map (some (w.heap.size+2)),by simp [results,Tryz.f77,go_sem],_,rfl,⟨K,F,⟨m1.mp,m1.rows,m1.apart,fun x y g e=>by have:=m1.own x y g e;omega⟩,m2,m3⟩,by omega,hI'.bel⟩
 case stop=>exact fun D pre Y hD hp h hK=>h.elim
end
section
section
variable {ev:Operand->Value} {o:Oper} {w w2:World}
theorem zFq {z:Value} {b:Nat} {K:List (Int×Int)} {F:Int->Int->Value} {t e:TypeId} (ht:pg.underlying t=some (.map 23 e)) (hz:(zeroValue e).run pg w = .ok z w) {m k:Operand} {x y:Int} (hx:W64 x) (hy:W64 y) (ho:o.op = .lookup t m k false) (hm:ev m = .map (some b)) (hk:ev k=cel x y) (h:MapS z w b K F) :
 (execOp ev o).run pg w = .ok (.value (F x y)) w:=by
 have hr:=h.look ht hz hx hy;unfold execOp;simp only [ho,hm,hk];simp only [Sem.run_bind,hr,Result.andThen];rfl
theorem zQt {x:Operand} {a:Option Addr} {n c:Nat} (ho:o.op = .call { callee:=.builtin .len,args:=#[x],argTypes:=#[34] }) (hx:ev x = .slice a n c):(execOp ev o).run pg w = .ok (.value (O ii (n:Nat))) w:=by
 unfold execOp;simp only [ho];simp [resolve,invoke,builtin,hx];go_simp
theorem zTw {t:TypeId} {m k:Operand} {mv kv:Value} (ho:o.op = .call { callee:=.builtin .delete,args:=#[m,k],argTypes:=#[t,23] }) (hm:ev m=mv) (hk:ev k=kv) (h:(Builtin.delete_ #[t,23] o.type #[mv,kv]).run pg w = .ok (.tuple #[]) w2):(execOp ev o).run pg w = .ok (.value (.tuple #[])) w2:=by
 unfold execOp;simp only [ho];simp [resolve,invoke,builtin,hm,hk,h,Result.andThen]
theorem zNv {t:TypeId} {m k x:Operand} {mv kv xv:Value} (ho:o.op = .mapUpdate t m k x) (hm:ev m=mv) (hk:ev k=kv) (hx:ev x=xv) (h:(Instr.mapUpdate t mv kv xv).run pg w = .ok () w2):(execOp ev o).run pg w = .ok .skip w2:=by
 unfold execOp;simp only [ho,hm,hk,hx];simp only [Sem.run_bind,h,Result.andThen];rfl
theorem zT2 {t:TypeId} {s x:Operand} {v xv v':Value} (ho:o.op = .call { callee:=.builtin .append,args:=#[s,x],argTypes:=#[t,t] }) (hs:ev s=v) (hx:ev x=xv) (h:(Builtin.append_ #[t,t] o.type #[v,xv]).run pg w = .ok v' w2):(execOp ev o).run pg w = .ok (.value v') w2:=by
 unfold execOp;simp only [ho];simp [resolve,invoke,builtin,hs,hx,h,Result.andThen]
end
section
variable {W H:Int} {tl:List Nat} {f:Int->Int->Option Int} {c s kx ky:Int}
theorem zQ4 {C:List Int} {ix iy iw:Int} {l:List (Int×Int)} {e:E3}:e∈zKn C ix iy iw l↔e.to∈l/\C[ij ix iy iw e.x e.y]? = some e.c/\0<e.c:=by
 unfold zKn;rw [List.mem_flatMap];constructor
 ·rintro ⟨q,hq,he⟩;unfold zO8 at he
  split at he
  ·rename_i m hm
   split at he
   ·rename_i h0;simp at he;subst he;exact ⟨hq,hm,h0⟩
   ·simp at he
  ·simp at he
 ·rintro ⟨h1,h2,h3⟩;refine ⟨e.to,h1,?_⟩;unfold zO8;simp only [E3.to];rw [h2];simp only;rw [if_pos h3];simp
theorem zOt {L:List Q4} {q:Int×Int} {e:E3}:e∈acE L q↔∃t∈L,t.A=q/\e=⟨t.a,t.b,10⟩:=by
 unfold acE;rw [List.mem_map];constructor
 ·rintro ⟨t,ht,rfl⟩;rw [List.mem_filter] at ht;exact ⟨t,ht.1,by simpa using ht.2,rfl⟩
 ·rintro ⟨t,ht,h1,rfl⟩;exact ⟨t,List.mem_filter.2 ⟨ht,by simpa using h1⟩,rfl⟩
theorem qAl (hW:1<=W/\W<=128) (hH:1<=H/\H<=128) (hr:rB W H kx ky=true) {q:Int×Int} (h1:q.1/8=kx/\q.2/8=ky) (h2:(0<=q.1/\q.1<W)/\0<=q.2/\q.2<H):inB (kx*8) (ky*8) (rS W kx) (rS H ky) q:=by
 obtain ⟨hx,hy⟩:=(zDf hW hH).1 hr;unfold inB rS;omega
theorem Nd.inB' (hW:1<=W/\W<=128) (hH:1<=H/\H<=128) (hS:∀u v,stB W H tl f c s u v=true->(0<=u/\u<W)/\0<=v/\v<H) (hr:rB W H kx ky=true) {q:Int×Int} (h:Nd (stB W H tl f c s) W H kx ky q):inB (kx*8) (ky*8) (rS W kx) (rS H ky) q:=by
 obtain ⟨h1,h2⟩:=h.in hW hH hS;exact qAl hW hH hr h1 (hS _ _ h2)
theorem zRy (hW:1<=W/\W<=128) (hH:1<=H/\H<=128) (hS:∀u v,stB W H tl f c s u v=true->(0<=u/\u<W)/\0<=v/\v<H) (hr:rB W H kx ky=true) {NL:List (Int×Int)} (hN:IsN (stB W H tl f c s) W H kx ky NL) {q:Int×Int} {C:List Int} (hT:Tbl W H tl f c s (kx*8) (ky*8) (rS W kx) (rS H ky) q C)
 {M:List E3} (hp:M.Perm (acE (acL (stB W H tl f c s) W H kx ky) q++zKn C (kx*8) (ky*8) (rS W kx) NL)) (hs:zQd M):IsE W H tl f c s kx ky q M:=by
 have hin:∀e:E3,e∈zKn C (kx*8) (ky*8) (rS W kx) NL↔(Nd (stB W H tl f c s) W H kx ky e.to/\e.to≠q/\∃n:Nat,e.c=(n:Int)/\Std W H tl f c s (kx*8) (ky*8) (rS W kx) (rS H ky) q/\Least (zAx W H tl f c s (kx*8) (ky*8) (rS W kx) (rS H ky)) q e.to n):=fun e=>by
  rw [zQ4,hN.2];constructor
  ·rintro ⟨h1,h2,h3⟩;rcases hT.2 e.to (h1.inB' hW hH hS hr) with ⟨n,k1,-,k2,k3⟩|⟨k1,-⟩
   ·rw [show C[ij (kx*8) (ky*8) (rS W kx) e.to.1 e.to.2]? = C[ij (kx*8) (ky*8) (rS W kx) e.x e.y]? from rfl,h2] at k1;have k1:=Option.some.inj k1;refine ⟨h1,fun e1=>?_,n,k1,k2,k3⟩;rw [e1] at k3;have:=k3.2 0 (.nil _);omega
   ·rw [show C[ij (kx*8) (ky*8) (rS W kx) e.to.1 e.to.2]? = C[ij (kx*8) (ky*8) (rS W kx) e.x e.y]? from rfl,h2] at k1;have k1:=Option.some.inj k1;omega
  ·rintro ⟨h1,h2,n,h3,h4,h5⟩;rcases hT.2 e.to (h1.inB' hW hH hS hr) with ⟨m,k1,-,k2,k3⟩|⟨-,k2⟩
   ·have hmn:m=n:=k3.eq h5;subst hmn;refine ⟨h1,by rw [h3];exact k1,?_⟩;rw [h3];rcases Nat.eq_zero_or_pos m with e0|e0
    ·exact absurd (Wk.zero h5.1 e0) (fun q=>h2 q.symm)
    ·omega
   ·exact absurd ⟨h4,h5.1⟩ (k2 n)
 have hmem:∀e,e∈M↔Ed W H tl f c s kx ky q e:=fun e=>by
  rw [hp.mem_iff,List.mem_append,zOt,hin];rfl
 refine ⟨zWy hs ?_,hmem⟩;refine (hp.map E3.to).nodup_iff.2 ?_;rw [List.map_append,List.nodup_append];refine ⟨?_,?_,?_⟩
 ·unfold acE;rw [List.map_map,List.nodup_iff_pairwise_ne,List.pairwise_map];refine List.Pairwise.imp_of_mem ?_ ((zP6 (kx:=kx) (ky:=ky) hW hH hS).filter _);intro t t' ht ht' h e;rw [List.mem_filter] at ht ht';have h1:t.A=q:=by simpa using ht.2
  have h2:t'.A=q:=by simpa using ht'.2
  exact h (h1.trans h2.symm) e
 ·unfold zKn;rw [List.nodup_iff_pairwise_ne,List.pairwise_map,List.pairwise_flatMap]
  have hone:∀r:Int×Int,(zO8 C (kx*8) (ky*8) (rS W kx) r).Pairwise (fun a b=>a.to≠b.to)/\∀e∈zO8 C (kx*8) (ky*8) (rS W kx) r,e.to=r:=fun r=>by
   unfold zO8
   split
   ·split
    ·exact ⟨by simp,fun e he=>by simp at he;subst he;rfl⟩
    ·exact ⟨List.Pairwise.nil,fun e he=>by simp at he⟩
   ·exact ⟨List.Pairwise.nil,fun e he=>by simp at he⟩
  refine ⟨fun r _=>(hone r).1,?_⟩;refine List.Pairwise.imp ?_ hN.1.nodup;intro a b hab x hx y hy e;exact hab (((hone a).2 x hx).symm.trans (e.trans ((hone b).2 y hy)))
 ·intro a ha b hb e;obtain ⟨x,hx,rfl⟩:=List.mem_map.1 ha;obtain ⟨y,hy,rfl⟩:=List.mem_map.1 hb;obtain ⟨t,ht,-,rfl⟩:=zOt.1 hx;have h1:=((hin y).1 hy).1.in hW hH hS;obtain ⟨d,hd,ht⟩:=zKf.1 ht;obtain ⟨-,-,h2,-⟩:=zC6 hW hH hS hd ht;rw [<-e] at h1;simp only [E3.to] at h1;have:∀d:Fin 4,¬(dX d.val=0/\dY d.val=0):=by decide
  exact this ⟨d,hd⟩ ⟨by simp only;omega,by simp only;omega⟩
end
end
section
def En (w:World) (p:Nat) (W H:Int) (tl:List Nat) (f:Int->Int->Option Int):Prop:=Wl w p W H tl f/\Grnd w/\Offs w
def MO (S:Nat->Prop) (w:World) (p:Nat):Prop:=∀k,k<w.heap.size->S k->(∃es cl,w.heap[k]? = some (.map es cl))/\w.cell? ⟨p,6,none⟩≠some (.map (some k))
section
variable {w w':World} {p:Nat} {W H:Int} {tl:List Nat} {f:Int->Int->Option Int} {S:Nat->Prop}
theorem MO.cells (h:MO S w p) {k:Nat} {cs:Array Value} {t:Nat} {fz:Nat×Nat} (hk:w.heap[k]? = some (.cells cs t fz)):¬S k:=fun hs=>by
 obtain ⟨⟨es,cl,e⟩,-⟩:=h k (gE.1 hk).1 hs;rw [hk] at e;cases e
theorem zT5 {e k n:Nat} {v:Value} {xs:List Value} (h:w.ownsRow 0 e k v n xs) {g:Nat} (hg:v.ownBlock=some g):∃cur,w.heap[g]? = some (.cells cur e (0,0)):=by
 rcases h.2 with ⟨e,-⟩|⟨g',cap,cur,e,-,hc,-⟩
 ·rw [e] at hg;cases hg
 ·rw [e] at hg;cases hg;exact ⟨cur,hc⟩
theorem En.turned (h:En w p W H tl f) (T:Turns S w w') (hm:MO S w p):En w' p W H tl f:=by
 obtain ⟨⟨h0,bm,n,tv,bv,ev,h1,h2,h3⟩,hg,ho⟩:=h;refine ⟨⟨h0,bm,n,tv,bv,ev,h1.kept T (hm.cells h1),h2.kept T (fun g e=>?_),h3.kept T (fun e=>?_)⟩,⟨Nat.lt_of_lt_of_le hg.1 T.size,fun k hk=>?_⟩,⟨Nat.lt_of_lt_of_le ho.1 T.size,fun k hk=>?_⟩⟩
 ·obtain ⟨cur,hc⟩:=zT5 h2 e;exact hm.cells hc
 ·have:=(hm bm h3.lt e).2;rw [h1.c 6] at this;exact this rfl
 ·have hc:=hg.2 k hk;refine T.cell (fun e=>?_) hc;obtain ⟨⟨es,cl,q⟩,-⟩:=hm 0 hg.1 e;simp [World.cell?,q] at hc
 ·obtain ⟨c1,c2⟩:=ho.2 k hk
  have hn:¬S 1:=fun e=>by
   obtain ⟨⟨es,cl,q⟩,-⟩:=hm 1 ho.1 e;simp [World.cell?,q] at c1
  exact ⟨T.cell hn c1,T.cell hn c2⟩
theorem En.upto (h:En w p W H tl f) (hb:Below w.heap.size w w'):En w' p W H tl f:=⟨h.1.kept hb,h.2.1.kept hb,h.2.2.kept hb⟩
theorem En.six (h:En w p W H tl f):∃bm,w.cell? ⟨p,6,none⟩=some (.map (some bm))/\bm<w.heap.size/\p<w.heap.size:=by
 obtain ⟨⟨h0,bm,n,tv,bv,ev,h1,h2,h3⟩,hg,ho⟩:=h;exact ⟨bm,by rw [h1.c 6];rfl,h3.lt,h1.lt⟩
theorem En.pblk (h:En w p W H tl f):∃cs,w.heap[p]? = some (.cells cs 93 (0,0)):=by
 obtain ⟨⟨h0,bm,n,tv,bv,ev,h1,h2,h3⟩,hg,ho⟩:=h;exact ⟨_,h1⟩
end
structure GS (w:World) (gp p:Nat) (c s ep:Int) (wb eb:Nat) (KW:List (Int×Int)) (LW:Int×Int->List (Int×Int)) (KE:List (Int×Int)) (LE:Int×Int->List E3):Prop where
 g:Gp w gp p c s ep wb eb
 ne:wb≠eb
 nw:w.cell? ⟨p,6,none⟩≠some (.map (some wb))/\w.cell? ⟨p,6,none⟩≠some (.map (some eb))
 wm:∃FW,MapS zC8 w wb KW FW/\∀x y,RC w (FW x y) (LW (x,y))
 em:∃FE,MapS zC8 w eb KE FE/\∀x y,RE w (FE x y) (LE (x,y))
section
variable {w w':World} {gp p:Nat} {c s ep:Int} {wb eb:Nat} {KW:List (Int×Int)} {LW:Int×Int->List (Int×Int)} {KE:List (Int×Int)} {LE:Int×Int->List E3}
theorem GS.wblk (h:GS w gp p c s ep wb eb KW LW KE LE):∃es cl,w.heap[wb]? = some (.map es cl):=by obtain ⟨F,m,-⟩:=h.wm;exact m.blk
theorem GS.eblk (h:GS w gp p c s ep wb eb KW LW KE LE):∃es cl,w.heap[eb]? = some (.map es cl):=by obtain ⟨F,m,-⟩:=h.em;exact m.blk
theorem GS.mo (h:GS w gp p c s ep wb eb KW LW KE LE):MO (fun k=>k=wb\/k=eb) w p:=fun k _ hk=>by
 rcases hk with rfl|rfl
 ·exact ⟨h.wblk,h.nw.1⟩
 ·exact ⟨h.eblk,h.nw.2⟩
theorem GS.upto (h:GS w gp p c s ep wb eb KW LW KE LE) (hb:Below w.heap.size w w') (hp:p<w.heap.size):GS w' gp p c s ep wb eb KW LW KE LE:=by
 have hc:w'.cell? ⟨p,6,none⟩=w.cell? ⟨p,6,none⟩:=hb.cell (p:=⟨p,6,none⟩) hp;obtain ⟨FW,m1,m2⟩:=h.wm;obtain ⟨FE,m3,m4⟩:=h.em;exact ⟨h.g.upto hb,h.ne,by rw [hc];exact h.nw,⟨FW,m1.upto hb,fun x y=>(m2 x y).upto hb⟩,FE,m3.upto hb,fun x y=>(m4 x y).upto hb⟩
end
def zSf (LW:Int×Int->List (Int×Int)) (k:Int×Int) (NL:List (Int×Int)):Int×Int->List (Int×Int):=fun q=>if q=k then NL else LW q
theorem zBg {w:World} {b g t:Nat} {cur:Array Value} {fz:Nat×Nat} (hb:∃es cl,w.heap[b]? = some (.map es cl)) (hg:w.heap[g]? = some (.cells cur t fz)):g≠b:=by
 rintro rfl;obtain ⟨es,cl,e⟩:=hb;rw [hg] at e;cases e
end
theorem zTz:Rcl 79:=zl fun _ _=>by go_simp
structure Del (X wr:World) (eb:Nat) (KE:List (Int×Int)) (FE:Int->Int->Value) (OL:List (Int×Int)) (i:Nat):Prop where
 T:Turns (fun k=>k=eb) X wr
 m:∃K F,MapS zC8 wr eb K F/\(∀q,q∈K↔q∈KE/\q ∉ OL.take i)/\(∀x y,F x y=if (x,y)∈OL.take i then zC8 else FE x y)/\K.length<=KE.length
theorem Del.step {X wr Y:World} {eb:Nat} {KE:List (Int×Int)} {FE:Int->Int->Value} {OL:List (Int×Int)} {i:Nat} (h:Del X wr eb KE FE OL i) (hb:Below wr.heap.size wr Y) {q:Int×Int} (hq:OL[i]? = some q) (h1:W64 q.1) (h2:W64 q.2) (ty:TypeId) :
 ∃Z,(Builtin.delete_ #[31,23] ty #[.map (some eb),cel q.1 q.2]).run pg Y = .ok (.tuple #[]) Z/\Del X Z eb KE FE OL (i+1):=by
 obtain ⟨K,F,m1,m2,m3,m4⟩:=h.m;obtain ⟨Z,r,mZ,gZ⟩:=(m1.upto hb).drop Tryz.underlying31 h1 h2 ty;have TZ:Turns (fun k=>k=eb) Y Z:=Turns.of_grown gZ (fun k e=>by cases e;rfl);have htk:∀r,r∈OL.take (i+1)↔r∈OL.take i\/r=q:=fun r=>by rw [List.take_add_one,hq];simp
 refine ⟨Z,r,h.T.trans (((Turns.of_below hb).trans (TZ.mono (fun k _ e => .inl e))).mono (fun k _ e => .inl e)),_,_,mZ,fun r=>?_,fun x y=>?_,?_⟩
 ·rw [m1.nodup.mem_erase_iff,m2,htk];constructor
  ·rintro ⟨a,b,c⟩;exact ⟨b,fun e=>e.elim c a⟩
  ·rintro ⟨b,c⟩;exact ⟨fun e=>c (.inr e),b,fun e=>c (.inl e)⟩
 ·unfold zC1;rw [m3]
  by_cases e:x=q.1/\y=q.2
  ·rw [if_pos e,if_pos ((htk _).2 (.inr (by rw [e.1,e.2])))]
  ·rw [if_neg e]
   by_cases e2:(x,y)∈OL.take i
   ·rw [if_pos e2,if_pos ((htk _).2 (.inl e2))]
   ·rw [if_neg e2,if_neg (fun k=>((htk _).1 k).elim e2 (fun k=>e ⟨by rw [<-k],by rw [<-k]⟩))]
 ·have:=List.length_erase_le (a:=(q.1,q.2)) (l:=K);omega
structure Rk (w0 w3 wr:World) (eb:Nat) (FA:Int->Int->Value) (AE:Int×Int->List E3) (NL:List (Int×Int)) (KE1:List (Int×Int)) (LE1:Int×Int->List E3) (Ok:Int×Int->List E3->Prop) (i:Nat):Prop where
 T:Turns (fun k=>k=eb\/∃x y,(FA x y).ownBlock=some k) w3 wr
 m:∃(K:List (Int×Int)) (F:Int->Int->Value) (LE:Int×Int->List E3),MapS zC8 wr eb K F/\(∀q,q∈K↔q∈KE1\/q∈NL.take i)/\K.length<=KE1.length+i/\(∀x y,RE wr (F x y) (LE (x,y)))/\(∀x y g,(F x y).ownBlock=some g->g<w0.heap.size\/(FA x y).ownBlock=some g\/w3.heap.size<=g)/\
   (∀q∈NL.take i,Ok q (LE q))/\∀q,q ∉ NL.take i->LE q=LE1 q
 ra:∀j q,i<=j->NL[j]? = some q->RE wr (FA q.1 q.2) (AE q)
theorem Rk.step {w0 w3 wr w6:World} {eb:Nat} {FA:Int->Int->Value} {AE:Int×Int->List E3} {NL:List (Int×Int)} {KE1:List (Int×Int)} {LE1:Int×Int->List E3} {Ok:Int×Int->List E3->Prop} {i:Nat} (h:Rk w0 w3 wr eb FA AE NL KE1 LE1 Ok i)
 (hnd:NL.Nodup) {q:Int×Int} (hq:NL[i]? = some q) (hap:∀x y u v g,(FA x y).ownBlock=some g->(FA u v).ownBlock=some g->x=u/\y=v) (hao:∀x y g,(FA x y).ownBlock=some g->w0.heap.size<=g/\g<w3.heap.size)
 (T6:Turns (fun k=>(FA q.1 q.2).ownBlock=some k) wr w6) {v:Value} {M:List E3} (hv:RE w6 v M) (hvo:∀g,v.ownBlock=some g->(FA q.1 q.2).ownBlock=some g\/wr.heap.size<=g) (hok:Ok q M) (hneq:∀x y,(FA x y).ownBlock≠some eb) (hebl:eb<w3.heap.size) (h1:W64 q.1) (h2:W64 q.2) (hlen:KE1.length+i<100000000) :
 ∃w8,(Instr.mapUpdate 31 (.map (some eb)) (cel q.1 q.2) v).run pg w6 = .ok () w8/\Rk w0 w3 w8 eb FA AE NL KE1 LE1 Ok (i+1):=by
 obtain ⟨K,F,LE,m1,m2,m3,m4,m5,m6,m7⟩:=h.m;have hs3:=h.T.size;have m16:MapS zC8 w6 eb K F:=m1.kept T6 (hneq _ _);obtain ⟨w8,r,m8,g8⟩:=m16.put Tryz.underlying31 h1 h2 (zIc hv) (by unfold maxLen;omega);have T8:Turns (fun k=>k=eb) w6 w8:=Turns.of_grown g8 (fun k e=>by cases e;rfl);have TA:Turns (fun k=>k=eb\/(FA q.1 q.2).ownBlock=some k) wr w8:=(T6.mono (fun k _ e => .inr e)).trans (T8.mono (fun k _ e => .inl (.inl e)))
 have hve:∀g,v.ownBlock=some g->g≠eb:=fun g e=>by
  obtain ⟨cur,hc⟩:=hv.blk e;exact zBg m16.blk hc
 have hFe:∀x y g,(F x y).ownBlock=some g->g≠eb:=fun x y g e=>by
  obtain ⟨cur,hc⟩:=(m4 x y).blk e;exact zBg m1.blk hc
 have htk:∀r,r∈NL.take (i+1)↔r∈NL.take i\/r=q:=fun r=>by rw [List.take_add_one,hq];simp
 refine ⟨w8,r,h.T.trans (TA.mono (fun k _ e => .inl (e.imp id (fun e=>⟨_,_,e⟩)))),⟨_,_,fun r=>if r=q then M else LE r,m8,fun r=>?_,?_,fun x y=>?_,fun x y g e=>?_,fun r hr=>?_,fun r hr=>?_⟩,fun j r hj hr=>?_⟩
 ·rw [zCq,m2,htk,or_assoc]
 ·unfold zDh
  split
  ·omega
  ·rw [List.length_append,List.length_singleton];omega
 ·show RE w8 (zC1 F q.1 q.2 v x y) (if (x,y)=q then M else LE (x,y));unfold zC1
  by_cases e:x=q.1/\y=q.2
  ·rw [if_pos e,if_pos (show (x,y)=q by rw [e.1,e.2])];exact hv.kept T8 (fun g e=>hve g e)
  ·rw [if_neg e,if_neg (fun k=>e ⟨by rw [<-k],by rw [<-k]⟩)];refine (m4 x y).kept TA (fun g e1 e2=>?_);rcases e2 with e2|e2
   ·exact hFe x y g e1 e2
   ·have h9:=hao _ _ _ e2;rcases m5 x y g e1 with q1|q1|q1
    ·omega
    ·exact e (hap _ _ _ _ _ q1 e2)
    ·omega
 ·unfold zC1 at e
  by_cases e1:x=q.1/\y=q.2
  ·rw [if_pos e1] at e;rcases hvo g e with q1|q1
   ·exact .inr (.inl (by rw [e1.1,e1.2];exact q1))
   ·exact .inr (.inr (by omega))
  ·rw [if_neg e1] at e;exact m5 x y g e
 ·simp only
  by_cases e:r=q
  ·rw [if_pos e,e];exact hok
  ·rw [if_neg e];exact m6 r (((htk r).1 hr).resolve_right e)
 ·simp only;have hr':r ∉ NL.take i/\r≠q:=⟨fun e=>hr ((htk r).2 (.inl e)),fun e=>hr ((htk r).2 (.inr e))⟩
  rw [if_neg hr'.2];exact m7 r hr'.1
 ·have hne:r≠q:=fun e=>by
   subst e;have hi:=(List.getElem?_eq_some_iff.1 hq)
   have hj':=(List.getElem?_eq_some_iff.1 hr)
   exact List.pairwise_iff_getElem.1 hnd i j hi.1 hj'.1 (by omega) (hi.2.trans hj'.2.symm)
  refine (h.ra j r (by omega) hr).kept TA (fun g e1 e2=>?_);rcases e2 with e2|e2
  ·subst e2;exact hneq _ _ e1
  ·obtain ⟨e3,e4⟩:=hap _ _ _ _ _ e1 e2;exact hne (Prod.ext e3 e4)
def zTc (w w':World) (gp p:Nat) (c s ep:Int) (wb eb:Nat) (KW:List (Int×Int)) (LW:Int×Int->List (Int×Int)) (KE:List (Int×Int)) (LE:Int×Int->List E3) (W H:Int) (tl:List Nat) (f:Int->Int->Option Int) (kx ky:Int):Prop:=
 ∃(NL KW' KE':List (Int×Int)) (LE':Int×Int->List E3),IsN (stB W H tl f c s) W H kx ky NL/\NL.length<=32/\GS w' gp p c s ep wb eb KW' (zSf LW (kx,ky) NL) KE' LE'/\(∀q∈NL,IsE W H tl f c s kx ky q (LE' q))/\(∀q,q ∉ NL->q∈LW (kx,ky)->LE' q=[])/\(∀q,q ∉ NL->q ∉ LW (kx,ky)->LE' q=LE q)/\
  (∀q,q∈KE'↔(q∈KE/\q ∉ LW (kx,ky))\/q∈NL)/\(KW'.length<=KW.length+1/\∀k∈KW',k∈KW\/k=(kx,ky))/\KE'.length<=KE.length+32/\Turns (fun k=>k=wb\/k=eb) w w'
theorem zP5 {S:Int->Int->Bool} {W H kx ky:Int}:(acL S W H kx ky).length<=32:=by
 have h:∀d,(zFa S W H kx ky d).length<=8:=fun d=>zH6 d;unfold acL;simp only [List.flatMap_cons,List.flatMap_nil,List.length_append,List.length_nil];have:=h 0;have:=h 1;have:=h 2;have:=h 3;omega
theorem zN4 {w:World} {gp p:Nat} {c s ep:Int} {wb eb:Nat} {KW:List (Int×Int)} {LW:Int×Int->List (Int×Int)} {KE:List (Int×Int)} {LE:Int×Int->List E3} {W H:Int} {tl:List Nat} {f:Int->Int->Option Int} (hGS:GS w gp p c s ep wb eb KW LW KE LE) (hE:En w p W H tl f) (hS:∀u v,stB W H tl f c s u v=true->(0<=u/\u<W)/\0<=v/\v<H)
 (kx ky:Int) (hkx:W64 kx) (hky:W64 ky) (hL64:∀q∈LW (kx,ky),W64 q.1/\W64 q.2) (hLl:(LW (kx,ky)).length<=1000) (hKW:KW.length<=1000000) (hKE:KE.length<=1000000) :
 Calls pg 40 #[ptr gp,cel kx ky] w fun e w'=>e = .returned (.tuple #[])/\zTc w w' gp p c s ep wb eb KW LW KE LE W H tl f kx ky:=by
 obtain ⟨hW,hH⟩:=hE.1.sides;obtain ⟨bm,-,-,hpl⟩:=hE.six;obtain ⟨FW,mW,rW⟩:=hGS.wm;obtain ⟨FE,mE,rE⟩:=hGS.em;obtain ⟨X,hX⟩:=ex (w.alloc (.cells #[O ii kx,O ii ky] 23));have B0:Below w.heap.size w X:=hX▸zAh _ _;have oX:X.heap[w.heap.size]? = some (.cells #[O ii kx,O ii ky] 23 (0,0)):=hX▸heap_alloc_new w _;have zX:X.heap.size=w.heap.size+1:=by rw [<-hX];simp
 obtain ⟨wa,wc,hFW⟩:=zBk (rW kx ky);obtain ⟨OL,hOL⟩:=ex (LW (kx,ky));rw [hOL] at hFW hL64 hLl
 have rOL:RC X (.slice wa OL.length wc) OL:=by
  have:=(rW kx ky).upto B0;rw [hFW,hOL] at this;exact this
 have hd:Below X.heap.size X X.drew:=⟨rfl,rfl,rfl,Nat.le_refl _,fun _ _=>rfl⟩
 have gX:=hGS.g.upto B0;have c4:=(gX.upto hd).c4;have e0:X.drew.cell? ⟨w.heap.size,0,none⟩=some (O ii kx):=by rw [cell_of_row X.drew _ 0 _ _ _ oX];rfl
 have e1:X.drew.cell? ⟨w.heap.size,1,none⟩=some (O ii ky):=by rw [cell_of_row X.drew _ 1 _ _ _ oX];rfl
 have HS:(X.drew.cell? ⟨gp,4,none⟩=some (.map (some wb))/\X.drew.cell? ⟨w.heap.size,0,none⟩=some (O ii kx)/\X.drew.cell? ⟨w.heap.size,1,none⟩=some (O ii ky))/\MapS zC8 X.drew wb KW FW:=⟨⟨c4,e0,e1⟩,(mW.upto B0).upto hd⟩
 have mEX:=mE.upto B0;have hel:=mE.lt;have hwl:=mW.lt;have hgl:=hGS.g.lt;have Hst:=zAb (ai hGS (ai hE (ai mW (ai rW (ai mEX rE)))));have HX:=zAb hX;have HB:=zAb (ai B0 (ai oX gX));have HR:=zAb rOL;have Hnum:=zAb (ai hW (ai hH (ai trivial (ai hS (ai hKW hKE)))));have HL:=zAb hL64;have Hsz:=zAb (ai zX (ai hel (ai hwl (ai hgl hpl))));have HW64:=zAb (ai hkx hky);have HO:=zAb (ai hOL hFW);clear B0 oX hd gX c4 e0 e1 mEX hX hGS hE mW rW mE rE rOL hW hH hS hKW hKE hL64 zX hel hwl hgl hpl hFW hOL hkx hky;go_enter func40,ntmps40;go_wp2_with (rw [HX.out]);refine zAj ?_;refine zAe (fun wx:World=>(wx.cell? ⟨gp,4,none⟩=some (.map (some wb))/\wx.cell? ⟨w.heap.size,0,none⟩=some (O ii kx)/\wx.cell? ⟨w.heap.size,1,none⟩=some (O ii ky))/\MapS zC8 wx wb KW FW) [] (by kernel_rfl) ?_;refine zv 0 5 8 [ptr gp,ptr gp,.pointer (some ⟨gp,4,none⟩),.map (some wb),cel kx ky] rfl rfl (by kernel_rfl) HS ?_;repeat (refine zc rfl (by rfl) (fun wx hx=>by go_simp) ?_;simp only [zp])
 refine zn ?_;refine zt 5 8 (.slice wa OL.length wc) rfl (by kernel_rfl) (by rfl) (fun wx hx=>by rw [<-HO.out.2];exact zFq Tryz.underlying30 (by kernel_rfl) HW64.out.1 HW64.out.2 (by rfl) (by rfl) (by rfl) hx.2) HS ?_;try simp only [zp]
 refine zt 6 8 (O ii (OL.length:Nat)) rfl (by kernel_rfl) (by rfl) (fun wx hx=>zQt (by rfl) (by rfl)) HS ?_;try simp only [zp]
 refine zm 7 8 (O ii 0) rfl (by kernel_rfl) (by rfl) rfl (by rfl) HS ?_;try simp only [zp]
 refine zAd (by kernel_rfl) ?_ _;dsimp only [zAv,Exit.then];have hd:Below X.heap.size X X.drew:=⟨rfl,rfl,rfl,Nat.le_refl _,fun _ _=>rfl⟩
 have D0:Hid (Del X X.drew eb KE FE OL 0):=zAb ⟨Turns.of_below hd,KE,FE,Hst.out.2.2.2.2.1.upto hd,fun q=>by simp,fun x y=>by simp,Nat.le_refl _⟩;clear HS hd;go_wp2_with fail;go_loopw [18] (fun v wr=>∃i:Nat,v = O ii (i:Nat)/\i<=OL.length/\Del X wr eb KE FE OL i) (fun v _=>OL.length-(intOf v).toNat)
 case atStart=>exact ⟨0,rfl,Nat.zero_le _,D0.out⟩
 case round =>
  obtain ⟨i,rfl,hi,hD⟩:=hrel;have hTs:=hD.T.size;have hneb:∀{g:Nat} {cur:Array Value} {t:Nat},X.heap[g]? = some (.cells cur t (0,0))->g≠eb:=fun hg=>zBg Hst.out.2.2.2.2.1.blk hg
  by_cases hlt:i<OL.length
  ·obtain ⟨q,hq⟩:∃q,OL[i]? = some q:=⟨_,List.getElem?_eq_getElem hlt⟩
   have hq64:=HL.out q (List.mem_of_getElem? hq);have rr:=HR.out.kept hD.T (fun g e=>by obtain ⟨cur,hc⟩:=HR.out.blk e;exact hneb hc);obtain ⟨gn,rfl,hgn,n0,n1⟩:=zWh rr hq;obtain ⟨qx,qy⟩:=q;obtain ⟨Y,hY⟩:=ex (wr.alloc (.cells #[O ii qx,O ii qy] 23));have bY:Below wr.heap.size wr Y:=hY▸zAh _ _;have TY:Two Y wr.heap.size qx qy:=by rw [<-hY];exact Two.newAt rfl
   have hdY:Below Y.heap.size Y Y.drew:=⟨rfl,rfl,rfl,Nat.le_refl _,fun _ _=>rfl⟩
   obtain ⟨Z,rZ,DZ⟩:=hD.step (bt bY hdY) hq hq64.1 hq64.2 0;have g5:=((HB.out.2.2.kept hD.T (hneb HB.out.2.2)).upto (bt bY hdY)).c5;obtain ⟨⟨t0,t1⟩,-,-⟩:=id TY;have HS:Y.drew.cell? ⟨gp,5,none⟩=some (.map (some eb))/\Y.drew.cell? ⟨wr.heap.size,0,none⟩=some (O ii qx)/\Y.drew.cell? ⟨wr.heap.size,1,none⟩=some (O ii qy):=⟨g5,t0,t1⟩
   have HY:=zAb hY;have HZ:=zAb (ai rZ DZ);have hki:(i:Int)<(OL.length:Nat):=by omega
   simp only at n0 n1;have hll:=hLl;clear hD rr bY TY hdY rZ DZ g5 t0 t1 hY hq hq64 hgn hneb hTs hlt;go_wp2_with (rw [HY.out]);refine zAj ?_;refine zAe (fun wx:World=>wx.cell? ⟨gp,5,none⟩=some (.map (some eb))/\wx.cell? ⟨wr.heap.size,0,none⟩=some (O ii qx)/\wx.cell? ⟨wr.heap.size,1,none⟩=some (O ii qy)) [5] (by kernel_rfl) ?_;refine zv 0 5 8 [ptr gp,ptr gp,.pointer (some ⟨gp,5,none⟩),.map (some eb),cel qx qy] rfl rfl (by kernel_rfl) HS ?_;repeat (refine zc rfl (by rfl) (fun wx hx=>by go_simp) ?_;simp only [zp])
   refine zn ?_;refine zq 5 (by kernel_rfl) rfl rfl (zTw (by rfl) (by rfl) (by rfl) HZ.out.1) (fun h=>absurd (by decide) h) ?_;try simp only [zp]
   refine zAd (by kernel_rfl) ?_ _;dsimp only [zAv,Exit.then];clear HS;go_wp2_with fail;go_roundw
   case rel=>exact ⟨i+1,by go_num,by omega,HZ.out.2⟩
   case measure=>simp only [intOf];omega
  ·have hi':i=OL.length:=by omega
   subst hi';obtain ⟨KE1,FE1,m1,m2,m3,m4⟩:=hD.m;rw [List.take_length] at m2 m3;have hTw:Turns (fun k=>k=eb) w wr:=(Turns.of_below HB.out.1).trans (hD.T.mono (fun k _ e => .inl e));have gr:=Hst.out.1.g.kept hTw (zBg Hst.out.1.eblk Hst.out.1.g);have hmo:MO (fun k=>k=eb) w p:=fun k hk e=>Hst.out.1.mo k hk (.inr e);have Er:=Hst.out.2.1.turned hTw hmo;have HA:=zAb (zP4 gr Er.1 Er.2.1 Er.2.2 Hnum.out.2.2.2.1 kx ky);have or:=hD.T.same (zBg Hst.out.2.2.2.2.1.blk HB.out.2.1) HB.out.2.1;have e0:wr.cell? ⟨w.heap.size,0,none⟩=some (O ii kx):=by rw [cell_of_row wr _ 0 _ _ _ or];rfl
   have e1:wr.cell? ⟨w.heap.size,1,none⟩=some (O ii ky):=by rw [cell_of_row wr _ 1 _ _ _ or];rfl
   have Hr:=zAb (ai m1 (ai m2 (ai m3 (ai m4 (ai hTw (ai gr (ai Er or)))))));have hws:=hTw.size;clear hD m1 m2 m3 m4 hTw gr hmo Er or hneb hTs D0 HR;go_wp2_with fail;refine HA.out.mono ?_;rintro e w2 ⟨mb,rfl,⟨KA,FA,hA,hKA,hKl⟩,hmb,hb2⟩;have hKl2:KA.length<=32:=Nat.le_trans hKl zP5;have HIo:=zAb (zU9 hA.mp (by omega));have HA2:=zAb (ai hA (ai hKA (ai hmb hb2)));clear hA hKA hKl hmb hb2 e0 e1 HA;go_wp2_with fail;refine HIo.out.mono ?_;rintro e w3 ⟨nv,NL,rfl,hpm,hst,hRN,hno,hb3⟩;obtain ⟨na,nc,hnv⟩:=zBk hRN;subst hnv;have hNl:NL.length<=32:=by rw [hpm.length_eq];exact hKl2
   have hIN:IsN (stB W H tl f c s) W H kx ky NL:=⟨zWz hst (hpm.nodup_iff.2 HA2.out.1.mp.nodup),fun q=>by rw [hpm.mem_iff,HA2.out.2.1];rfl⟩
   have hb23:=bt HA2.out.2.2.2 hb3;have A3:=HA2.out.1.upto hb3;have m13:=Hr.out.1.upto hb23
   have R0:Rk w w3 w3 eb FA (acE (acL (stB W H tl f c s) W H kx ky)) NL KE1 (fun q=>if q∈OL then [] else LE q) (IsE W H tl f c s kx ky) 0:=by
    refine ⟨Turns.refl _ _,⟨KE1,FE1,_,m13,fun q=>by simp,Nat.le_refl _,fun x y=>?_,fun x y g e=>?_,fun q hq=>by simp at hq,fun q _=>rfl⟩,fun j q _ _=>A3.rows _ _⟩
    ·rw [Hr.out.2.2.1]
     by_cases e:(x,y)∈OL
     ·rw [if_pos e];show RE w3 zC8 (if (x,y)∈OL then [] else LE (x,y));rw [if_pos e];exact Rw.nil _ _ _ _
     ·rw [if_neg e];show RE w3 (FE x y) (if (x,y)∈OL then [] else LE (x,y));rw [if_neg e];refine ((Hst.out.2.2.2.2.2 x y).kept Hr.out.2.2.2.2.1 (fun g e=>?_)).upto hb23;obtain ⟨cur,hc⟩:=(Hst.out.2.2.2.2.2 x y).blk e;exact zBg Hst.out.1.eblk hc
    ·rw [Hr.out.2.2.1] at e
     by_cases e1:(x,y)∈OL
     ·rw [if_pos e1] at e;cases e
     ·rw [if_neg e1] at e;obtain ⟨cur,hc⟩:=(Hst.out.2.2.2.2.2 x y).blk e;exact .inl (gE.1 hc).1
   have hao:∀x y g,(FA x y).ownBlock=some g->wr.heap.size<=g/\g<w3.heap.size:=fun x y g e=>⟨HA2.out.1.own x y g e,A3.lt e⟩
   have hne3:∀x y,(FA x y).ownBlock≠some eb:=fun x y e=>by
    obtain ⟨cur,hc⟩:=(A3.rows x y).blk e;exact zBg m13.blk hc rfl
   have HR0:=zAb R0;have H3:=zAb (ai A3 (ai hao (ai hne3 (ai hRN (ai hb23 (ai hIN m13.lt))))));have HN:=zAb hno;have hNl2:=hNl;have Hpm:=zAb hpm;clear hpm hst hRN hno hb3 hb23 A3 m13 R0 hao hne3 hIN HIo hKl2;go_wp2_with fail;go_loopw [35] (fun v wx=>∃j:Nat,v = O ii (j:Nat)/\j<=NL.length/\Rk w w3 wx eb FA (acE (acL (stB W H tl f c s) W H kx ky)) NL KE1 (fun q=>if q∈OL then [] else LE q) (IsE W H tl f c s kx ky) j) (fun v _=>NL.length-(intOf v).toNat)
   case atStart=>exact ⟨0,rfl,Nat.zero_le _,HR0.out⟩
   case round =>
    obtain ⟨j,rfl,hj,hK⟩:=hrel;obtain ⟨A3,hao,hne3,hRN,hb23,hIN,hebl⟩:=H3.out;obtain ⟨m1,m2,m3,m4,hTw,gr,Er,or⟩:=Hr.out
    have hn:∀{g:Nat} {cur:Array Value} {t:Nat},w3.heap[g]? = some (.cells cur t (0,0))->t≠88->¬(g=eb\/∃x y,(FA x y).ownBlock=some g):=fun hg ht e=>by
     rcases e with e|⟨x,y,e⟩
     ·exact zBg (m1.upto hb23).blk hg e
     ·obtain ⟨cur,hc⟩:=(A3.rows x y).blk e;rw [hg] at hc;cases hc;exact ht rfl
    have rN:=hRN.kept hK.T (fun g e=>by obtain ⟨cur,hc⟩:=hRN.blk e;exact hn hc (by decide));have g3:=gr.upto hb23;have gx:=g3.kept hK.T (hn g3 (by decide));have o3:=(hb23.block _ (gE.1 or).1).trans or;have ox:=hK.T.same (hn o3 (by decide)) o3
    by_cases hlt:j<NL.length
    ·obtain ⟨q,hq⟩:∃q,NL[j]? = some q:=⟨_,List.getElem?_eq_getElem hlt⟩
     have hqN:=(hIN.2 q).1 (List.mem_of_getElem? hq);obtain ⟨hW,hH,-,hS,hKW,hKE⟩:=Hnum.out
     have hr:rB W H kx ky=true:=by
      have h1:=hqN.in hW hH hS;have h2:=zVd hW hH (hS _ _ h1.2)
      rwa [h1.1.1,h1.1.2] at h2
     have hqi:=hqN.inB' hW hH hS hr;have hcl:=zKw hW hH hr;have hqs:=hS _ _ (hqN.in hW hH hS).2;have hqh:has (kx*8) (ky*8) (rS W kx) (rS H ky) q.1 q.2=true:=(zBz _ _ _ _ _ _).2 ⟨(zA5 _ _ _ _).2 (by omega),by obtain ⟨⟨i1,i2⟩,i3,i4⟩:=hqi;omega⟩;have h641:W64 q.1:=zBr (by omega);have h642:W64 q.2:=zBr (by omega);have hmbe:mb≠eb:=by have:=HA2.out.2.2.1;have:=Hsz.out.2.1;have:=hTw.size;omega
     have mA:=A3.mp.kept hK.T (fun e=>e.elim hmbe (fun ⟨x,y,e⟩=>A3.ne e rfl));have T0:=(Turns.of_below (S:=fun k=>k=eb) hb23).trans (hK.T.mono (fun k _ e=>e.imp id (fun ⟨x,y,e⟩=>(hao x y k e).1)));have hmo0:=Hst.out.1.mo;obtain ⟨pcs,hpb⟩:=Hst.out.2.1.pblk
     have hmo:MO (fun k=>k=eb) _ p:=fun k hk e=>by
      subst e;refine ⟨m1.blk,?_⟩;rw [World.cell?_of_block (a:=⟨p,6,none⟩) (hTw.block p Hsz.out.2.2.2.2 (zBg Hst.out.1.eblk hpb))];exact Hst.out.1.nw.2
     have Ex:=Er.turned T0 hmo;obtain ⟨na',rfl,hna,n0,n1⟩:=zWh rN hq;obtain ⟨Y,hY⟩:=ex (wr.alloc (.cells #[O ii q.1,O ii q.2] 23));have bY:Below wr.heap.size wr Y:=hY▸zAh _ _;have TY:Two Y wr.heap.size q.1 q.2:=by rw [<-hY];exact Two.newAt rfl
     have hdY:Below Y.heap.size Y Y.drew:=⟨rfl,rfl,rfl,Nat.le_refl _,fun _ _=>rfl⟩
     have bYd:=bt bY hdY;have HIn:=zAb (zO6 (gx.upto bYd) (Ex.upto bYd).1 (Ex.upto bYd).2.1 (Ex.upto bYd).2.2 kx ky q.1 q.2 hr hqh (rN.upto bYd) (fun r hr'=>((hIN.2 r).1 hr').inB' hW hH hS hr) (by omega));obtain ⟨fa,fc,hFA⟩:=zB3 (hK.ra j q (Nat.le_refl _) hq);have oy:=(bYd.block _ (gE.1 ox).1).trans ox;have k0:Y.drew.cell? ⟨w.heap.size,0,none⟩=some (O ii kx):=by rw [cell_of_row Y.drew _ 0 _ _ _ oy];rfl
     have k1:Y.drew.cell? ⟨w.heap.size,1,none⟩=some (O ii ky):=by rw [cell_of_row Y.drew _ 1 _ _ _ oy];rfl
     obtain ⟨⟨t0,t1⟩,-,-⟩:=id TY;have HS:(Y.drew.cell? ⟨w.heap.size,0,none⟩=some (O ii kx)/\Y.drew.cell? ⟨w.heap.size,1,none⟩=some (O ii ky)/\Y.drew.cell? ⟨wr.heap.size,0,none⟩=some (O ii q.1)/\Y.drew.cell? ⟨wr.heap.size,1,none⟩=some (O ii q.2))/\MapS zC8 Y.drew mb KA FA:=⟨⟨k0,k1,t0,t1⟩,mA.upto bYd⟩
     have HY:=zAb hY;have HFA:=zAb hFA;have Hq:=zAb (ai hq (ai h641 (ai h642 (ai hqN bYd))));have HK:=zAb hK;have oY:Y.heap[wr.heap.size]? = some (.cells #[O ii q.1,O ii q.2] 23 (0,0)):=hY▸heap_alloc_new wr _;have Hgx:=zAb (ai gx (ai oY bY));have hki:(j:Int)<(NL.length:Nat):=by omega
     have H64:=zAb (ai h641 h642);clear A3 hao hne3 hRN hb23 hIN hebl m1 m2 m3 m4 hTw gr Er or hn rN g3 gx o3 ox hqN hW hH hr hS hKW hKE hqi hcl hqs hqh h641 h642 hmbe mA T0 hmo0 hmo Ex hna bY TY oY hdY bYd oy k0 k1 t0 t1 hY hFA hq hK hlt hpb pcs;obtain ⟨qx,hqx⟩:∃z,q.1=z:=⟨_,rfl⟩
     obtain ⟨qy,hqy⟩:∃z,q.2=z:=⟨_,rfl⟩
     obtain rfl:q=(qx,qy):=Prod.ext hqx hqy;simp only at n0 n1 HS HY HFA Hq HIn Hgx H64;clear hqx hqy;go_wp2_with (rw [HY.out]);refine zAj ?_;refine zAe (fun wx:World=>(wx.cell? ⟨w.heap.size,0,none⟩=some (O ii kx)/\wx.cell? ⟨w.heap.size,1,none⟩=some (O ii ky)/\wx.cell? ⟨wr.heap.size,0,none⟩=some (O ii qx)/\wx.cell? ⟨wr.heap.size,1,none⟩=some (O ii qy))/\MapS zC8 wx mb KA FA) [8,9] (by kernel_rfl) ?_;refine zv 0 2 8 [.map (some mb),cel qx qy] rfl rfl (by kernel_rfl) HS ?_;repeat (refine zc rfl (by rfl) (fun wx hx=>by go_simp) ?_;simp only [zp])
     refine zn ?_;refine zt 2 8 (.slice fa (acE (acL (stB W H tl f c s) W H kx ky) (qx,qy)).length fc) rfl (by kernel_rfl) (by rfl) (fun wx hx=>by rw [<-HFA.out];exact zFq Tryz.underlying31 (by kernel_rfl) H64.out.1 H64.out.2 (by rfl) (by rfl) (by rfl) hx.2) HS ?_;try simp only [zp]
     refine zv 3 4 8 [ptr gp,cel kx ky,cel qx qy,.slice (some ⟨na',0,none⟩) NL.length nc] rfl rfl (by kernel_rfl) HS ?_;repeat (refine zc rfl (by rfl) (fun wx hx=>by go_simp) ?_;simp only [zp])
     refine zn ?_;refine zw 7 [] (by kernel_rfl) ?_;refine readyZ.call rfl rfl (zTz (by rfl) (by rfl) (by simp only [zj];rfl)) (HIn.out) ?_ readyZ.nil;rintro e w5 ⟨lv,C,rfl,hT,hRI,hb5,hown5⟩
     have HS5:(w5.cell? ⟨w.heap.size,0,none⟩=some (O ii kx)/\w5.cell? ⟨w.heap.size,1,none⟩=some (O ii ky)/\w5.cell? ⟨wr.heap.size,0,none⟩=some (O ii qx)/\w5.cell? ⟨wr.heap.size,1,none⟩=some (O ii qy))/\MapS zC8 w5 mb KA FA:=by
      obtain ⟨⟨y0,y1,y2,y3⟩,y4⟩:=HS;exact ⟨⟨(hb5.cell (World.block_lt_of_cell? _ _ y0)).trans y0,(hb5.cell (World.block_lt_of_cell? _ _ y1)).trans y1,(hb5.cell (World.block_lt_of_cell? _ _ y2)).trans y2,(hb5.cell (World.block_lt_of_cell? _ _ y3)).trans y3⟩,y4.upto hb5⟩
     refine ⟨_,rfl,fun _=>HS5,?_⟩;try simp only [zp]
     have b5:=bt Hq.out.2.2.2.2 hb5;have rF:=(HK.out.ra j (qx,qy) (Nat.le_refl _) Hq.out.1).upto b5;simp only at rF;rw [HFA.out] at rF;have hil:=zLy C (kx*8) (ky*8) (rS W kx) NL;have hal:(acE (acL (stB W H tl f c s) W H kx ky) (qx,qy)).length<=32:=Nat.le_trans (zP7 _ _) zP5;obtain ⟨v6,w6,r6,q6,p6,T6⟩:=zWf rF hRI (by omega);refine zq 8 (by kernel_rfl) rfl rfl (zT2 (by rfl) (by rfl) (by rfl) r6) (fun h=>absurd (by decide) h) ?_;try simp only [zp]
     refine zq 9 (by kernel_rfl) rfl rfl (zBb (v:=v6) (by rfl) (by rfl)) (fun h=>absurd (by decide) h) ?_;try simp only [zp]
     refine zAd (by kernel_rfl) ?_ _;dsimp only [zAv,Exit.then];have Hs:=zAb (zW4 (by rw [List.length_append];omega) q6);obtain ⟨va,vn,vc,hv6⟩:∃a n c,v6 = .slice a n c:=by obtain ⟨a,c,e⟩:=zB3 q6;exact ⟨_,_,_,e⟩
     subst hv6;have o5:=(hb5.block wr.heap.size (gE.1 Hgx.out.2.1).1).trans Hgx.out.2.1;have o6:=T6.same (fun e=>by obtain ⟨cur,hc⟩:=rF.blk e;rw [o5] at hc;cases hc) o5;have hvb:∀g,(Value.slice va vn vc).ownBlock=some g->g≠wr.heap.size:=fun g e e2=>by obtain ⟨cur,hc⟩:=q6.blk e;rw [e2,o6] at hc;cases hc
     have HE6:=zAb (ai hT (ai b5 (ai p6 (ai T6 (ai o6 hvb)))));clear HS HS5 hT hRI hb5 hown5 b5 rF hil hal r6 q6 p6 T6 HIn o5 o6 hvb;go_wp2_with fail;refine Hs.out.mono ?_;rintro e w7 ⟨rfl,M,m1,m2,m3,m4⟩;obtain ⟨A3,hao,hne3,hRN,hb23,hIN,hebl⟩:=H3.out;obtain ⟨hT,b5,p6,T6,o6,hvb⟩:=HE6.out;obtain ⟨hW,hH,-,hS,hKW,hKE⟩:=Hnum.out
     have hr:rB W H kx ky=true:=by
      have h1:=Hq.out.2.2.2.1.in hW hH hS;have h2:=zVd hW hH (hS _ _ h1.2)
      rwa [h1.1.1,h1.1.2] at h2
     have hd7:Below w7.heap.size w7 w7.drew:=⟨rfl,rfl,rfl,Nat.le_refl _,fun _ _=>rfl⟩
     have hFo:(FA qx qy).ownBlock=(Value.slice fa (acE (acL (stB W H tl f c s) W H kx ky) (qx,qy)).length fc).ownBlock:=by rw [HFA.out]
     have T67:Turns (fun k=>(FA qx qy).ownBlock=some k) wr w7.drew:=by
      rw [hFo];refine ((Turns.of_below b5).trans (T6.mono (fun k _ e => .inl e))).trans ?_;refine (m4.trans (Turns.of_below hd7)).mono (fun k _ e=>?_);rcases p6 k e with q|q
      ·exact .inl q
      ·exact .inr (by have:=b5.size;omega)
     have hIE:IsE W H tl f c s kx ky (qx,qy) M:=zRy hW hH hS hr hIN hT m1 m2
     obtain ⟨Z,rZ,KZ⟩:=HK.out.step hIN.1.nodup Hq.out.1 A3.apart (fun x y g e=>⟨Nat.le_trans hws (hao x y g e).1,(hao x y g e).2⟩) T67 (m3.upto hd7) (fun g e=>by
      rw [hFo];rcases p6 g e with q|q
      ·exact .inl q
      ·exact .inr (by have:=b5.size;omega)) hIE hne3 hebl Hq.out.2.1 Hq.out.2.2.1 (by have:=Hr.out.2.2.2.1;omega)
     have g7:=Hgx.out.1.kept T67 (fun e=>by
      obtain ⟨cur,hc⟩:=(HK.out.ra j (qx,qy) (Nat.le_refl _) Hq.out.1).blk e;rw [Hgx.out.1] at hc
      cases hc)
     have o7:w7.drew.heap[wr.heap.size]? = some (.cells #[O ii qx,O ii qy] 23 (0,0)):=m4.same (fun e=>hvb _ e rfl) o6;have t0:w7.drew.cell? ⟨wr.heap.size,0,none⟩=some (O ii qx):=by rw [cell_of_row w7.drew _ 0 _ _ _ o7];rfl
     have t1:w7.drew.cell? ⟨wr.heap.size,1,none⟩=some (O ii qy):=by rw [cell_of_row w7.drew _ 1 _ _ _ o7];rfl
     have HS:w7.drew.cell? ⟨gp,5,none⟩=some (.map (some eb))/\w7.drew.cell? ⟨wr.heap.size,0,none⟩=some (O ii qx)/\w7.drew.cell? ⟨wr.heap.size,1,none⟩=some (O ii qy):=⟨g7.c5,t0,t1⟩
     have HZ:=zAb (ai rZ KZ);clear A3 hao hne3 hRN hb23 hIN hebl hT b5 p6 T6 hW hH hr hS hKW hKE hd7 hFo T67 hIE rZ KZ g7 o6 o7 hvb t0 t1 m1 m2 m3 m4 Hs HE6;go_wp2_with fail;refine zAj ?_;refine zAe (fun wx:World=>wx.cell? ⟨gp,5,none⟩=some (.map (some eb))/\wx.cell? ⟨wr.heap.size,0,none⟩=some (O ii qx)/\wx.cell? ⟨wr.heap.size,1,none⟩=some (O ii qy)) [6] (by kernel_rfl) ?_;refine zv 0 6 8 [ptr gp,ptr gp,.pointer (some ⟨gp,5,none⟩),.map (some eb),cel qx qy,.slice va vn vc] rfl rfl (by kernel_rfl) HS ?_;repeat (refine zc rfl (by rfl) (fun wx hx=>by go_simp) ?_;simp only [zp])
     refine zn ?_;refine zw 6 [] (by kernel_rfl) ?_;refine readyZ.skip rfl rfl (zNv (by rfl) (by rfl) (by rfl) (by rfl) HZ.out.1) (fun h=>absurd (by decide) h) ?_ readyZ.nil;try simp only [zp]
     refine zAd (by kernel_rfl) ?_ _;dsimp only [zAv,Exit.then];clear HS;go_wp2_with fail;go_roundw
     case rel=>exact ⟨j+1,by go_num,by omega,HZ.out.2⟩
     case measure=>simp only [intOf];omega
    ·have hj':j=NL.length:=by omega
     subst hj';obtain ⟨K,F,LE2,k1,k2,k3,k4,k5,k6,k7⟩:=hK.m;rw [List.take_length] at k2 k6 k7;have Tall:Turns (fun k=>k=eb) w wr:=hTw.trans (((Turns.of_below (S:=fun k=>k=eb) hb23).trans (hK.T.mono (fun k _ e=>e.imp id (fun ⟨x,y,e⟩=>(hao x y k e).1)))).mono (fun k _ e => .inl e));have hdr:Below wr.heap.size wr wr.drew:=⟨rfl,rfl,rfl,Nat.le_refl _,fun _ _=>rfl⟩
     have mW:=(Hst.out.2.2.1.kept Tall Hst.out.1.ne).upto hdr;have rNd:=rN.upto hdr;obtain ⟨Z,rZ,mZ,gZ⟩:=mW.put Tryz.underlying30 HW64.out.1 HW64.out.2 (zIc rNd) (by have:=Hnum.out.2.2.2.2.1;unfold maxLen;omega);have TZ:Turns (fun k=>k=wb) wr.drew Z:=Turns.of_grown gZ (fun k e=>by cases e;rfl);have TZw:Turns (fun k=>k=wb) wr Z:=(Turns.of_below hdr).trans (TZ.mono (fun k _ e => .inl e));have Tfin:Turns (fun k=>k=wb\/k=eb) w Z:=(Tall.mono (fun k _ e => .inr e)).trans (TZw.mono (fun k _ e => .inl (.inl e)));have hwbk:∃es cl,wr.heap[wb]? = some (.map es cl):=mW.blk;obtain ⟨pcs,hpb⟩:=Hst.out.2.1.pblk;have hpne:¬(p=wb\/p=eb):=fun e=>e.elim (zBg Hst.out.1.wblk hpb) (zBg Hst.out.1.eblk hpb);have hp6:Z.cell? ⟨p,6,none⟩=w.cell? ⟨p,6,none⟩:=World.cell?_of_block (a:=⟨p,6,none⟩) (Tfin.block p Hsz.out.2.2.2.2 hpne)
     have hGZ:GS Z gp p c s ep wb eb (zDh KW (kx,ky)) (zSf LW (kx,ky) NL) K LE2:=by
      refine ⟨Hst.out.1.g.kept Tfin (fun e=>e.elim (zBg Hst.out.1.wblk Hst.out.1.g) (zBg Hst.out.1.eblk Hst.out.1.g)),Hst.out.1.ne,by rw [hp6];exact Hst.out.1.nw,⟨_,mZ,fun x y=>?_⟩,F,k1.kept TZw (fun e=>Hst.out.1.ne e.symm),fun x y=>(k4 x y).kept TZw (fun g e=>by obtain ⟨cur,hc⟩:=(k4 x y).blk e;exact zBg hwbk hc)⟩;unfold zC1 zSf
      by_cases e:x=kx/\y=ky
      ·rw [if_pos e,if_pos (by rw [e.1,e.2])];exact rNd.kept TZ (fun g e=>by obtain ⟨cur,hc⟩:=rNd.blk e;exact zBg mW.blk hc)
      ·rw [if_neg e,if_neg (fun q=>e (by simpa using q))];exact (Hst.out.2.2.2.1 x y).kept Tfin (fun g e=>by obtain ⟨cur,hc⟩:=(Hst.out.2.2.2.1 x y).blk e;exact fun q=>q.elim (zBg Hst.out.1.wblk hc) (zBg Hst.out.1.eblk hc))
     have hend:zTc w Z gp p c s ep wb eb KW LW KE LE W H tl f kx ky:=by
      refine ⟨NL,zDh KW (kx,ky),K,LE2,hIN,hNl2,hGZ,k6,fun q h1 h2=>?_,fun q h1 h2=>?_,fun q=>?_,⟨?_,fun k hk=>zCq.1 hk⟩,by omega,Tfin⟩
      ·rw [k7 q h1,if_pos (by rw [<-HO.out.1];exact h2)]
      ·rw [k7 q h1,if_neg (by rw [<-HO.out.1];exact h2)]
      ·rw [k2,m2,HO.out.1]
      ·unfold zDh
       split
       ·omega
       ·rw [List.length_append,List.length_singleton];omega
     have oy:=(hdr.block _ (gE.1 ox).1).trans ox;have e0:wr.drew.cell? ⟨w.heap.size,0,none⟩=some (O ii kx):=by rw [cell_of_row wr.drew _ 0 _ _ _ oy];rfl
     have e1:wr.drew.cell? ⟨w.heap.size,1,none⟩=some (O ii ky):=by rw [cell_of_row wr.drew _ 1 _ _ _ oy];rfl
     have HS:wr.drew.cell? ⟨gp,4,none⟩=some (.map (some wb))/\wr.drew.cell? ⟨w.heap.size,0,none⟩=some (O ii kx)/\wr.drew.cell? ⟨w.heap.size,1,none⟩=some (O ii ky):=⟨(gx.upto hdr).c4,e0,e1⟩
     have HZ:=zAb (ai rZ hend);clear A3 hao hne3 hRN hb23 hIN hebl m1 m2 m3 m4 hTw gr Er or hn rN g3 gx o3 ox k1 k2 k3 k4 k5 k6 k7 Tall hdr mW rNd rZ mZ gZ TZ TZw Tfin hwbk hpb hpne hp6 hGZ hend oy e0 e1 hK hj pcs;go_wp2_with fail;refine zAj ?_;refine zAe (fun wx:World=>wx.cell? ⟨gp,4,none⟩=some (.map (some wb))/\wx.cell? ⟨w.heap.size,0,none⟩=some (O ii kx)/\wx.cell? ⟨w.heap.size,1,none⟩=some (O ii ky)) [6] (by kernel_rfl) ?_;refine zv 0 6 8 [ptr gp,ptr gp,.pointer (some ⟨gp,4,none⟩),.map (some wb),cel kx ky,.slice na NL.length nc] rfl rfl (by kernel_rfl) HS ?_;repeat (refine zc rfl (by rfl) (fun wx hx=>by go_simp) ?_;simp only [zp])
     refine zn ?_;refine zw 6 [] (by kernel_rfl) ?_;refine readyZ.skip rfl rfl (zNv (by rfl) (by rfl) (by rfl) (by rfl) HZ.out.1) (fun h=>absurd (by decide) h) ?_ readyZ.nil;try simp only [zp]
     refine zAd (by kernel_rfl) ?_ _;dsimp only [zAv,Exit.then];go_end0
     exact ⟨rfl,HZ.out.2⟩
section
def clu (q:Int×Int):Int×Int:=(q.1/8,q.2/8)
structure GD (W H:Int) (tl:List Nat) (f:Int->Int->Option Int) (c s:Int) (D:Int×Int->Prop) (LW:Int×Int->List (Int×Int)) (KE:List (Int×Int)) (LE:Int×Int->List E3):Prop where
 fa:∀k,D k->IsN (stB W H tl f c s) W H k.1 k.2 (LW k)
 fb:∀k q,q∈LW k->clu q=k/\(0<=q.1/\q.1<W)/\0<=q.2/\q.2<H
 fc:∀q,q∈KE↔q∈LW (clu q)
 fd:∀q,D (clu q)->q∈KE->IsE W H tl f c s (clu q).1 (clu q).2 q (LE q)
 fe:∀q,q ∉ KE->LE q=[]
 fl:∀k,(LW k).length<=32
section
variable {W H:Int} {tl:List Nat} {f:Int->Int->Option Int} {c s:Int} {D:Int×Int->Prop} {LW:Int×Int->List (Int×Int)} {KE:List (Int×Int)} {LE:Int×Int->List E3}
theorem GD.none:GD W H tl f c s (fun _=>False) (fun _=>[]) [] (fun _=>[]):=⟨fun _ h=>h.elim,fun _ _ h=>by simp at h,fun _=>by simp,fun _ h=>h.elim,fun _ _=>rfl,fun _=>by simp⟩
theorem GD.w64 (hW:1<=W/\W<=128) (hH:1<=H/\H<=128) (h:GD W H tl f c s D LW KE LE) (k:Int×Int):∀q∈LW k,W64 q.1/\W64 q.2:=fun q hq=>by
 have:=(h.fb k q hq).2;exact ⟨zBr (by omega),zBr (by omega)⟩
theorem GD.step (hW:1<=W/\W<=128) (hH:1<=H/\H<=128) (hS:∀u v,stB W H tl f c s u v=true->(0<=u/\u<W)/\0<=v/\v<H) (h:GD W H tl f c s D LW KE LE) {k:Int×Int} {NL KE':List (Int×Int)} {LE':Int×Int->List E3} (hN:IsN (stB W H tl f c s) W H k.1 k.2 NL) (hl:NL.length<=32)
 (h1:∀q∈NL,IsE W H tl f c s k.1 k.2 q (LE' q)) (h2:∀q,q ∉ NL->q∈LW k->LE' q=[]) (h3:∀q,q ∉ NL->q ∉ LW k->LE' q=LE q) (h4:∀q,q∈KE'↔(q∈KE/\q ∉ LW k)\/q∈NL):GD W H tl f c s (fun k'=>D k'\/k'=k) (zSf LW k NL) KE' LE':=by
 have hNk:∀q∈NL,clu q=k/\(0<=q.1/\q.1<W)/\0<=q.2/\q.2<H:=fun q hq=>by
  have h9:=((hN.2 q).1 hq).in hW hH hS;exact ⟨Prod.ext h9.1.1 h9.1.2,hS _ _ h9.2⟩
 refine ⟨fun k' hk=>?_,fun k' q hq=>?_,fun q=>?_,fun q hD hq=>?_,fun q hq=>?_,fun k'=>?_⟩
 ·unfold zSf
  by_cases e:k'=k
  ·rw [if_pos e,e];exact hN
  ·rw [if_neg e];exact h.fa k' (hk.resolve_right e)
 ·unfold zSf at hq
  by_cases e:k'=k
  ·rw [if_pos e] at hq;rw [e];exact hNk q hq
  ·rw [if_neg e] at hq;exact h.fb k' q hq
 ·rw [h4];unfold zSf
  by_cases e:clu q=k
  ·rw [if_pos e];exact ⟨fun q1=>q1.elim (fun q2=>absurd (e▸(h.fc q).1 q2.1) q2.2) id,.inr⟩
  ·rw [if_neg e,<-h.fc q];exact ⟨fun q1=>q1.elim (fun q2=>q2.1) (fun q2=>absurd (hNk q q2).1 e),fun q1 => .inl ⟨q1,fun q2=>e (h.fb k q q2).1⟩⟩
 ·by_cases e:q∈NL
  ·have:=h1 q e;rw [(hNk q e).1];exact this
  ·have hq2:=((h4 q).1 hq).resolve_right e;rw [h3 q e hq2.2];have hne:clu q≠k:=fun q1=>hq2.2 (q1▸(h.fc q).1 hq2.1);exact h.fd q (hD.resolve_right hne) hq2.1
 ·have hq2:q ∉ NL/\¬(q∈KE/\q ∉ LW k):=⟨fun e=>hq ((h4 q).2 (.inr e)),fun e=>hq ((h4 q).2 (.inl e))⟩
  by_cases e:q∈LW k
  ·exact h2 q hq2.1 e
  ·rw [h3 q hq2.1 e];exact h.fe q (fun q1=>hq2.2 ⟨q1,e⟩)
 ·unfold zSf
  split
  ·exact hl
  ·exact h.fl k'
theorem GD.mono {D':Int×Int->Prop} (h:GD W H tl f c s D LW KE LE) (hd:∀k,D' k->D k):GD W H tl f c s D' LW KE LE:=⟨fun k hk=>h.fa k (hd k hk),h.fb,h.fc,fun q hq=>h.fd q (hd _ hq),h.fe,h.fl⟩
end
def GOk (w:World) (gp p:Nat) (c s ep:Int) (wb eb:Nat) (W H:Int) (tl:List Nat) (f:Int->Int->Option Int):Prop:=
 ∃KW LW KE LE,GS w gp p c s ep wb eb KW LW KE LE/\GD W H tl f c s (fun k=>rB W H k.1 k.2=true) LW KE LE/\(∀k∈KW,rB W H k.1 k.2=true)
theorem zAf (V:World) (o:Obj):∃V' b,V.alloc o=V'/\V.heap.size=b/\V'.heap[b]? = some o/\(∀k o',V.heap[k]? = some o'->V'.heap[k]? = some o'/\k≠b)/\Below V.heap.size V V':=
 ⟨_,_,rfl,rfl,heap_alloc_new V o,fun k o' h=>⟨((zAh V o).block k (gE.1 h).1).trans h,fun e=>by have:=(gE.1 h).1;omega⟩,zAh V o⟩
theorem zV0 {F G:World->Nat->Nat->Nat->Nat->Prop} {C:Prop} (h1:(∀V a b d e,F V a b d e->G V a b d e)->C) (h2:∀V a b d e,F V a b d e->G V a b d e):C:=h1 h2
section
variable {ev:Operand->Value} {o:Oper} {w:World}
theorem zAk {t:TypeId} (ho:o.op = .makeMap t none):(execOp ev o).run pg w = .ok (.value (.map (some w.heap.size))) (w.alloc (.map #[] 0)):=by
 have hr:=run_makeMap (P:=pg) t w;unfold execOp;simp only [ho];simp only [Sem.run_bind,hr,Result.andThen];rfl
theorem zAo (ho:o.op = .alloc 26):(execOp ev o).run pg w = .ok (.value (ptr w.heap.size)) (w.alloc (.cells #[.pointer none] 26)):=by
 unfold execOp;simp only [ho];go_simp
theorem zAn {x:Operand} {a0 a1 a2 a3 a4 a5:Value} (ho:o.op = .box 33 x) (hx:ev x = .agg #[a0,a1,a2,a3,a4,a5]):(execOp ev o).run pg w = .ok (.value (ptr w.heap.size)) (w.alloc (.cells #[a0,a1,a2,a3,a4,a5] 33)):=by
 unfold execOp;simp only [ho,hx];go_simp
theorem zNx {x y:Operand} {k g:Nat} {v:Value} (ho:o.op = .store 26 x y) (hx:ev x=ptr k) (hy:ev y=ptr g) (hF:w.heap[k]? = some (.cells #[v] 26 (0,0))) :
 (execOp ev o).run pg w = .ok .skip (w.setCell ⟨k,0,none⟩ (ptr g)):=by
 have c0:w.cell? ⟨k,0,none⟩=some v:=by rw [cell_of_row w k 0 _ _ _ hF];rfl
 have f0:w.frozen? ⟨k,0,none⟩=false:=by simp [World.frozen?,hF]
 clear hF;unfold execOp;rw [ho];simp only [hx,hy];go_simp
end
end
end Go.Proofs.YtejjcenhjpjefaaGreatDoor
