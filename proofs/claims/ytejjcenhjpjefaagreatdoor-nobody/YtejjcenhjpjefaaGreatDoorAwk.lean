import Derived.Test.YtejjcenhjpjefaaGreatDoorGD13
import Derived.Test.YtejjcenhjpjefaaGreatDoorGSt
import Derived.Test.YtejjcenhjpjefaaGreatDoorPc
import Derived.Test.YtejjcenhjpjefaaGreatDoorAwake
set_option linter.all false
set_option maxRecDepth 1000000
set_option maxHeartbeats 64000000
open Go.Proofs.Tryz
open Go.Proofs.Tryz renaming prog->pg
open Array renaming getElem?_eq_some_iff->gE
open And renaming intro->ai
open Go.Value renaming int->O
open Go.IntKind renaming i64->ii
namespace Go.Proofs.YtejjcenhjpjefaaGreatDoor
open Go.RowKit Go.Shelf
section
attribute [local go_sem] Oper.semAt_some
theorem zBp:Rcl 38:=zl fun _ _=>by go_simp
def TwB (w:World) (B:Nat) (x y:Int):Prop:=w.heap[B]? = some (.cells #[O ii x,O ii y] 23 (0,0))
theorem TwB.c {w:World} {B:Nat} {x y:Int} (h:TwB w B x y):w.cell? ⟨B,0,none⟩=some (O ii x)/\w.cell? ⟨B,1,none⟩=some (O ii y):=⟨by rw [cell_of_row w B 0 _ _ _ h];rfl,by rw [cell_of_row w B 1 _ _ _ h];rfl⟩
theorem zM3 {B:Nat} {S:Nat->Prop} {X Y:World} (T:Turns S X Y) (hS:∀k,k<X.heap.size->S k->k<B):Keep B X Y:=⟨T.size,fun k hk hl=>T.block k hl (fun e=>by have:=hS k hl e;omega)⟩
structure NwI (w Y:World) (p:Nat) (c s ep:Int) (gp wb eb h6:Nat) (W H:Int) (tl:List Nat) (f:Int->Int->Option Int) (B:Nat) (pre:List Cel):Prop where
 bel:Below w.heap.size w Y
 bx:Boxed Y h6 26 (ptr gp)
 lo:w.heap.size<=wb/\w.heap.size<=eb/\wb<B/\eb<B
 sz:B<=Y.heap.size
 gs:∃KW LW KE LE,GS Y gp p c s ep wb eb KW LW KE LE/\GD W H tl f c s (fun k=>k∈pre.map (·.1)) LW KE LE/\KW.length<=pre.length/\KE.length<=32*pre.length/\∀k∈KW,k∈pre.map (·.1)
section
variable {w Y Y':World} {p:Nat} {c s ep:Int} {gp wb eb h6:Nat} {W H:Int} {tl:List Nat} {f:Int->Int->Option Int} {B:Nat} {pre:List Cel}
theorem GS.kept {KW:List (Int×Int)} {LW:Int×Int->List (Int×Int)} {KE:List (Int×Int)} {LE:Int×Int->List E3} {S:Nat->Prop} (h:GS Y gp p c s ep wb eb KW LW KE LE) (T:Turns S Y Y') (hp:p<Y.heap.size) (hpb:∃cs,Y.heap[p]? = some (.cells cs 93 (0,0))) (hw:¬S wb) (he:¬S eb) (hc:∀k o,S k->Y.heap[k]? = some o->o.isCells=false):GS Y' gp p c s ep wb eb KW LW KE LE:=by
 have hn:∀{k:Nat} {cs:Array Value} {t:Nat} {fz:Nat×Nat},Y.heap[k]? = some (.cells cs t fz)->¬S k:=fun hk hs=>by have:=hc _ _ hs hk;cases this
 obtain ⟨FW,m1,m2⟩:=h.wm;obtain ⟨FE,m3,m4⟩:=h.em;obtain ⟨cs,hpb⟩:=hpb;refine ⟨h.g.kept T (hn h.g),h.ne,?_,⟨FW,m1.kept T hw,fun x y=>(m2 x y).kept T (fun g e=>by obtain ⟨cur,q⟩:=(m2 x y).blk e;exact hn q)⟩,FE,m3.kept T he,fun x y=>(m4 x y).kept T (fun g e=>by obtain ⟨cur,q⟩:=(m4 x y).blk e;exact hn q)⟩;rw [World.cell?_of_block (a:=⟨p,6,none⟩) (T.block p hp (hn hpb))];exact h.nw
theorem NwI.turned {S:Nat->Prop} (hE:En w p W H tl f) (h:NwI w Y p c s ep gp wb eb h6 W H tl f B pre) (T:Turns S Y Y') (hlo:∀k,S k->B<=k) (hwB:w.heap.size<=B) (hc:∀k o,S k->Y.heap[k]? = some o->o.isCells=false):NwI w Y' p c s ep gp wb eb h6 W H tl f B pre:=by
 have hn:∀{k:Nat} {cs:Array Value} {t:Nat} {fz:Nat×Nat},Y.heap[k]? = some (.cells cs t fz)->¬S k:=fun hk hs=>by have:=hc _ _ hs hk;cases this
 obtain ⟨KW,LW,KE,LE,g1,g2⟩:=h.gs;have hEY:=hE.upto h.bel;obtain ⟨bm,-,-,hpl⟩:=hEY.six;refine ⟨h.bel.trans (T.below (fun k e=>Nat.le_trans hwB (hlo k e)) h.bel.size),zAg h.bx T (hn h.bx),h.lo,Nat.le_trans h.sz T.size,KW,LW,KE,LE,g1.kept T hpl hEY.pblk (fun e=>by have:=hlo _ e;have:=h.lo;omega) (fun e=>by have:=hlo _ e;have:=h.lo;omega) hc,g2⟩
theorem NwI.upto (hE:En w p W H tl f) (h:NwI w Y p c s ep gp wb eb h6 W H tl f B pre) (hb:Below Y.heap.size Y Y') (hwB:w.heap.size<=B):NwI w Y' p c s ep gp wb eb h6 W H tl f B pre:=h.turned (S:=NoB) hE (Turns.of_below hb) (fun _ q=>q.elim) hwB (fun _ _ q=>q.elim)
end
theorem zR9 {W H:Int} (hW:1<=W/\W<=128) (hH:1<=H/\H<=128):(zS9 W H).length<=256:=by
 unfold zS9 zFg
 split
 ·rw [zC2];have:=Nat.mul_le_mul (show (clN H).toNat<=16 by unfold clN;omega) (show (clN W).toNat<=16 by unfold clN;omega);omega
 ·simp
def kl (a m:Nat):List (Int×Int):=(List.range m).map (fun i=>(((i%a:Nat):Int),((i/a:Nat):Int)))
theorem zWc {wd ht:Nat} (hd:(1<=wd/\wd<=128)/\1<=ht/\ht<=128):(zS9 (wd:Nat) (ht:Nat)).map (·.1)=kl ((wd-1)/8+1) (((ht-1)/8+1)*((wd-1)/8+1)):=by
 have e1:(clN (wd:Nat)).toNat=(wd-1)/8+1:=by unfold clN;omega
 have e2:(clN (ht:Nat)).toNat=(ht-1)/8+1:=by unfold clN;omega
 have hm:may 0 0 (clN (wd:Nat)) (clN (ht:Nat))=true:=(zA5 _ _ _ _).2 (by unfold clN;omega);unfold zS9 zFg;rw [if_pos hm,e1,e2,upto,List.map_map,kl];refine List.map_congr_left (fun i hi=>?_);have hlt:i<((ht-1)/8+1)*((wd-1)/8+1):=List.mem_range.1 hi;have hb:((ht-1)/8+1)*((wd-1)/8+1)<=16*16:=Nat.mul_le_mul (by omega) (by omega);have h1:i%((wd-1)/8+1)<=i:=Nat.mod_le _ _;have h2:i/((wd-1)/8+1)<=i:=Nat.div_le_self _ _;show (mkC (zDr 0 0 ((wd-1)/8+1) i)).1=_;have hc:zDr 0 0 ((wd-1)/8+1) i=(((i%((wd-1)/8+1):Nat):Int),((i/((wd-1)/8+1):Nat):Int)):=by unfold zDr;simp
 rw [hc];obtain ⟨q,hq⟩:=ex (i/((wd-1)/8+1));obtain ⟨m,hm'⟩:∃m,i%((wd-1)/8+1)=m:=⟨_,rfl⟩
 rw [hq] at h2 ⊢;rw [hm'] at h1 ⊢;exact zOs ⟨zBr (by simp only;omega),zBr (by simp only;omega)⟩
theorem zLq {W H:Int} (hW:1<=W/\W<=128) (hH:1<=H/\H<=128) (k:Int×Int):k∈(zS9 W H).map (·.1)↔rB W H k.1 k.2=true:=by
 obtain ⟨wd,hwd⟩:∃wd:Nat,W=wd:=⟨W.toNat,by omega⟩
 obtain ⟨ht,hht⟩:∃ht:Nat,H=ht:=⟨H.toNat,by omega⟩
 subst hwd hht;rw [zDf hW hH,zWc (by omega)];unfold kl;rw [List.mem_map];constructor
 ·rintro ⟨i,hi,rfl⟩;rw [List.mem_range] at hi;have h1:i%((wd-1)/8+1)<(wd-1)/8+1:=Nat.mod_lt _ (by omega);have h2:i/((wd-1)/8+1)<(ht-1)/8+1:=(Nat.div_lt_iff_lt_mul (by omega)).2 hi;obtain ⟨q,hq⟩:=ex (i/((wd-1)/8+1));obtain ⟨m,hm'⟩:∃m,i%((wd-1)/8+1)=m:=⟨_,rfl⟩
  rw [hq] at h2 ⊢;rw [hm'] at h1 ⊢;clear hi hq hm';simp only;omega
 ·rintro ⟨h1,h2⟩;obtain ⟨x,y⟩:=k;simp only at h1 h2;obtain ⟨a,rfl⟩:∃a:Nat,x=a:=⟨x.toNat,by omega⟩
  obtain ⟨b,rfl⟩:∃b:Nat,y=b:=⟨y.toNat,by omega⟩
  have ha:a<(wd-1)/8+1:=by omega
  have hb:b<(ht-1)/8+1:=by omega
  refine ⟨b*((wd-1)/8+1)+a,?_,?_⟩
  ·rw [List.mem_range,Nat.mul_comm ((ht-1)/8+1)];exact zYd ha hb
  ·rw [(zPa ha).1,(zPa ha).2]
end
attribute [local go_sem] Oper.semAt_some
theorem MapS.empty {z:Value} (hz:IsS z) {w:World} {b:Nat} (h:w.heap[b]? = some (.map #[] 0)):MapS z w b [] (fun _ _=>z):=by
 obtain ⟨es,clock,h1,hF,hs,hD⟩:=World.ownsMap_made (H:=Unit) w pg 23 zCp;rw [heap_alloc_new] at h1;have h2:=Option.some.inj h1;cases h2;exact ⟨.map [],⟨_,_,h,hF,hs,hD⟩,rfl,List.nodup_nil,fun q h=>absurd h List.not_mem_nil,hz,fun _ _=>hz,fun _ _ _=>rfl,fun x y _ _=>⟨rfl,rfl⟩⟩
def qBh (w w':World) (gp p:Nat) (c s ep:Int) (wb eb:Nat) (W H:Int) (tl:List Nat) (f:Int->Int->Option Int):Prop:=
 GOk w' gp p c s ep wb eb W H tl f/\Below w.heap.size w w'/\w.heap.size<=gp/\w.heap.size<=wb/\w.heap.size<=eb
theorem zAl {ev:Operand->Value} {o:Oper} {w:World} {x0 x1 x2 x3 x4:Operand} {p wb eb:Nat} {c s ep:Int} (ho:o.op = .build 33 #[(0,x0),(1,x1),(2,x2),(3,x3),(4,x4)]) (h0:ev x0=ptr p) (h1:ev x1=shv c s) (h2:ev x2 = O ii ep) (h3:ev x3 = .map (some wb)) (h4:ev x4 = .map (some eb)) :
 (execOp ev o).run pg w = .ok (.value (.agg #[ptr p,O ii c,O ii s,O ii ep,.map (some wb),.map (some eb)])) w:=by
 unfold execOp;simp only [ho,h0,h1,h2,h3,h4];go_simp
theorem zPf {w:World} {p:Nat} {c s ep:Int} {W H:Int} {tl:List Nat} {f:Int->Int->Option Int} (hE:En w p W H tl f) (hS:∀u v,stB W H tl f c s u v=true->(0<=u/\u<W)/\0<=v/\v<H) (hsh:shB c s=true)
 (hEp:∀wx,Below w.heap.size w wx->Calls pg 38 #[ptr p] wx fun e w'=>e = .returned (O ii ep)/\w'=wx) :
 Calls pg 15 #[ptr p,shv c s] w fun e w'=>∃gp wb eb,e = .returned (.tuple #[ptr gp,O ii 0])/\qBh w w' gp p c s ep wb eb W H tl f:=by
 obtain ⟨hW,hH⟩:=hE.1.sides;refine (callsIn_wide (n:=10)).1 ?_;refine callsIn_of_wp_marks func15 rfl trivial ?_ rfl;simp only [ntmps15,List.size_toArray,List.length_cons,List.length_nil,Nat.reduceAdd,Nat.reduceSub,Array.replicate_succ,Array.replicate_zero,List.push_toArray,List.append_toArray,List.nil_append,List.cons_append];obtain ⟨X,hX⟩:=ex (w.alloc (.cells #[O ii c,O ii s] 29));have BX:Below w.heap.size w X:=hX▸zAh _ _;have TX:Two X w.heap.size c s:=by rw [<-hX];exact Two.newAt rfl
 have HAl:=zAb (zGt (hE.1.kept BX));have hmy:may 0 0 W H=true:=(zA5 _ _ _ _).2 (by omega);have HMy:Hid (∀wx,Calls pg 36 #[rct 0 0 W H] wx fun e w'=>e = .returned (.bool true)/\Below wx.heap.size wx w'):=zAb fun wx=>zKg wx hmy;have HSh:Hid (∀wx,Calls pg 37 #[shv c s] wx fun e w'=>e = .returned (.bool true)/\Below wx.heap.size wx w'):=zAb fun wx=>zFn wx hsh;have HEp:Hid (∀wx,Below X.heap.size X wx->Calls pg 38 #[ptr p] wx fun e w'=>e = .returned (O ii ep)/\w'=wx):=zAb fun wx q=>hEp wx (bt BX q);have HK:Hid (∀wx,Below X.heap.size X wx->wx.cell? ⟨w.heap.size,0,none⟩=some (O ii c)/\wx.cell? ⟨w.heap.size,1,none⟩=some (O ii s)):=zAb fun wx q=>(TX.kept q).1;have HX:=zAb hX;have HB:=zAb BX;have HE:=zAb (ai hE (ai hS (ai hW hH)));clear hX BX TX hE hS hsh hEp hW hH hmy;gi_wp2_with (rw [HX.out]);refine ⟨trivial,?_⟩;refine (callsIn_wide.2 HAl.out).mono ?_;rintro e w1 ⟨rfl,hb1⟩;have Hb1:=zAb hb1;clear hb1 HAl;gi_wp2_with fail;refine ⟨trivial,?_⟩;refine (callsIn_wide.2 (HMy.out w1)).mono ?_;rintro e w2 ⟨rfl,hb2⟩;have Hb2:=zAb (bt Hb1.out hb2);obtain ⟨c0,c1⟩:=HK.out w2 Hb2.out;clear hb2 Hb1;gi_wp2_with fail;refine ⟨trivial,?_⟩;refine (callsIn_wide.2 (HSh.out w2)).mono ?_;rintro e w3 ⟨rfl,hb3⟩;have Hb3:=zAb (bt Hb2.out hb3);clear hb3 Hb2 c0 c1 HMy HSh;gi_wp2_with fail;have hd:Below w3.heap.size w3 w3.drew:=⟨rfl,rfl,rfl,Nat.le_refl _,fun _ _=>rfl⟩
 have b0:Below X.heap.size X w3.drew:=bt Hb3.out hd;have HS:=HK.out w3.drew b0;refine zA1 ?_;refine zBi (fun wx:World=>wx.cell? ⟨w.heap.size,0,none⟩=some (O ii c)/\wx.cell? ⟨w.heap.size,1,none⟩=some (O ii s)) [9] (by kernel_rfl) ?_;generalize w3.drew=V0 at b0 HS ⊢;clear hd Hb3;refine zv 0 3 8 [ptr p,shv c s,ptr p] rfl rfl (by kernel_rfl) HS ?_;repeat (refine zc rfl (by rfl) (fun wx hx=>by go_simp) ?_;simp only [zp])
 refine zn ?_;refine zV0 (F:=fun V wb eb gb h8=>Below X.heap.size X V/\(V.heap[wb]? = some (.map #[] 0)/\V.heap[eb]? = some (.map #[] 0)/\wb≠eb)/\V.heap[gb]? = some (.cells #[ptr p,O ii c,O ii s,O ii ep,.map (some wb),.map (some eb)] 33 (0,0))/\(V.heap[h8]? = some (.cells #[.pointer none] 26 (0,0))/\X.heap.size<=h8)/\X.heap.size<=wb/\X.heap.size<=eb/\X.heap.size<=gb) (G:=?G) ?ways ?then2
 case ways =>
  intro HG;refine zw 3 [4,5,8] (by kernel_rfl) ?_;refine readyZ.call rfl rfl (zBp (by rfl) (by rfl) (by simp only [zj];rfl)) (HEp.out V0 b0) ?_ ?_
  ·rintro e V' ⟨rfl,hv⟩;have hv':=hv.symm;subst hv';refine ⟨_,rfl,fun _=>HK.out _ b0,?_⟩;try simp only [zp]
   refine zw 4 [5,8] (by kernel_rfl) ?_;obtain ⟨V1,q1,hV1,hq1,f1,up1,bl1⟩:=zAf V0 (.map #[] 0);refine readyZ.cons rfl rfl (zAk (by rfl)) (fun _=>by rw [hV1];exact HK.out _ (bt b0 bl1)) ?_ ?_
   ·rw [hV1,hq1];have hB1:=bt b0 bl1;have lo1:X.heap.size<=q1:=hq1▸(b0).size;try simp only [zp]
    refine zw 5 [8] (by kernel_rfl) ?_;obtain ⟨V2,q2,hV2,hq2,f2,up2,bl2⟩:=zAf V1 (.map #[] 0);refine readyZ.cons rfl rfl (zAk (by rfl)) (fun _=>by rw [hV2];exact HK.out _ (bt hB1 bl2)) ?_ ?_
    ·rw [hV2,hq2];have hB2:=bt hB1 bl2;have lo2:X.heap.size<=q2:=hq2▸(hB1).size;try simp only [zp]
     have HSV2:=HK.out V2 hB2;refine zt 6 8 (.agg #[ptr p,O ii c,O ii s,O ii ep,.map (some q1),.map (some q2)]) rfl (by kernel_rfl) (by rfl) (fun wx hx=>zAl (by rfl) (by rfl) (by rfl) (by rfl) (by rfl) (by rfl)) HSV2 ?_;try simp only [zp]
     refine zw 7 [8] (by kernel_rfl) ?_;obtain ⟨V3,q3,hV3,hq3,f3,up3,bl3⟩:=zAf V2 (.cells #[ptr p,O ii c,O ii s,O ii ep,.map (some q1),.map (some q2)] 33);refine readyZ.cons rfl rfl (zAn (by rfl) (by rfl)) (fun _=>by rw [hV3];exact HK.out _ (bt hB2 bl3)) ?_ ?_
     ·rw [hV3,hq3];have hB3:=bt hB2 bl3;have lo3:X.heap.size<=q3:=hq3▸(hB2).size;try simp only [zp]
      refine zw 8 [] (by kernel_rfl) ?_;obtain ⟨V4,q4,hV4,hq4,f4,up4,bl4⟩:=zAf V3 (.cells #[.pointer none] 26);refine readyZ.cons rfl rfl (zAo (by rfl)) (fun _=>by rw [hV4];exact HK.out _ (bt hB3 bl4)) ?_ readyZ.nil
      ·rw [hV4,hq4];have hB4:=bt hB3 bl4;have lo4:X.heap.size<=q4:=hq4▸(hB3).size;try simp only [zp]
       exact HG V4 q1 q2 q3 q4 ⟨hB4,⟨(up4 _ _ (up3 _ _ (up2 _ _ f1).1).1).1,(up4 _ _ (up3 _ _ f2).1).1,(up2 _ _ f1).2⟩,(up4 _ _ f3).1,⟨f4,lo4⟩,lo1,lo2,lo3⟩
     obtain ⟨V5,q5,hV5,hq5,f5,up5,bl5⟩:=zAf V2 (.cells #[.pointer none] 26);refine readyZ.cons rfl rfl (zAo (by rfl)) (fun _=>by rw [hV5];exact HK.out _ (bt hB2 bl5)) ?_ readyZ.nil
     ·rw [hV5,hq5];have hB5:=bt hB2 bl5;have lo5:X.heap.size<=q5:=hq5▸(hB2).size;try simp only [zp]
      refine zw 7 [] (by kernel_rfl) ?_;obtain ⟨V6,q6,hV6,hq6,f6,up6,bl6⟩:=zAf V5 (.cells #[ptr p,O ii c,O ii s,O ii ep,.map (some q1),.map (some q2)] 33);refine readyZ.cons rfl rfl (zAn (by rfl) (by rfl)) (fun _=>by rw [hV6];exact HK.out _ (bt hB5 bl6)) ?_ readyZ.nil
      ·rw [hV6,hq6];have hB6:=bt hB5 bl6;have lo6:X.heap.size<=q6:=hq6▸(hB5).size;try simp only [zp]
       exact HG V6 q1 q2 q6 q5 ⟨hB6,⟨(up6 _ _ (up5 _ _ (up2 _ _ f1).1).1).1,(up6 _ _ (up5 _ _ f2).1).1,(up2 _ _ f1).2⟩,f6,⟨(up6 _ _ f5).1,lo5⟩,lo1,lo2,lo6⟩
    obtain ⟨V7,q7,hV7,hq7,f7,up7,bl7⟩:=zAf V1 (.cells #[.pointer none] 26);refine readyZ.cons rfl rfl (zAo (by rfl)) (fun _=>by rw [hV7];exact HK.out _ (bt hB1 bl7)) ?_ readyZ.nil
    ·rw [hV7,hq7];have hB7:=bt hB1 bl7;have lo7:X.heap.size<=q7:=hq7▸(hB1).size;try simp only [zp]
     refine zw 5 [] (by kernel_rfl) ?_;obtain ⟨V8,q8,hV8,hq8,f8,up8,bl8⟩:=zAf V7 (.map #[] 0);refine readyZ.cons rfl rfl (zAk (by rfl)) (fun _=>by rw [hV8];exact HK.out _ (bt hB7 bl8)) ?_ readyZ.nil
     ·rw [hV8,hq8];have hB8:=bt hB7 bl8;have lo8:X.heap.size<=q8:=hq8▸(hB7).size;try simp only [zp]
      have HSV8:=HK.out V8 hB8;refine zt 6 8 (.agg #[ptr p,O ii c,O ii s,O ii ep,.map (some q1),.map (some q8)]) rfl (by kernel_rfl) (by rfl) (fun wx hx=>zAl (by rfl) (by rfl) (by rfl) (by rfl) (by rfl) (by rfl)) HSV8 ?_;try simp only [zp]
      refine zw 7 [] (by kernel_rfl) ?_;obtain ⟨V9,q9,hV9,hq9,f9,up9,bl9⟩:=zAf V8 (.cells #[ptr p,O ii c,O ii s,O ii ep,.map (some q1),.map (some q8)] 33);refine readyZ.cons rfl rfl (zAn (by rfl) (by rfl)) (fun _=>by rw [hV9];exact HK.out _ (bt hB8 bl9)) ?_ readyZ.nil
      ·rw [hV9,hq9];have hB9:=bt hB8 bl9;have lo9:X.heap.size<=q9:=hq9▸(hB8).size;try simp only [zp]
       exact HG V9 q1 q8 q9 q7 ⟨hB9,⟨(up9 _ _ (up8 _ _ (up7 _ _ f1).1).1).1,(up9 _ _ f8).1,(up8 _ _ (up7 _ _ f1).1).2⟩,f9,⟨(up9 _ _ (up8 _ _ f7).1).1,lo7⟩,lo1,lo8,lo9⟩
   obtain ⟨V10,q10,hV10,hq10,f10,up10,bl10⟩:=zAf V0 (.map #[] 0);refine readyZ.cons rfl rfl (zAk (by rfl)) (fun _=>by rw [hV10];exact HK.out _ (bt b0 bl10)) ?_ ?_
   ·rw [hV10,hq10];have hB10:=bt b0 bl10;have lo10:X.heap.size<=q10:=hq10▸(b0).size;try simp only [zp]
    refine zw 4 [8] (by kernel_rfl) ?_;obtain ⟨V11,q11,hV11,hq11,f11,up11,bl11⟩:=zAf V10 (.map #[] 0);refine readyZ.cons rfl rfl (zAk (by rfl)) (fun _=>by rw [hV11];exact HK.out _ (bt hB10 bl11)) ?_ ?_
    ·rw [hV11,hq11];have hB11:=bt hB10 bl11;have lo11:X.heap.size<=q11:=hq11▸(hB10).size;try simp only [zp]
     have HSV11:=HK.out V11 hB11;refine zt 6 8 (.agg #[ptr p,O ii c,O ii s,O ii ep,.map (some q11),.map (some q10)]) rfl (by kernel_rfl) (by rfl) (fun wx hx=>zAl (by rfl) (by rfl) (by rfl) (by rfl) (by rfl) (by rfl)) HSV11 ?_;try simp only [zp]
     refine zw 7 [8] (by kernel_rfl) ?_;obtain ⟨V12,q12,hV12,hq12,f12,up12,bl12⟩:=zAf V11 (.cells #[ptr p,O ii c,O ii s,O ii ep,.map (some q11),.map (some q10)] 33);refine readyZ.cons rfl rfl (zAn (by rfl) (by rfl)) (fun _=>by rw [hV12];exact HK.out _ (bt hB11 bl12)) ?_ ?_
     ·rw [hV12,hq12];have hB12:=bt hB11 bl12;have lo12:X.heap.size<=q12:=hq12▸(hB11).size;try simp only [zp]
      refine zw 8 [] (by kernel_rfl) ?_;obtain ⟨V13,q13,hV13,hq13,f13,up13,bl13⟩:=zAf V12 (.cells #[.pointer none] 26);refine readyZ.cons rfl rfl (zAo (by rfl)) (fun _=>by rw [hV13];exact HK.out _ (bt hB12 bl13)) ?_ readyZ.nil
      ·rw [hV13,hq13];have hB13:=bt hB12 bl13;have lo13:X.heap.size<=q13:=hq13▸(hB12).size;try simp only [zp]
       exact HG V13 q11 q10 q12 q13 ⟨hB13,⟨(up13 _ _ (up12 _ _ f11).1).1,(up13 _ _ (up12 _ _ (up11 _ _ f10).1).1).1,(fun e=>(up11 _ _ f10).2 e.symm)⟩,(up13 _ _ f12).1,⟨f13,lo13⟩,lo11,lo10,lo12⟩
     obtain ⟨V14,q14,hV14,hq14,f14,up14,bl14⟩:=zAf V11 (.cells #[.pointer none] 26);refine readyZ.cons rfl rfl (zAo (by rfl)) (fun _=>by rw [hV14];exact HK.out _ (bt hB11 bl14)) ?_ readyZ.nil
     ·rw [hV14,hq14];have hB14:=bt hB11 bl14;have lo14:X.heap.size<=q14:=hq14▸(hB11).size;try simp only [zp]
      refine zw 7 [] (by kernel_rfl) ?_;obtain ⟨V15,q15,hV15,hq15,f15,up15,bl15⟩:=zAf V14 (.cells #[ptr p,O ii c,O ii s,O ii ep,.map (some q11),.map (some q10)] 33);refine readyZ.cons rfl rfl (zAn (by rfl) (by rfl)) (fun _=>by rw [hV15];exact HK.out _ (bt hB14 bl15)) ?_ readyZ.nil
      ·rw [hV15,hq15];have hB15:=bt hB14 bl15;have lo15:X.heap.size<=q15:=hq15▸(hB14).size;try simp only [zp]
       exact HG V15 q11 q10 q15 q14 ⟨hB15,⟨(up15 _ _ (up14 _ _ f11).1).1,(up15 _ _ (up14 _ _ (up11 _ _ f10).1).1).1,(fun e=>(up11 _ _ f10).2 e.symm)⟩,f15,⟨(up15 _ _ f14).1,lo14⟩,lo11,lo10,lo15⟩
    obtain ⟨V16,q16,hV16,hq16,f16,up16,bl16⟩:=zAf V10 (.cells #[.pointer none] 26);refine readyZ.cons rfl rfl (zAo (by rfl)) (fun _=>by rw [hV16];exact HK.out _ (bt hB10 bl16)) ?_ readyZ.nil
    ·rw [hV16,hq16];have hB16:=bt hB10 bl16;have lo16:X.heap.size<=q16:=hq16▸(hB10).size;try simp only [zp]
     refine zw 4 [] (by kernel_rfl) ?_;obtain ⟨V17,q17,hV17,hq17,f17,up17,bl17⟩:=zAf V16 (.map #[] 0);refine readyZ.cons rfl rfl (zAk (by rfl)) (fun _=>by rw [hV17];exact HK.out _ (bt hB16 bl17)) ?_ readyZ.nil
     ·rw [hV17,hq17];have hB17:=bt hB16 bl17;have lo17:X.heap.size<=q17:=hq17▸(hB16).size;try simp only [zp]
      have HSV17:=HK.out V17 hB17;refine zt 6 8 (.agg #[ptr p,O ii c,O ii s,O ii ep,.map (some q17),.map (some q10)]) rfl (by kernel_rfl) (by rfl) (fun wx hx=>zAl (by rfl) (by rfl) (by rfl) (by rfl) (by rfl) (by rfl)) HSV17 ?_;try simp only [zp]
      refine zw 7 [] (by kernel_rfl) ?_;obtain ⟨V18,q18,hV18,hq18,f18,up18,bl18⟩:=zAf V17 (.cells #[ptr p,O ii c,O ii s,O ii ep,.map (some q17),.map (some q10)] 33);refine readyZ.cons rfl rfl (zAn (by rfl) (by rfl)) (fun _=>by rw [hV18];exact HK.out _ (bt hB17 bl18)) ?_ readyZ.nil
      ·rw [hV18,hq18];have hB18:=bt hB17 bl18;have lo18:X.heap.size<=q18:=hq18▸(hB17).size;try simp only [zp]
       exact HG V18 q17 q10 q18 q16 ⟨hB18,⟨(up18 _ _ f17).1,(up18 _ _ (up17 _ _ (up16 _ _ f10).1).1).1,(fun e=>(up17 _ _ (up16 _ _ f10).1).2 e.symm)⟩,f18,⟨(up18 _ _ (up17 _ _ f16).1).1,lo16⟩,lo17,lo10,lo18⟩
   obtain ⟨V19,q19,hV19,hq19,f19,up19,bl19⟩:=zAf V0 (.cells #[.pointer none] 26);refine readyZ.cons rfl rfl (zAo (by rfl)) (fun _=>by rw [hV19];exact HK.out _ (bt b0 bl19)) ?_ readyZ.nil
   ·rw [hV19,hq19];have hB19:=bt b0 bl19;have lo19:X.heap.size<=q19:=hq19▸(b0).size;try simp only [zp]
    refine zw 4 [5] (by kernel_rfl) ?_;obtain ⟨V20,q20,hV20,hq20,f20,up20,bl20⟩:=zAf V19 (.map #[] 0);refine readyZ.cons rfl rfl (zAk (by rfl)) (fun _=>by rw [hV20];exact HK.out _ (bt hB19 bl20)) ?_ ?_
    ·rw [hV20,hq20];have hB20:=bt hB19 bl20;have lo20:X.heap.size<=q20:=hq20▸(hB19).size;try simp only [zp]
     refine zw 5 [] (by kernel_rfl) ?_;obtain ⟨V21,q21,hV21,hq21,f21,up21,bl21⟩:=zAf V20 (.map #[] 0);refine readyZ.cons rfl rfl (zAk (by rfl)) (fun _=>by rw [hV21];exact HK.out _ (bt hB20 bl21)) ?_ readyZ.nil
     ·rw [hV21,hq21];have hB21:=bt hB20 bl21;have lo21:X.heap.size<=q21:=hq21▸(hB20).size;try simp only [zp]
      have HSV21:=HK.out V21 hB21;refine zt 6 8 (.agg #[ptr p,O ii c,O ii s,O ii ep,.map (some q20),.map (some q21)]) rfl (by kernel_rfl) (by rfl) (fun wx hx=>zAl (by rfl) (by rfl) (by rfl) (by rfl) (by rfl) (by rfl)) HSV21 ?_;try simp only [zp]
      refine zw 7 [] (by kernel_rfl) ?_;obtain ⟨V22,q22,hV22,hq22,f22,up22,bl22⟩:=zAf V21 (.cells #[ptr p,O ii c,O ii s,O ii ep,.map (some q20),.map (some q21)] 33);refine readyZ.cons rfl rfl (zAn (by rfl) (by rfl)) (fun _=>by rw [hV22];exact HK.out _ (bt hB21 bl22)) ?_ readyZ.nil
      ·rw [hV22,hq22];have hB22:=bt hB21 bl22;have lo22:X.heap.size<=q22:=hq22▸(hB21).size;try simp only [zp]
       exact HG V22 q20 q21 q22 q19 ⟨hB22,⟨(up22 _ _ (up21 _ _ f20).1).1,(up22 _ _ f21).1,(up21 _ _ f20).2⟩,f22,⟨(up22 _ _ (up21 _ _ (up20 _ _ f19).1).1).1,lo19⟩,lo20,lo21,lo22⟩
    obtain ⟨V23,q23,hV23,hq23,f23,up23,bl23⟩:=zAf V19 (.map #[] 0);refine readyZ.cons rfl rfl (zAk (by rfl)) (fun _=>by rw [hV23];exact HK.out _ (bt hB19 bl23)) ?_ readyZ.nil
    ·rw [hV23,hq23];have hB23:=bt hB19 bl23;have lo23:X.heap.size<=q23:=hq23▸(hB19).size;try simp only [zp]
     refine zw 4 [] (by kernel_rfl) ?_;obtain ⟨V24,q24,hV24,hq24,f24,up24,bl24⟩:=zAf V23 (.map #[] 0);refine readyZ.cons rfl rfl (zAk (by rfl)) (fun _=>by rw [hV24];exact HK.out _ (bt hB23 bl24)) ?_ readyZ.nil
     ·rw [hV24,hq24];have hB24:=bt hB23 bl24;have lo24:X.heap.size<=q24:=hq24▸(hB23).size;try simp only [zp]
      have HSV24:=HK.out V24 hB24;refine zt 6 8 (.agg #[ptr p,O ii c,O ii s,O ii ep,.map (some q24),.map (some q23)]) rfl (by kernel_rfl) (by rfl) (fun wx hx=>zAl (by rfl) (by rfl) (by rfl) (by rfl) (by rfl) (by rfl)) HSV24 ?_;try simp only [zp]
      refine zw 7 [] (by kernel_rfl) ?_;obtain ⟨V25,q25,hV25,hq25,f25,up25,bl25⟩:=zAf V24 (.cells #[ptr p,O ii c,O ii s,O ii ep,.map (some q24),.map (some q23)] 33);refine readyZ.cons rfl rfl (zAn (by rfl) (by rfl)) (fun _=>by rw [hV25];exact HK.out _ (bt hB24 bl25)) ?_ readyZ.nil
      ·rw [hV25,hq25];have hB25:=bt hB24 bl25;have lo25:X.heap.size<=q25:=hq25▸(hB24).size;try simp only [zp]
       exact HG V25 q24 q23 q25 q19 ⟨hB25,⟨(up25 _ _ f24).1,(up25 _ _ (up24 _ _ f23).1).1,(fun e=>(up24 _ _ f23).2 e.symm)⟩,f25,⟨(up25 _ _ (up24 _ _ (up23 _ _ f19).1).1).1,lo19⟩,lo24,lo23,lo25⟩
  obtain ⟨V26,q26,hV26,hq26,f26,up26,bl26⟩:=zAf V0 (.map #[] 0);refine readyZ.cons rfl rfl (zAk (by rfl)) (fun _=>by rw [hV26];exact HK.out _ (bt b0 bl26)) ?_ ?_
  ·rw [hV26,hq26];have hB26:=bt b0 bl26;have lo26:X.heap.size<=q26:=hq26▸(b0).size;try simp only [zp]
   refine zw 3 [5,8] (by kernel_rfl) ?_;refine readyZ.call rfl rfl (zBp (by rfl) (by rfl) (by simp only [zj];rfl)) (HEp.out V26 hB26) ?_ ?_
   ·rintro e V' ⟨rfl,hv⟩;have hv':=hv.symm;subst hv';refine ⟨_,rfl,fun _=>HK.out _ hB26,?_⟩;try simp only [zp]
    refine zw 5 [8] (by kernel_rfl) ?_;obtain ⟨V27,q27,hV27,hq27,f27,up27,bl27⟩:=zAf V26 (.map #[] 0);refine readyZ.cons rfl rfl (zAk (by rfl)) (fun _=>by rw [hV27];exact HK.out _ (bt hB26 bl27)) ?_ ?_
    ·rw [hV27,hq27];have hB27:=bt hB26 bl27;have lo27:X.heap.size<=q27:=hq27▸(hB26).size;try simp only [zp]
     have HSV27:=HK.out V27 hB27;refine zt 6 8 (.agg #[ptr p,O ii c,O ii s,O ii ep,.map (some q26),.map (some q27)]) rfl (by kernel_rfl) (by rfl) (fun wx hx=>zAl (by rfl) (by rfl) (by rfl) (by rfl) (by rfl) (by rfl)) HSV27 ?_;try simp only [zp]
     refine zw 7 [8] (by kernel_rfl) ?_;obtain ⟨V28,q28,hV28,hq28,f28,up28,bl28⟩:=zAf V27 (.cells #[ptr p,O ii c,O ii s,O ii ep,.map (some q26),.map (some q27)] 33);refine readyZ.cons rfl rfl (zAn (by rfl) (by rfl)) (fun _=>by rw [hV28];exact HK.out _ (bt hB27 bl28)) ?_ ?_
     ·rw [hV28,hq28];have hB28:=bt hB27 bl28;have lo28:X.heap.size<=q28:=hq28▸(hB27).size;try simp only [zp]
      refine zw 8 [] (by kernel_rfl) ?_;obtain ⟨V29,q29,hV29,hq29,f29,up29,bl29⟩:=zAf V28 (.cells #[.pointer none] 26);refine readyZ.cons rfl rfl (zAo (by rfl)) (fun _=>by rw [hV29];exact HK.out _ (bt hB28 bl29)) ?_ readyZ.nil
      ·rw [hV29,hq29];have hB29:=bt hB28 bl29;have lo29:X.heap.size<=q29:=hq29▸(hB28).size;try simp only [zp]
       exact HG V29 q26 q27 q28 q29 ⟨hB29,⟨(up29 _ _ (up28 _ _ (up27 _ _ f26).1).1).1,(up29 _ _ (up28 _ _ f27).1).1,(up27 _ _ f26).2⟩,(up29 _ _ f28).1,⟨f29,lo29⟩,lo26,lo27,lo28⟩
     obtain ⟨V30,q30,hV30,hq30,f30,up30,bl30⟩:=zAf V27 (.cells #[.pointer none] 26);refine readyZ.cons rfl rfl (zAo (by rfl)) (fun _=>by rw [hV30];exact HK.out _ (bt hB27 bl30)) ?_ readyZ.nil
     ·rw [hV30,hq30];have hB30:=bt hB27 bl30;have lo30:X.heap.size<=q30:=hq30▸(hB27).size;try simp only [zp]
      refine zw 7 [] (by kernel_rfl) ?_;obtain ⟨V31,q31,hV31,hq31,f31,up31,bl31⟩:=zAf V30 (.cells #[ptr p,O ii c,O ii s,O ii ep,.map (some q26),.map (some q27)] 33);refine readyZ.cons rfl rfl (zAn (by rfl) (by rfl)) (fun _=>by rw [hV31];exact HK.out _ (bt hB30 bl31)) ?_ readyZ.nil
      ·rw [hV31,hq31];have hB31:=bt hB30 bl31;have lo31:X.heap.size<=q31:=hq31▸(hB30).size;try simp only [zp]
       exact HG V31 q26 q27 q31 q30 ⟨hB31,⟨(up31 _ _ (up30 _ _ (up27 _ _ f26).1).1).1,(up31 _ _ (up30 _ _ f27).1).1,(up27 _ _ f26).2⟩,f31,⟨(up31 _ _ f30).1,lo30⟩,lo26,lo27,lo31⟩
    obtain ⟨V32,q32,hV32,hq32,f32,up32,bl32⟩:=zAf V26 (.cells #[.pointer none] 26);refine readyZ.cons rfl rfl (zAo (by rfl)) (fun _=>by rw [hV32];exact HK.out _ (bt hB26 bl32)) ?_ readyZ.nil
    ·rw [hV32,hq32];have hB32:=bt hB26 bl32;have lo32:X.heap.size<=q32:=hq32▸(hB26).size;try simp only [zp]
     refine zw 5 [] (by kernel_rfl) ?_;obtain ⟨V33,q33,hV33,hq33,f33,up33,bl33⟩:=zAf V32 (.map #[] 0);refine readyZ.cons rfl rfl (zAk (by rfl)) (fun _=>by rw [hV33];exact HK.out _ (bt hB32 bl33)) ?_ readyZ.nil
     ·rw [hV33,hq33];have hB33:=bt hB32 bl33;have lo33:X.heap.size<=q33:=hq33▸(hB32).size;try simp only [zp]
      have HSV33:=HK.out V33 hB33;refine zt 6 8 (.agg #[ptr p,O ii c,O ii s,O ii ep,.map (some q26),.map (some q33)]) rfl (by kernel_rfl) (by rfl) (fun wx hx=>zAl (by rfl) (by rfl) (by rfl) (by rfl) (by rfl) (by rfl)) HSV33 ?_;try simp only [zp]
      refine zw 7 [] (by kernel_rfl) ?_;obtain ⟨V34,q34,hV34,hq34,f34,up34,bl34⟩:=zAf V33 (.cells #[ptr p,O ii c,O ii s,O ii ep,.map (some q26),.map (some q33)] 33);refine readyZ.cons rfl rfl (zAn (by rfl) (by rfl)) (fun _=>by rw [hV34];exact HK.out _ (bt hB33 bl34)) ?_ readyZ.nil
      ·rw [hV34,hq34];have hB34:=bt hB33 bl34;have lo34:X.heap.size<=q34:=hq34▸(hB33).size;try simp only [zp]
       exact HG V34 q26 q33 q34 q32 ⟨hB34,⟨(up34 _ _ (up33 _ _ (up32 _ _ f26).1).1).1,(up34 _ _ f33).1,(up33 _ _ (up32 _ _ f26).1).2⟩,f34,⟨(up34 _ _ (up33 _ _ f32).1).1,lo32⟩,lo26,lo33,lo34⟩
   obtain ⟨V35,q35,hV35,hq35,f35,up35,bl35⟩:=zAf V26 (.map #[] 0);refine readyZ.cons rfl rfl (zAk (by rfl)) (fun _=>by rw [hV35];exact HK.out _ (bt hB26 bl35)) ?_ ?_
   ·rw [hV35,hq35];have hB35:=bt hB26 bl35;have lo35:X.heap.size<=q35:=hq35▸(hB26).size;try simp only [zp]
    refine zw 3 [8] (by kernel_rfl) ?_;refine readyZ.call rfl rfl (zBp (by rfl) (by rfl) (by simp only [zj];rfl)) (HEp.out V35 hB35) ?_ ?_
    ·rintro e V' ⟨rfl,hv⟩;have hv':=hv.symm;subst hv';refine ⟨_,rfl,fun _=>HK.out _ hB35,?_⟩;try simp only [zp]
     have HSV35:=HK.out V35 hB35;refine zt 6 8 (.agg #[ptr p,O ii c,O ii s,O ii ep,.map (some q26),.map (some q35)]) rfl (by kernel_rfl) (by rfl) (fun wx hx=>zAl (by rfl) (by rfl) (by rfl) (by rfl) (by rfl) (by rfl)) HSV35 ?_;try simp only [zp]
     refine zw 7 [8] (by kernel_rfl) ?_;obtain ⟨V36,q36,hV36,hq36,f36,up36,bl36⟩:=zAf V35 (.cells #[ptr p,O ii c,O ii s,O ii ep,.map (some q26),.map (some q35)] 33);refine readyZ.cons rfl rfl (zAn (by rfl) (by rfl)) (fun _=>by rw [hV36];exact HK.out _ (bt hB35 bl36)) ?_ ?_
     ·rw [hV36,hq36];have hB36:=bt hB35 bl36;have lo36:X.heap.size<=q36:=hq36▸(hB35).size;try simp only [zp]
      refine zw 8 [] (by kernel_rfl) ?_;obtain ⟨V37,q37,hV37,hq37,f37,up37,bl37⟩:=zAf V36 (.cells #[.pointer none] 26);refine readyZ.cons rfl rfl (zAo (by rfl)) (fun _=>by rw [hV37];exact HK.out _ (bt hB36 bl37)) ?_ readyZ.nil
      ·rw [hV37,hq37];have hB37:=bt hB36 bl37;have lo37:X.heap.size<=q37:=hq37▸(hB36).size;try simp only [zp]
       exact HG V37 q26 q35 q36 q37 ⟨hB37,⟨(up37 _ _ (up36 _ _ (up35 _ _ f26).1).1).1,(up37 _ _ (up36 _ _ f35).1).1,(up35 _ _ f26).2⟩,(up37 _ _ f36).1,⟨f37,lo37⟩,lo26,lo35,lo36⟩
     obtain ⟨V38,q38,hV38,hq38,f38,up38,bl38⟩:=zAf V35 (.cells #[.pointer none] 26);refine readyZ.cons rfl rfl (zAo (by rfl)) (fun _=>by rw [hV38];exact HK.out _ (bt hB35 bl38)) ?_ readyZ.nil
     ·rw [hV38,hq38];have hB38:=bt hB35 bl38;have lo38:X.heap.size<=q38:=hq38▸(hB35).size;try simp only [zp]
      refine zw 7 [] (by kernel_rfl) ?_;obtain ⟨V39,q39,hV39,hq39,f39,up39,bl39⟩:=zAf V38 (.cells #[ptr p,O ii c,O ii s,O ii ep,.map (some q26),.map (some q35)] 33);refine readyZ.cons rfl rfl (zAn (by rfl) (by rfl)) (fun _=>by rw [hV39];exact HK.out _ (bt hB38 bl39)) ?_ readyZ.nil
      ·rw [hV39,hq39];have hB39:=bt hB38 bl39;have lo39:X.heap.size<=q39:=hq39▸(hB38).size;try simp only [zp]
       exact HG V39 q26 q35 q39 q38 ⟨hB39,⟨(up39 _ _ (up38 _ _ (up35 _ _ f26).1).1).1,(up39 _ _ (up38 _ _ f35).1).1,(up35 _ _ f26).2⟩,f39,⟨(up39 _ _ f38).1,lo38⟩,lo26,lo35,lo39⟩
    obtain ⟨V40,q40,hV40,hq40,f40,up40,bl40⟩:=zAf V35 (.cells #[.pointer none] 26);refine readyZ.cons rfl rfl (zAo (by rfl)) (fun _=>by rw [hV40];exact HK.out _ (bt hB35 bl40)) ?_ readyZ.nil
    ·rw [hV40,hq40];have hB40:=bt hB35 bl40;have lo40:X.heap.size<=q40:=hq40▸(hB35).size;try simp only [zp]
     refine zw 3 [] (by kernel_rfl) ?_;refine readyZ.call rfl rfl (zBp (by rfl) (by rfl) (by simp only [zj];rfl)) (HEp.out V40 hB40) ?_ readyZ.nil
     ·rintro e V' ⟨rfl,hv⟩;have hv':=hv.symm;subst hv';refine ⟨_,rfl,fun _=>HK.out _ hB40,?_⟩;try simp only [zp]
      have HSV40:=HK.out V40 hB40;refine zt 6 8 (.agg #[ptr p,O ii c,O ii s,O ii ep,.map (some q26),.map (some q35)]) rfl (by kernel_rfl) (by rfl) (fun wx hx=>zAl (by rfl) (by rfl) (by rfl) (by rfl) (by rfl) (by rfl)) HSV40 ?_;try simp only [zp]
      refine zw 7 [] (by kernel_rfl) ?_;obtain ⟨V41,q41,hV41,hq41,f41,up41,bl41⟩:=zAf V40 (.cells #[ptr p,O ii c,O ii s,O ii ep,.map (some q26),.map (some q35)] 33);refine readyZ.cons rfl rfl (zAn (by rfl) (by rfl)) (fun _=>by rw [hV41];exact HK.out _ (bt hB40 bl41)) ?_ readyZ.nil
      ·rw [hV41,hq41];have hB41:=bt hB40 bl41;have lo41:X.heap.size<=q41:=hq41▸(hB40).size;try simp only [zp]
       exact HG V41 q26 q35 q41 q40 ⟨hB41,⟨(up41 _ _ (up40 _ _ (up35 _ _ f26).1).1).1,(up41 _ _ (up40 _ _ f35).1).1,(up35 _ _ f26).2⟩,f41,⟨(up41 _ _ f40).1,lo40⟩,lo26,lo35,lo41⟩
   obtain ⟨V42,q42,hV42,hq42,f42,up42,bl42⟩:=zAf V26 (.cells #[.pointer none] 26);refine readyZ.cons rfl rfl (zAo (by rfl)) (fun _=>by rw [hV42];exact HK.out _ (bt hB26 bl42)) ?_ readyZ.nil
   ·rw [hV42,hq42];have hB42:=bt hB26 bl42;have lo42:X.heap.size<=q42:=hq42▸(hB26).size;try simp only [zp]
    refine zw 3 [5] (by kernel_rfl) ?_;refine readyZ.call rfl rfl (zBp (by rfl) (by rfl) (by simp only [zj];rfl)) (HEp.out V42 hB42) ?_ ?_
    ·rintro e V' ⟨rfl,hv⟩;have hv':=hv.symm;subst hv';refine ⟨_,rfl,fun _=>HK.out _ hB42,?_⟩;try simp only [zp]
     refine zw 5 [] (by kernel_rfl) ?_;obtain ⟨V43,q43,hV43,hq43,f43,up43,bl43⟩:=zAf V42 (.map #[] 0);refine readyZ.cons rfl rfl (zAk (by rfl)) (fun _=>by rw [hV43];exact HK.out _ (bt hB42 bl43)) ?_ readyZ.nil
     ·rw [hV43,hq43];have hB43:=bt hB42 bl43;have lo43:X.heap.size<=q43:=hq43▸(hB42).size;try simp only [zp]
      have HSV43:=HK.out V43 hB43;refine zt 6 8 (.agg #[ptr p,O ii c,O ii s,O ii ep,.map (some q26),.map (some q43)]) rfl (by kernel_rfl) (by rfl) (fun wx hx=>zAl (by rfl) (by rfl) (by rfl) (by rfl) (by rfl) (by rfl)) HSV43 ?_;try simp only [zp]
      refine zw 7 [] (by kernel_rfl) ?_;obtain ⟨V44,q44,hV44,hq44,f44,up44,bl44⟩:=zAf V43 (.cells #[ptr p,O ii c,O ii s,O ii ep,.map (some q26),.map (some q43)] 33);refine readyZ.cons rfl rfl (zAn (by rfl) (by rfl)) (fun _=>by rw [hV44];exact HK.out _ (bt hB43 bl44)) ?_ readyZ.nil
      ·rw [hV44,hq44];have hB44:=bt hB43 bl44;have lo44:X.heap.size<=q44:=hq44▸(hB43).size;try simp only [zp]
       exact HG V44 q26 q43 q44 q42 ⟨hB44,⟨(up44 _ _ (up43 _ _ (up42 _ _ f26).1).1).1,(up44 _ _ f43).1,(up43 _ _ (up42 _ _ f26).1).2⟩,f44,⟨(up44 _ _ (up43 _ _ f42).1).1,lo42⟩,lo26,lo43,lo44⟩
    obtain ⟨V45,q45,hV45,hq45,f45,up45,bl45⟩:=zAf V42 (.map #[] 0);refine readyZ.cons rfl rfl (zAk (by rfl)) (fun _=>by rw [hV45];exact HK.out _ (bt hB42 bl45)) ?_ readyZ.nil
    ·rw [hV45,hq45];have hB45:=bt hB42 bl45;have lo45:X.heap.size<=q45:=hq45▸(hB42).size;try simp only [zp]
     refine zw 3 [] (by kernel_rfl) ?_;refine readyZ.call rfl rfl (zBp (by rfl) (by rfl) (by simp only [zj];rfl)) (HEp.out V45 hB45) ?_ readyZ.nil
     ·rintro e V' ⟨rfl,hv⟩;have hv':=hv.symm;subst hv';refine ⟨_,rfl,fun _=>HK.out _ hB45,?_⟩;try simp only [zp]
      have HSV45:=HK.out V45 hB45;refine zt 6 8 (.agg #[ptr p,O ii c,O ii s,O ii ep,.map (some q26),.map (some q45)]) rfl (by kernel_rfl) (by rfl) (fun wx hx=>zAl (by rfl) (by rfl) (by rfl) (by rfl) (by rfl) (by rfl)) HSV45 ?_;try simp only [zp]
      refine zw 7 [] (by kernel_rfl) ?_;obtain ⟨V46,q46,hV46,hq46,f46,up46,bl46⟩:=zAf V45 (.cells #[ptr p,O ii c,O ii s,O ii ep,.map (some q26),.map (some q45)] 33);refine readyZ.cons rfl rfl (zAn (by rfl) (by rfl)) (fun _=>by rw [hV46];exact HK.out _ (bt hB45 bl46)) ?_ readyZ.nil
      ·rw [hV46,hq46];have hB46:=bt hB45 bl46;have lo46:X.heap.size<=q46:=hq46▸(hB45).size;try simp only [zp]
       exact HG V46 q26 q45 q46 q42 ⟨hB46,⟨(up46 _ _ (up45 _ _ (up42 _ _ f26).1).1).1,(up46 _ _ f45).1,(up45 _ _ (up42 _ _ f26).1).2⟩,f46,⟨(up46 _ _ (up45 _ _ f42).1).1,lo42⟩,lo26,lo45,lo46⟩
  obtain ⟨V47,q47,hV47,hq47,f47,up47,bl47⟩:=zAf V0 (.map #[] 0);refine readyZ.cons rfl rfl (zAk (by rfl)) (fun _=>by rw [hV47];exact HK.out _ (bt b0 bl47)) ?_ ?_
  ·rw [hV47,hq47];have hB47:=bt b0 bl47;have lo47:X.heap.size<=q47:=hq47▸(b0).size;try simp only [zp]
   refine zw 3 [4,8] (by kernel_rfl) ?_;refine readyZ.call rfl rfl (zBp (by rfl) (by rfl) (by simp only [zj];rfl)) (HEp.out V47 hB47) ?_ ?_
   ·rintro e V' ⟨rfl,hv⟩;have hv':=hv.symm;subst hv';refine ⟨_,rfl,fun _=>HK.out _ hB47,?_⟩;try simp only [zp]
    refine zw 4 [8] (by kernel_rfl) ?_;obtain ⟨V48,q48,hV48,hq48,f48,up48,bl48⟩:=zAf V47 (.map #[] 0);refine readyZ.cons rfl rfl (zAk (by rfl)) (fun _=>by rw [hV48];exact HK.out _ (bt hB47 bl48)) ?_ ?_
    ·rw [hV48,hq48];have hB48:=bt hB47 bl48;have lo48:X.heap.size<=q48:=hq48▸(hB47).size;try simp only [zp]
     have HSV48:=HK.out V48 hB48;refine zt 6 8 (.agg #[ptr p,O ii c,O ii s,O ii ep,.map (some q48),.map (some q47)]) rfl (by kernel_rfl) (by rfl) (fun wx hx=>zAl (by rfl) (by rfl) (by rfl) (by rfl) (by rfl) (by rfl)) HSV48 ?_;try simp only [zp]
     refine zw 7 [8] (by kernel_rfl) ?_;obtain ⟨V49,q49,hV49,hq49,f49,up49,bl49⟩:=zAf V48 (.cells #[ptr p,O ii c,O ii s,O ii ep,.map (some q48),.map (some q47)] 33);refine readyZ.cons rfl rfl (zAn (by rfl) (by rfl)) (fun _=>by rw [hV49];exact HK.out _ (bt hB48 bl49)) ?_ ?_
     ·rw [hV49,hq49];have hB49:=bt hB48 bl49;have lo49:X.heap.size<=q49:=hq49▸(hB48).size;try simp only [zp]
      refine zw 8 [] (by kernel_rfl) ?_;obtain ⟨V50,q50,hV50,hq50,f50,up50,bl50⟩:=zAf V49 (.cells #[.pointer none] 26);refine readyZ.cons rfl rfl (zAo (by rfl)) (fun _=>by rw [hV50];exact HK.out _ (bt hB49 bl50)) ?_ readyZ.nil
      ·rw [hV50,hq50];have hB50:=bt hB49 bl50;have lo50:X.heap.size<=q50:=hq50▸(hB49).size;try simp only [zp]
       exact HG V50 q48 q47 q49 q50 ⟨hB50,⟨(up50 _ _ (up49 _ _ f48).1).1,(up50 _ _ (up49 _ _ (up48 _ _ f47).1).1).1,(fun e=>(up48 _ _ f47).2 e.symm)⟩,(up50 _ _ f49).1,⟨f50,lo50⟩,lo48,lo47,lo49⟩
     obtain ⟨V51,q51,hV51,hq51,f51,up51,bl51⟩:=zAf V48 (.cells #[.pointer none] 26);refine readyZ.cons rfl rfl (zAo (by rfl)) (fun _=>by rw [hV51];exact HK.out _ (bt hB48 bl51)) ?_ readyZ.nil
     ·rw [hV51,hq51];have hB51:=bt hB48 bl51;have lo51:X.heap.size<=q51:=hq51▸(hB48).size;try simp only [zp]
      refine zw 7 [] (by kernel_rfl) ?_;obtain ⟨V52,q52,hV52,hq52,f52,up52,bl52⟩:=zAf V51 (.cells #[ptr p,O ii c,O ii s,O ii ep,.map (some q48),.map (some q47)] 33);refine readyZ.cons rfl rfl (zAn (by rfl) (by rfl)) (fun _=>by rw [hV52];exact HK.out _ (bt hB51 bl52)) ?_ readyZ.nil
      ·rw [hV52,hq52];have hB52:=bt hB51 bl52;have lo52:X.heap.size<=q52:=hq52▸(hB51).size;try simp only [zp]
       exact HG V52 q48 q47 q52 q51 ⟨hB52,⟨(up52 _ _ (up51 _ _ f48).1).1,(up52 _ _ (up51 _ _ (up48 _ _ f47).1).1).1,(fun e=>(up48 _ _ f47).2 e.symm)⟩,f52,⟨(up52 _ _ f51).1,lo51⟩,lo48,lo47,lo52⟩
    obtain ⟨V53,q53,hV53,hq53,f53,up53,bl53⟩:=zAf V47 (.cells #[.pointer none] 26);refine readyZ.cons rfl rfl (zAo (by rfl)) (fun _=>by rw [hV53];exact HK.out _ (bt hB47 bl53)) ?_ readyZ.nil
    ·rw [hV53,hq53];have hB53:=bt hB47 bl53;have lo53:X.heap.size<=q53:=hq53▸(hB47).size;try simp only [zp]
     refine zw 4 [] (by kernel_rfl) ?_;obtain ⟨V54,q54,hV54,hq54,f54,up54,bl54⟩:=zAf V53 (.map #[] 0);refine readyZ.cons rfl rfl (zAk (by rfl)) (fun _=>by rw [hV54];exact HK.out _ (bt hB53 bl54)) ?_ readyZ.nil
     ·rw [hV54,hq54];have hB54:=bt hB53 bl54;have lo54:X.heap.size<=q54:=hq54▸(hB53).size;try simp only [zp]
      have HSV54:=HK.out V54 hB54;refine zt 6 8 (.agg #[ptr p,O ii c,O ii s,O ii ep,.map (some q54),.map (some q47)]) rfl (by kernel_rfl) (by rfl) (fun wx hx=>zAl (by rfl) (by rfl) (by rfl) (by rfl) (by rfl) (by rfl)) HSV54 ?_;try simp only [zp]
      refine zw 7 [] (by kernel_rfl) ?_;obtain ⟨V55,q55,hV55,hq55,f55,up55,bl55⟩:=zAf V54 (.cells #[ptr p,O ii c,O ii s,O ii ep,.map (some q54),.map (some q47)] 33);refine readyZ.cons rfl rfl (zAn (by rfl) (by rfl)) (fun _=>by rw [hV55];exact HK.out _ (bt hB54 bl55)) ?_ readyZ.nil
      ·rw [hV55,hq55];have hB55:=bt hB54 bl55;have lo55:X.heap.size<=q55:=hq55▸(hB54).size;try simp only [zp]
       exact HG V55 q54 q47 q55 q53 ⟨hB55,⟨(up55 _ _ f54).1,(up55 _ _ (up54 _ _ (up53 _ _ f47).1).1).1,(fun e=>(up54 _ _ (up53 _ _ f47).1).2 e.symm)⟩,f55,⟨(up55 _ _ (up54 _ _ f53).1).1,lo53⟩,lo54,lo47,lo55⟩
   obtain ⟨V56,q56,hV56,hq56,f56,up56,bl56⟩:=zAf V47 (.map #[] 0);refine readyZ.cons rfl rfl (zAk (by rfl)) (fun _=>by rw [hV56];exact HK.out _ (bt hB47 bl56)) ?_ ?_
   ·rw [hV56,hq56];have hB56:=bt hB47 bl56;have lo56:X.heap.size<=q56:=hq56▸(hB47).size;try simp only [zp]
    refine zw 3 [8] (by kernel_rfl) ?_;refine readyZ.call rfl rfl (zBp (by rfl) (by rfl) (by simp only [zj];rfl)) (HEp.out V56 hB56) ?_ ?_
    ·rintro e V' ⟨rfl,hv⟩;have hv':=hv.symm;subst hv';refine ⟨_,rfl,fun _=>HK.out _ hB56,?_⟩;try simp only [zp]
     have HSV56:=HK.out V56 hB56;refine zt 6 8 (.agg #[ptr p,O ii c,O ii s,O ii ep,.map (some q56),.map (some q47)]) rfl (by kernel_rfl) (by rfl) (fun wx hx=>zAl (by rfl) (by rfl) (by rfl) (by rfl) (by rfl) (by rfl)) HSV56 ?_;try simp only [zp]
     refine zw 7 [8] (by kernel_rfl) ?_;obtain ⟨V57,q57,hV57,hq57,f57,up57,bl57⟩:=zAf V56 (.cells #[ptr p,O ii c,O ii s,O ii ep,.map (some q56),.map (some q47)] 33);refine readyZ.cons rfl rfl (zAn (by rfl) (by rfl)) (fun _=>by rw [hV57];exact HK.out _ (bt hB56 bl57)) ?_ ?_
     ·rw [hV57,hq57];have hB57:=bt hB56 bl57;have lo57:X.heap.size<=q57:=hq57▸(hB56).size;try simp only [zp]
      refine zw 8 [] (by kernel_rfl) ?_;obtain ⟨V58,q58,hV58,hq58,f58,up58,bl58⟩:=zAf V57 (.cells #[.pointer none] 26);refine readyZ.cons rfl rfl (zAo (by rfl)) (fun _=>by rw [hV58];exact HK.out _ (bt hB57 bl58)) ?_ readyZ.nil
      ·rw [hV58,hq58];have hB58:=bt hB57 bl58;have lo58:X.heap.size<=q58:=hq58▸(hB57).size;try simp only [zp]
       exact HG V58 q56 q47 q57 q58 ⟨hB58,⟨(up58 _ _ (up57 _ _ f56).1).1,(up58 _ _ (up57 _ _ (up56 _ _ f47).1).1).1,(fun e=>(up56 _ _ f47).2 e.symm)⟩,(up58 _ _ f57).1,⟨f58,lo58⟩,lo56,lo47,lo57⟩
     obtain ⟨V59,q59,hV59,hq59,f59,up59,bl59⟩:=zAf V56 (.cells #[.pointer none] 26);refine readyZ.cons rfl rfl (zAo (by rfl)) (fun _=>by rw [hV59];exact HK.out _ (bt hB56 bl59)) ?_ readyZ.nil
     ·rw [hV59,hq59];have hB59:=bt hB56 bl59;have lo59:X.heap.size<=q59:=hq59▸(hB56).size;try simp only [zp]
      refine zw 7 [] (by kernel_rfl) ?_;obtain ⟨V60,q60,hV60,hq60,f60,up60,bl60⟩:=zAf V59 (.cells #[ptr p,O ii c,O ii s,O ii ep,.map (some q56),.map (some q47)] 33);refine readyZ.cons rfl rfl (zAn (by rfl) (by rfl)) (fun _=>by rw [hV60];exact HK.out _ (bt hB59 bl60)) ?_ readyZ.nil
      ·rw [hV60,hq60];have hB60:=bt hB59 bl60;have lo60:X.heap.size<=q60:=hq60▸(hB59).size;try simp only [zp]
       exact HG V60 q56 q47 q60 q59 ⟨hB60,⟨(up60 _ _ (up59 _ _ f56).1).1,(up60 _ _ (up59 _ _ (up56 _ _ f47).1).1).1,(fun e=>(up56 _ _ f47).2 e.symm)⟩,f60,⟨(up60 _ _ f59).1,lo59⟩,lo56,lo47,lo60⟩
    obtain ⟨V61,q61,hV61,hq61,f61,up61,bl61⟩:=zAf V56 (.cells #[.pointer none] 26);refine readyZ.cons rfl rfl (zAo (by rfl)) (fun _=>by rw [hV61];exact HK.out _ (bt hB56 bl61)) ?_ readyZ.nil
    ·rw [hV61,hq61];have hB61:=bt hB56 bl61;have lo61:X.heap.size<=q61:=hq61▸(hB56).size;try simp only [zp]
     refine zw 3 [] (by kernel_rfl) ?_;refine readyZ.call rfl rfl (zBp (by rfl) (by rfl) (by simp only [zj];rfl)) (HEp.out V61 hB61) ?_ readyZ.nil
     ·rintro e V' ⟨rfl,hv⟩;have hv':=hv.symm;subst hv';refine ⟨_,rfl,fun _=>HK.out _ hB61,?_⟩;try simp only [zp]
      have HSV61:=HK.out V61 hB61;refine zt 6 8 (.agg #[ptr p,O ii c,O ii s,O ii ep,.map (some q56),.map (some q47)]) rfl (by kernel_rfl) (by rfl) (fun wx hx=>zAl (by rfl) (by rfl) (by rfl) (by rfl) (by rfl) (by rfl)) HSV61 ?_;try simp only [zp]
      refine zw 7 [] (by kernel_rfl) ?_;obtain ⟨V62,q62,hV62,hq62,f62,up62,bl62⟩:=zAf V61 (.cells #[ptr p,O ii c,O ii s,O ii ep,.map (some q56),.map (some q47)] 33);refine readyZ.cons rfl rfl (zAn (by rfl) (by rfl)) (fun _=>by rw [hV62];exact HK.out _ (bt hB61 bl62)) ?_ readyZ.nil
      ·rw [hV62,hq62];have hB62:=bt hB61 bl62;have lo62:X.heap.size<=q62:=hq62▸(hB61).size;try simp only [zp]
       exact HG V62 q56 q47 q62 q61 ⟨hB62,⟨(up62 _ _ (up61 _ _ f56).1).1,(up62 _ _ (up61 _ _ (up56 _ _ f47).1).1).1,(fun e=>(up56 _ _ f47).2 e.symm)⟩,f62,⟨(up62 _ _ f61).1,lo61⟩,lo56,lo47,lo62⟩
   obtain ⟨V63,q63,hV63,hq63,f63,up63,bl63⟩:=zAf V47 (.cells #[.pointer none] 26);refine readyZ.cons rfl rfl (zAo (by rfl)) (fun _=>by rw [hV63];exact HK.out _ (bt hB47 bl63)) ?_ readyZ.nil
   ·rw [hV63,hq63];have hB63:=bt hB47 bl63;have lo63:X.heap.size<=q63:=hq63▸(hB47).size;try simp only [zp]
    refine zw 3 [4] (by kernel_rfl) ?_;refine readyZ.call rfl rfl (zBp (by rfl) (by rfl) (by simp only [zj];rfl)) (HEp.out V63 hB63) ?_ ?_
    ·rintro e V' ⟨rfl,hv⟩;have hv':=hv.symm;subst hv';refine ⟨_,rfl,fun _=>HK.out _ hB63,?_⟩;try simp only [zp]
     refine zw 4 [] (by kernel_rfl) ?_;obtain ⟨V64,q64,hV64,hq64,f64,up64,bl64⟩:=zAf V63 (.map #[] 0);refine readyZ.cons rfl rfl (zAk (by rfl)) (fun _=>by rw [hV64];exact HK.out _ (bt hB63 bl64)) ?_ readyZ.nil
     ·rw [hV64,hq64];have hB64:=bt hB63 bl64;have lo64:X.heap.size<=q64:=hq64▸(hB63).size;try simp only [zp]
      have HSV64:=HK.out V64 hB64;refine zt 6 8 (.agg #[ptr p,O ii c,O ii s,O ii ep,.map (some q64),.map (some q47)]) rfl (by kernel_rfl) (by rfl) (fun wx hx=>zAl (by rfl) (by rfl) (by rfl) (by rfl) (by rfl) (by rfl)) HSV64 ?_;try simp only [zp]
      refine zw 7 [] (by kernel_rfl) ?_;obtain ⟨V65,q65,hV65,hq65,f65,up65,bl65⟩:=zAf V64 (.cells #[ptr p,O ii c,O ii s,O ii ep,.map (some q64),.map (some q47)] 33);refine readyZ.cons rfl rfl (zAn (by rfl) (by rfl)) (fun _=>by rw [hV65];exact HK.out _ (bt hB64 bl65)) ?_ readyZ.nil
      ·rw [hV65,hq65];have hB65:=bt hB64 bl65;have lo65:X.heap.size<=q65:=hq65▸(hB64).size;try simp only [zp]
       exact HG V65 q64 q47 q65 q63 ⟨hB65,⟨(up65 _ _ f64).1,(up65 _ _ (up64 _ _ (up63 _ _ f47).1).1).1,(fun e=>(up64 _ _ (up63 _ _ f47).1).2 e.symm)⟩,f65,⟨(up65 _ _ (up64 _ _ f63).1).1,lo63⟩,lo64,lo47,lo65⟩
    obtain ⟨V66,q66,hV66,hq66,f66,up66,bl66⟩:=zAf V63 (.map #[] 0);refine readyZ.cons rfl rfl (zAk (by rfl)) (fun _=>by rw [hV66];exact HK.out _ (bt hB63 bl66)) ?_ readyZ.nil
    ·rw [hV66,hq66];have hB66:=bt hB63 bl66;have lo66:X.heap.size<=q66:=hq66▸(hB63).size;try simp only [zp]
     refine zw 3 [] (by kernel_rfl) ?_;refine readyZ.call rfl rfl (zBp (by rfl) (by rfl) (by simp only [zj];rfl)) (HEp.out V66 hB66) ?_ readyZ.nil
     ·rintro e V' ⟨rfl,hv⟩;have hv':=hv.symm;subst hv';refine ⟨_,rfl,fun _=>HK.out _ hB66,?_⟩;try simp only [zp]
      have HSV66:=HK.out V66 hB66;refine zt 6 8 (.agg #[ptr p,O ii c,O ii s,O ii ep,.map (some q66),.map (some q47)]) rfl (by kernel_rfl) (by rfl) (fun wx hx=>zAl (by rfl) (by rfl) (by rfl) (by rfl) (by rfl) (by rfl)) HSV66 ?_;try simp only [zp]
      refine zw 7 [] (by kernel_rfl) ?_;obtain ⟨V67,q67,hV67,hq67,f67,up67,bl67⟩:=zAf V66 (.cells #[ptr p,O ii c,O ii s,O ii ep,.map (some q66),.map (some q47)] 33);refine readyZ.cons rfl rfl (zAn (by rfl) (by rfl)) (fun _=>by rw [hV67];exact HK.out _ (bt hB66 bl67)) ?_ readyZ.nil
      ·rw [hV67,hq67];have hB67:=bt hB66 bl67;have lo67:X.heap.size<=q67:=hq67▸(hB66).size;try simp only [zp]
       exact HG V67 q66 q47 q67 q63 ⟨hB67,⟨(up67 _ _ f66).1,(up67 _ _ (up66 _ _ (up63 _ _ f47).1).1).1,(fun e=>(up66 _ _ (up63 _ _ f47).1).2 e.symm)⟩,f67,⟨(up67 _ _ (up66 _ _ f63).1).1,lo63⟩,lo66,lo47,lo67⟩
  obtain ⟨V68,q68,hV68,hq68,f68,up68,bl68⟩:=zAf V0 (.cells #[.pointer none] 26);refine readyZ.cons rfl rfl (zAo (by rfl)) (fun _=>by rw [hV68];exact HK.out _ (bt b0 bl68)) ?_ readyZ.nil
  ·rw [hV68,hq68];have hB68:=bt b0 bl68;have lo68:X.heap.size<=q68:=hq68▸(b0).size;try simp only [zp]
   refine zw 3 [4,5] (by kernel_rfl) ?_;refine readyZ.call rfl rfl (zBp (by rfl) (by rfl) (by simp only [zj];rfl)) (HEp.out V68 hB68) ?_ ?_
   ·rintro e V' ⟨rfl,hv⟩;have hv':=hv.symm;subst hv';refine ⟨_,rfl,fun _=>HK.out _ hB68,?_⟩;try simp only [zp]
    refine zw 4 [5] (by kernel_rfl) ?_;obtain ⟨V69,q69,hV69,hq69,f69,up69,bl69⟩:=zAf V68 (.map #[] 0);refine readyZ.cons rfl rfl (zAk (by rfl)) (fun _=>by rw [hV69];exact HK.out _ (bt hB68 bl69)) ?_ ?_
    ·rw [hV69,hq69];have hB69:=bt hB68 bl69;have lo69:X.heap.size<=q69:=hq69▸(hB68).size;try simp only [zp]
     refine zw 5 [] (by kernel_rfl) ?_;obtain ⟨V70,q70,hV70,hq70,f70,up70,bl70⟩:=zAf V69 (.map #[] 0);refine readyZ.cons rfl rfl (zAk (by rfl)) (fun _=>by rw [hV70];exact HK.out _ (bt hB69 bl70)) ?_ readyZ.nil
     ·rw [hV70,hq70];have hB70:=bt hB69 bl70;have lo70:X.heap.size<=q70:=hq70▸(hB69).size;try simp only [zp]
      have HSV70:=HK.out V70 hB70;refine zt 6 8 (.agg #[ptr p,O ii c,O ii s,O ii ep,.map (some q69),.map (some q70)]) rfl (by kernel_rfl) (by rfl) (fun wx hx=>zAl (by rfl) (by rfl) (by rfl) (by rfl) (by rfl) (by rfl)) HSV70 ?_;try simp only [zp]
      refine zw 7 [] (by kernel_rfl) ?_;obtain ⟨V71,q71,hV71,hq71,f71,up71,bl71⟩:=zAf V70 (.cells #[ptr p,O ii c,O ii s,O ii ep,.map (some q69),.map (some q70)] 33);refine readyZ.cons rfl rfl (zAn (by rfl) (by rfl)) (fun _=>by rw [hV71];exact HK.out _ (bt hB70 bl71)) ?_ readyZ.nil
      ·rw [hV71,hq71];have hB71:=bt hB70 bl71;have lo71:X.heap.size<=q71:=hq71▸(hB70).size;try simp only [zp]
       exact HG V71 q69 q70 q71 q68 ⟨hB71,⟨(up71 _ _ (up70 _ _ f69).1).1,(up71 _ _ f70).1,(up70 _ _ f69).2⟩,f71,⟨(up71 _ _ (up70 _ _ (up69 _ _ f68).1).1).1,lo68⟩,lo69,lo70,lo71⟩
    obtain ⟨V72,q72,hV72,hq72,f72,up72,bl72⟩:=zAf V68 (.map #[] 0);refine readyZ.cons rfl rfl (zAk (by rfl)) (fun _=>by rw [hV72];exact HK.out _ (bt hB68 bl72)) ?_ readyZ.nil
    ·rw [hV72,hq72];have hB72:=bt hB68 bl72;have lo72:X.heap.size<=q72:=hq72▸(hB68).size;try simp only [zp]
     refine zw 4 [] (by kernel_rfl) ?_;obtain ⟨V73,q73,hV73,hq73,f73,up73,bl73⟩:=zAf V72 (.map #[] 0);refine readyZ.cons rfl rfl (zAk (by rfl)) (fun _=>by rw [hV73];exact HK.out _ (bt hB72 bl73)) ?_ readyZ.nil
     ·rw [hV73,hq73];have hB73:=bt hB72 bl73;have lo73:X.heap.size<=q73:=hq73▸(hB72).size;try simp only [zp]
      have HSV73:=HK.out V73 hB73;refine zt 6 8 (.agg #[ptr p,O ii c,O ii s,O ii ep,.map (some q73),.map (some q72)]) rfl (by kernel_rfl) (by rfl) (fun wx hx=>zAl (by rfl) (by rfl) (by rfl) (by rfl) (by rfl) (by rfl)) HSV73 ?_;try simp only [zp]
      refine zw 7 [] (by kernel_rfl) ?_;obtain ⟨V74,q74,hV74,hq74,f74,up74,bl74⟩:=zAf V73 (.cells #[ptr p,O ii c,O ii s,O ii ep,.map (some q73),.map (some q72)] 33);refine readyZ.cons rfl rfl (zAn (by rfl) (by rfl)) (fun _=>by rw [hV74];exact HK.out _ (bt hB73 bl74)) ?_ readyZ.nil
      ·rw [hV74,hq74];have hB74:=bt hB73 bl74;have lo74:X.heap.size<=q74:=hq74▸(hB73).size;try simp only [zp]
       exact HG V74 q73 q72 q74 q68 ⟨hB74,⟨(up74 _ _ f73).1,(up74 _ _ (up73 _ _ f72).1).1,(fun e=>(up73 _ _ f72).2 e.symm)⟩,f74,⟨(up74 _ _ (up73 _ _ (up72 _ _ f68).1).1).1,lo68⟩,lo73,lo72,lo74⟩
   obtain ⟨V75,q75,hV75,hq75,f75,up75,bl75⟩:=zAf V68 (.map #[] 0);refine readyZ.cons rfl rfl (zAk (by rfl)) (fun _=>by rw [hV75];exact HK.out _ (bt hB68 bl75)) ?_ ?_
   ·rw [hV75,hq75];have hB75:=bt hB68 bl75;have lo75:X.heap.size<=q75:=hq75▸(hB68).size;try simp only [zp]
    refine zw 3 [5] (by kernel_rfl) ?_;refine readyZ.call rfl rfl (zBp (by rfl) (by rfl) (by simp only [zj];rfl)) (HEp.out V75 hB75) ?_ ?_
    ·rintro e V' ⟨rfl,hv⟩;have hv':=hv.symm;subst hv';refine ⟨_,rfl,fun _=>HK.out _ hB75,?_⟩;try simp only [zp]
     refine zw 5 [] (by kernel_rfl) ?_;obtain ⟨V76,q76,hV76,hq76,f76,up76,bl76⟩:=zAf V75 (.map #[] 0);refine readyZ.cons rfl rfl (zAk (by rfl)) (fun _=>by rw [hV76];exact HK.out _ (bt hB75 bl76)) ?_ readyZ.nil
     ·rw [hV76,hq76];have hB76:=bt hB75 bl76;have lo76:X.heap.size<=q76:=hq76▸(hB75).size;try simp only [zp]
      have HSV76:=HK.out V76 hB76;refine zt 6 8 (.agg #[ptr p,O ii c,O ii s,O ii ep,.map (some q75),.map (some q76)]) rfl (by kernel_rfl) (by rfl) (fun wx hx=>zAl (by rfl) (by rfl) (by rfl) (by rfl) (by rfl) (by rfl)) HSV76 ?_;try simp only [zp]
      refine zw 7 [] (by kernel_rfl) ?_;obtain ⟨V77,q77,hV77,hq77,f77,up77,bl77⟩:=zAf V76 (.cells #[ptr p,O ii c,O ii s,O ii ep,.map (some q75),.map (some q76)] 33);refine readyZ.cons rfl rfl (zAn (by rfl) (by rfl)) (fun _=>by rw [hV77];exact HK.out _ (bt hB76 bl77)) ?_ readyZ.nil
      ·rw [hV77,hq77];have hB77:=bt hB76 bl77;have lo77:X.heap.size<=q77:=hq77▸(hB76).size;try simp only [zp]
       exact HG V77 q75 q76 q77 q68 ⟨hB77,⟨(up77 _ _ (up76 _ _ f75).1).1,(up77 _ _ f76).1,(up76 _ _ f75).2⟩,f77,⟨(up77 _ _ (up76 _ _ (up75 _ _ f68).1).1).1,lo68⟩,lo75,lo76,lo77⟩
    obtain ⟨V78,q78,hV78,hq78,f78,up78,bl78⟩:=zAf V75 (.map #[] 0);refine readyZ.cons rfl rfl (zAk (by rfl)) (fun _=>by rw [hV78];exact HK.out _ (bt hB75 bl78)) ?_ readyZ.nil
    ·rw [hV78,hq78];have hB78:=bt hB75 bl78;have lo78:X.heap.size<=q78:=hq78▸(hB75).size;try simp only [zp]
     refine zw 3 [] (by kernel_rfl) ?_;refine readyZ.call rfl rfl (zBp (by rfl) (by rfl) (by simp only [zj];rfl)) (HEp.out V78 hB78) ?_ readyZ.nil
     ·rintro e V' ⟨rfl,hv⟩;have hv':=hv.symm;subst hv';refine ⟨_,rfl,fun _=>HK.out _ hB78,?_⟩;try simp only [zp]
      have HSV78:=HK.out V78 hB78;refine zt 6 8 (.agg #[ptr p,O ii c,O ii s,O ii ep,.map (some q75),.map (some q78)]) rfl (by kernel_rfl) (by rfl) (fun wx hx=>zAl (by rfl) (by rfl) (by rfl) (by rfl) (by rfl) (by rfl)) HSV78 ?_;try simp only [zp]
      refine zw 7 [] (by kernel_rfl) ?_;obtain ⟨V79,q79,hV79,hq79,f79,up79,bl79⟩:=zAf V78 (.cells #[ptr p,O ii c,O ii s,O ii ep,.map (some q75),.map (some q78)] 33);refine readyZ.cons rfl rfl (zAn (by rfl) (by rfl)) (fun _=>by rw [hV79];exact HK.out _ (bt hB78 bl79)) ?_ readyZ.nil
      ·rw [hV79,hq79];have hB79:=bt hB78 bl79;have lo79:X.heap.size<=q79:=hq79▸(hB78).size;try simp only [zp]
       exact HG V79 q75 q78 q79 q68 ⟨hB79,⟨(up79 _ _ (up78 _ _ f75).1).1,(up79 _ _ f78).1,(up78 _ _ f75).2⟩,f79,⟨(up79 _ _ (up78 _ _ (up75 _ _ f68).1).1).1,lo68⟩,lo75,lo78,lo79⟩
   obtain ⟨V80,q80,hV80,hq80,f80,up80,bl80⟩:=zAf V68 (.map #[] 0);refine readyZ.cons rfl rfl (zAk (by rfl)) (fun _=>by rw [hV80];exact HK.out _ (bt hB68 bl80)) ?_ readyZ.nil
   ·rw [hV80,hq80];have hB80:=bt hB68 bl80;have lo80:X.heap.size<=q80:=hq80▸(hB68).size;try simp only [zp]
    refine zw 3 [4] (by kernel_rfl) ?_;refine readyZ.call rfl rfl (zBp (by rfl) (by rfl) (by simp only [zj];rfl)) (HEp.out V80 hB80) ?_ ?_
    ·rintro e V' ⟨rfl,hv⟩;have hv':=hv.symm;subst hv';refine ⟨_,rfl,fun _=>HK.out _ hB80,?_⟩;try simp only [zp]
     refine zw 4 [] (by kernel_rfl) ?_;obtain ⟨V81,q81,hV81,hq81,f81,up81,bl81⟩:=zAf V80 (.map #[] 0);refine readyZ.cons rfl rfl (zAk (by rfl)) (fun _=>by rw [hV81];exact HK.out _ (bt hB80 bl81)) ?_ readyZ.nil
     ·rw [hV81,hq81];have hB81:=bt hB80 bl81;have lo81:X.heap.size<=q81:=hq81▸(hB80).size;try simp only [zp]
      have HSV81:=HK.out V81 hB81;refine zt 6 8 (.agg #[ptr p,O ii c,O ii s,O ii ep,.map (some q81),.map (some q80)]) rfl (by kernel_rfl) (by rfl) (fun wx hx=>zAl (by rfl) (by rfl) (by rfl) (by rfl) (by rfl) (by rfl)) HSV81 ?_;try simp only [zp]
      refine zw 7 [] (by kernel_rfl) ?_;obtain ⟨V82,q82,hV82,hq82,f82,up82,bl82⟩:=zAf V81 (.cells #[ptr p,O ii c,O ii s,O ii ep,.map (some q81),.map (some q80)] 33);refine readyZ.cons rfl rfl (zAn (by rfl) (by rfl)) (fun _=>by rw [hV82];exact HK.out _ (bt hB81 bl82)) ?_ readyZ.nil
      ·rw [hV82,hq82];have hB82:=bt hB81 bl82;have lo82:X.heap.size<=q82:=hq82▸(hB81).size;try simp only [zp]
       exact HG V82 q81 q80 q82 q68 ⟨hB82,⟨(up82 _ _ f81).1,(up82 _ _ (up81 _ _ f80).1).1,(fun e=>(up81 _ _ f80).2 e.symm)⟩,f82,⟨(up82 _ _ (up81 _ _ (up80 _ _ f68).1).1).1,lo68⟩,lo81,lo80,lo82⟩
    obtain ⟨V83,q83,hV83,hq83,f83,up83,bl83⟩:=zAf V80 (.map #[] 0);refine readyZ.cons rfl rfl (zAk (by rfl)) (fun _=>by rw [hV83];exact HK.out _ (bt hB80 bl83)) ?_ readyZ.nil
    ·rw [hV83,hq83];have hB83:=bt hB80 bl83;have lo83:X.heap.size<=q83:=hq83▸(hB80).size;try simp only [zp]
     refine zw 3 [] (by kernel_rfl) ?_;refine readyZ.call rfl rfl (zBp (by rfl) (by rfl) (by simp only [zj];rfl)) (HEp.out V83 hB83) ?_ readyZ.nil
     ·rintro e V' ⟨rfl,hv⟩;have hv':=hv.symm;subst hv';refine ⟨_,rfl,fun _=>HK.out _ hB83,?_⟩;try simp only [zp]
      have HSV83:=HK.out V83 hB83;refine zt 6 8 (.agg #[ptr p,O ii c,O ii s,O ii ep,.map (some q83),.map (some q80)]) rfl (by kernel_rfl) (by rfl) (fun wx hx=>zAl (by rfl) (by rfl) (by rfl) (by rfl) (by rfl) (by rfl)) HSV83 ?_;try simp only [zp]
      refine zw 7 [] (by kernel_rfl) ?_;obtain ⟨V84,q84,hV84,hq84,f84,up84,bl84⟩:=zAf V83 (.cells #[ptr p,O ii c,O ii s,O ii ep,.map (some q83),.map (some q80)] 33);refine readyZ.cons rfl rfl (zAn (by rfl) (by rfl)) (fun _=>by rw [hV84];exact HK.out _ (bt hB83 bl84)) ?_ readyZ.nil
      ·rw [hV84,hq84];have hB84:=bt hB83 bl84;have lo84:X.heap.size<=q84:=hq84▸(hB83).size;try simp only [zp]
       exact HG V84 q83 q80 q84 q68 ⟨hB84,⟨(up84 _ _ f83).1,(up84 _ _ (up83 _ _ f80).1).1,(fun e=>(up83 _ _ f80).2 e.symm)⟩,f84,⟨(up84 _ _ (up83 _ _ (up80 _ _ f68).1).1).1,lo68⟩,lo83,lo80,lo84⟩
 case then2 =>
  rintro V wb eb gb h8 ⟨bV,⟨oW,oE,hne⟩,oG,⟨o8,lg8⟩,lw,le,lg⟩;clear HS b0 HEp V0;obtain ⟨Z,hZ⟩:=ex (V.setCell ⟨h8,0,none⟩ (ptr gb));have b8:Boxed Z h8 26 (ptr gb):=hZ▸(show Boxed V h8 26 (.pointer none) from o8).set _;have TZ:Turns (fun j=>j=h8) V Z:=hZ▸Turns.set (S:=fun j=>j=h8) V (p:=⟨h8,0,none⟩) rfl _;refine zw 9 [] (by kernel_rfl) ?_;refine readyZ.skip rfl rfl (zNx (by rfl) (by rfl) (by rfl) o8) (fun h=>absurd (by decide) h) ?_ readyZ.nil;rw [hZ];try simp only [zp]
  refine zAd (by kernel_rfl) ?_ _;dsimp only [zAv,Exit.then];have hnm:∀{k:Nat} {es:Array MapEntry} {cl:Nat},V.heap[k]? = some (.map es cl)->k≠h8:=fun hk e=>by rw [e,o8] at hk;cases hk
  have oGZ:Z.heap[gb]? = some (.cells #[ptr p,O ii c,O ii s,O ii ep,.map (some wb),.map (some eb)] 33 (0,0)):=TZ.same (fun e=>by rw [e,o8] at oG;cases oG) oG;have oWZ:=TZ.same (hnm oW) oW;have oEZ:=TZ.same (hnm oE) oE
  have bZ:Below X.heap.size X Z:=bV.trans (TZ.below (fun k e=>by
   subst e
   exact lg8) bV.size)
  obtain ⟨hE,hS,hW,hH⟩:=HE.out;have BZ:=bt HB.out bZ;obtain ⟨bm,h6,hbm,hpl⟩:=hE.six;have h6Z:Z.cell? ⟨p,6,none⟩=some (.map (some bm)):=(BZ.cell (p:=⟨p,6,none⟩) hpl).trans h6;have hXs:=HB.out.size;have g0:GS Z gb p c s ep wb eb [] (fun _=>[]) [] (fun _=>[]):=⟨oGZ,hne,⟨by rw [h6Z];intro e;simp at e;omega,by rw [h6Z];intro e;simp at e;omega⟩,⟨_,MapS.empty zDb oWZ,fun x y=>Rw.nil _ _ _ _⟩,_,MapS.empty zDb oEZ,fun x y=>Rw.nil _ _ _ _⟩
  have lwZ:=(gE.1 oWZ).1;have leZ:=(gE.1 oEZ).1;have Hg:=zAb (ai g0 (ai BZ (ai b8 (ai (ai lw (ai le lg)) (ai lwZ (ai leZ hXs))))));clear g0 BZ b8 lw le lg lwZ leZ hXs bZ bV oW oE oG o8 oGZ oWZ oEZ hnm TZ hZ h6 h6Z hbm hpl hE hS hW hH hne lg8;gi_wp2_with fail;refine ⟨trivial,?_⟩;refine (callsIn_wide.2 (zR4 p Z)).mono ?_;rintro e X0 ⟨rfl,hX0⟩;have BX:Below Z.heap.size Z X0:=by rw [hX0];exact zAh _ _
  have PX:Boxed X0 Z.heap.size 27 (ptr p):=by rw [hX0];exact Boxed.new Z 27 _
  obtain ⟨g0,BZ,b8,⟨lw,le,lg⟩,lwZ,leZ,hXs⟩:=Hg.out;obtain ⟨hE,hS,hW,hH⟩:=HE.out;obtain ⟨bm,-,-,hpl⟩:=(hE.upto BZ).six;have I0:NwI w X0 p c s ep gb wb eb h8 W H tl f X0.heap.size []:=⟨bt BZ BX,zAi b8 BX b8.lt,⟨by omega,by omega,by have:=BX.size;omega,by have:=BX.size;omega⟩,Nat.le_refl _,[],_,[],_,g0.upto BX hpl,GD.none.mono (fun k hk=>by simp at hk),Nat.le_refl _,Nat.le_refl _,fun k hk=>by simp at hk⟩
  have hBw:w.heap.size<=X0.heap.size:=(bt BZ BX).size;have hseq:=zR3 (10-1) p Z.heap.size W H tl f X0 (by omega) PX ((hE.upto BZ).upto BX).1;have HI0:=zAb I0;have Hlen:=zAb (zR9 hW hH);clear hX0 BX PX g0 BZ b8 lwZ leZ hpl I0 hE hS hW hH;gi_wp2_with fail
  refine zMs (n:=10) (by omega) (gf:=76) (lb:=#[ptr Z.heap.size]) rfl (enters_of func76 (by kernel_rfl) rfl)
   hseq (fun _ _=>trivial) (fun _ _ _ _ _ _ _ _=>trivial) (Below.refl _ _) (fun _=>rfl)
   (fun pre Y=>NwI w Y p c s ep gb wb eb h8 W H tl f X0.heap.size pre)
   (fun pre X=>False)
   (fun pre Y' Y2 row hs hg hr=>hs.turned HE.out.1 (S:=fun k=>row=some k) (Turns.of_grown hg (fun k e=>e)) (fun k e=>(hr k e).1) hBw (fun k o e ho=>by
    obtain ⟨-,o',ho',hn⟩:=hr k e;rw [ho] at ho';cases ho'
    exact hn))
   (fun _ _ _ _ h _ _=>h)
   HI0.out
   (fun q a' Y=>∃Bx,X0.heap.size<=Bx/\TwB Y Bx q.1.1 q.1.2/\a'={ tmps:=#[ptr p,shv c s,undef,ptr w.heap.size,.pointer none,O ii 0,ptr h8,ptr Bx,ptr p,rct 0 0 W H,.bool true,.bool false,.bool false,shv c s,.bool true,.bool false,.bool false,ptr p,shv c s,ptr p,O ii ep,.map (some wb),.map (some eb),.agg #[ptr p,O ii c,O ii s,O ii ep,.map (some wb),.map (some eb)],ptr gb,ptr p,.func (.func 76) #[] #[ptr Z.heap.size],cel q.1.1 q.1.2,undef,undef,undef,undef],defers:=[] })
   (fun q a' _ Y Y2 row hs hg hr=>by obtain ⟨Bx,e1,e2,e3⟩:=hs;exact ⟨Bx,e1,zEn (β:=Unit) X0.heap.size Bx _ _ () Y Y2 row e2 hg hr,e3⟩)
   ?assign ?body ?done ?stop
  case assign =>
   rintro lo pre q Y K hI hK;have hz:=hI.sz;have hI2:=hI.upto HE.out.1 (zAh Y (.cells #[O ii q.1.1,O ii q.1.2] 23)) hBw;have HI2:=zAb hI2;clear hI hI2;gi_wp2
   exact hK _ _ (Keep.of_below (zAh _ _)) trivial HI2.out ⟨Y.heap.size,hz,heap_alloc_new Y _,rfl⟩
  case body =>
   rintro lo pre q a' Y hlo hI ⟨Bx,hBx,bX,rfl⟩ hlt;obtain ⟨⟨qx,qy⟩,hqw⟩:=q;simp only at bX ⊢;obtain ⟨hE,hS,hW,hH⟩:=HE.out;obtain ⟨KW,LW,KE,LE,g1,g2,g3,g4,g5⟩:=hI.gs;have HR:=zAb (zN4 g1 (hE.upto hI.bel) hS qx qy hqw.1 hqw.2 (g2.w64 hW hH _) (by have:=g2.fl (qx,qy);omega) (by omega) (by omega));have c6:=hI.bx.cell;obtain ⟨c7,c8⟩:=bX.c;have HI:=zAb (ai hI (ai g1 (ai g2 (ai g3 (ai g4 g5)))));clear hI g1 g2 g3 g4 g5 hE hS hW hH bX hseq HI0;gi_wp2_with fail;refine ⟨trivial,?_⟩;refine (callsIn_wide.2 HR.out).mono ?_;rintro e Y2 ⟨rfl,NL,KW',KE',LE',r1,r2,r3,r4,r5,r6,r7,⟨r8,r8b⟩,r9,rT⟩;obtain ⟨hI,g1,g2,g3,g4,g5⟩:=HI.out;obtain ⟨hE,hS,hW,hH⟩:=HE.out
   have hN:NwI w Y2 p c s ep gb wb eb h8 W H tl f X0.heap.size (pre++[⟨(qx,qy),hqw⟩]):=by
    have hm:∀k:Int×Int,k∈(pre++[(⟨(qx,qy),hqw⟩:Cel)]).map (·.1)↔k∈pre.map (·.1)\/k=(qx,qy):=fun k=>by rw [List.map_append,List.mem_append];simp
    refine ⟨hI.bel.trans (rT.below (fun k e=>by have:=hI.lo;rcases e with rfl|rfl<;>omega) hI.bel.size),zAg hI.bx rT (fun e=>e.elim (zBg g1.wblk hI.bx) (zBg g1.eblk hI.bx)),hI.lo,Nat.le_trans hI.sz rT.size,KW',_,KE',LE',r3,?_,by rw [List.length_append,List.length_singleton];omega,by rw [List.length_append,List.length_singleton];omega,fun k hk=>(hm k).2 ((r8b k hk).imp (g5 k) id)⟩;exact (g2.step (k:=(qx,qy)) hW hH hS r1 r2 r4 r5 r6 r7).mono (fun k hk=>(hm k).1 hk)
   have hKp:Keep X0.heap.size Y Y2:=zM3 rT (fun k _ e=>by have:=hI.lo;rcases e with rfl|rfl<;>omega);have HF:=zAb (ai hKp hN);clear hI g1 g2 g3 g4 g5 hE hS hW hH r1 r2 r3 r4 r5 r6 r7 r8 r8b r9 rT hN hKp c6 c7 c8 HR;gi_wp2_with fail;exact ⟨HF.out.1,trivial,HF.out.2⟩
  case done =>
   rintro D xs Y hD rfl hI hK;have c6:=hI.bx.cell;have HI:=zAb hI;clear hI hseq HI0;gi_wp2_with fail;refine ⟨by simp,.inl ⟨_,_,rfl,run_takeDeferred hK,?_⟩⟩;obtain ⟨hE,hS,hW,hH⟩:=HE.out;have tp:Turns (fun k=>k=D) Y (Y.putObj D (.deferred none)):=zEs _ _ _ rfl;have hI':=HI.out.turned hE tp (fun k e=>by omega) hBw (fun k o e ho=>by subst e;rw [hK] at ho;cases ho;rfl);obtain ⟨KW,LW,KE,LE,g1,g2,g3,g4,g5⟩:=hI'.gs;refine ⟨.tuple #[ptr gb,O ii 0],by simp [results,Tryz.f15,go_sem],gb,wb,eb,rfl,⟨KW,LW,KE,LE,g1,g2.mono (fun k hk=>(zLq hW hH k).2 hk),fun k hk=>(zLq hW hH k).1 (g5 k hk)⟩,hI'.bel,?_,hI'.lo.1,hI'.lo.2.1⟩;omega
  case stop=>exact fun D pre Y hD hp h hK=>h.elim
theorem zT1:Rcl 97:=zl fun _ _=>by go_simp
theorem zT0:Rcl 90:=zl fun _ _=>by go_simp
def Nog (w:World) (z:Value):Prop:=z = .pointer none\/∃g,z=ptr g/\w.heap[g]? = some (.cells #[.pointer none,O ii 0,O ii 0,O ii 0,.map none,.map none] 33 (0,0))
theorem Nog.upto {w w':World} {z:Value} (h:Nog w z) (hb:Below w.heap.size w w'):Nog w' z:=h.imp id (fun ⟨g,e,q⟩=>⟨g,e,(hb.block g (gE.1 q).1).trans q⟩)
theorem zEl {w:World} {gp p:Nat} {c s ep:Int} {wb eb:Nat} (h:Gp w gp p c s ep wb eb):Calls pg 24 #[ptr gp] w fun e w'=>e = .returned (.bool true)/\w'=w:=by
 have c0:=h.c0;clear h;go_enter func24,ntmps24;go_wp2_with fail;go_ret;exact ⟨rfl,rfl⟩
theorem zL1 {w:World} {z:Value} (h:Nog w z):Calls pg 24 #[z] w fun e w'=>e = .returned (.bool false)/\w'=w:=by
 rcases h with rfl|⟨g,rfl,hg⟩
 ·go_enter func24,ntmps24;go_wp2_with fail;go_ret;exact ⟨rfl,rfl⟩
 ·have c0:w.cell? ⟨g,0,none⟩=some (.pointer none):=by rw [cell_of_row w g 0 _ _ _ hg];rfl
  clear hg;go_enter func24,ntmps24;go_wp2_with fail;go_ret;exact ⟨rfl,rfl⟩
theorem zHg {w:World} {gp p:Nat} {c s ep:Int} {wb eb:Nat} (h:Gp w gp p c s ep wb eb):Calls pg 9 #[ptr gp] w fun e w'=>e = .returned (ptr p)/\Below w.heap.size w w':=by
 have HM:=zAb (zEl h);have c0:=h.c0;clear h;go_enter func9,ntmps9;go_wp2_with fail;refine HM.out.mono ?_;rintro e w1 ⟨rfl,rfl⟩;go_wp2_with fail;go_ret;exact ⟨rfl,Below.refl _ _⟩
theorem zPd {w:World} {z:Value} (h:Nog w z):Calls pg 9 #[z] w fun e w'=>e = .returned (.pointer none)/\Below w.heap.size w w':=by
 have HM:=zAb (zL1 h);clear h;go_enter func9,ntmps9;go_wp2_with fail;refine HM.out.mono ?_;rintro e w1 ⟨rfl,rfl⟩;go_wp2_with fail;go_ret;exact ⟨rfl,Below.refl _ _⟩
theorem zHh {w:World} {gp p:Nat} {c s ep:Int} {wb eb:Nat} (h:Gp w gp p c s ep wb eb):Calls pg 10 #[ptr gp] w fun e w'=>e = .returned (shv c s)/\Below w.heap.size w w':=by
 obtain ⟨X,hX⟩:=ex (w.alloc (.cells #[O ii 0,O ii 0] 29));have B0:Below w.heap.size w X:=hX▸zAh _ _;have TX:Two X w.heap.size 0 0:=by rw [<-hX];exact Two.newAt rfl
 have hX':=h.upto B0;have HM:=zAb (zEl hX');have c1:=hX'.c1;have c2:=hX'.c2;have HX:=zAb hX
 have hT2:Below w.heap.size w ((X.setCell ⟨w.heap.size,0,none⟩ (O ii c)).setCell ⟨w.heap.size,1,none⟩ (O ii s)):=by
  have T1:Turns (fun j=>j=w.heap.size) X (X.setCell ⟨w.heap.size,0,none⟩ (O ii c)):=Turns.set (S:=fun j=>j=w.heap.size) X (p:=⟨w.heap.size,0,none⟩) rfl _;have T2:Turns (fun j=>j=w.heap.size) (X.setCell ⟨w.heap.size,0,none⟩ (O ii c)) ((X.setCell ⟨w.heap.size,0,none⟩ (O ii c)).setCell ⟨w.heap.size,1,none⟩ (O ii s)):=Turns.set (S:=fun j=>j=w.heap.size) _ (p:=⟨w.heap.size,1,none⟩) rfl _;exact B0.trans ((T1.trans (T2.mono (fun _ _ e => .inl e))).below (fun k e=>by omega) B0.size)
 have HB:=zAb hT2;obtain ⟨⟨d0,d1⟩,⟨f0,f1⟩,-⟩:=TX;have hgl:=h.lt;have hne:¬gp=w.heap.size:=by omega
 clear hX hX' h B0 hT2;go_enter func10,ntmps10;go_wp2_with (rw [HX.out]);refine HM.out.mono ?_;rintro e w1 ⟨rfl,rfl⟩;go_wp2_with fail;refine bodyPost_ret (v:=shv c s) (by simp [results,Tryz.f10,go_sem, *]) rfl ?_;exact ⟨rfl,HB.out⟩
theorem zPe {w:World} {z:Value} (h:Nog w z):Calls pg 10 #[z] w fun e w'=>e = .returned (shv 0 0)/\Below w.heap.size w w':=by
 obtain ⟨X,hX⟩:=ex (w.alloc (.cells #[O ii 0,O ii 0] 29));have B0:Below w.heap.size w X:=hX▸zAh _ _;have TX:Two X w.heap.size 0 0:=by rw [<-hX];exact Two.newAt rfl
 have HM:=zAb (zL1 (h.upto B0));have HX:=zAb hX
 have hT2:Below w.heap.size w ((X.setCell ⟨w.heap.size,0,none⟩ (O ii 0)).setCell ⟨w.heap.size,1,none⟩ (O ii 0)):=by
  have T1:Turns (fun j=>j=w.heap.size) X (X.setCell ⟨w.heap.size,0,none⟩ (O ii 0)):=Turns.set (S:=fun j=>j=w.heap.size) X (p:=⟨w.heap.size,0,none⟩) rfl _;have T2:Turns (fun j=>j=w.heap.size) (X.setCell ⟨w.heap.size,0,none⟩ (O ii 0)) ((X.setCell ⟨w.heap.size,0,none⟩ (O ii 0)).setCell ⟨w.heap.size,1,none⟩ (O ii 0)):=Turns.set (S:=fun j=>j=w.heap.size) _ (p:=⟨w.heap.size,1,none⟩) rfl _;exact B0.trans ((T1.trans (T2.mono (fun _ _ e => .inl e))).below (fun k e=>by omega) B0.size)
 have HB:=zAb hT2;obtain ⟨⟨d0,d1⟩,⟨f0,f1⟩,-⟩:=TX;clear hX h B0 hT2;go_enter func10,ntmps10;go_wp2_with (rw [HX.out]);refine HM.out.mono ?_;rintro e w1 ⟨rfl,rfl⟩;go_wp2_with fail;refine bodyPost_ret (v:=shv 0 0) (by simp [results,Tryz.f10,go_sem, *]) rfl ?_;exact ⟨rfl,HB.out⟩
theorem zVw {w:World} {v:Value} {L:List E3} (h:RE w v L) (hlen:L.length<=1000000):Calls pg 97 #[v] w fun e w'=>∃lv,e = .returned lv/\RE w' lv L/\Below w.heap.size w w'/\∀g,lv.ownBlock=some g->w.heap.size<=g:=by
 rcases h.2 with ⟨rfl,h0⟩|⟨g,cap,cur,rfl,-,hg,hn,hm,hsz,ht⟩
 ·have h1:L=[]:=List.eq_nil_of_length_eq_zero h0;subst h1;clear h;have he:∀wx,(binOp .eql 85 (.slice none 0 0) (.slice none 0 0)).run pg wx = .ok (.bool true) wx:=fun wx=>by kernel_rfl
  go_enter func97,ntmps97;go_wp2_with fail;go_ret;exact ⟨_,rfl,Rw.nil _ _ _ _,Below.refl _ _,fun g e=>by cases e⟩
 ·obtain ⟨X,hX⟩:=ex (w.alloc (.cells #[] 88));have B0:Below w.heap.size w X:=hX▸zAh _ _;have R0:RE X (.slice (some ⟨w.heap.size,0,none⟩) 0 0) []:=⟨rfl,.inr ⟨w.heap.size,0,#[],rfl,Nat.zero_le _,hX▸heap_alloc_new w _,Nat.le_refl _,Nat.zero_le _,rfl,rfl⟩⟩
  obtain ⟨v',w',r1,q1,q2,q3⟩:=zWf R0 (h.upto B0) (by simp;omega);obtain ⟨a2,n2,c2,hv2⟩:∃a n c,v' = .slice a n c:=by obtain ⟨a,c,e⟩:=zB3 q1;exact ⟨_,_,_,e⟩
  subst hv2;have HA:=zAb r1;have HX:=zAb hX
  have HE:=zAb (show RE w' (.slice a2 n2 c2) L/\Below w.heap.size w w'/\∀g,(Value.slice a2 n2 c2).ownBlock=some g->w.heap.size<=g from ⟨by simpa using q1,B0.trans (q3.below (fun k e=>by cases e;exact Nat.le_refl _) B0.size),fun g e=>by
   rcases q2 g e with q|q
   ·cases q;exact Nat.le_refl _
   ·exact Nat.le_trans B0.size q⟩)
  clear h hX B0 R0 r1 q1 q2 q3 hg hn hm hsz ht;have he:∀wx,(binOp .eql 85 (.slice (some ⟨g,0,none⟩) L.length cap) (.slice none 0 0)).run pg wx = .ok (.bool false) wx:=fun wx=>by kernel_rfl
  go_enter func97,ntmps97;go_wp2_with (first|(rw [HX.out])|(at_builtin;refine zA0 rfl _ _ 85 rfl _ _ rfl rfl HA.out ?_));go_ret;exact ⟨_,rfl,HE.out⟩
theorem zVv {w:World} {v:Value} {L:List (Int×Int)} (h:RC w v L) (hlen:L.length<=1000000):Calls pg 90 #[v] w fun e w'=>∃lv,e = .returned lv/\RC w' lv L/\Below w.heap.size w w'/\∀g,lv.ownBlock=some g->w.heap.size<=g:=by
 rcases h.2 with ⟨rfl,h0⟩|⟨g,cap,cur,rfl,-,hg,hn,hm,hsz,ht⟩
 ·have h1:L=[]:=List.eq_nil_of_length_eq_zero h0;subst h1;clear h;have he:∀wx,(binOp .eql 34 (.slice none 0 0) (.slice none 0 0)).run pg wx = .ok (.bool true) wx:=fun wx=>by kernel_rfl
  go_enter func90,ntmps90;go_wp2_with fail;go_ret;exact ⟨_,rfl,Rw.nil _ _ _ _,Below.refl _ _,fun g e=>by cases e⟩
 ·obtain ⟨X,hX⟩:=ex (w.alloc (.cells #[] 23));have B0:Below w.heap.size w X:=hX▸zAh _ _;have R0:RC X (.slice (some ⟨w.heap.size,0,none⟩) 0 0) []:=⟨rfl,.inr ⟨w.heap.size,0,#[],rfl,Nat.zero_le _,hX▸heap_alloc_new w _,Nat.le_refl _,Nat.zero_le _,rfl,rfl⟩⟩
  obtain ⟨v',w',r1,q1,q2,q3⟩:=zY3 R0 (h.upto B0) (by simp;omega);obtain ⟨a2,n2,c2,hv2⟩:∃a n c,v' = .slice a n c:=by obtain ⟨a,c,e⟩:=zBk q1;exact ⟨_,_,_,e⟩
  subst hv2;have HA:=zAb r1;have HX:=zAb hX
  have HE:=zAb (show RC w' (.slice a2 n2 c2) L/\Below w.heap.size w w'/\∀g,(Value.slice a2 n2 c2).ownBlock=some g->w.heap.size<=g from ⟨by simpa using q1,B0.trans (q3.below (fun k e=>by cases e;exact Nat.le_refl _) B0.size),fun g e=>by
   rcases q2 g e with q|q
   ·cases q;exact Nat.le_refl _
   ·exact Nat.le_trans B0.size q⟩)
  clear h hX B0 R0 r1 q1 q2 q3 hg hn hm hsz ht;have he:∀wx,(binOp .eql 34 (.slice (some ⟨g,0,none⟩) L.length cap) (.slice none 0 0)).run pg wx = .ok (.bool false) wx:=fun wx=>by kernel_rfl
  go_enter func90,ntmps90;go_wp2_with (first|(rw [HX.out])|(at_builtin;refine zA0 rfl _ _ 34 rfl _ _ rfl rfl HA.out ?_));go_ret;exact ⟨_,rfl,HE.out⟩
theorem zM6 {w:World} {gp p:Nat} {c s ep:Int} {wb eb:Nat} {K:List (Int×Int)} {F:Int->Int->Value} (h:Gp w gp p c s ep wb eb) (hm:MapS zC8 w eb K F) {x y:Int} (hx:W64 x) (hy:W64 y) {L:List E3} (hL:RE w (F x y) L) (hlen:L.length<=1000000) :
 Calls pg 64 #[ptr gp,cel x y] w fun e w'=>∃lv,e = .returned lv/\RE w' lv L/\Below w.heap.size w w'/\∀g,lv.ownBlock=some g->w.heap.size<=g:=by
 obtain ⟨X,hX⟩:=ex (w.alloc (.cells #[O ii x,O ii y] 23));have B0:Below w.heap.size w X:=hX▸zAh _ _;have TX:Two X w.heap.size x y:=by rw [<-hX];exact Two.newAt rfl
 have hd:Below X.heap.size X X.drew:=⟨rfl,rfl,rfl,Nat.le_refl _,fun _ _=>rfl⟩
 have HM:=zAb (zEl (h.upto B0));obtain ⟨⟨t0,t1⟩,-,-⟩:=id TX;obtain ⟨fa,fn,fc,hF⟩:∃a n c,F x y = .slice a n c:=by obtain ⟨a,c,e⟩:=zB3 hL;exact ⟨_,_,_,e⟩
 have HC:=zAb (zVw (hL.upto (bt B0 hd)) hlen);rw [hF] at HC;have HS:(X.drew.cell? ⟨gp,5,none⟩=some (.map (some eb))/\X.drew.cell? ⟨w.heap.size,0,none⟩=some (O ii x)/\X.drew.cell? ⟨w.heap.size,1,none⟩=some (O ii y))/\MapS zC8 X.drew eb K F:=⟨⟨((h.upto B0).upto hd).c5,t0,t1⟩,(hm.upto B0).upto hd⟩
 have HX:=zAb hX;have HF:=zAb hF;have H64:=zAb (ai hx hy);have HB:=zAb (bt B0 hd);clear hX B0 TX hd t0 t1 hL hm h hF hx hy;go_enter func64,ntmps64;go_wp2_with (rw [HX.out]);refine HM.out.mono ?_;rintro e w1 ⟨rfl,hw1⟩;have hw1':=hw1.symm;subst hw1';clear hw1 HM;go_wp2_with fail;refine zAj ?_;refine zAe (fun wx:World=>(wx.cell? ⟨gp,5,none⟩=some (.map (some eb))/\wx.cell? ⟨w.heap.size,0,none⟩=some (O ii x)/\wx.cell? ⟨w.heap.size,1,none⟩=some (O ii y))/\MapS zC8 wx eb K F) [6,7] (by kernel_rfl) ?_;refine zv 0 5 8 [ptr gp,ptr gp,.pointer (some ⟨gp,5,none⟩),.map (some eb),cel x y] rfl rfl (by kernel_rfl) HS ?_;repeat (refine zc rfl (by rfl) (fun wx hx=>by go_simp) ?_;simp only [zp])
 refine zn ?_;refine zt 5 8 (.slice fa fn fc) rfl (by kernel_rfl) (by rfl) (fun wx hx=>by rw [<-HF.out];exact zFq Tryz.underlying31 (by kernel_rfl) H64.out.1 H64.out.2 (by rfl) (by rfl) (by rfl) hx.2) HS ?_;try simp only [zp]
 refine zw 6 [] (by kernel_rfl) ?_;refine readyZ.call rfl rfl (zT1 (by rfl) (by rfl) (by simp only [zj];rfl)) (HC.out) ?_ readyZ.nil;rintro e w2 ⟨lv,rfl,q1,q2,q3⟩;refine ⟨_,rfl,fun h=>absurd (by decide) h,?_⟩;try simp only [zp]
 refine zq 7 (by kernel_rfl) rfl rfl (zBb (v:=lv) (by rfl) (by rfl)) (fun h=>absurd (by decide) h) ?_;try simp only [zp]
 refine zAd (by kernel_rfl) ?_ _;dsimp only [zAv,Exit.then];obtain ⟨la,ln,lc,hlv⟩:∃a n c,lv = .slice a n c:=by obtain ⟨a,c,e⟩:=zB3 q1;exact ⟨_,_,_,e⟩
 subst hlv;have HE:=zAb (ai q1 (ai (bt HB.out q2) (show ∀g,(Value.slice la ln lc).ownBlock=some g->w.heap.size<=g from fun g e=>Nat.le_trans HB.out.size (q3 g e))));clear q1 q2 q3 HS HC;go_wp2_with fail;refine bodyPost_ret (v:=.slice la ln lc) (by simp [results,Tryz.f64,go_sem]) rfl ?_;exact ⟨_,rfl,HE.out⟩
theorem zKp {w:World} {gp p:Nat} {c s ep:Int} {wb eb:Nat} {K:List (Int×Int)} {F:Int->Int->Value} (h:Gp w gp p c s ep wb eb) (hm:MapS zC8 w wb K F) {x y:Int} (hx:W64 x) (hy:W64 y) {L:List (Int×Int)} (hL:RC w (F x y) L) (hlen:L.length<=1000000) :
 Calls pg 58 #[ptr gp,cel x y] w fun e w'=>∃lv,e = .returned lv/\RC w' lv L/\Below w.heap.size w w'/\∀g,lv.ownBlock=some g->w.heap.size<=g:=by
 obtain ⟨X,hX⟩:=ex (w.alloc (.cells #[O ii x,O ii y] 23));have B0:Below w.heap.size w X:=hX▸zAh _ _;have TX:Two X w.heap.size x y:=by rw [<-hX];exact Two.newAt rfl
 have hd:Below X.heap.size X X.drew:=⟨rfl,rfl,rfl,Nat.le_refl _,fun _ _=>rfl⟩
 have HM:=zAb (zEl (h.upto B0));obtain ⟨⟨t0,t1⟩,-,-⟩:=id TX;obtain ⟨fa,fn,fc,hF⟩:∃a n c,F x y = .slice a n c:=by obtain ⟨a,c,e⟩:=zBk hL;exact ⟨_,_,_,e⟩
 have HC:=zAb (zVv (hL.upto (bt B0 hd)) hlen);rw [hF] at HC;have HS:(X.drew.cell? ⟨gp,4,none⟩=some (.map (some wb))/\X.drew.cell? ⟨w.heap.size,0,none⟩=some (O ii x)/\X.drew.cell? ⟨w.heap.size,1,none⟩=some (O ii y))/\MapS zC8 X.drew wb K F:=⟨⟨((h.upto B0).upto hd).c4,t0,t1⟩,(hm.upto B0).upto hd⟩
 have HX:=zAb hX;have HF:=zAb hF;have H64:=zAb (ai hx hy);have HB:=zAb (bt B0 hd);clear hX B0 TX hd t0 t1 hL hm h hF hx hy;go_enter func58,ntmps58;go_wp2_with (rw [HX.out]);refine HM.out.mono ?_;rintro e w1 ⟨rfl,hw1⟩;have hw1':=hw1.symm;subst hw1';clear hw1 HM;go_wp2_with fail;refine zAj ?_;refine zAe (fun wx:World=>(wx.cell? ⟨gp,4,none⟩=some (.map (some wb))/\wx.cell? ⟨w.heap.size,0,none⟩=some (O ii x)/\wx.cell? ⟨w.heap.size,1,none⟩=some (O ii y))/\MapS zC8 wx wb K F) [6,7] (by kernel_rfl) ?_;refine zv 0 5 8 [ptr gp,ptr gp,.pointer (some ⟨gp,4,none⟩),.map (some wb),cel x y] rfl rfl (by kernel_rfl) HS ?_;repeat (refine zc rfl (by rfl) (fun wx hx=>by go_simp) ?_;simp only [zp])
 refine zn ?_;refine zt 5 8 (.slice fa fn fc) rfl (by kernel_rfl) (by rfl) (fun wx hx=>by rw [<-HF.out];exact zFq Tryz.underlying30 (by kernel_rfl) H64.out.1 H64.out.2 (by rfl) (by rfl) (by rfl) hx.2) HS ?_;try simp only [zp]
 refine zw 6 [] (by kernel_rfl) ?_;refine readyZ.call rfl rfl (zT0 (by rfl) (by rfl) (by simp only [zj];rfl)) (HC.out) ?_ readyZ.nil;rintro e w2 ⟨lv,rfl,q1,q2,q3⟩;refine ⟨_,rfl,fun h=>absurd (by decide) h,?_⟩;try simp only [zp]
 refine zq 7 (by kernel_rfl) rfl rfl (zBb (v:=lv) (by rfl) (by rfl)) (fun h=>absurd (by decide) h) ?_;try simp only [zp]
 refine zAd (by kernel_rfl) ?_ _;dsimp only [zAv,Exit.then];obtain ⟨la,ln,lc,hlv⟩:∃a n c,lv = .slice a n c:=by obtain ⟨a,c,e⟩:=zBk q1;exact ⟨_,_,_,e⟩
 subst hlv;have HE:=zAb (ai q1 (ai (bt HB.out q2) (show ∀g,(Value.slice la ln lc).ownBlock=some g->w.heap.size<=g from fun g e=>Nat.le_trans HB.out.size (q3 g e))));clear q1 q2 q3 HS HC;go_wp2_with fail;refine bodyPost_ret (v:=.slice la ln lc) (by simp [results,Tryz.f58,go_sem]) rfl ?_;exact ⟨_,rfl,HE.out⟩

section
theorem zW3 {W H:Int} {tl:List Nat} {f:Int->Int->Option Int} {c s u v:Int} (h:stB W H tl f c s u v=true):has 0 0 W H u v=true:=by
 simp only [stB,stU,wi,Bool.and_eq_true] at h;obtain ⟨⟨hm,h1,-⟩,-⟩:=h;cases hb:fB c s u v
 ·rw [zGm hb] at hm;have:=((zA5 _ _ _ _).1 hm).2.1;rw [zGm hb] at this;omega
 ·rw [zJf hb,zJf hb] at h1;exact h1
theorem zZq {W H:Int} {tl:List Nat} {f:Int->Int->Option Int} {c s:Int} (hW:1<=W/\W<=128) (hH:1<=H/\H<=128) (u v:Int) (h:stB W H tl f c s u v=true):(0<=u/\u<W)/\0<=v/\v<H:=by
 have:=(zBz _ _ _ _ _ _).1 (zW3 h);omega
def Nmz (w:World) (b n:Nat) (C:Nat->Int):Prop:=w.heap[b]? = some (.cells ((List.range n).map (fun k=>Value.int .i64 (C k))).toArray 3 (0,0))
section
variable {w w':World} {b n:Nat} {C C':Nat->Int}
end
def qBq (N:Nat) (P:Nat->Bool):Nat:=((List.range N).filter P).length
def zC (N:Nat) (C:Nat->Int):Nat:=qBq N (fun k=>decide (C k<0))
def sC:Nat->(Nat->Int)->Nat
 |0,_=>0
 |N+1,C=>sC N C+(if C N<0 then 20001 else (C N).toNat)
def vN:Value->Nat
 |.int _ z=>if z<0 then 20001 else z.toNat
 |_=>0
def sW (w:World) (b:Nat):Nat:=match w.heap[b]? with
 |some (.cells c _ _)=>(c.toList.map vN).sum
 |_=>0
def qB1:Value->Nat
 |.bool true=>1
 |_=>0
section
variable {W H:Int} {tl:List Nat} {f:Int->Int->Option Int} {c s ix iy:Int} {rw rh:Nat}
def cl (ix iy:Int) (rw:Nat) (j:Nat):Int×Int:=(ix+((j%rw:Nat):Int),iy+((j/rw:Nat):Int))
structure Bf (W H:Int) (tl:List Nat) (f:Int->Int->Option Int) (c s ix iy:Int) (rw rh tg:Nat) (C:Nat->Int):Prop where
 c0:C tg=0
 ge:∀i,i<rw*rh->-1<=C i
 wk:∀i,i<rw*rh->0<=C i->Wk (zAx W H tl f c s ix iy rw rh) (cl ix iy rw tg) (cl ix iy rw i) (C i).toNat
 bd:∀i,i<rw*rh->0<=C i->C i+14*(zC (rw*rh) C:Nat)+14<=14*(rw*rh:Nat)
variable {tg:Nat} {C:Nat->Int}
def Fn (W H:Int) (tl:List Nat) (f:Int->Int->Option Int) (c s ix iy:Int) (rw rh:Nat) (C:Nat->Int) (i d:Nat):Prop:=0<=C i->∀k,k<rw*rh->lg (stB W H tl f c s) (cl ix iy rw i).1 (cl ix iy rw i).2 (d:Nat)=true->cl ix iy rw k=((cl ix iy rw i).1+dX d,(cl ix iy rw i).2+dY d)->0<=C k/\C k<=C i+co (d:Nat)
end
end
def zA4:List Nat:=List.replicate 128 0
theorem zUz (w:World):(Instr.makeSlice 57 (O ii 128) (O ii 128)).run pg w = .ok (.slice (some ⟨w.heap.size,0,none⟩) 128 128) (w.alloc (.cells (zA4.map (fun n=>Value.int .u8 (n:Nat))).toArray 5)):=by kernel_rfl
theorem zU0 (w:World):Tls (w.alloc (.cells (zA4.map (fun n=>Value.int .u8 (n:Nat))).toArray 5)) (.slice (some ⟨w.heap.size,0,none⟩) 128 128) zA4:=
 ⟨rfl,.inr ⟨w.heap.size,128,_,rfl,Nat.zero_le _,heap_alloc_new w _,Nat.le_refl _,by decide,rfl,rfl⟩⟩
theorem zX1:mt 16 8 zA4=true:=by kernel_rfl
theorem zX6:∀x∈zA4,x<256:=by decide
theorem zXu (w:World):Calls pg 14 #[mp 16 8 (.slice (some ⟨w.heap.size,0,none⟩) 128 128) (.slice none 0 0)] (w.alloc (.cells (zA4.map (fun n=>Value.int .u8 (n:Nat))).toArray 5))
 fun e w'=>∃p,e = .returned (.tuple #[ptr p,O ii 0])/\Wn w' p 16 8 zA4 (zB9 [])/\Below w.heap.size w w':=by
 refine (zQ0 16 8 _ (.slice none 0 0) zA4 [] _ (zU0 w).r zX6 (BdR.nil _) zX1).mono ?_;rintro e w' (⟨-,p,he,hm⟩|⟨h,-⟩)
 ·have:=hm.wn zX1 zX6;exact ⟨p,he,this.1,bt (zAh _ _) this.2⟩
 ·cases h
theorem zRx {w:World} {q n:Nat} (h:Ep w q n):Calls pg 38 #[ptr q] w fun e w'=>e = .returned (O ii (n:Nat))/\w'=w:=by
 obtain ⟨W,H,tv,bv,bm,a,cap,hd⟩:=h;have c6:w.cell? ⟨q,6,none⟩=some (.map (some bm)):=hd.c 6;have HM:=zAb (zLv q bm w c6);have c7:w.cell? ⟨q,7,none⟩=some (.slice a n cap):=hd.c 7;clear hd c6;go_enter func38,ntmps38;go_wp2_with fail;refine HM.out.mono ?_;rintro e w1 ⟨rfl,rfl⟩;go_wp2_with fail;go_ret;exact ⟨rfl,rfl⟩
abbrev zWo:Int->Int->Bool:=stB 16 8 zA4 (zB9 []) 0 1
theorem ac0:acL zWo 16 8 0 0=[⟨7,3,8,3⟩]:=by kernel_rfl
theorem ac1:acL zWo 16 8 1 0=[⟨8,3,7,3⟩]:=by kernel_rfl
theorem nd0 (q:Int×Int):Nd zWo 16 8 0 0 q↔q=(7,3):=by
 unfold Nd;rw [ac0];simp [Q4.A,eq_comm]
theorem nd1 (q:Int×Int):Nd zWo 16 8 1 0 q↔q=(8,3):=by
 unfold Nd;rw [ac1];simp [Q4.A,eq_comm]
end Go.Proofs.YtejjcenhjpjefaaGreatDoor
