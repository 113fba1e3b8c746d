import Derived.Test.YthiafmlgialbnaaGreatDoorPut
import Derived.Test.YthiafmlgialbnaaGreatDoorSym13
import Derived.Test.YthiafmlgialbnaaGreatDoorDP0
import Derived.Test.YthiafmlgialbnaaGreatDoorDPort
set_option linter.all false
set_option maxRecDepth 1000000
set_option maxHeartbeats 64000000
open Go.Proofs.Tryz
open Go.Proofs.Tryz renaming prog->pg
open Array renaming getElem?_eq_some_iff->gE
open And renaming intro->ai
open Go.Value renaming int->O
open Go.IntKind renaming i64->ii
namespace Go.Proofs.YthiafmlgialbnaaGreatDoor
open Go.RowKit Go.Shelf
theorem zSd {w:World} {v:Value} {M:List E3} (h:RE w v M) (hn:M.length≠0):∃g c,v = .slice (some ⟨g,0,none⟩) M.length c:=by
 rcases h.2 with ⟨e,h0⟩|⟨g',cap,cur,e,r⟩
 ·exact absurd h0 hn
 ·exact ⟨_,_,e⟩
theorem zQa {M:List E3} {t:E3} {k:Nat} (hU:UpE M) (h1:∀a∈M.take k,clt a.to t.to) (h2:∀q r,M.drop k=q::r->clt t.to q.to):UpE (M.take k++t::M.drop k)/\zGc M (M.take k++t::M.drop k) t/\(M.take k++t::M.drop k).length<=M.length+1:=by
 have hs:=hU;unfold UpE at hs;rw [<-List.take_append_drop k M,List.pairwise_append] at hs
 have ht:∀b∈M.drop k,clt t.to b.to:=fun b hb=>by
  cases hd:M.drop k with
  |nil=>rw [hd] at hb;cases hb
  |cons q r =>
   have hq:=h2 q r hd;rw [hd] at hb;rcases List.mem_cons.1 hb with rfl|hb
   ·exact hq
   ·have h3:=hs.2.1;rw [hd] at h3;exact zC8 hq ((List.pairwise_cons.1 h3).1 b hb)
 refine ⟨List.pairwise_append.2 ⟨hs.1,List.pairwise_cons.2 ⟨ht,hs.2.1⟩,fun a ha b hb=>?_⟩,fun a=>?_,?_⟩
 ·rcases List.mem_cons.1 hb with rfl|hb
  ·exact h1 a ha
  ·exact hs.2.2 a ha b hb
 ·have h3:a∈M↔a∈M.take k\/a∈M.drop k:=by rw [<-List.mem_append,List.take_append_drop]
  rw [List.mem_append,List.mem_cons,h3];constructor
  ·rintro (h|h|h)
   ·exact .inl (.inl h)
   ·exact .inr h
   ·exact .inl (.inr h)
  ·rintro ((h|h)|h)
   ·exact .inl h
   ·exact .inr (.inr h)
   ·exact .inr (.inl h)
 ·rw [List.length_append,List.length_cons,List.length_take,List.length_drop];omega
theorem zMh {w:World} {g oc:Nat} {M:List E3} (hR:RE w (.slice (some ⟨g,0,none⟩) M.length oc) M) (hU:UpE M) (hMl:M.length<=20000) (tx ty tc:Int) (hne:∀e∈M,e.to≠(tx,ty)) :
 Calls pg 99 #[.slice (some ⟨g,0,none⟩) M.length oc,.agg #[O ii tx,O ii ty,O ii tc]] w fun e w'=>∃g' oc' M',e = .returned (.slice (some ⟨g',0,none⟩) M'.length oc')/\RE w' (.slice (some ⟨g',0,none⟩) M'.length oc') M'/\UpE M'/\zGc M M' ⟨tx,ty,tc⟩/\M'.length<=M.length+1/\Below w.heap.size w w':=by
 obtain ⟨X,hX⟩:=ex (w.alloc (.cells #[O ii tx,O ii ty,O ii tc] 63));have BX:Below w.heap.size w X:=hX▸zAk _ _;have oX:X.heap[w.heap.size]? = some (.cells #[O ii tx,O ii ty,O ii tc] 63 (0,0)):=hX▸heap_alloc_new w _
 have TX:∀Z,Below X.heap.size X Z->(fun wx:World=>wx.cell? ⟨w.heap.size,0,none⟩=some (O ii tx)/\wx.cell? ⟨w.heap.size,1,none⟩=some (O ii ty)/\wx.cell? ⟨w.heap.size,2,none⟩=some (O ii tc)) Z:=fun Z q=>by
  have oZ:=(q.block _ (gE.1 oX).1).trans oX;exact ⟨cell_of_row Z _ 0 _ _ _ oZ,cell_of_row Z _ 1 _ _ _ oZ,cell_of_row Z _ 2 _ _ _ oZ⟩
 have HX:=zAc hX;have HS0:=zAc (ai BX (ai TX (ai (hR.upto BX) hU)));have Hne:=zAc hne;clear hX BX TX hR hU oX hne;go_enter func99,ntmps99;go_wp2_with (rw [HX.out]);go_loopw [5] (fun v wr=>∃k:Nat,v = O ii (k:Nat)/\k<=M.length/\(∀a∈M.take k,clt a.to (tx,ty))/\Below X.heap.size X wr) (fun v _=>M.length-(intOf v).toNat)
 case atStart=>exact ⟨0,rfl,Nat.zero_le _,(fun a h=>by rw [List.take_zero] at h;cases h),Below.refl _ _⟩
 case round =>
  obtain ⟨k,rfl,hk,hkl,hbk⟩:=hrel;rename World=>Z0;have hkI:(0:Int)<=(k:Nat)/\((k:Nat):Int)<=20000:=by omega
  have HKl:=zAc hkl;have Hk:=zAc hk;clear hkl
  by_cases hltk:k<M.length
  ·have hlk:((k:Nat):Int)<(M.length:Nat):=by omega
   obtain ⟨m,hmk⟩:∃m,M[k]? = some m:=⟨_,List.getElem?_eq_getElem hltk⟩
   obtain ⟨mx,my,mc⟩:=m
   have hcell:∀Z,Below X.heap.size X Z->(fun wx:World=>(wx.cell? ⟨g,k*3,none⟩=some (O ii mx)/\wx.cell? ⟨g,k*3+1,none⟩=some (O ii my))/\wx.cell? ⟨w.heap.size,0,none⟩=some (O ii tx)/\wx.cell? ⟨w.heap.size,1,none⟩=some (O ii ty)/\wx.cell? ⟨w.heap.size,2,none⟩=some (O ii tc)) Z:=fun Z q=>by
    obtain ⟨g',e',-,z0,z1,-⟩:=zZ2 (HS0.out.2.2.1.upto q) hmk;cases e';exact ⟨⟨z0,z1⟩,HS0.out.2.1 Z q⟩
   have Hcell:=zAc hcell;have hd:Below Z0.heap.size Z0 Z0.drew:=⟨rfl,rfl,rfl,Nat.le_refl _,fun _ _=>rfl⟩
   have hbk2:=bt hbk hd;have HS:=hcell _ hbk2;have HLe:=zAc (fun wx=>zGk mx my tx ty wx);obtain ⟨bq,hbq⟩:∃b,decide (my<ty\/(my=ty/\mx<tx))=b:=⟨_,rfl⟩
   rw [hbq] at HLe;have Hbq:=zAc hbq;have Hmk:=zAc hmk;have Hbk:=zAc hbk2;clear hmk hbq hbk hbk2 hd hcell;go_wp2_with fail;refine zAp ?_;refine zAg (fun wx:World=>(wx.cell? ⟨g,k*3,none⟩=some (O ii mx)/\wx.cell? ⟨g,k*3+1,none⟩=some (O ii my))/\wx.cell? ⟨w.heap.size,0,none⟩=some (O ii tx)/\wx.cell? ⟨w.heap.size,1,none⟩=some (O ii ty)/\wx.cell? ⟨w.heap.size,2,none⟩=some (O ii tc)) [] (by kernel_rfl) ?_;refine zv 0 12 30 [O ii (k:Nat),.slice (some ⟨g,0,none⟩) M.length oc,O ii (M.length:Nat),.bool true,.bool true,.slice (some ⟨g,0,none⟩) M.length oc,O ii (k:Nat),.pointer (some ⟨g,k*3,none⟩),.pointer (some ⟨g,k*3,none⟩),cel mx my,ptr w.heap.size,cel tx ty] rfl rfl (by kernel_rfl) HS ?_;repeat ((first|refine zo rfl (by rfl) rfl (by rfl) ?_|refine zc rfl (by rfl) (fun wx hx=>by go_simp) ?_);simp only [zp])
   refine zn ?_;refine zw 12 [] (by kernel_rfl) ?_;refine readyZ.callG rfl (by rfl) (zP0 (by rfl) (by rfl) (by simp only [zj];rfl)) (HLe.out _) ?_ readyZ.nil;rintro e Z ⟨rfl,hbZ'⟩;have hbZ:Below X.heap.size X Z:=bt Hbk.out hbZ';have HSz:=Hcell.out Z hbZ;clear hbZ';refine ⟨_,rfl,fun _=>HSz,?_⟩;try simp only [zp]
   refine zt 13 30 (.bool bq) rfl (by kernel_rfl) (by rfl) (fun wx hx=>by go_simp) HSz ?_;try simp only [zp]
   refine zAf (by kernel_rfl) ?_ _;dsimp only [zA1,Exit.then];have HbZ:=zAc hbZ;clear HS HSz hbZ HLe Hbk;cases bq
   ·have Hk2:Hid (∀q r,M.drop k=q::r->clt (tx,ty) q.to):=zAc fun q r e=>by
     have h1:(M.drop k)[0]? = M[k]? := by rw [List.getElem?_drop,Nat.add_zero]
     rw [e,Hmk.out] at h1;simp at h1;subst h1
     exact Classical.byContradiction fun c=>by
      have hnl:¬clt (mx,my) (tx,ty):=fun h=>by
       have:=Hbq.out;rw [decide_eq_true (show my<ty\/(my=ty/\mx<tx) from h)] at this;cases this
      exact Hne.out _ (List.mem_of_getElem? Hmk.out) (zGm c hnl).symm
    clear Hbq Hmk Hcell;generalize hZ1:Z=Z1 at HbZ ⊢;clear hZ1;go_wp2_with fail
    have hSof:Hid (∀Y:World,Below Z1.drew.heap.size Z1.drew Y->(fun wx:World=>wx.cell? ⟨w.heap.size,0,none⟩=some (O ii tx)/\wx.cell? ⟨w.heap.size,1,none⟩=some (O ii ty)/\wx.cell? ⟨w.heap.size,2,none⟩=some (O ii tc)) Y):=zAc fun Y q=>by
     have hd:Below Z1.heap.size Z1 Z1.drew:=⟨rfl,rfl,rfl,Nat.le_refl _,fun _ _=>rfl⟩
     exact HS0.out.2.1 _ (bt HbZ.out (bt hd q))
    have hRd:RE Z1.drew (.slice (some ⟨g,0,none⟩) M.length oc) M:=by
     have hd:Below Z1.heap.size Z1 Z1.drew:=⟨rfl,rfl,rfl,Nat.le_refl _,fun _ _=>rfl⟩
     exact HS0.out.2.2.1.upto (bt HbZ.out hd)
    have Hcap:=zAc (qB9 hRd);have hMl2:=hMl;have E1:=PwE.empty (Below.refl Z1.drew.heap.size Z1.drew);obtain ⟨vA,WA,rA,uA,oA,gA⟩:=zFs (hRd.upto E1.below) E1.us k Hk.out (by simp;omega);have pA:=E1.step uA gA oA;rw [List.nil_append] at pA;have pA2:=pA.alloc (.cells #[O ii tx,O ii ty,O ii tc] 63);obtain ⟨v2A,W2A,v3A,W3A,r2A,r3A,b2A,p3A⟩:=zC4 (t:=⟨tx,ty,tc⟩) hRd pA2 (LoneE.new WA ⟨tx,ty,tc⟩) Hk.out Hcap.out.1 (by omega);have E2:=E1.alloc (.cells #[O ii tx,O ii ty,O ii tc] 63);obtain ⟨vB,WB,rB,uB,oB,gB⟩:=zFs (hRd.upto E2.below) E2.us k Hk.out (by simp;omega);have pB:=E2.step uB gB oB;rw [List.nil_append] at pB;obtain ⟨v2B,W2B,v3B,W3B,r2B,r3B,b2B,p3B⟩:=zC4 (t:=⟨tx,ty,tc⟩) hRd pB ((LoneE.new (Z1.drew.alloc (.cells #[] 63)) ⟨tx,ty,tc⟩).turned gB (by simp [Value.ownBlock])) Hk.out Hcap.out.1 (by omega);have B2:Below Z1.drew.heap.size Z1.drew (Z1.drew.alloc (.cells #[O ii tx,O ii ty,O ii tc] 63)):=zAk _ _;have E3:=PwE.empty B2;obtain ⟨vC,WC,rC,uC,oC,gC⟩:=zFs (hRd.upto E3.below) E3.us k Hk.out (by simp;omega);have pC:=E3.step uC gC oC;rw [List.nil_append] at pC;obtain ⟨v2C,W2C,v3C,W3C,r2C,r3C,b2C,p3C⟩:=zC4 (t:=⟨tx,ty,tc⟩) hRd pC (((LoneE.new Z1.drew ⟨tx,ty,tc⟩).alloc (.cells #[] 63)).turned gC (by simp [Value.ownBlock])) Hk.out Hcap.out.1 (by omega);obtain ⟨had,hha⟩:∃ad:Addr,(if oc=k then (⟨g,0,none⟩:Addr) else ⟨g,k*3,none⟩)=ad:=⟨_,rfl⟩
    rw [hha] at r3A r3B r3C;have Hha:=zAc hha;clear hha;have b1:=zAc E1.below;have bA:=zAc pA.below;have bA2:=zAc pA2.below;have b12:=zAc E2.below;have bB:=zAc pB.below;have b2:=zAc B2;have b21:=zAc E3.below;have bC:=zAc pC.below
    replace rA:=zAc rA
    replace rB:=zAc rB
    replace rC:=zAc rC
    replace r2A:=zAc r2A
    replace r2B:=zAc r2B
    replace r2C:=zAc r2C
    replace r3A:=zAc r3A
    replace r3B:=zAc r3B
    replace r3C:=zAc r3C
    replace b2A:=zAc b2A
    replace b2B:=zAc b2B
    replace b2C:=zAc b2C
    replace p3A:=zAc p3A
    replace p3B:=zAc p3B
    replace p3C:=zAc p3C
    clear E1 E2 E3 B2 uA uB uC gA gB gC oA oB oC pA pA2 pB pC hRd
    have HFin:Hid (∀(Wf:World) (v:Value),PwE Z1.drew Wf v (M.take k ++ ⟨tx,ty,tc⟩ :: M.drop k)->∃g' oc' M',v = .slice (some ⟨g',0,none⟩) M'.length oc'/\RE Wf v M'/\UpE M'/\zGc M M' ⟨tx,ty,tc⟩/\M'.length<=M.length+1/\Below w.heap.size w Wf):=zAc fun Wf v h=>by
     have hd:Below Z1.heap.size Z1 Z1.drew:=⟨rfl,rfl,rfl,Nat.le_refl _,fun _ _=>rfl⟩
     obtain ⟨hU',hm',hl'⟩:=zQa (t:=⟨tx,ty,tc⟩) HS0.out.2.2.2 HKl.out Hk2.out;obtain ⟨g',oc',e⟩:=zSd h.us (by simp);exact ⟨g',oc',_,e,h.us,hU',hm',hl',bt HS0.out.1 (bt HbZ.out (bt hd h.below))⟩
    refine zAp ?_;refine zAg (fun wx:World=>wx.cell? ⟨w.heap.size,0,none⟩=some (O ii tx)/\wx.cell? ⟨w.heap.size,1,none⟩=some (O ii ty)/\wx.cell? ⟨w.heap.size,2,none⟩=some (O ii tc)) [] (by kernel_rfl) ?_;refine zv 1 2 40 [.slice (some ⟨g,0,none⟩) M.length oc,O ii (k:Nat)] rfl rfl (by kernel_rfl) (hSof.out _ (Below.refl _ _)) ?_;repeat (refine zo rfl (by rfl) rfl (by rfl) ?_;simp only [zp])
    refine zn ?_;refine zt 3 40 (.slice (some ⟨g,0,none⟩) k oc) rfl (by kernel_rfl) (by rfl) (fun wx hx=>zH4 (by rfl) (by rfl) (by rfl) (Nat.le_trans Hk.out Hcap.out.1) Hcap.out.2) (hSof.out _ (Below.refl _ _)) ?_;try simp only [zp]
    refine zt 5 40 (.agg #[O ii tx,O ii ty,O ii tc]) rfl (by kernel_rfl) (by rfl) (fun wx hx=>by go_simp) (hSof.out _ (Below.refl _ _)) ?_;try simp only [zp]
    refine zv 8 2 40 [.slice (some ⟨g,0,none⟩) M.length oc,O ii (k:Nat)] rfl rfl (by kernel_rfl) (hSof.out _ (Below.refl _ _)) ?_;repeat (refine zo rfl (by rfl) rfl (by rfl) ?_;simp only [zp])
    refine zn ?_;refine zt 10 40 (.slice (some had) (M.length-k) (oc-k)) rfl (by kernel_rfl) (by rfl) (fun wx hx=>(by rw [<-Hha.out];exact zGz (by rfl) (by rfl) (by rfl) Hk.out Hcap.out.1 Hcap.out.2)) (hSof.out _ (Below.refl _ _)) ?_;try simp only [zp]
    refine zw 0 [6] (by kernel_rfl) ?_;refine readyZ.cons rfl rfl (zDz (by rfl)) (fun _=>hSof.out _ b1.out) ?_ ?_
    ·try simp only [zp]
     refine zw 4 [6] (by kernel_rfl) ?_;refine readyZ.cons rfl rfl (zAj (by rfl) (by rfl) (by rfl) rA.out) (fun _=>hSof.out _ bA.out) ?_ ?_
     ·try simp only [zp]
      refine zq 6 (by kernel_rfl) rfl rfl (zBw (t:=⟨tx,ty,tc⟩) (by rfl) (by rfl)) (fun _=>hSof.out _ bA2.out) ?_;try simp only [zp]
      refine zq 7 (by kernel_rfl) rfl rfl (zAj (by rfl) (by rfl) (by rfl) r2A.out) (fun _=>hSof.out _ b2A.out) ?_;try simp only [zp]
      refine zq 11 (by kernel_rfl) rfl rfl (zAj (by rfl) (by rfl) (by rfl) r3A.out) (fun _=>hSof.out _ p3A.out.below) ?_;try simp only [zp]
      refine zq 12 (by kernel_rfl) rfl rfl (zAo (by rfl) (by rfl)) (fun _=>hSof.out _ p3A.out.below) ?_;try simp only [zp]
      refine zAf (by kernel_rfl) ?_ _;dsimp only [zA1,Exit.then];obtain ⟨g',oc',M',rfl,q1,q2,q3,q4,q5⟩:=HFin.out _ _ p3A.out;have Hq:=zAc (ai q1 (ai q2 (ai q3 (ai q4 q5))));clear q1 q2 q3 q4 q5;go_wp2_with fail;go_ret;exact ⟨g',oc',M',rfl,Hq.out.1,Hq.out.2.1,Hq.out.2.2.1,Hq.out.2.2.2.1,Hq.out.2.2.2.2⟩
     ·refine readyZ.cons rfl rfl (zBw (t:=⟨tx,ty,tc⟩) (by rfl) (by rfl)) (fun _=>hSof.out _ b12.out) ?_ readyZ.nil;try simp only [zp]
      refine zq 4 (by kernel_rfl) rfl rfl (zAj (by rfl) (by rfl) (by rfl) rB.out) (fun _=>hSof.out _ bB.out) ?_;try simp only [zp]
      refine zq 7 (by kernel_rfl) rfl rfl (zAj (by rfl) (by rfl) (by rfl) r2B.out) (fun _=>hSof.out _ b2B.out) ?_;try simp only [zp]
      refine zq 11 (by kernel_rfl) rfl rfl (zAj (by rfl) (by rfl) (by rfl) r3B.out) (fun _=>hSof.out _ p3B.out.below) ?_;try simp only [zp]
      refine zq 12 (by kernel_rfl) rfl rfl (zAo (by rfl) (by rfl)) (fun _=>hSof.out _ p3B.out.below) ?_;try simp only [zp]
      refine zAf (by kernel_rfl) ?_ _;dsimp only [zA1,Exit.then];obtain ⟨g',oc',M',rfl,q1,q2,q3,q4,q5⟩:=HFin.out _ _ p3B.out;have Hq:=zAc (ai q1 (ai q2 (ai q3 (ai q4 q5))));clear q1 q2 q3 q4 q5;go_wp2_with fail;go_ret;exact ⟨g',oc',M',rfl,Hq.out.1,Hq.out.2.1,Hq.out.2.2.1,Hq.out.2.2.2.1,Hq.out.2.2.2.2⟩
    ·refine readyZ.cons rfl rfl (zBw (t:=⟨tx,ty,tc⟩) (by rfl) (by rfl)) (fun _=>hSof.out _ b2.out) ?_ readyZ.nil;try simp only [zp]
     refine zq 0 (by kernel_rfl) rfl rfl (zDz (by rfl)) (fun _=>hSof.out _ b21.out) ?_;try simp only [zp]
     refine zq 4 (by kernel_rfl) rfl rfl (zAj (by rfl) (by rfl) (by rfl) rC.out) (fun _=>hSof.out _ bC.out) ?_;try simp only [zp]
     refine zq 7 (by kernel_rfl) rfl rfl (zAj (by rfl) (by rfl) (by rfl) r2C.out) (fun _=>hSof.out _ b2C.out) ?_;try simp only [zp]
     refine zq 11 (by kernel_rfl) rfl rfl (zAj (by rfl) (by rfl) (by rfl) r3C.out) (fun _=>hSof.out _ p3C.out.below) ?_;try simp only [zp]
     refine zq 12 (by kernel_rfl) rfl rfl (zAo (by rfl) (by rfl)) (fun _=>hSof.out _ p3C.out.below) ?_;try simp only [zp]
     refine zAf (by kernel_rfl) ?_ _;dsimp only [zA1,Exit.then];obtain ⟨g',oc',M',rfl,q1,q2,q3,q4,q5⟩:=HFin.out _ _ p3C.out;have Hq:=zAc (ai q1 (ai q2 (ai q3 (ai q4 q5))));clear q1 q2 q3 q4 q5;go_wp2_with fail;go_ret;exact ⟨g',oc',M',rfl,Hq.out.1,Hq.out.2.1,Hq.out.2.2.1,Hq.out.2.2.2.1,Hq.out.2.2.2.2⟩
   ·have hcl:clt (mx,my) (tx,ty):=show my<ty\/(my=ty/\mx<tx) from of_decide_eq_true Hbq.out
    have HN:Hid (∀a∈M.take (k+1),clt a.to (tx,ty)):=zAc fun a ha=>by
     rw [List.take_add_one,Hmk.out] at ha;rcases List.mem_append.1 ha with h|h
     ·exact HKl.out a h
     ·simp at h;subst h;exact hcl
    clear hcl;go_wp2_with fail;go_roundw
    case rel=>exact ⟨k+1,by go_num,by omega,HN.out,HbZ.out⟩
    case measure=>simp only [intOf];omega
  ·have hk':k=M.length:=by omega
   subst hk';have HbZ:Hid (Below X.heap.size X Z0.drew):=zAc (bt hbk ⟨rfl,rfl,rfl,Nat.le_refl _,fun _ _=>rfl⟩);have HS:True:=trivial;clear hbk;go_wp2_with fail;refine zAp ?_;refine zAg (fun _=>True) [] (by kernel_rfl) ?_;refine zv 0 5 30 [O ii (M.length:Nat),.slice (some ⟨g,0,none⟩) M.length oc,O ii (M.length:Nat),.bool false,.bool false] rfl rfl (by kernel_rfl) HS ?_;repeat ((first|refine zo rfl (by rfl) rfl (by rfl) ?_|refine zc rfl (by rfl) (fun wx hx=>by go_simp) ?_);simp only [zp])
   refine zn ?_;refine zu 5 30 rfl (by kernel_rfl) (by rfl) HS ?_;try simp only [zp]
   refine zu 6 30 rfl (by kernel_rfl) (by rfl) HS ?_;try simp only [zp]
   refine zu 7 30 rfl (by kernel_rfl) (by rfl) HS ?_;try simp only [zp]
   refine zu 8 30 rfl (by kernel_rfl) (by rfl) HS ?_;try simp only [zp]
   refine zu 9 30 rfl (by kernel_rfl) (by rfl) HS ?_;try simp only [zp]
   refine zu 10 30 rfl (by kernel_rfl) (by rfl) HS ?_;try simp only [zp]
   refine zu 11 30 rfl (by kernel_rfl) (by rfl) HS ?_;try simp only [zp]
   refine zu 12 30 rfl (by kernel_rfl) (by rfl) HS ?_;try simp only [zp]
   refine zt 13 30 (.bool false) rfl (by kernel_rfl) (by rfl) (fun wx hx=>by go_simp) HS ?_;try simp only [zp]
   refine zAf (by kernel_rfl) ?_ _;dsimp only [zA1,Exit.then];have Hk2:Hid (∀q r,M.drop M.length=q::r->clt (tx,ty) q.to):=zAc fun q r e=>by rw [List.drop_length] at e;cases e
   clear HS;generalize Z0.drew=Z1 at HbZ ⊢;go_wp2_with fail
   have hSof:Hid (∀Y:World,Below Z1.drew.heap.size Z1.drew Y->(fun wx:World=>wx.cell? ⟨w.heap.size,0,none⟩=some (O ii tx)/\wx.cell? ⟨w.heap.size,1,none⟩=some (O ii ty)/\wx.cell? ⟨w.heap.size,2,none⟩=some (O ii tc)) Y):=zAc fun Y q=>by
    have hd:Below Z1.heap.size Z1 Z1.drew:=⟨rfl,rfl,rfl,Nat.le_refl _,fun _ _=>rfl⟩
    exact HS0.out.2.1 _ (bt HbZ.out (bt hd q))
   have hRd:RE Z1.drew (.slice (some ⟨g,0,none⟩) M.length oc) M:=by
    have hd:Below Z1.heap.size Z1 Z1.drew:=⟨rfl,rfl,rfl,Nat.le_refl _,fun _ _=>rfl⟩
    exact HS0.out.2.2.1.upto (bt HbZ.out hd)
   have Hcap:=zAc (qB9 hRd);have hMl2:=hMl;have E1:=PwE.empty (Below.refl Z1.drew.heap.size Z1.drew);obtain ⟨vA,WA,rA,uA,oA,gA⟩:=zFs (hRd.upto E1.below) E1.us M.length Hk.out (by simp;omega);have pA:=E1.step uA gA oA;rw [List.nil_append] at pA;have pA2:=pA.alloc (.cells #[O ii tx,O ii ty,O ii tc] 63);obtain ⟨v2A,W2A,v3A,W3A,r2A,r3A,b2A,p3A⟩:=zC4 (t:=⟨tx,ty,tc⟩) hRd pA2 (LoneE.new WA ⟨tx,ty,tc⟩) Hk.out Hcap.out.1 (by omega);have E2:=E1.alloc (.cells #[O ii tx,O ii ty,O ii tc] 63);obtain ⟨vB,WB,rB,uB,oB,gB⟩:=zFs (hRd.upto E2.below) E2.us M.length Hk.out (by simp;omega);have pB:=E2.step uB gB oB;rw [List.nil_append] at pB;obtain ⟨v2B,W2B,v3B,W3B,r2B,r3B,b2B,p3B⟩:=zC4 (t:=⟨tx,ty,tc⟩) hRd pB ((LoneE.new (Z1.drew.alloc (.cells #[] 63)) ⟨tx,ty,tc⟩).turned gB (by simp [Value.ownBlock])) Hk.out Hcap.out.1 (by omega);have B2:Below Z1.drew.heap.size Z1.drew (Z1.drew.alloc (.cells #[O ii tx,O ii ty,O ii tc] 63)):=zAk _ _;have E3:=PwE.empty B2;obtain ⟨vC,WC,rC,uC,oC,gC⟩:=zFs (hRd.upto E3.below) E3.us M.length Hk.out (by simp;omega);have pC:=E3.step uC gC oC;rw [List.nil_append] at pC;obtain ⟨v2C,W2C,v3C,W3C,r2C,r3C,b2C,p3C⟩:=zC4 (t:=⟨tx,ty,tc⟩) hRd pC (((LoneE.new Z1.drew ⟨tx,ty,tc⟩).alloc (.cells #[] 63)).turned gC (by simp [Value.ownBlock])) Hk.out Hcap.out.1 (by omega);obtain ⟨had,hha⟩:∃ad:Addr,(if oc=M.length then (⟨g,0,none⟩:Addr) else ⟨g,M.length*3,none⟩)=ad:=⟨_,rfl⟩
   rw [hha] at r3A r3B r3C;have Hha:=zAc hha;clear hha;have b1:=zAc E1.below;have bA:=zAc pA.below;have bA2:=zAc pA2.below;have b12:=zAc E2.below;have bB:=zAc pB.below;have b2:=zAc B2;have b21:=zAc E3.below;have bC:=zAc pC.below
   replace rA:=zAc rA
   replace rB:=zAc rB
   replace rC:=zAc rC
   replace r2A:=zAc r2A
   replace r2B:=zAc r2B
   replace r2C:=zAc r2C
   replace r3A:=zAc r3A
   replace r3B:=zAc r3B
   replace r3C:=zAc r3C
   replace b2A:=zAc b2A
   replace b2B:=zAc b2B
   replace b2C:=zAc b2C
   replace p3A:=zAc p3A
   replace p3B:=zAc p3B
   replace p3C:=zAc p3C
   clear E1 E2 E3 B2 uA uB uC gA gB gC oA oB oC pA pA2 pB pC hRd
   have HFin:Hid (∀(Wf:World) (v:Value),PwE Z1.drew Wf v (M.take M.length ++ ⟨tx,ty,tc⟩ :: M.drop M.length)->∃g' oc' M',v = .slice (some ⟨g',0,none⟩) M'.length oc'/\RE Wf v M'/\UpE M'/\zGc M M' ⟨tx,ty,tc⟩/\M'.length<=M.length+1/\Below w.heap.size w Wf):=zAc fun Wf v h=>by
    have hd:Below Z1.heap.size Z1 Z1.drew:=⟨rfl,rfl,rfl,Nat.le_refl _,fun _ _=>rfl⟩
    obtain ⟨hU',hm',hl'⟩:=zQa (t:=⟨tx,ty,tc⟩) HS0.out.2.2.2 HKl.out Hk2.out;obtain ⟨g',oc',e⟩:=zSd h.us (by simp);exact ⟨g',oc',_,e,h.us,hU',hm',hl',bt HS0.out.1 (bt HbZ.out (bt hd h.below))⟩
   refine zAp ?_;refine zAg (fun wx:World=>wx.cell? ⟨w.heap.size,0,none⟩=some (O ii tx)/\wx.cell? ⟨w.heap.size,1,none⟩=some (O ii ty)/\wx.cell? ⟨w.heap.size,2,none⟩=some (O ii tc)) [] (by kernel_rfl) ?_;refine zv 1 2 40 [.slice (some ⟨g,0,none⟩) M.length oc,O ii (M.length:Nat)] rfl rfl (by kernel_rfl) (hSof.out _ (Below.refl _ _)) ?_;repeat (refine zo rfl (by rfl) rfl (by rfl) ?_;simp only [zp])
   refine zn ?_;refine zt 3 40 (.slice (some ⟨g,0,none⟩) M.length oc) rfl (by kernel_rfl) (by rfl) (fun wx hx=>zH4 (by rfl) (by rfl) (by rfl) (Nat.le_trans Hk.out Hcap.out.1) Hcap.out.2) (hSof.out _ (Below.refl _ _)) ?_;try simp only [zp]
   refine zt 5 40 (.agg #[O ii tx,O ii ty,O ii tc]) rfl (by kernel_rfl) (by rfl) (fun wx hx=>by go_simp) (hSof.out _ (Below.refl _ _)) ?_;try simp only [zp]
   refine zv 8 2 40 [.slice (some ⟨g,0,none⟩) M.length oc,O ii (M.length:Nat)] rfl rfl (by kernel_rfl) (hSof.out _ (Below.refl _ _)) ?_;repeat (refine zo rfl (by rfl) rfl (by rfl) ?_;simp only [zp])
   refine zn ?_;refine zt 10 40 (.slice (some had) (M.length-M.length) (oc-M.length)) rfl (by kernel_rfl) (by rfl) (fun wx hx=>(by rw [<-Hha.out];exact zGz (by rfl) (by rfl) (by rfl) Hk.out Hcap.out.1 Hcap.out.2)) (hSof.out _ (Below.refl _ _)) ?_;try simp only [zp]
   refine zw 0 [6] (by kernel_rfl) ?_;refine readyZ.cons rfl rfl (zDz (by rfl)) (fun _=>hSof.out _ b1.out) ?_ ?_
   ·try simp only [zp]
    refine zw 4 [6] (by kernel_rfl) ?_;refine readyZ.cons rfl rfl (zAj (by rfl) (by rfl) (by rfl) rA.out) (fun _=>hSof.out _ bA.out) ?_ ?_
    ·try simp only [zp]
     refine zq 6 (by kernel_rfl) rfl rfl (zBw (t:=⟨tx,ty,tc⟩) (by rfl) (by rfl)) (fun _=>hSof.out _ bA2.out) ?_;try simp only [zp]
     refine zq 7 (by kernel_rfl) rfl rfl (zAj (by rfl) (by rfl) (by rfl) r2A.out) (fun _=>hSof.out _ b2A.out) ?_;try simp only [zp]
     refine zq 11 (by kernel_rfl) rfl rfl (zAj (by rfl) (by rfl) (by rfl) r3A.out) (fun _=>hSof.out _ p3A.out.below) ?_;try simp only [zp]
     refine zq 12 (by kernel_rfl) rfl rfl (zAo (by rfl) (by rfl)) (fun _=>hSof.out _ p3A.out.below) ?_;try simp only [zp]
     refine zAf (by kernel_rfl) ?_ _;dsimp only [zA1,Exit.then];obtain ⟨g',oc',M',rfl,q1,q2,q3,q4,q5⟩:=HFin.out _ _ p3A.out;have Hq:=zAc (ai q1 (ai q2 (ai q3 (ai q4 q5))));clear q1 q2 q3 q4 q5;go_wp2_with fail;go_ret;exact ⟨g',oc',M',rfl,Hq.out.1,Hq.out.2.1,Hq.out.2.2.1,Hq.out.2.2.2.1,Hq.out.2.2.2.2⟩
    ·refine readyZ.cons rfl rfl (zBw (t:=⟨tx,ty,tc⟩) (by rfl) (by rfl)) (fun _=>hSof.out _ b12.out) ?_ readyZ.nil;try simp only [zp]
     refine zq 4 (by kernel_rfl) rfl rfl (zAj (by rfl) (by rfl) (by rfl) rB.out) (fun _=>hSof.out _ bB.out) ?_;try simp only [zp]
     refine zq 7 (by kernel_rfl) rfl rfl (zAj (by rfl) (by rfl) (by rfl) r2B.out) (fun _=>hSof.out _ b2B.out) ?_;try simp only [zp]
     refine zq 11 (by kernel_rfl) rfl rfl (zAj (by rfl) (by rfl) (by rfl) r3B.out) (fun _=>hSof.out _ p3B.out.below) ?_;try simp only [zp]
     refine zq 12 (by kernel_rfl) rfl rfl (zAo (by rfl) (by rfl)) (fun _=>hSof.out _ p3B.out.below) ?_;try simp only [zp]
     refine zAf (by kernel_rfl) ?_ _;dsimp only [zA1,Exit.then];obtain ⟨g',oc',M',rfl,q1,q2,q3,q4,q5⟩:=HFin.out _ _ p3B.out;have Hq:=zAc (ai q1 (ai q2 (ai q3 (ai q4 q5))));clear q1 q2 q3 q4 q5;go_wp2_with fail;go_ret;exact ⟨g',oc',M',rfl,Hq.out.1,Hq.out.2.1,Hq.out.2.2.1,Hq.out.2.2.2.1,Hq.out.2.2.2.2⟩
   ·refine readyZ.cons rfl rfl (zBw (t:=⟨tx,ty,tc⟩) (by rfl) (by rfl)) (fun _=>hSof.out _ b2.out) ?_ readyZ.nil;try simp only [zp]
    refine zq 0 (by kernel_rfl) rfl rfl (zDz (by rfl)) (fun _=>hSof.out _ b21.out) ?_;try simp only [zp]
    refine zq 4 (by kernel_rfl) rfl rfl (zAj (by rfl) (by rfl) (by rfl) rC.out) (fun _=>hSof.out _ bC.out) ?_;try simp only [zp]
    refine zq 7 (by kernel_rfl) rfl rfl (zAj (by rfl) (by rfl) (by rfl) r2C.out) (fun _=>hSof.out _ b2C.out) ?_;try simp only [zp]
    refine zq 11 (by kernel_rfl) rfl rfl (zAj (by rfl) (by rfl) (by rfl) r3C.out) (fun _=>hSof.out _ p3C.out.below) ?_;try simp only [zp]
    refine zq 12 (by kernel_rfl) rfl rfl (zAo (by rfl) (by rfl)) (fun _=>hSof.out _ p3C.out.below) ?_;try simp only [zp]
    refine zAf (by kernel_rfl) ?_ _;dsimp only [zA1,Exit.then];obtain ⟨g',oc',M',rfl,q1,q2,q3,q4,q5⟩:=HFin.out _ _ p3C.out;have Hq:=zAc (ai q1 (ai q2 (ai q3 (ai q4 q5))));clear q1 q2 q3 q4 q5;go_wp2_with fail;go_ret;exact ⟨g',oc',M',rfl,Hq.out.1,Hq.out.2.1,Hq.out.2.2.1,Hq.out.2.2.2.1,Hq.out.2.2.2.2⟩
section
open Go.Lib Go.Sort
def Sli (v:Value):Prop:=∃a n c,v = .slice a n c
abbrev cL (v:{ v:Value // Sli v }):List Value:=[v.1]
theorem zZ3 (t:{ v:Value // Sli v }):(cL t).length=1:=rfl
theorem qCz (t:{ v:Value // Sli v }):∀u∈cL t,u.oneCell'=true:=by
 intro u h;simp [cL] at h;obtain ⟨a,n,c,e⟩:=t.2;rw [h,e];rfl
abbrev RL (w:World) (v:Value) (L:List { v:Value // Sli v }):Prop:=Rw 60 1 cL w v L
theorem qBp:(pg.info? 60).map (fun i=>(i.zero,i.size,i.bytes))=some (some (.slice none 0 0),1,24):=by kernel_rfl
theorem qB1 (L:List { v:Value // Sli v }):(L.flatMap cL).length=L.length*1:=by
 induction L with
 |nil=>rfl
 |cons t r ih=>rw [List.flatMap_cons,List.length_append,ih,zZ3,List.length_cons];omega
theorem qAx (L:List { v:Value // Sli v }):∀u∈L.flatMap cL,u.oneCell'=true:=by
 intro u hu;obtain ⟨t,-,h⟩:=List.mem_flatMap.1 hu;exact qCz t u h
section
variable {w:World} {v:Value} {L:List { v:Value // Sli v }}
theorem zE9 (h:RL w v L):∃a c,v = .slice a L.length c:=by
 obtain ⟨a,cap,e,-⟩:=Rw.form zZ3 h;exact ⟨a,cap,e⟩
theorem qBf (h:RL w v L) {M:List { v:Value // Sli v }} {a:Addr} {c:Nat} (hM:∀j u,(M.flatMap cL)[j]? = some u->w.cell? (a.add j)=some u) (hlen:L.length+M.length<=1000000000) :
 ∃v' w',(Builtin.append_ #[82,82] 82 #[v,.slice (some a) M.length c]).run pg w = .ok v' w'/\RL w' v' (L++M)/\(∀k,v'.ownBlock=some k->v.ownBlock=some k\/w.heap.size<=k)/\Turns (fun k=>v.ownBlock=some k) w w':=by
 obtain ⟨fi,hf,hz,h1,h8⟩:=info_parts qBp;obtain ⟨v',w',q1,q2,q3,q4,q5⟩:=run_append_own_at (P:=pg) w 0 82 82 60 fi (.slice none 0 0) 1 24 Tryz.underlying82 hf hz h1 h8 rfl (by decide) v L.length _ h a M.length c (M.flatMap cL) (qB1 M) hM (qAx M) (by unfold maxLen;omega) (by omega) (Nat.zero_le _);refine ⟨v',w',q1,?_,fun k e=>?_,Turns.of_grown (S:=fun k=>v.ownBlock=some k) q3 (fun k e=>e)⟩
 ·unfold RL Rw;rw [List.flatMap_append,List.length_append];exact q2
 ·rcases q5 with q|q
  ·exact .inl (q▸e)
  ·rw [q] at e;cases e;exact .inr (Nat.le_refl _)
theorem qAr (h:RL w v L) (t:{ v:Value // Sli v }) (hlen:L.length<=1000000) :
 ∃v' w',(Builtin.append_ #[82,82] 82 #[v,.slice (some ⟨w.heap.size,0,none⟩) 1 1]).run pg (w.alloc (.cells #[t.1] 60)) = .ok v' w'/\RL w' v' (L++[t])/\(∀k,v'.ownBlock=some k->v.ownBlock=some k\/w.heap.size<k)/\Turns (fun k=>v.ownBlock=some k) w w':=by
 obtain ⟨v',w',q1,q2,q3,q4⟩:=qBf (c:=1) (h.upto (zAk w (.cells #[t.1] 60))) (M:=[t]) (a:=⟨w.heap.size,0,none⟩) (fun j u hu=>by
  rw [Addr.add_lit,Nat.zero_add,cell_of_row _ w.heap.size j _ _ _ (heap_alloc_new w _)]
  simpa [cL] using hu) (by simp;omega)
 refine ⟨v',w',q1,q2,fun k e=>?_,(Turns.of_below (zAk w _)).trans (q4.mono (fun k _ e => .inl e))⟩;rcases q3 k e with q|q
 ·exact .inl q
 ·simp at q;exact .inr (by omega)
theorem qCl {a:Option Addr} {m c:Nat} (h:RL w (.slice a m c) L) {i:Nat} {x:{ v:Value // Sli v }} (hi:L[i]? = some x) :
 ∃g,a=some ⟨g,0,none⟩/\g<w.heap.size/\w.cell? ⟨g,i,none⟩=some x.1:=by
 obtain ⟨a',cap,e,hle,hc⟩:=Rw.form zZ3 h;obtain ⟨g,rfl,hg,hcell⟩:=hc i x hi;cases e;have:=hcell 0 _ rfl;rw [Nat.mul_one,Nat.add_zero] at this;exact ⟨g,rfl,hg,this⟩
end
end
theorem zS1 {ev:Operand->Value} {o:Oper} {w:World} {x y:Operand} {a b c d e f:Int} (ho:o.op = .binOp .neq 63 x y 63) (hx:ev x = .agg #[O ii a,O ii b,O ii c]) (hy:ev y = .agg #[O ii d,O ii e,O ii f]):(execOp ev o).run pg w = .ok (.value (.bool (!decide (a=d/\b=e/\c=f)))) w:=by
 unfold execOp;simp only [ho,hx,hy];go_simp
 by_cases h1:a=d<;>by_cases h2:b=e<;>by_cases h3:c=f<;>simp [h1,h2,h3]
theorem zUc {w:World} {va vb:Value} {A B:List E3} (hA:RE w va A) (hB:RE w vb B) (hAl:A.length<=100000) (hBl:B.length<=100000):Calls pg 32 #[va,vb] w fun e w'=>∃b,e = .returned (.bool b)/\(b=true↔A=B)/\Below w.heap.size w w':=by
 obtain ⟨aa,ac,rfl⟩:=zCz hA;obtain ⟨ba,bc,rfl⟩:=zCz hB
 by_cases hl:A.length=B.length
 ·have hli:((A.length:Nat):Int)=(B.length:Nat):=by rw [hl]
  have HA:=zAc (ai hA hB);clear hA hB;go_enter func32,ntmps32;go_wp2_with fail;go_loopw [5] (fun v wr=>∃i:Nat,v = O ii (i:Nat)/\i<=A.length/\A.take i=B.take i/\Below w.heap.size w wr) (fun v _=>A.length-(intOf v).toNat)
  case atStart=>exact ⟨0,rfl,Nat.zero_le _,by simp,Below.refl _ _⟩
  case round =>
   obtain ⟨i,rfl,hi,htk,hbr⟩:=hrel;rename World=>wr
   by_cases hlt:i<A.length
   ·obtain ⟨x,hx⟩:∃x,A[i]? = some x:=⟨_,List.getElem?_eq_getElem hlt⟩
    obtain ⟨y,hy⟩:∃y,B[i]? = some y:=⟨_,List.getElem?_eq_getElem (by omega)⟩
    obtain ⟨ga,rfl,-,a0,a1,a2⟩:=zZ2 (HA.out.1.upto hbr) hx;obtain ⟨gb,rfl,-,b0,b1,b2⟩:=zZ2 (HA.out.2.upto hbr) hy;obtain ⟨x0,x1,x2⟩:=x;obtain ⟨y0,y1,y2⟩:=y;simp only at a0 a1 a2 b0 b1 b2;have hki:(i:Int)<(A.length:Nat):=by omega
    have hkj:(i:Int)<(B.length:Nat):=by omega
    have Hx:=zAc (ai hx (ai hy (ai htk hbr)));clear hx hy htk hbr;obtain ⟨bq,hbq⟩:∃b,decide (x0=y0/\x1=y1/\x2=y2)=b:=⟨_,rfl⟩
    have Hbq:=zAc hbq;clear hbq;have HS:(wr.drew.cell? ⟨ga,i*3,none⟩=some (O ii x0)/\wr.drew.cell? ⟨ga,i*3+1,none⟩=some (O ii x1)/\wr.drew.cell? ⟨ga,i*3+2,none⟩=some (O ii x2))/\wr.drew.cell? ⟨gb,i*3,none⟩=some (O ii y0)/\wr.drew.cell? ⟨gb,i*3+1,none⟩=some (O ii y1)/\wr.drew.cell? ⟨gb,i*3+2,none⟩=some (O ii y2):=⟨⟨a0,a1,a2⟩,b0,b1,b2⟩
    clear a0 a1 a2 b0 b1 b2;go_wp2_with fail;refine zAp ?_;refine zAg (fun wx:World=>(wx.cell? ⟨ga,i*3,none⟩=some (O ii x0)/\wx.cell? ⟨ga,i*3+1,none⟩=some (O ii x1)/\wx.cell? ⟨ga,i*3+2,none⟩=some (O ii x2))/\wx.cell? ⟨gb,i*3,none⟩=some (O ii y0)/\wx.cell? ⟨gb,i*3+1,none⟩=some (O ii y1)/\wx.cell? ⟨gb,i*3+2,none⟩=some (O ii y2)) [] (by kernel_rfl) ?_;refine zv 0 8 20 [.slice (some ⟨ga,0,none⟩) A.length ac,O ii (i:Nat),.pointer (some ⟨ga,i*3,none⟩),.agg #[O ii x0,O ii x1,O ii x2],.slice (some ⟨gb,0,none⟩) B.length bc,O ii (i:Nat),.pointer (some ⟨gb,i*3,none⟩),.agg #[O ii y0,O ii y1,O ii y2]] rfl rfl (by kernel_rfl) HS ?_;repeat ((first|refine zo rfl (by rfl) rfl (by rfl) ?_|refine zc rfl (by rfl) (fun wx hx=>by go_simp) ?_);simp only [zp])
    refine zn ?_;refine zt 8 20 (.bool (!bq)) rfl (by kernel_rfl) (by rfl) (fun wx hx=>by rw [<-Hbq.out];exact zS1 (by rfl) (by rfl) (by rfl)) HS ?_;try simp only [zp]
    refine zAf (by kernel_rfl) ?_ _;dsimp only [zA1,Exit.then];clear HS;have hd:Below wr.heap.size wr wr.drew:=⟨rfl,rfl,rfl,Nat.le_refl _,fun _ _=>rfl⟩
    have Hbd:=zAc (bt Hx.out.2.2.2 hd);clear hd;cases bq
    ·go_wp2_with fail;go_ret;refine ⟨false,rfl,⟨fun h=>by (cases h),fun e=>?_⟩,Hbd.out⟩;subst e;have h1:=Hx.out.1.symm.trans Hx.out.2.1;simp only [Option.some.injEq,E3.mk.injEq] at h1;have h2:=Hbq.out;rw [decide_eq_true h1] at h2;cases h2
    ·have HN:Hid (A.take (i+1)=B.take (i+1)):=zAc (by
      obtain ⟨rfl,rfl,rfl⟩:=of_decide_eq_true Hbq.out
      rw [List.take_add_one,List.take_add_one,Hx.out.1,Hx.out.2.1,Hx.out.2.2.1])
     go_wp2_with fail;go_roundw
     case rel=>exact ⟨i+1,by go_num,by omega,HN.out,Hbd.out⟩
     case measure=>simp only [intOf];omega
   ·have hi':i=A.length:=by omega
    subst hi';have HF:Hid (A=B/\Below w.heap.size w wr):=zAc ⟨by rw [List.take_length,hl,List.take_length] at htk;exact htk,hbr⟩;clear htk hbr;go_wp2_with fail;go_ret;exact ⟨true,rfl,by simp [HF.out.1],HF.out.2⟩
 ·have hli:¬((A.length:Nat):Int)=(B.length:Nat):=by omega
  clear hA hB;go_enter func32,ntmps32;go_wp2_with fail;go_ret;exact ⟨false,rfl,by simp;intro e;exact hl (by rw [e]),Below.refl _ _⟩
section
section
variable {S:Int->Int->Bool} {W H:Int}
def DPm (S:Int->Int->Bool) (W H:Int) (t:Q4):Prop:=∃kx ky,t∈ptQ S W H kx ky 0\/t∈ptQ S W H kx ky 1
theorem DPm.lo (hW:1<=W/\W<=128) (hH:1<=H/\H<=128) (hS:∀u v,S u v=true->(0<=u/\u<W)/\0<=v/\v<H) {t:Q4} (h:DPm S W H t):t∈acL S W H (t.x/8) (t.y/8):=by
 obtain ⟨kx,ky,h|h⟩:=h
 ·have h1:=(zBb hW hH hS (.inl rfl) h).2.1;rw [h1.1,h1.2];exact zCq.2 ⟨0,by omega,h⟩
 ·have h1:=(zBb hW hH hS (.inr rfl) h).2.1;rw [h1.1,h1.2];exact zCq.2 ⟨1,by omega,h⟩
theorem zR9 {kx ky:Int} {t:Q4} (h:t∈acL S W H kx ky):DPm S W H t\/DPm S W H t.swap:=by
 obtain ⟨d,hd,ht⟩:=zCq.1 h
 match d,hd with
 |0,_=>exact .inl ⟨kx,ky,.inl ht⟩
 |1,_=>exact .inl ⟨kx,ky,.inr ht⟩
 |2,_ =>
  obtain ⟨u,hu,rfl⟩:=List.mem_map.1 ht;exact .inr ⟨_,_,.inl (by rw [Q4.swap_swap];exact hu)⟩
 |3,_ =>
  obtain ⟨u,hu,rfl⟩:=List.mem_map.1 ht;exact .inr ⟨_,_,.inr (by rw [Q4.swap_swap];exact hu)⟩
theorem zUh (hW:1<=W/\W<=128) (hH:1<=H/\H<=128) (hS:∀u v,S u v=true->(0<=u/\u<W)/\0<=v/\v<H) (q:Int×Int) (e:E3) :
 (∃t,DPm S W H t/\((t.A=q/\e=⟨t.a,t.b,10⟩)\/(t.B=q/\e=⟨t.x,t.y,10⟩)))↔∃t∈acL S W H (clu q).1 (clu q).2,t.A=q/\e=⟨t.a,t.b,10⟩:=by
 constructor
 ·rintro ⟨t,ht,⟨rfl,rfl⟩|⟨rfl,rfl⟩⟩
  ·exact ⟨t,ht.lo hW hH hS,rfl,rfl⟩
  ·exact ⟨t.swap,zJq hW hH hS (ht.lo hW hH hS),rfl,rfl⟩
 ·rintro ⟨t,ht,rfl,rfl⟩;rcases zR9 ht with h|h
  ·exact ⟨t,h,.inl ⟨rfl,rfl⟩⟩
  ·exact ⟨t.swap,h,.inr ⟨rfl,rfl⟩⟩
theorem zUg (hW:1<=W/\W<=128) (hH:1<=H/\H<=128) (hS:∀u v,S u v=true->(0<=u/\u<W)/\0<=v/\v<H) (q:Int×Int) :
 (∃t,DPm S W H t/\(q=t.A\/q=t.B))↔Nd S W H (clu q).1 (clu q).2 q:=by
 constructor
 ·rintro ⟨t,ht,rfl|rfl⟩
  ·exact ⟨t,ht.lo hW hH hS,rfl⟩
  ·exact ⟨t.swap,zJq hW hH hS (ht.lo hW hH hS),rfl⟩
 ·rintro ⟨t,ht,rfl⟩;rcases zR9 ht with h|h
  ·exact ⟨t,h,.inl rfl⟩
  ·exact ⟨t.swap,h,.inr rfl⟩
end
theorem zIj {W H:Int} {tl:List Nat} {f:Int->Int->Option Int} {c s:Int} {LW:Int×Int->List (Int×Int)} {KE:List (Int×Int)} {LE:Int×Int->List E3} (hW:1<=W/\W<=128) (hH:1<=H/\H<=128) (hS:∀u v,stB W H tl f c s u v=true->(0<=u/\u<W)/\0<=v/\v<H)
 (h:GD W H tl f c s (fun k=>rB W H k.1 k.2=true) LW KE LE) (q:Int×Int):q∈KE↔Nd (stB W H tl f c s) W H (clu q).1 (clu q).2 q:=by
 rw [h.fc q];constructor
 ·intro h1;exact ((h.fa _ (zHw hW hH (h.fb _ q h1).2)).2 q).1 h1
 ·intro h1;exact ((h.fa _ (zHw hW hH (hS _ _ (h1.in hW hH hS).2))).2 q).2 h1
end
theorem zP2:Rcl 63:=zl fun _ _=>by go_simp
def DG (w:World) (nv ev:Value) (NL:List (Int×Int)) (F:Int×Int->List E3):Prop:=RC w nv NL/\∃Vs:List { v:Value // Sli v },RL w ev Vs/\Vs.length=NL.length/\∀(j:Nat) (q:Int×Int) (x:{ v:Value // Sli v }),NL[j]? = some q->Vs[j]? = some x->RE w x.1 (F q)
theorem DG.turned {w w':World} {nv ev:Value} {NL:List (Int×Int)} {F:Int×Int->List E3} (h:DG w nv ev NL F) {S:Nat->Prop} (T:Turns S w w') (hS:∀k,S k->∃cur,w.heap[k]? = some (.cells cur 84 (0,0))):DG w' nv ev NL F:=by
 have key:∀{t:Nat} {k:Nat} {cur:Array Value},w.heap[k]? = some (.cells cur t (0,0))->t≠84->¬S k:=fun hk ht hs=>by
  obtain ⟨c2,h2⟩:=hS _ hs;rw [hk] at h2;cases h2;exact ht rfl
 obtain ⟨h1,Vs,h2,h3,h4⟩:=h;refine ⟨h1.kept T (fun g e=>?_),Vs,h2.kept T (fun g e=>?_),h3,fun j q x hq hx=>(h4 j q x hq hx).kept T (fun g e=>?_)⟩
 ·obtain ⟨cur,hc⟩:=h1.blk e;exact key hc (by decide)
 ·obtain ⟨cur,hc⟩:=h2.blk e;exact key hc (by decide)
 ·obtain ⟨cur,hc⟩:=(h4 j q x hq hx).blk e;exact key hc (by decide)
def NdsOf (M:List Q4) (NL:List (Int×Int)):Prop:=∀q,q∈NL↔∃t∈M,q=t.A\/q=t.B
theorem NdsOf.step {M:List Q4} {i:Nat} {t:Q4} {N0 N1 N2:List (Int×Int)} (h:NdsOf (M.take i) N0) (ht:M[i]? = some t) (h1:zGc N0 N1 t.A) (h2:zGc N1 N2 t.B):NdsOf (M.take (i+1)) N2:=fun q=>by
 rw [h2 q,h1 q,h q,List.take_add_one,ht];constructor
 ·rintro ((⟨u,hu,e⟩|e)|e)
  ·exact ⟨u,List.mem_append_left _ hu,e⟩
  ·exact ⟨t,by simp,.inl e⟩
  ·exact ⟨t,by simp,.inr e⟩
 ·rintro ⟨u,hu,e⟩;rcases List.mem_append.1 hu with hu|hu
  ·exact .inl (.inl ⟨u,hu,e⟩)
  ·simp at hu;subst hu;exact e.elim (fun e => .inl (.inr e)) .inr
structure DnI (w1 wr:World) (M:List Q4) (gn cn i:Nat) (NL:List (Int×Int)):Prop where
 r:RC wr (.slice (some ⟨gn,0,none⟩) NL.length cn) NL
 u:UpC NL
 l:NL.length<=2*i
 m:NdsOf (M.take i) NL
 b:Below w1.heap.size w1 wr
theorem zZd {w:World} {wd ht:Nat} (hd:(1<=wd/\wd<=128)/\1<=ht/\ht<=128) (S:Int->Int->Bool) (a:Option Addr) (n cap:Nat) (F:Int×Int->List E3)
 (HBe:∀wx,Below w.heap.size w wx->∀kx ky d,Calls pg 94 #[gdv wd ht (.slice a n cap),cel kx ky,O ii d] wx fun e w'=>∃lv,e = .returned lv/\Rq 122 w' lv (ptQ S wd ht kx ky d)/\Below wx.heap.size wx w'/\∀g,lv.ownBlock=some g->wx.heap.size<=g)
 (HMa:∀(wx:World) (gn cn:Nat) (NL:List (Int×Int)) (pa:Option Addr) (pc:Nat) (M:List Q4),Below w.heap.size w wx->M.Perm ((kl ((wd-1)/8+1) (((ht-1)/8+1)*((wd-1)/8+1))).flatMap (zDa S wd ht))->RC wx (.slice (some ⟨gn,0,none⟩) NL.length cn) NL->UpC NL->NdsOf M NL->Rq 122 wx (.slice pa M.length pc) M->
  Calls pg 64 #[gdv wd ht (.slice a n cap),.slice (some ⟨gn,0,none⟩) NL.length cn,.slice pa M.length pc] wx fun e w'=>∃nv ev,e = .returned (.agg #[O ii (wd:Nat),O ii (ht:Nat),.slice a n cap,nv,ev])/\DG w' nv ev NL F/\Below wx.heap.size wx w') :
 Calls pg 30 #[gdv wd ht (.slice a n cap)] w fun e w'=>∃nv ev NL M,e = .returned (.agg #[O ii (wd:Nat),O ii (ht:Nat),.slice a n cap,nv,ev])/\DG w' nv ev NL F/\UpC NL/\M.Perm ((kl ((wd-1)/8+1) (((ht-1)/8+1)*((wd-1)/8+1))).flatMap (zDa S wd ht))/\NdsOf M NL/\Below w.heap.size w w':=by
 obtain ⟨V,hV⟩:=ex ((w.alloc (.cells #[O ii (wd:Nat),O ii (ht:Nat),.slice a n cap] 81)).alloc (.cells #[O ii 0,O ii 0,.slice none 0 0,.slice none 0 0,.slice none 0 0] 84));have B0:Below w.heap.size w V:=by rw [<-hV];exact zA5 _ _ _
 have GV:GB V w.heap.size wd ht (.slice a n cap):=by rw [<-hV];exact (GB.new w wd ht _).upto (zAk _ _)
 have oV:V.heap[w.heap.size+1]? = some (.cells #[O ii 0,O ii 0,.slice none 0 0,.slice none 0 0,.slice none 0 0] 84 (0,0)):=by
  rw [<-hV];have:=World.alloc_heap_new (w.alloc (.cells #[O ii (wd:Nat),O ii (ht:Nat),.slice a n cap] 81)) (.cells #[O ii 0,O ii 0,.slice none 0 0,.slice none 0 0,.slice none 0 0] 84);rwa [World.size_alloc] at this
 have HoV:=zAc oV;have HV:=zAc hV;have HG:Hid (∀wx,Below V.heap.size V wx->wx.cell? ⟨w.heap.size,0,none⟩=some (O ii (wd:Nat))/\wx.cell? ⟨w.heap.size,1,none⟩=some (O ii (ht:Nat))/\wx.cell? ⟨w.heap.size,2,none⟩=some (.slice a n cap)):=zAc fun wx q=>⟨(GV.upto q).c.1.1,(GV.upto q).c.1.2,(GV.upto q).c.2⟩
 have HPo:=zAc (zRk (w:=V) hd S a n cap (fun wx q=>HBe wx (bt B0 q)));have HB0:=zAc B0;have HMa':=zAc HMa;obtain ⟨c0,c1,c2⟩:=HG.out V (Below.refl _ _);clear hV B0 GV HBe HMa oV;go_enter func30,ntmps30;go_wp2_with (rw [HV.out]);refine HPo.out.mono ?_;rintro e w1 ⟨lv,M,rfl,hPm,-,hRq,hb1⟩;obtain ⟨pa,pc,hlv⟩:=Rw.slice4 hRq;subst hlv
 have hMl:M.length<=4096:=by
  have h1:=hPm.length_eq;have h2:=zHo S wd ht (kl ((wd-1)/8+1) (((ht-1)/8+1)*((wd-1)/8+1)));rw [show (kl ((wd-1)/8+1) (((ht-1)/8+1)*((wd-1)/8+1))).length=((ht-1)/8+1)*((wd-1)/8+1) by simp [kl]] at h2;have h3:((ht-1)/8+1)*((wd-1)/8+1)<=16*16:=Nat.mul_le_mul (by omega) (by omega);omega
 have HP1:=zAc (ai hPm (ai hRq hb1));have I0:Hid (DnI w1 (w1.alloc (.cells #[] 47)) M w1.heap.size 0 0 []):=zAc ⟨⟨rfl,.inr ⟨w1.heap.size,0,#[],rfl,Nat.zero_le _,heap_alloc_new w1 _,Nat.le_refl _,Nat.zero_le _,rfl,rfl⟩⟩,List.Pairwise.nil,Nat.zero_le _,fun q=>by simp,zAk _ _⟩;clear hPm hRq hb1 c0 c1 c2 HPo;go_wp2_with fail;go_loopw [4,5] (fun u v wr=>∃(i gn cn:Nat) (NL:List (Int×Int)),u = .slice (some ⟨gn,0,none⟩) NL.length cn/\v = O ii (i:Nat)/\i<=M.length/\DnI w1 wr M gn cn i NL) (fun _ v _=>M.length-(intOf v).toNat)
 case atStart=>exact ⟨0,_,0,[],rfl,rfl,Nat.zero_le _,I0.out⟩
 case round =>
  obtain ⟨i,gn,cn,NL,rfl,rfl,hi,hI⟩:=hrel;rename World=>wr
  by_cases hlt:i<M.length
  ·obtain ⟨t,hti⟩:∃t,M[i]? = some t:=⟨_,List.getElem?_eq_getElem hlt⟩
   have hd0:Below wr.heap.size wr wr.drew:=⟨rfl,rfl,rfl,Nat.le_refl _,fun _ _=>rfl⟩
   obtain ⟨gp,rfl,-,-,-⟩:=Rw.atq (HP1.out.2.1.upto hI.b) hti
   have hSof:Hid (∀Y,Below wr.drew.heap.size wr.drew Y->(fun wx:World=>wx.cell? ⟨gp,i*4,none⟩=some (O ii t.x)/\wx.cell? ⟨gp,i*4+1,none⟩=some (O ii t.y)/\wx.cell? ⟨gp,i*4+2,none⟩=some (O ii t.a)/\wx.cell? ⟨gp,i*4+3,none⟩=some (O ii t.b)) Y):=zAc fun Y q=>by
    obtain ⟨g',e',-,zz,-⟩:=Rw.atq (HP1.out.2.1.upto (bt hI.b (bt hd0 q))) hti;cases e';exact zz
   have hki:(i:Int)<(M.length:Nat):=by omega
   have HPt:=zAc (zVj (hI.r.upto hd0) hI.u (by have:=hI.l;omega) t.x t.y);have HI:=zAc (ai hI hti);have Hd0:=zAc hd0;clear hI hti hd0;go_wp2_with fail;refine zAp ?_;refine zAg (fun wx:World=>wx.cell? ⟨gp,i*4,none⟩=some (O ii t.x)/\wx.cell? ⟨gp,i*4+1,none⟩=some (O ii t.y)/\wx.cell? ⟨gp,i*4+2,none⟩=some (O ii t.a)/\wx.cell? ⟨gp,i*4+3,none⟩=some (O ii t.b)) [] (by kernel_rfl) ?_;refine zv 0 6 20 [.slice (some ⟨gn,0,none⟩) NL.length cn,.slice (some ⟨gp,0,none⟩) M.length pc,O ii (i:Nat),.pointer (some ⟨gp,i*4,none⟩),.pointer (some ⟨gp,i*4,none⟩),cel t.x t.y] rfl rfl (by kernel_rfl) (hSof.out _ (Below.refl _ _)) ?_;repeat ((first|refine zo rfl (by rfl) rfl (by rfl) ?_|refine zc rfl (by rfl) (fun wx hx=>by go_simp) ?_);simp only [zp])
   refine zn ?_;refine zv 7 5 20 [.slice (some ⟨gp,0,none⟩) M.length pc,O ii (i:Nat),.pointer (some ⟨gp,i*4,none⟩),.pointer (some ⟨gp,i*4+2,none⟩),cel t.a t.b] rfl rfl (by kernel_rfl) (hSof.out _ (Below.refl _ _)) ?_;repeat ((first|refine zo rfl (by rfl) rfl (by rfl) ?_|refine zc rfl (by rfl) (fun wx hx=>by go_simp) ?_);simp only [zp])
   refine zn ?_;refine zw 6 [] (by kernel_rfl) ?_;refine readyZ.call rfl rfl (zP2 (by rfl) (by rfl) (by simp only [zj];rfl)) (HPt.out) ?_ readyZ.nil;rintro e Y1 ⟨g1,c1,N1,rfl,q1,q2,q3,q4,q5⟩;refine ⟨_,rfl,fun _=>hSof.out Y1 q5,?_⟩;try simp only [zp]
   have HPt2:=zAc (zVj q1 q2 (by have:=HI.out.1.l;omega) t.a t.b);have Hq:=zAc (ai q3 (ai q4 q5));clear q1 q2 q3 q4 q5 HPt;refine zw 12 [] (by kernel_rfl) ?_;refine readyZ.call rfl rfl (zP2 (by rfl) (by rfl) (by simp only [zj];rfl)) (HPt2.out) ?_ readyZ.nil;rintro e Y2 ⟨g2,c2,N2,rfl,q1,q2,q3,q4,q5⟩;have HF:Hid (DnI w1 Y2 M g2 c2 (i+1) N2):=zAc ⟨q1,q2,by have:=HI.out.1.l;have:=Hq.out.2.1;omega,HI.out.1.m.step HI.out.2 Hq.out.1 q3,bt HI.out.1.b (bt Hd0.out (bt Hq.out.2.2 q5))⟩;refine ⟨_,rfl,fun _=>hSof.out Y2 (bt Hq.out.2.2 q5),?_⟩;try simp only [zp]
   have HSy:=hSof.out Y2 (bt Hq.out.2.2 q5);clear q1 q2 q3 q4 q5 HPt2;refine zt 13 20 (.slice (some ⟨g2,0,none⟩) N2.length c2) rfl (by kernel_rfl) (by rfl) (fun wx hx=>zAo (by rfl) (by rfl)) HSy ?_;try simp only [zp]
   refine zAf (by kernel_rfl) ?_ _;dsimp only [zA1,Exit.then];clear hSof;go_wp2_with fail;go_roundw
   case rel=>exact ⟨i+1,g2,c2,N2,rfl,by go_num,by omega,HF.out⟩
   case measure=>simp only [intOf];omega
  ·have hi':i=M.length:=by omega
   subst hi';obtain ⟨c0,c1,c2⟩:=HG.out wr (bt HP1.out.2.2 hI.b);have hm:=hI.m;rw [List.take_length] at hm;have HM:=zAc (HMa'.out wr gn cn NL pa pc M (bt HB0.out (bt HP1.out.2.2 hI.b)) HP1.out.1 hI.r hI.u hm (HP1.out.2.1.upto hI.b));have HI:=zAc (ai hI hm);clear hI hm;go_wp2_with fail;refine HM.out.mono ?_;rintro e w9 ⟨nv,ev,rfl,hDG,hb9⟩;obtain ⟨na,nc,rfl⟩:=zBf hDG.1
   obtain ⟨ea,en,ec,rfl⟩:∃ea en ec,ev = .slice ea en ec:=by
    obtain ⟨-,Vs,h2,-⟩:=hDG;obtain ⟨x,y,e⟩:=zE9 h2;exact ⟨x,_,y,e⟩
   have bV9:=bt HP1.out.2.2 (bt HI.out.1.b hb9);have o9:=(bV9.block _ (gE.1 HoV.out).1).trans HoV.out;have k0:w9.cell? ⟨w.heap.size+1,0,none⟩=some (O ii 0):=by rw [cell_of_row w9 _ 0 _ _ _ o9];rfl
   have k1:w9.cell? ⟨w.heap.size+1,1,none⟩=some (O ii 0):=by rw [cell_of_row w9 _ 1 _ _ _ o9];rfl
   have k2:w9.cell? ⟨w.heap.size+1,2,none⟩=some (.slice none 0 0):=by rw [cell_of_row w9 _ 2 _ _ _ o9];rfl
   have k3:w9.cell? ⟨w.heap.size+1,3,none⟩=some (.slice none 0 0):=by rw [cell_of_row w9 _ 3 _ _ _ o9];rfl
   have k4:w9.cell? ⟨w.heap.size+1,4,none⟩=some (.slice none 0 0):=by rw [cell_of_row w9 _ 4 _ _ _ o9];rfl
   have f0:w9.frozen? ⟨w.heap.size+1,0,none⟩=false:=by simp [World.frozen?,o9]
   have f1:w9.frozen? ⟨w.heap.size+1,1,none⟩=false:=by simp [World.frozen?,o9]
   have f2:w9.frozen? ⟨w.heap.size+1,2,none⟩=false:=by simp [World.frozen?,o9]
   have f3:w9.frozen? ⟨w.heap.size+1,3,none⟩=false:=by simp [World.frozen?,o9]
   have f4:w9.frozen? ⟨w.heap.size+1,4,none⟩=false:=by simp [World.frozen?,o9]
   have H9:=zAc (ai hDG (ai (bt HB0.out bV9) o9));clear hDG hb9 bV9 o9 c0 c1 c2 HM;go_wp2_with fail;refine bodyPost_ret (v:=.agg #[O ii (wd:Nat),O ii (ht:Nat),.slice a n cap,.slice na NL.length nc,.slice ea en ec]) (by simp [results,Tryz.f30,go_sem, *]) rfl ?_;have T5:∀(Y:World) (j:Nat) (u:Value),Turns (fun k=>k=w.heap.size+1) Y (Y.setCell ⟨w.heap.size+1,j,none⟩ u):=fun Y j u=>Turns.set (S:=fun k=>k=w.heap.size+1) Y (p:=⟨w.heap.size+1,j,none⟩) rfl u;have tt:∀{A B C:World},Turns (fun k=>k=w.heap.size+1) A B->Turns (fun k=>k=w.heap.size+1) B C->Turns (fun k=>k=w.heap.size+1) A C:=fun h k=>h.trans (k.mono (fun _ _ e => .inl e));have TT:=tt (tt (tt (tt (T5 w9 0 (O ii (wd:Nat))) (T5 _ 1 (O ii (ht:Nat)))) (T5 _ 2 (.slice a n cap))) (T5 _ 3 (.slice na NL.length nc))) (T5 _ 4 (.slice ea en ec));exact ⟨_,_,NL,M,rfl,H9.out.1.turned TT (fun k e=>by subst e;exact ⟨_,H9.out.2.2⟩),HI.out.1.u,HP1.out.1,HI.out.2,H9.out.2.1.trans (TT.below (fun k e=>by omega) H9.out.2.1.size)⟩
section
theorem zGj {α:Type} {l:List α} (h:l.Nodup) {i j:Nat} {x:α} (hi:l[i]? = some x) (hj:l[j]? = some x):i=j:=by
 obtain ⟨i1,i2⟩:=List.getElem?_eq_some_iff.1 hi;obtain ⟨j1,j2⟩:=List.getElem?_eq_some_iff.1 hj;have hp:=List.pairwise_iff_getElem.1 h;rcases Nat.lt_trichotomy i j with e|e|e
 ·exact absurd (i2.trans j2.symm) (hp i j i1 j1 e)
 ·exact e
 ·exact absurd (j2.trans i2.symm) (hp j i j1 i1 e)
structure PtOk (M:List Q4):Prop where
 nd:M.Nodup
 ap:∀t∈M,clu t.A≠clu t.B
 sw:∀t∈M,t.swap ∉ M
def DIn (W H:Int) (tl:List Nat) (f:Int->Int->Option Int) (c s:Int) (N:List (Int×Int)) (q:Int×Int) (e:E3):Prop:=
 e.to∈N/\e.to≠q/\clu e.to=clu q/\∃n:Nat,e.c=(n:Int)/\Std W H tl f c s ((clu q).1*8) ((clu q).2*8) (rS W (clu q).1) (rS H (clu q).2) q/\Least (zBh W H tl f c s ((clu q).1*8) ((clu q).2*8) (rS W (clu q).1) (rS H (clu q).2)) q e.to n
def DOut (M:List Q4) (q:Int×Int) (e:E3):Prop:=∃t∈M,(t.A=q/\e=⟨t.a,t.b,10⟩)\/(t.B=q/\e=⟨t.x,t.y,10⟩)
def IsD (W H:Int) (tl:List Nat) (f:Int->Int->Option Int) (c s:Int) (N:List (Int×Int)) (M:List Q4) (q:Int×Int) (L:List E3):Prop:=UpE L/\∀e,e∈L↔DIn W H tl f c s N q e\/DOut M q e
section
variable {W H:Int} {tl:List Nat} {f:Int->Int->Option Int} {c s:Int} {N:List (Int×Int)} {M:List Q4} {q:Int×Int} {L L':List E3}
theorem DOut.nil {e:E3}:¬DOut [] q e:=by rintro ⟨t,h,-⟩;simp at h
theorem DIn.nil {e:E3}:¬DIn W H tl f c s [] q e:=by rintro ⟨h,-⟩;simp at h
theorem DIn.snoc {k:Nat} {q':Int×Int} (hk:N[k]? = some q') (e:E3):DIn W H tl f c s (N.take (k+1)) q e↔DIn W H tl f c s (N.take k) q e\/(e.to=q'/\DIn W H tl f c s [q'] q e):=by
 unfold DIn;rw [List.take_add_one,hk];simp only [Option.toList_some,List.mem_append,List.mem_singleton];constructor
 ·rintro ⟨h1|h1,h2⟩
  ·exact .inl ⟨h1,h2⟩
  ·exact .inr ⟨h1,h1,h2⟩
 ·rintro (⟨h1,h2⟩|⟨-,h1,h2⟩)
  ·exact ⟨.inl h1,h2⟩
  ·exact ⟨.inr h1,h2⟩
structure In1 (W H:Int) (tl:List Nat) (f:Int->Int->Option Int) (c s:Int) (N:List (Int×Int)) (q:Int×Int) (k:Nat) (L:List E3):Prop where
 u:UpE L
 m:∀e,e∈L↔DIn W H tl f c s (N.take k) q e
 l:L.length<=k
theorem In1.nil:In1 W H tl f c s N q 0 []:=⟨List.Pairwise.nil,fun e=>by simp [DIn.nil],Nat.le_refl _⟩
theorem In1.pass {k:Nat} {q':Int×Int} (h:In1 W H tl f c s N q k L) (hk:N[k]? = some q') (hn:∀e:E3,e.to=q'->¬DIn W H tl f c s [q'] q e):In1 W H tl f c s N q (k+1) L:=
 ⟨h.u,fun e=>by rw [h.m,DIn.snoc hk];exact ⟨.inl,fun h1=>h1.elim id (fun h2=>absurd h2.2 (hn e h2.1))⟩,Nat.le_trans h.l (Nat.le_succ _)⟩
theorem In1.add {k:Nat} {q':Int×Int} {n:Nat} (h:In1 W H tl f c s N q k L) (hk:N[k]? = some q') (h1:q'≠q) (h2:clu q'=clu q) (h3:Std W H tl f c s ((clu q).1*8) ((clu q).2*8) (rS W (clu q).1) (rS H (clu q).2) q) (h4:Least (zBh W H tl f c s ((clu q).1*8) ((clu q).2*8) (rS W (clu q).1) (rS H (clu q).2)) q q' n) (hu:UpE L') (ha:zGc L L' ⟨q'.1,q'.2,(n:Int)⟩) (hl:L'.length<=L.length+1):In1 W H tl f c s N q (k+1) L':=
 ⟨hu,fun e=>by
  rw [ha e,h.m,DIn.snoc hk];refine or_congr Iff.rfl ⟨fun h9=>?_,fun h9=>?_⟩
  ·subst h9;exact ⟨rfl,by simp [E3.to],h1,h2,n,rfl,h3,h4⟩
  ·obtain ⟨e1,-,-,-,m,e2,-,h5⟩:=h9;rw [e1] at h5;have e3:=h5.eq h4;obtain ⟨ex,ey,ec⟩:=e;simp only [E3.to] at e1;simp only at e2;subst e3 e2
   rw [<-e1],by have:=h.l;omega⟩
theorem In1.fresh {k:Nat} {q':Int×Int} (h:In1 W H tl f c s N q k L) (hk:N[k]? = some q') (hN:N.Nodup):∀e∈L,e.to≠q':=fun e he e1=>by
 have h1:=((h.m e).1 he).1;rw [e1] at h1;obtain ⟨j,hj,e2⟩:=List.mem_iff_getElem.1 h1;rw [List.length_take] at hj;rw [List.getElem_take] at e2;have:=zGj hN (List.getElem?_eq_some_iff.2 ⟨_,e2⟩) hk;omega
structure In2 (W H:Int) (tl:List Nat) (f:Int->Int->Option Int) (c s:Int) (N:List (Int×Int)) (M:List Q4) (q:Int×Int) (k:Nat) (L:List E3):Prop where
 u:UpE L
 m:∀e,e∈L↔DIn W H tl f c s N q e\/DOut (M.take k) q e
 l:L.length<=N.length+k
theorem In1.two (h:In1 W H tl f c s N q N.length L):In2 W H tl f c s N M q 0 L:=⟨h.u,fun e=>by rw [h.m,List.take_length];exact ⟨.inl,fun h1=>h1.elim id (fun h2=>absurd h2 DOut.nil)⟩,h.l⟩
theorem DOut.snoc {k:Nat} {t:Q4} (hk:M[k]? = some t) (e:E3):DOut (M.take (k+1)) q e↔DOut (M.take k) q e\/((t.A=q/\e=⟨t.a,t.b,10⟩)\/(t.B=q/\e=⟨t.x,t.y,10⟩)):=by
 unfold DOut;rw [List.take_add_one,hk];simp only [Option.toList_some,List.mem_append,List.mem_singleton];constructor
 ·rintro ⟨u,h1|h1,h2⟩
  ·exact .inl ⟨u,h1,h2⟩
  ·subst h1;exact .inr h2
 ·rintro (⟨u,h1,h2⟩|h2)
  ·exact ⟨u,.inl h1,h2⟩
  ·exact ⟨t,.inr rfl,h2⟩
theorem In2.pass {k:Nat} {t:Q4} (h:In2 W H tl f c s N M q k L) (hk:M[k]? = some t) (h1:t.A≠q) (h2:t.B≠q):In2 W H tl f c s N M q (k+1) L:=
 ⟨h.u,fun e=>by
  rw [h.m,DOut.snoc hk]
  exact or_congr Iff.rfl ⟨.inl,fun h9=>h9.elim id (fun h8=>h8.elim (fun h7=>absurd h7.1 h1) (fun h7=>absurd h7.1 h2))⟩,by have:=h.l;omega⟩
theorem In2.addA {k:Nat} {t:Q4} (h:In2 W H tl f c s N M q k L) (hk:M[k]? = some t) (h1:t.A=q) (h2:t.B≠q) (hu:UpE L') (ha:zGc L L' ⟨t.a,t.b,10⟩) (hl:L'.length<=L.length+1):In2 W H tl f c s N M q (k+1) L':=
 ⟨hu,fun e=>by
  rw [ha e,h.m,DOut.snoc hk,or_assoc]
  exact or_congr Iff.rfl (or_congr Iff.rfl ⟨fun h9 => .inl ⟨h1,h9⟩,fun h9=>h9.elim (fun h8=>h8.2) (fun h8=>absurd h8.1 h2)⟩),by have:=h.l;omega⟩
theorem In2.addB {k:Nat} {t:Q4} (h:In2 W H tl f c s N M q k L) (hk:M[k]? = some t) (h1:t.A≠q) (h2:t.B=q) (hu:UpE L') (ha:zGc L L' ⟨t.x,t.y,10⟩) (hl:L'.length<=L.length+1):In2 W H tl f c s N M q (k+1) L':=
 ⟨hu,fun e=>by
  rw [ha e,h.m,DOut.snoc hk,or_assoc]
  exact or_congr Iff.rfl (or_congr Iff.rfl ⟨fun h9 => .inr ⟨h2,h9⟩,fun h9=>h9.elim (fun h8=>absurd h8.1 h1) (fun h8=>h8.2)⟩),by have:=h.l;omega⟩
theorem zMs {α:Type} {M:List α} {k:Nat} {t u:α} (hn:M.Nodup) (hk:M[k]? = some t) (hu:u∈M.take k):u∈M/\u≠t:=by
 obtain ⟨j,hj,e2⟩:=List.mem_iff_getElem.1 hu;rw [List.length_take] at hj;rw [List.getElem_take] at e2;obtain ⟨hk1,hk2⟩:=List.getElem?_eq_some_iff.1 hk;refine ⟨List.mem_of_mem_take hu,fun e=>?_⟩;have:=zGj hn (List.getElem?_eq_some_iff.2 ⟨_,e2⟩) (e▸hk);omega
theorem In2.freshA {k:Nat} {t:Q4} (h:In2 W H tl f c s N M q k L) (hM:PtOk M) (hk:M[k]? = some t) (h1:t.A=q):∀e∈L,e.to≠(t.a,t.b):=fun e he e1=>by
 have ht:=List.mem_of_getElem? hk;rcases (h.m e).1 he with h2|⟨u,hu,h2⟩
 ·have h3:=h2.2.2.1;rw [e1,<-h1] at h3;exact hM.ap t ht h3.symm
 ·obtain ⟨hu1,hu2⟩:=zMs hM.nd hk hu;rcases h2 with ⟨h3,rfl⟩|⟨h3,rfl⟩
  ·refine hu2 ?_;simp only [E3.to,Prod.mk.injEq] at e1;rw [<-h1] at h3;simp only [Q4.A,Prod.mk.injEq] at h3;obtain ⟨a,b,c,d⟩:=u;obtain ⟨a',b',c',d'⟩:=t;simp only at e1 h3;simp [e1,h3]
  ·refine hM.sw t ht ?_
   have:t.swap=u:=by
    simp only [E3.to,Prod.mk.injEq] at e1;rw [<-h1] at h3;simp only [Q4.A,Q4.B,Prod.mk.injEq] at h3;obtain ⟨a,b,c,d⟩:=u;obtain ⟨a',b',c',d'⟩:=t;simp only at e1 h3;simp [Q4.swap,e1,h3]
   rw [this];exact hu1
theorem In2.freshB {k:Nat} {t:Q4} (h:In2 W H tl f c s N M q k L) (hM:PtOk M) (hk:M[k]? = some t) (h1:t.B=q):∀e∈L,e.to≠(t.x,t.y):=fun e he e1=>by
 have ht:=List.mem_of_getElem? hk;rcases (h.m e).1 he with h2|⟨u,hu,h2⟩
 ·have h3:=h2.2.2.1;rw [e1,<-h1] at h3;exact hM.ap t ht h3
 ·obtain ⟨hu1,hu2⟩:=zMs hM.nd hk hu;rcases h2 with ⟨h3,rfl⟩|⟨h3,rfl⟩
  ·refine hM.sw t ht ?_
   have:t.swap=u:=by
    simp only [E3.to,Prod.mk.injEq] at e1;rw [<-h1] at h3;simp only [Q4.A,Q4.B,Prod.mk.injEq] at h3;obtain ⟨a,b,c,d⟩:=u;obtain ⟨a',b',c',d'⟩:=t;simp only at e1 h3;simp [Q4.swap,e1,h3]
   rw [this];exact hu1
  ·refine hu2 ?_;simp only [E3.to,Prod.mk.injEq] at e1;rw [<-h1] at h3;simp only [Q4.B,Prod.mk.injEq] at h3;obtain ⟨a,b,c,d⟩:=u;obtain ⟨a',b',c',d'⟩:=t;simp only at e1 h3;simp [e1,h3]
theorem In2.all (h:In2 W H tl f c s N M q M.length L):IsD W H tl f c s N M q L:=⟨h.u,fun e=>by rw [h.m,List.take_length]⟩
end
end
end Go.Proofs.YthiafmlgialbnaaGreatDoor
