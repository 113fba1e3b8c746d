import Derived.Test.YthiafmlgialbnaaGreatDoorMad0
set_option linter.all false
set_option maxRecDepth 1000000
set_option maxHeartbeats 64000000
open Go.Proofs.Tryz
open Go.Proofs.Tryz renaming prog->pg
open Array renaming getElem?_eq_some_iff->gE
open And renaming intro->ai
open Go.Value renaming int->O
open Go.IntKind renaming i64->ii
namespace Go.Proofs.YthiafmlgialbnaaGreatDoor
open Go.RowKit Go.Shelf
theorem zIu:Rcl 33:=zl fun _ _=>by go_simp
theorem zLa:Rcl 97:=zl fun _ _=>by go_simp
theorem zW9:Rcl 98:=zl fun _ _=>by go_simp
theorem zGy {ev:Operand->Value} {o:Oper} {w:World} {x y:Operand} {a b c d:Int} (ho:o.op = .binOp .neq 47 x y 47) (hx:ev x=cel a b) (hy:ev y=cel c d):(execOp ev o).run pg w = .ok (.value (.bool (!decide (a=c/\b=d)))) w:=by
 unfold execOp;simp only [ho,hx,hy];go_simp
 by_cases h1:a=c<;>by_cases h2:b=d<;>simp [h1,h2]
theorem zVg {W k:Int} (hW:1<=W/\W<=128) (hk:0<=k/\k<=(W-1)/8):0<=k*8/\k*8+rS W k<=W/\0<rS W k:=by
 unfold rS;omega
theorem zPp {w:World} {b k:Nat} {cur:Array Value} {t:TypeId} {u:Value} (h:w.heap[b]? = some (.cells cur t (0,0))):(w.setCell ⟨b,k,none⟩ u).heap[b]? = some (.cells (cur.setIfInBounds k u) t (0,0)):=by
 have hlt:=(gE.1 h).1;have h':w.heap[b] = .cells cur t (0,0):=(gE.1 h).2;show (w.heap.modify b _)[b]? = _;rw [Array.getElem?_eq_getElem (by simpa using hlt),Array.getElem_modify_self,h'];rfl
structure MI (w wr:World) (wd ht:Nat) (iv nv:Value) (Ok:Int×Int->List E3->Prop) (NL:List (Int×Int)) (i:Nat) (ev:Value) (Vs:List { v:Value // Sli v }) (F:Int×Int->List E3):Prop where
 b:Below w.heap.size w wr
 g:GB wr w.heap.size wd ht iv
 z:wr.heap[w.heap.size+1]? = some (.cells #[O ii 0,O ii 0,.slice none 0 0,.slice none 0 0,.slice none 0 0] 84 (0,0))
 o:wr.heap[w.heap.size+2]? = some (.cells #[O ii (wd:Nat),O ii (ht:Nat),iv,nv,ev] 84 (0,0))
 r:RL wr ev Vs
 l:Vs.length=i
 n:∀k,ev.ownBlock=some k->w.heap.size<=k
 e:∀(j:Nat) (q:Int×Int) (x:{ v:Value // Sli v }),NL[j]? = some q->Vs[j]? = some x->RE wr x.1 (F q)/\Ok q (F q)
section
variable {w wr wr':World} {wd ht:Nat} {iv nv:Value} {Ok:Int×Int->List E3->Prop} {NL:List (Int×Int)} {i:Nat} {ev:Value} {Vs:List { v:Value // Sli v }} {F:Int×Int->List E3}
theorem MI.upto (h:MI w wr wd ht iv nv Ok NL i ev Vs F) (hb:Below wr.heap.size wr wr'):MI w wr' wd ht iv nv Ok NL i ev Vs F:=
 ⟨bt h.b hb,h.g.upto hb,(hb.block _ (gE.1 h.z).1).trans h.z,(hb.block _ (gE.1 h.o).1).trans h.o,h.r.upto hb,h.l,h.n,fun j q x hq hx=>⟨(h.e j q x hq hx).1.upto hb,(h.e j q x hq hx).2⟩⟩
theorem MI.push (h:MI w wr wd ht iv nv Ok NL i ev Vs F) (hN:NL.Nodup) {q:Int×Int} {lv:Value} {L:List E3} (hq:NL[i]? = some q) (hs:Sli lv) (hL:RE wr lv L) (hO:Ok q L) (hi:i<=100000) :
 ∃a n c w',(Builtin.append_ #[82,82] 82 #[ev,.slice (some ⟨wr.heap.size,0,none⟩) 1 1]).run pg (wr.alloc (.cells #[lv] 60)) = .ok (.slice a n c) w'/\w'.heap[w.heap.size+2]? = some (.cells #[O ii (wd:Nat),O ii (ht:Nat),iv,nv,ev] 84 (0,0))/\∃Vs' F',MI w (w'.setCell ⟨w.heap.size+2,4,none⟩ (.slice a n c)) wd ht iv nv Ok NL (i+1) (.slice a n c) Vs' F':=by
 obtain ⟨v',w',q1,q2,q3,q4⟩:=qAr h.r ⟨lv,hs⟩ (by rw [h.l];omega);obtain ⟨x,y,rfl⟩:=zE9 q2;have T1:Turns (fun k=>ev.ownBlock=some k) wr w':=q4;have hT:∀k,ev.ownBlock=some k->∃cur,wr.heap[k]? = some (.cells cur 60 (0,0)):=fun k e=>h.r.blk e
 have key:∀{t k:Nat} {cur:Array Value},wr.heap[k]? = some (.cells cur t (0,0))->t≠60->¬ev.ownBlock=some k:=fun hk ht hs=>by
  obtain ⟨c2,h2⟩:=hT _ hs;rw [hk] at h2;cases h2;exact ht rfl
 have o2:w'.heap[w.heap.size+2]? = some (.cells #[O ii (wd:Nat),O ii (ht:Nat),iv,nv,ev] 84 (0,0)):=(T1.block _ (gE.1 h.o).1 (key h.o (by decide))).trans h.o;have T2:Turns (fun k=>k=w.heap.size+2) w' (w'.setCell ⟨w.heap.size+2,4,none⟩ (.slice x (Vs++[(⟨lv,hs⟩:{ v:Value // Sli v })]).length y)):=Turns.set (S:=fun k=>k=w.heap.size+2) w' (p:=⟨w.heap.size+2,4,none⟩) rfl _;have TT:Turns (fun k=>ev.ownBlock=some k\/k=w.heap.size+2) wr (w'.setCell ⟨w.heap.size+2,4,none⟩ (.slice x (Vs++[(⟨lv,hs⟩:{ v:Value // Sli v })]).length y)):=(T1.mono (fun k _ e => .inl e)).trans (T2.mono (fun k _ e => .inl (.inr e)))
 have key2:∀{t k:Nat} {cur:Array Value},wr.heap[k]? = some (.cells cur t (0,0))->t≠60->t≠84->¬(ev.ownBlock=some k\/k=w.heap.size+2):=fun hk h1 h2 h3=>h3.elim (key hk h1) (fun e=>by
  subst e;rw [h.o] at hk;cases hk
  exact h2 rfl)
 refine ⟨x,_,y,w',q1,o2,Vs++[⟨lv,hs⟩],fun p=>if p=q then L else F p,⟨?_,?_,?_,?_,?_,?_,?_,?_⟩⟩
 ·exact h.b.trans (TT.below (fun k e=>e.elim (h.n k) (fun e=>by omega)) h.b.size)
 ·exact (TT.block _ h.g.lt (key2 h.g (by decide) (by decide))).trans h.g
 ·exact (TT.block _ (gE.1 h.z).1 (fun e=>e.elim (key h.z (by decide)) (fun e=>by omega))).trans h.z
 ·exact zPp o2
 ·exact q2.kept T2 (fun g e=>fun e2=>by
   subst e2;obtain ⟨cur,hc⟩:=q2.blk e;rw [o2] at hc
   cases hc)
 ·rw [List.length_append,h.l];rfl
 ·intro k e;rcases q3 k e with e1|e1
  ·exact h.n k e1
  ·have:=h.b.size;omega
 ·intro j p x' hj hx;have hlt:j<(Vs++[(⟨lv,hs⟩:{ v:Value // Sli v })]).length:=(List.getElem?_eq_some_iff.1 hx).1;rw [List.length_append] at hlt
  by_cases e:j<Vs.length
  ·rw [List.getElem?_append_left e] at hx
   have hne:p≠q:=fun e2=>by
    subst e2;have:=zGj hN hj hq;rw [h.l] at e;omega
   rw [if_neg hne];obtain ⟨h1,h2⟩:=h.e j p x' hj hx
   exact ⟨h1.kept TT (fun g e=>by
    obtain ⟨cur,hc⟩:=h1.blk e
    exact key2 hc (by decide) (by decide)),h2⟩
  ·have ej:j=i:=by
    have:[(⟨lv,hs⟩:{ v:Value // Sli v })].length=1:=rfl;rw [h.l] at e hlt;omega
   subst ej;rw [<-h.l,List.getElem?_append_right (Nat.le_refl _),Nat.sub_self] at hx;simp at hx;subst hx;rw [hq] at hj;cases hj;rw [if_pos rfl]
   exact ⟨hL.kept TT (fun g e=>by
    obtain ⟨cur,hc⟩:=hL.blk e
    exact key2 hc (by decide) (by decide)),hO⟩
end
theorem zUj {w:World} {wd ht:Nat} {tl:List Nat} {f:Int->Int->Option Int} {c s:Int} {a:Option Addr} {n cap:Nat} (hG:Grd w wd ht tl f c s (.slice a n cap)) (hA:((wd:Nat):Int)*(ht:Nat)<=1000) (hd:(1<=wd/\wd<=128)/\1<=ht/\ht<=128)
 {NL:List (Int×Int)} {na:Option Addr} {nc:Nat} (hR:RC w (.slice na NL.length nc) NL) (hU:UpC NL) (hN:∀q∈NL,(0<=q.1/\q.1<(wd:Nat))/\0<=q.2/\q.2<(ht:Nat)) (hNl:NL.length<=10000) {M:List Q4} {pa:Option Addr} {pc:Nat} (hM:Rq 122 w (.slice pa M.length pc) M) (hP:PtOk M) (hMl:M.length<=4096) :
 Calls pg 64 #[gdv wd ht (.slice a n cap),(.slice na NL.length nc),(.slice pa M.length pc)] w fun e w'=>∃ev F,e = .returned (.agg #[O ii (wd:Nat),O ii (ht:Nat),(.slice a n cap),(.slice na NL.length nc),ev])/\DG w' (.slice na NL.length nc) ev NL F/\(∀q∈NL,IsD wd ht tl f c s NL M q (F q))/\Below w.heap.size w w':=by
 obtain ⟨V,hV⟩:=ex (((w.alloc (.cells #[O ii (wd:Nat),O ii (ht:Nat),(.slice a n cap)] 81)).alloc (.cells #[O ii 0,O ii 0,.slice none 0 0,.slice none 0 0,.slice none 0 0] 84)).alloc (.cells #[O ii (wd:Nat),O ii (ht:Nat),(.slice a n cap),(.slice na NL.length nc),.slice none 0 0] 84))
 have I0:MI w V wd ht (.slice a n cap) (.slice na NL.length nc) (IsD wd ht tl f c s NL M) NL 0 (.slice none 0 0) [] (fun _=>[]):=by
  rw [<-hV];refine ⟨bt (zA5 _ _ _) (zAk _ _),((GB.new w wd ht _).upto (zAk _ _)).upto (zAk _ _),?_,?_,Rw.nil _ _ _ _,rfl,fun k e=>(by cases e),fun j q x _ hx=>(by simp at hx)⟩
  ·have h1:=World.alloc_heap_new (w.alloc (.cells #[O ii (wd:Nat),O ii (ht:Nat),(.slice a n cap)] 81)) (.cells #[O ii 0,O ii 0,.slice none 0 0,.slice none 0 0,.slice none 0 0] 84);rw [World.size_alloc] at h1;exact ((zAk _ _).block _ (gE.1 h1).1).trans h1
  ·have h1:=World.alloc_heap_new ((w.alloc (.cells #[O ii (wd:Nat),O ii (ht:Nat),(.slice a n cap)] 81)).alloc (.cells #[O ii 0,O ii 0,.slice none 0 0,.slice none 0 0,.slice none 0 0] 84)) (.cells #[O ii (wd:Nat),O ii (ht:Nat),(.slice a n cap),(.slice na NL.length nc),.slice none 0 0] 84)
   rwa [World.size_alloc,World.size_alloc] at h1
 have HV:=zAc hV;have HI0:=zAc I0;have Hin:=zAc (ai hG (ai hR (ai hU (ai hN (ai hM hP)))));have Hnd:=zAc hU.nodup;have HAd:=zAc (ai hA hd);have hNi:((NL.length:Nat):Int)<=10000:=by omega
 have hMi:((M.length:Nat):Int)<=4096:=by omega
 obtain ⟨g0,g1⟩:=I0.g.c;clear hV I0 hG hA hd hR hU hN hM hP g0 g1;go_enter func64,ntmps64;obtain ⟨⟨g0,g1⟩,g2⟩:=(GB.new w wd ht (.slice a n cap)).c;go_wp2_with fail;rw [HV.out];clear g0 g1 g2 HV;go_wp2_with fail;go_loopw [8] (fun v wr=>∃(i:Nat) (ev:Value) (Vs:List { v:Value // Sli v }) (F:Int×Int->List E3),v = O ii (i:Nat)/\i<=NL.length/\MI w wr wd ht (.slice a n cap) (.slice na NL.length nc) (IsD wd ht tl f c s NL M) NL i ev Vs F) (fun v _=>NL.length-(intOf v).toNat)
 case atStart=>exact ⟨0,_,_,_,rfl,Nat.zero_le _,HI0.out⟩
 case round =>
  obtain ⟨i,ev,Vs,F,rfl,hi,hI⟩:=hrel;rename World=>wo
  by_cases hlt:i<NL.length
  ·obtain ⟨q,hq⟩:∃q,NL[i]? = some q:=⟨_,List.getElem?_eq_getElem hlt⟩
   obtain ⟨qx,qy⟩:=q;obtain ⟨X,hX⟩:=ex (wo.alloc (.cells #[] 63));have bX:Below wo.heap.size wo X:=hX▸zAk _ _
   have E0:RE X (.slice (some ⟨wo.heap.size,0,none⟩) ([]:List E3).length 0) []:=by
    rw [<-hX];exact ⟨rfl,.inr ⟨wo.heap.size,0,#[],rfl,Nat.zero_le _,heap_alloc_new wo _,Nat.le_refl _,Nat.zero_le _,rfl,rfl⟩⟩
   obtain ⟨gn,hgn,-,-,-⟩:=zFu (Hin.out.2.1.upto hI.b) hq;subst hgn;have hW:1<=((wd:Nat):Int)/\((wd:Nat):Int)<=128:=by have:=HAd.out.2;omega
   have hH:1<=((ht:Nat):Int)/\((ht:Nat):Int)<=128:=by have:=HAd.out.2;omega
   have hqw:=Hin.out.2.2.2.1 (qx,qy) (List.mem_of_getElem? hq);simp only at hqw;have hrB:=zHw hW hH hqw;have hinB:inB (qx/8*8) (qy/8*8) (rS wd (qx/8)) (rS ht (qy/8)) (qx,qy):=zYu hW hH hrB ⟨rfl,rfl⟩ hqw;have hrv:rV wd ht (qx/8) (qy/8)=rct (qx/8*8) (qy/8*8) (rS wd (qx/8)) (rS ht (qy/8)):=if_pos hrB
   have HK:Hid (∀wx,Below X.heap.size X wx->(fun wx:World=>(wx.cell? ⟨w.heap.size,0,none⟩=some (O ii (wd:Nat))/\wx.cell? ⟨w.heap.size,1,none⟩=some (O ii (ht:Nat))/\wx.cell? ⟨w.heap.size,2,none⟩=some (.slice a n cap))/\wx.cell? ⟨gn,i*2,none⟩=some (O ii qx)/\wx.cell? ⟨gn,i*2+1,none⟩=some (O ii qy)) wx):=zAc fun wx q=>by
    obtain ⟨⟨a0,a1⟩,a2⟩:=((hI.upto bX).upto q).g.c;obtain ⟨g',e',-,a3,a4⟩:=zFu (Hin.out.2.1.upto ((hI.upto bX).upto q).b) hq;cases e';exact ⟨⟨a0,a1,a2⟩,a3,a4⟩
   have HOf:Hid (∀wx,Calls pg 33 #[cel qx qy] wx fun e w'=>e = .returned (cel (qx/8) (qy/8))/\Below wx.heap.size wx w'):=zAc fun wx=>zCo qx qy (zAx (by omega)) (zAx (by omega)) wx
   have HRe:Hid (∀wx,Calls pg 97 #[O ii (wd:Nat),O ii (ht:Nat),cel (qx/8) (qy/8)] wx fun e w'=>e = .returned (.tuple #[rct (qx/8*8) (qy/8*8) (rS wd (qx/8)) (rS ht (qy/8)),.bool true])/\Below wx.heap.size wx w'):=zAc fun wx=>by
    have:=zG5 (w:=wx) wd ht (qx/8) (qy/8) hW hH
    rwa [hrv,hrB] at this
   have hrs:=zVg hW (by omega:0<=qx/8/\qx/8<=((wd:Nat)-1)/8);have hrt:=zVg hH (by omega:0<=qy/8/\qy/8<=((ht:Nat)-1)/8);have HCo:Hid (∀wx,Below X.heap.size X wx->Calls pg 98 #[gdv wd ht (.slice a n cap),cel qx qy,rct (qx/8*8) (qy/8*8) (rS wd (qx/8)) (rS ht (qy/8))] wx (qCm wd ht tl f c s (qx/8*8) (qy/8*8) (rS wd (qx/8)) (rS ht (qy/8)) qx qy wx)):=zAc fun wx q=>zRm (Hin.out.1.upto ((hI.upto bX).upto q).b) HAd.out.1 (by omega) hinB;have Hnum:Hid ((0<=qx/8*8/\0<=qy/8*8/\qx/8*8+rS wd (qx/8)<=128/\qy/8*8+rS ht (qy/8)<=128)/\0<rS wd (qx/8)/\0<rS ht (qy/8)):=zAc (by omega)
   have HNi:Hid (∀p∈NL,clu p=clu (qx,qy)->inB (qx/8*8) (qy/8*8) (rS wd (qx/8)) (rS ht (qy/8)) p):=zAc fun p hp e=>by
    have e1:=congrArg Prod.fst e;have e2:=congrArg Prod.snd e;exact zYu hW hH hrB ⟨e1,e2⟩ (Hin.out.2.2.2.1 p hp)
   have Hq:Hid (∃ix iy iw ih,qx/8*8=ix/\qy/8*8=iy/\rS wd (qx/8)=iw/\rS ht (qy/8)=ih):=zAc ⟨_,_,_,_,rfl,rfl,rfl,rfl⟩;obtain ⟨ix,iy,iw,ih,hix,hiy,hiw,hih⟩:=Hq.out;have Hlet:Hid ((clu (qx,qy)).1*8=ix/\(clu (qx,qy)).2*8=iy/\rS wd (clu (qx,qy)).1=iw/\rS ht (clu (qx,qy)).2=ih):=zAc ⟨hix,hiy,hiw,hih⟩;rw [hix,hiy,hiw,hih] at HRe HCo Hnum HNi;have hd:Below X.heap.size X X.drew:=⟨rfl,rfl,rfl,Nat.le_refl _,fun _ _=>rfl⟩
   have HS:=HK.out X.drew hd;have Hd:=zAc hd;have HI:=zAc (ai hI (ai bX (ai E0 hq)));have HX:=zAc hX;have hki:(i:Int)<(NL.length:Nat):=by omega
   clear hI hX bX E0 hq hW hH hqw hrB hinB hrs hrt hrv Hq hix hiy hiw hih hd;go_wp2_with (rw [HX.out]);refine zAp ?_;refine zAg (fun wx:World=>(wx.cell? ⟨w.heap.size,0,none⟩=some (O ii (wd:Nat))/\wx.cell? ⟨w.heap.size,1,none⟩=some (O ii (ht:Nat))/\wx.cell? ⟨w.heap.size,2,none⟩=some (.slice a n cap))/\wx.cell? ⟨gn,i*2,none⟩=some (O ii qx)/\wx.cell? ⟨gn,i*2+1,none⟩=some (O ii qy)) [] (by kernel_rfl) ?_;refine zv 0 8 8 [.pointer (some ⟨w.heap.size,0,none⟩),O ii (wd:Nat),.pointer (some ⟨w.heap.size,1,none⟩),O ii (ht:Nat),(.slice (some ⟨gn,0,none⟩) NL.length nc),O ii (i:Nat),.pointer (some ⟨gn,i*2,none⟩),cel qx qy] rfl rfl (by kernel_rfl) HS ?_;repeat ((first|refine zo rfl (by rfl) rfl (by rfl) ?_|refine zc rfl (by rfl) (fun wx hx=>by go_simp) ?_);simp only [zp])
   refine zn ?_;refine zRy (F:=fun V p=>Below X.heap.size X V/\Four V p 0 0 0 0/\X.heap.size<=p) (G:=?G) ?ways ?then2
   case ways =>
    intro HG;refine zw 8 [13] (by kernel_rfl) ?_;refine readyZ.call rfl rfl (zIu (by rfl) (by rfl) (by simp only [zj];rfl)) (HOf.out _) ?_ ?_
    ·rintro e Y1 ⟨rfl,hY1⟩;have b1:Below X.heap.size X Y1:=bt Hd.out hY1;have HS1:=HK.out Y1 b1;refine ⟨_,rfl,fun _=>HS1,?_⟩;try simp only [zp]
     refine zw 9 [13] (by kernel_rfl) ?_;refine readyZ.call rfl rfl (zLa (by rfl) (by rfl) (by simp only [zj];rfl)) (HRe.out _) ?_ ?_
     ·rintro e Y2 ⟨rfl,hY2⟩;have b2:Below X.heap.size X Y2:=bt b1 hY2;have HS2:=HK.out Y2 b2;refine ⟨_,rfl,fun _=>HS2,?_⟩;try simp only [zp]
      refine zv 10 3 8 [.tuple #[rct ix iy iw ih,.bool true],rct ix iy iw ih,.bool true] rfl rfl (by kernel_rfl) HS2 ?_;repeat (refine zc rfl (by rfl) (fun wx hx=>by go_simp) ?_;simp only [zp])
      refine zn ?_;refine zq 13 (by kernel_rfl) rfl rfl (zCl (by rfl)) (fun _=>HK.out _ (bt b2 (zAk _ _))) ?_;try simp only [zp]
      have hF:Below X.heap.size X (Y2.alloc (.cells #[O ii 0,O ii 0,O ii 0,O ii 0] 49))/\Four (Y2.alloc (.cells #[O ii 0,O ii 0,O ii 0,O ii 0] 49)) Y2.heap.size 0 0 0 0/\X.heap.size<=Y2.heap.size:=⟨bt b2 (zAk _ _),Four.new12 _ _ _ _ _ _,b2.size⟩
      generalize Y2.alloc (.cells #[O ii 0,O ii 0,O ii 0,O ii 0] 49)=V at hF ⊢;generalize Y2.heap.size=p at hF ⊢;exact HG V p hF
     ·refine readyZ.cons rfl rfl (zCl (by rfl)) (fun _=>HK.out _ (bt b1 (zAk _ _))) ?_ readyZ.nil;try simp only [zp]
      have b2:Below X.heap.size X (Y1.alloc (.cells #[O ii 0,O ii 0,O ii 0,O ii 0] 49)):=bt b1 (zAk _ _);have F2:Four (Y1.alloc (.cells #[O ii 0,O ii 0,O ii 0,O ii 0] 49)) Y1.heap.size 0 0 0 0:=Four.new12 _ _ _ _ _ _;have hp:X.heap.size<=Y1.heap.size:=(b1).size;generalize Y1.alloc (.cells #[O ii 0,O ii 0,O ii 0,O ii 0] 49)=V0 at b2 F2 ⊢;generalize Y1.heap.size=p at F2 hp ⊢;refine zw 9 [] (by kernel_rfl) ?_;refine readyZ.call rfl rfl (zLa (by rfl) (by rfl) (by simp only [zj];rfl)) (HRe.out _) ?_ readyZ.nil;rintro e V ⟨rfl,hV⟩;have b4:Below X.heap.size X V:=bt b2 hV;have HS4:=HK.out V b4;refine ⟨_,rfl,fun _=>HS4,?_⟩;try simp only [zp]
      refine zv 10 3 8 [.tuple #[rct ix iy iw ih,.bool true],rct ix iy iw ih,.bool true] rfl rfl (by kernel_rfl) HS4 ?_;repeat (refine zc rfl (by rfl) (fun wx hx=>by go_simp) ?_;simp only [zp])
      refine zn ?_;exact HG V p ⟨b4,F2.kept hV,hp⟩
    ·refine readyZ.cons rfl rfl (zCl (by rfl)) (fun _=>HK.out _ (bt Hd.out (zAk _ _))) ?_ readyZ.nil;try simp only [zp]
     have b2:Below X.heap.size X (X.drew.alloc (.cells #[O ii 0,O ii 0,O ii 0,O ii 0] 49)):=bt Hd.out (zAk _ _);have F2:Four (X.drew.alloc (.cells #[O ii 0,O ii 0,O ii 0,O ii 0] 49)) X.drew.heap.size 0 0 0 0:=Four.new12 _ _ _ _ _ _;have hp:X.heap.size<=X.drew.heap.size:=(Hd.out).size;generalize X.drew.alloc (.cells #[O ii 0,O ii 0,O ii 0,O ii 0] 49)=V0 at b2 F2 ⊢;generalize X.drew.heap.size=p at F2 hp ⊢;refine zw 8 [] (by kernel_rfl) ?_;refine readyZ.call rfl rfl (zIu (by rfl) (by rfl) (by simp only [zj];rfl)) (HOf.out _) ?_ readyZ.nil;rintro e V1 ⟨rfl,hV1⟩;have b3:Below X.heap.size X V1:=bt b2 hV1;have F3:=F2.kept hV1;have HS3:=HK.out V1 b3;refine ⟨_,rfl,fun _=>HS3,?_⟩;try simp only [zp]
     refine zw 9 [] (by kernel_rfl) ?_;refine readyZ.call rfl rfl (zLa (by rfl) (by rfl) (by simp only [zj];rfl)) (HRe.out _) ?_ readyZ.nil;rintro e V ⟨rfl,hV⟩;have b4:Below X.heap.size X V:=bt b3 hV;have HS4:=HK.out V b4;refine ⟨_,rfl,fun _=>HS4,?_⟩;try simp only [zp]
     refine zv 10 3 8 [.tuple #[rct ix iy iw ih,.bool true],rct ix iy iw ih,.bool true] rfl rfl (by kernel_rfl) HS4 ?_;repeat (refine zc rfl (by rfl) (fun wx hx=>by go_simp) ?_;simp only [zp])
     refine zn ?_;exact HG V p ⟨b4,F3.kept hV,hp⟩
   case then2 =>
    rintro V p ⟨bV,FV,hp⟩;have HS3:=HK.out V bV;obtain ⟨Z,hZ⟩:=ex ((((V.setCell ⟨p,0,none⟩ (O ii ix)).setCell ⟨p,1,none⟩ (O ii iy)).setCell ⟨p,2,none⟩ (O ii iw)).setCell ⟨p,3,none⟩ (O ii ih));have FZ:Four Z p ix iy iw ih:=hZ▸FV.set ix iy iw ih;have TZ:Turns (fun j=>j=p) V Z:=hZ▸zC2 V p _ _ _ _;have bZ:Below X.heap.size X Z:=bV.trans (TZ.below (fun k e=>by omega) bV.size);have HS4:=HK.out Z bZ;refine zw 14 [] (by kernel_rfl) ?_;refine readyZ.skip rfl rfl (zJ3 (by rfl) (by rfl) (by rfl) FV) (fun _=>by rw [hZ];exact HS4) ?_ readyZ.nil;try simp only [zp]
    rw [hZ];refine zq 15 (by kernel_rfl) rfl rfl (zAo (v:=.bool true) (by rfl) (by rfl)) (fun _=>HS4) ?_;try simp only [zp]
    refine zAf (by kernel_rfl) ?_ _;dsimp only [zA1,Exit.then];have hd4:Below Z.heap.size Z Z.drew:=⟨rfl,rfl,rfl,Nat.le_refl _,fun _ _=>rfl⟩
    have HCo2:=zAc (HCo.out Z.drew (bt bZ hd4));obtain ⟨⟨z0,z1,z2,z3⟩,-,hpZ⟩:=id FZ;have HS5:(fun wx:World=>(fun wx:World=>(wx.cell? ⟨w.heap.size,0,none⟩=some (O ii (wd:Nat))/\wx.cell? ⟨w.heap.size,1,none⟩=some (O ii (ht:Nat))/\wx.cell? ⟨w.heap.size,2,none⟩=some (.slice a n cap))/\wx.cell? ⟨gn,i*2,none⟩=some (O ii qx)/\wx.cell? ⟨gn,i*2+1,none⟩=some (O ii qy)) wx/\wx.cell? ⟨p,0,none⟩=some (O ii ix)/\wx.cell? ⟨p,1,none⟩=some (O ii iy)/\wx.cell? ⟨p,2,none⟩=some (O ii iw)/\wx.cell? ⟨p,3,none⟩=some (O ii ih)) Z.drew:=⟨HK.out Z.drew (bt bZ hd4),z0,z1,z2,z3⟩
    have HbZ:=zAc (ai bZ FZ);clear HS HS3 HS4 bV FV TZ bZ FZ hZ z0 z1 z2 z3 hd4 HCo HRe hp hpZ HX;go_wp2_with fail;refine zAp ?_;refine zAg (fun wx:World=>(fun wx:World=>(wx.cell? ⟨w.heap.size,0,none⟩=some (O ii (wd:Nat))/\wx.cell? ⟨w.heap.size,1,none⟩=some (O ii (ht:Nat))/\wx.cell? ⟨w.heap.size,2,none⟩=some (.slice a n cap))/\wx.cell? ⟨gn,i*2,none⟩=some (O ii qx)/\wx.cell? ⟨gn,i*2+1,none⟩=some (O ii qy)) wx/\wx.cell? ⟨p,0,none⟩=some (O ii ix)/\wx.cell? ⟨p,1,none⟩=some (O ii iy)/\wx.cell? ⟨p,2,none⟩=some (O ii iw)/\wx.cell? ⟨p,3,none⟩=some (O ii ih)) [] (by kernel_rfl) ?_;refine zv 0 6 8 [gdv wd ht (.slice a n cap),(.slice (some ⟨gn,0,none⟩) NL.length nc),O ii (i:Nat),.pointer (some ⟨gn,i*2,none⟩),cel qx qy,rct ix iy iw ih] rfl rfl (by kernel_rfl) HS5 ?_;repeat ((first|refine zo rfl (by rfl) rfl (by rfl) ?_|refine zc rfl (by rfl) (fun wx hx=>by go_simp) ?_);simp only [zp])
    refine zn ?_;refine zw 6 [] (by kernel_rfl) ?_;refine readyZ.call rfl rfl (zW9 (by rfl) (by rfl) (by simp only [zj];rfl)) (HCo2.out) ?_ readyZ.nil;rintro e w2 ⟨cb,cn,C,rfl,hb2,⟨hct,hown2⟩,hT⟩;have bw2:Below X.heap.size X w2:=bt HbZ.out.1 ⟨hb2.os,hb2.tape,hb2.output,hb2.size,hb2.block⟩;have F2:Four w2 p ix iy iw ih:=HbZ.out.2.kept ⟨hb2.os,hb2.tape,hb2.output,hb2.size,hb2.block⟩;obtain ⟨⟨z0,z1,z2,z3⟩,-,hpZ⟩:=id F2;have HS6:(fun wx:World=>(fun wx:World=>(wx.cell? ⟨w.heap.size,0,none⟩=some (O ii (wd:Nat))/\wx.cell? ⟨w.heap.size,1,none⟩=some (O ii (ht:Nat))/\wx.cell? ⟨w.heap.size,2,none⟩=some (.slice a n cap))/\wx.cell? ⟨gn,i*2,none⟩=some (O ii qx)/\wx.cell? ⟨gn,i*2+1,none⟩=some (O ii qy)) wx/\wx.cell? ⟨p,0,none⟩=some (O ii ix)/\wx.cell? ⟨p,1,none⟩=some (O ii iy)/\wx.cell? ⟨p,2,none⟩=some (O ii iw)/\wx.cell? ⟨p,3,none⟩=some (O ii ih)) w2:=⟨HK.out w2 bw2,z0,z1,z2,z3⟩
    refine ⟨_,rfl,fun _=>HS6,?_⟩;try simp only [zp]
    refine zq 7 (by kernel_rfl) rfl rfl (zAo (v:=.slice (some ⟨cb,0,none⟩) cn cn) (by rfl) (by rfl)) (fun _=>HS6) ?_;try simp only [zp]
    refine zAf (by kernel_rfl) ?_ _;dsimp only [zA1,Exit.then]
    have hCl:0<C.length:=by
     rw [hT.1];have h1:=Hnum.out;have:0<ih*iw:=Int.mul_pos (by omega) (by omega);omega
    obtain ⟨gc,cc,hcv,hgc⟩:=hct.form hCl;rw [hcv];rw [hcv] at hct;have HC:=zAc (ai hct hT);have HE:=zAc (ai bw2 F2);have HJ0:Hid (RE w2 (.slice (some ⟨wo.heap.size,0,none⟩) ([]:List E3).length 0) []/\In1 wd ht tl f c s NL (qx,qy) 0 []):=zAc ⟨HI.out.2.2.1.upto bw2,In1.nil⟩;clear hct hT hown2 hcv hCl hb2 bw2 F2 z0 z1 z2 z3 hpZ HS5 HS6 HCo2 hgc;go_wp2_with fail;go_loopw [9,13] (fun l v wr=>∃(k g lc:Nat) (L:List E3),l = .slice (some ⟨g,0,none⟩) L.length lc/\v = O ii (k:Nat)/\k<=NL.length/\(RE wr (.slice (some ⟨g,0,none⟩) L.length lc) L/\In1 wd ht tl f c s NL (qx,qy) k L)/\Below w2.heap.size w2 wr) (fun _ v _=>NL.length-(intOf v).toNat)
    case atStart=>exact ⟨0,wo.heap.size,0,[],rfl,rfl,Nat.zero_le _,HJ0.out,Below.refl _ _⟩
    case round =>
     obtain ⟨k,g,lc,L,rfl,rfl,hk,⟨hR,hJ⟩,hB⟩:=hrel
     by_cases hkl:k<NL.length
     ·obtain ⟨t,hti⟩:∃t,NL[k]? = some t:=⟨_,List.getElem?_eq_getElem hkl⟩
      obtain ⟨tx,ty⟩:=t;have hkk:(k:Int)<(NL.length:Nat):=by omega
      have hLl:L.length<=10000:=by have:=hJ.l;omega
      have hBX:Below X.heap.size X wr:=bt HE.out.1 hB
      have HK2:Hid (∀wx,Below wr.heap.size wr wx->(fun wx:World=>(wx.cell? ⟨gn,i*2,none⟩=some (O ii qx)/\wx.cell? ⟨gn,i*2+1,none⟩=some (O ii qy))/\(wx.cell? ⟨gn,k*2,none⟩=some (O ii tx)/\wx.cell? ⟨gn,k*2+1,none⟩=some (O ii ty))/\wx.cell? ⟨p,0,none⟩=some (O ii ix)/\wx.cell? ⟨p,1,none⟩=some (O ii iy)/\wx.cell? ⟨p,2,none⟩=some (O ii iw)/\wx.cell? ⟨p,3,none⟩=some (O ii ih)) wx):=zAc fun wx q=>by
       have h1:=HK.out wx (bt hBX q);obtain ⟨g',e',-,a3,a4⟩:=zFu (Hin.out.2.1.upto (bt HI.out.1.b (bt HI.out.2.1 (bt hBX q)))) hti;cases e';have h3:=(HE.out.2.kept (bt hB q)).1;exact ⟨h1.2,⟨a3,a4⟩,h3⟩
      have htw:=Hin.out.2.2.2.1 (tx,ty) (List.mem_of_getElem? hti);simp only at htw;have HOt:Hid (∀wx,Calls pg 33 #[cel tx ty] wx fun e w'=>e = .returned (cel (tx/8) (ty/8))/\Below wx.heap.size wx w'):=zAc fun wx=>zCo tx ty (zAx (by have:=HAd.out.2;omega)) (zAx (by have:=HAd.out.2;omega)) wx;have hd:Below wr.heap.size wr wr.drew:=⟨rfl,rfl,rfl,Nat.le_refl _,fun _ _=>rfl⟩
      have HS:=HK2.out wr.drew hd;have HJ:=zAc (ai hR (ai hJ (ai hB (ai hti (ai hd hBX)))));clear hR hJ hB hti hBX htw hd
      by_cases hki2:k=i
      ·subst hki2
       have HP9:Hid (In1 wd ht tl f c s NL (qx,qy) (k+1) L):=zAc (HJ.out.2.1.pass HJ.out.2.2.2.1 (fun e e1 h=>by
        have e2:=HJ.out.2.2.2.1.symm.trans HI.out.2.2.2;cases e2
        exact h.2.1 e1))
       go_wp2_with fail;refine zAp ?_;refine zAg (fun wx:World=>(wx.cell? ⟨gn,k*2,none⟩=some (O ii qx)/\wx.cell? ⟨gn,k*2+1,none⟩=some (O ii qy))/\(wx.cell? ⟨gn,k*2,none⟩=some (O ii tx)/\wx.cell? ⟨gn,k*2+1,none⟩=some (O ii ty))/\wx.cell? ⟨p,0,none⟩=some (O ii ix)/\wx.cell? ⟨p,1,none⟩=some (O ii iy)/\wx.cell? ⟨p,2,none⟩=some (O ii iw)/\wx.cell? ⟨p,3,none⟩=some (O ii ih)) [] (by kernel_rfl) ?_;refine zv 0 4 8 [O ii (k:Nat),O ii (k:Nat),.bool true,.bool true] rfl rfl (by kernel_rfl) HS ?_;repeat ((first|refine zo rfl (by rfl) rfl (by rfl) ?_|refine zc rfl (by rfl) (fun wx hx=>by go_simp) ?_);simp only [zp])
       refine zn ?_;refine zu 4 20 rfl (by kernel_rfl) (by rfl) HS ?_;try simp only [zp]
       refine zu 5 20 rfl (by kernel_rfl) (by rfl) HS ?_;try simp only [zp]
       refine zu 6 20 rfl (by kernel_rfl) (by rfl) HS ?_;try simp only [zp]
       refine zu 7 20 rfl (by kernel_rfl) (by rfl) HS ?_;try simp only [zp]
       refine zu 8 20 rfl (by kernel_rfl) (by rfl) HS ?_;try simp only [zp]
       refine zu 9 20 rfl (by kernel_rfl) (by rfl) HS ?_;try simp only [zp]
       refine zu 10 20 rfl (by kernel_rfl) (by rfl) HS ?_;try simp only [zp]
       refine zu 11 20 rfl (by kernel_rfl) (by rfl) HS ?_;try simp only [zp]
       refine zu 12 20 rfl (by kernel_rfl) (by rfl) HS ?_;try simp only [zp]
       refine zu 13 20 rfl (by kernel_rfl) (by rfl) HS ?_;try simp only [zp]
       refine zu 14 20 rfl (by kernel_rfl) (by rfl) HS ?_;try simp only [zp]
       refine zt 15 8 (.bool true) rfl (by kernel_rfl) (by rfl) (fun wx hx=>by go_simp) HS ?_;try simp only [zp]
       refine zAf (by kernel_rfl) ?_ _;dsimp only [zA1,Exit.then];clear HS;go_wp2_with fail;go_roundw
       case rel=>exact ⟨k+1,g,lc,L,rfl,by go_num,by omega,⟨HJ.out.1.upto HJ.out.2.2.2.2.1,HP9.out⟩,bt HJ.out.2.2.1 HJ.out.2.2.2.2.1⟩
       case measure=>simp only [intOf];omega
      ·have hkne:¬(k:Int)=(i:Nat):=by omega
       have hkd:decide ((k:Int)=((i:Nat):Int))=false:=decide_eq_false hkne;go_wp2_with fail;refine zAp ?_;refine zAg (fun wx:World=>(wx.cell? ⟨gn,i*2,none⟩=some (O ii qx)/\wx.cell? ⟨gn,i*2+1,none⟩=some (O ii qy))/\(wx.cell? ⟨gn,k*2,none⟩=some (O ii tx)/\wx.cell? ⟨gn,k*2+1,none⟩=some (O ii ty))/\wx.cell? ⟨p,0,none⟩=some (O ii ix)/\wx.cell? ⟨p,1,none⟩=some (O ii iy)/\wx.cell? ⟨p,2,none⟩=some (O ii iw)/\wx.cell? ⟨p,3,none⟩=some (O ii ih)) [] (by kernel_rfl) ?_;refine zv 0 8 8 [O ii (k:Nat),O ii (i:Nat),.bool false,.bool false,(.slice (some ⟨gn,0,none⟩) NL.length nc),O ii (k:Nat),.pointer (some ⟨gn,k*2,none⟩),cel tx ty] rfl rfl (by kernel_rfl) HS ?_;repeat ((first|refine zo rfl (by rfl) rfl (by rfl) ?_|refine zc rfl (by rfl) (fun wx hx=>by go_simp) ?_);simp only [zp])
       refine zn ?_;refine zv 9 4 8 [(.slice (some ⟨gn,0,none⟩) NL.length nc),O ii (i:Nat),.pointer (some ⟨gn,i*2,none⟩),cel qx qy] rfl rfl (by kernel_rfl) HS ?_;repeat ((first|refine zo rfl (by rfl) rfl (by rfl) ?_|refine zc rfl (by rfl) (fun wx hx=>by go_simp) ?_);simp only [zp])
       refine zn ?_;refine zw 8 [] (by kernel_rfl) ?_;refine readyZ.callG rfl (by rfl) (zIu (by rfl) (by rfl) (by first|rfl|(simp only [zj];rfl)|simp only [zj])) (HOt.out _) ?_ readyZ.nil;rintro e Y1 ⟨rfl,B1⟩;have bY1:Below wr.heap.size wr Y1:=bt HJ.out.2.2.2.2.1 B1;clear HS;have HS:=HK2.out Y1 bY1;refine ⟨_,rfl,fun _=>HS,?_⟩;try simp only [zp]
       refine zw 13 [] (by kernel_rfl) ?_;refine readyZ.callG rfl (by rfl) (zIu (by rfl) (by rfl) (by first|rfl|(simp only [zj];rfl)|simp only [zj])) (HOf.out _) ?_ readyZ.nil;rintro e Y2 ⟨rfl,B2⟩;have bY2:=zAc (bt bY1 B2);clear HS;have HS:=HK2.out Y2 bY2.out;refine ⟨_,rfl,fun _=>HS,?_⟩;try simp only [zp]
       obtain ⟨bq,hbq⟩:∃b,decide (tx/8=qx/8/\ty/8=qy/8)=b:=⟨_,rfl⟩
       have Hbq:=zAc hbq;refine zt 14 8 (.bool (!bq)) rfl (by kernel_rfl) (by rfl) (fun wx hx=>by rw [<-Hbq.out];exact zGy (by rfl) (by rfl) (by rfl)) HS ?_;try simp only [zp]
       refine zt 15 8 (.bool (!bq)) rfl (by kernel_rfl) (by rfl) (fun wx hx=>by clear hbq;cases bq<;>go_simp) HS ?_;try simp only [zp]
       clear hbq;refine zAf (by kernel_rfl) ?_ _;dsimp only [zA1,Exit.then];clear HS;cases bq
       ·have hcl:clu (tx,ty)≠clu (qx,qy):=fun e=>by
         have e1:=congrArg Prod.fst e;have e2:=congrArg Prod.snd e;have:=Hbq.out;rw [decide_eq_true ⟨e1,e2⟩] at this;cases this
        have HP9:Hid (In1 wd ht tl f c s NL (qx,qy) (k+1) L):=zAc (HJ.out.2.1.pass HJ.out.2.2.2.1 (fun e e1 h=>hcl (by rw [<-e1];exact h.2.2.1)));clear hcl;go_wp2_with fail;go_roundw
        case rel=>exact ⟨k+1,g,lc,L,rfl,by go_num,by omega,⟨HJ.out.1.upto bY2.out,HP9.out⟩,bt HJ.out.2.2.1 bY2.out⟩
        case measure=>simp only [intOf];omega
       ·have hcl:clu (tx,ty)=clu (qx,qy):=by
         obtain ⟨e1,e2⟩:=of_decide_eq_true Hbq.out;exact Prod.ext e1 e2
        have hin:=HNi.out (tx,ty) (List.mem_of_getElem? HJ.out.2.2.2.1) hcl;obtain ⟨zy,z,z',hz0,hz1,hz2,hz3⟩:=qBs (ix:=ix) (iy:=iy) (iw:=iw) (ih:=ih) Hnum.out.1 hin;have hjl:=zHg hin;simp only at hjl;rw [<-HC.out.2.1] at hjl;have hTq:=HC.out.2.2 (tx,ty) hin;simp only at hTq;obtain ⟨j,hj⟩:=ex (ij ix iy iw tx ty);rw [hj] at hz3 hjl hTq;obtain ⟨mm,hmm⟩:∃mm,C[j]? = some mm:=⟨_,List.getElem?_eq_getElem hjl⟩
        rw [hmm] at hTq;have hji:(j:Int)<(C.length:Nat):=by omega
        have HS12:(fun wx:World=>(fun wx:World=>(wx.cell? ⟨gn,i*2,none⟩=some (O ii qx)/\wx.cell? ⟨gn,i*2+1,none⟩=some (O ii qy))/\(wx.cell? ⟨gn,k*2,none⟩=some (O ii tx)/\wx.cell? ⟨gn,k*2+1,none⟩=some (O ii ty))/\wx.cell? ⟨p,0,none⟩=some (O ii ix)/\wx.cell? ⟨p,1,none⟩=some (O ii iy)/\wx.cell? ⟨p,2,none⟩=some (O ii iw)/\wx.cell? ⟨p,3,none⟩=some (O ii ih)) wx/\wx.cell? ⟨gc,j,none⟩=some (O ii mm)) Y2.drew:=⟨HK2.out _ (bt bY2.out ⟨rfl,rfl,rfl,Nat.le_refl _,fun _ _=>rfl⟩),(((HC.out.1.upto HJ.out.2.2.1).upto (bt bY2.out ⟨rfl,rfl,rfl,Nat.le_refl _,fun _ _=>rfl⟩)).got hmm).1⟩
        have HT:=zAc (ai hcl hTq);have HbY:Hid (Below wr.heap.size wr Y2.drew):=zAc (bt bY2.out ⟨rfl,rfl,rfl,Nat.le_refl _,fun _ _=>rfl⟩);clear hcl hin hjl hTq hj hmm Hbq;go_wp2_with fail;refine zAp ?_;refine zAg (fun wx:World=>(fun wx:World=>(wx.cell? ⟨gn,i*2,none⟩=some (O ii qx)/\wx.cell? ⟨gn,i*2+1,none⟩=some (O ii qy))/\(wx.cell? ⟨gn,k*2,none⟩=some (O ii tx)/\wx.cell? ⟨gn,k*2+1,none⟩=some (O ii ty))/\wx.cell? ⟨p,0,none⟩=some (O ii ix)/\wx.cell? ⟨p,1,none⟩=some (O ii iy)/\wx.cell? ⟨p,2,none⟩=some (O ii iw)/\wx.cell? ⟨p,3,none⟩=some (O ii ih)) wx/\wx.cell? ⟨gc,j,none⟩=some (O ii mm)) [] (by kernel_rfl) ?_;refine zv 0 25 8 [.slice (some ⟨gc,0,none⟩) C.length cc,(.slice (some ⟨gn,0,none⟩) NL.length nc),O ii (k:Nat),.pointer (some ⟨gn,k*2,none⟩),.pointer (some ⟨gn,k*2+1,none⟩),O ii ty,.pointer (some ⟨p,0,none⟩),.pointer (some ⟨p,1,none⟩),O ii iy,O ii zy,.pointer (some ⟨p,2,none⟩),O ii iw,O ii z,(.slice (some ⟨gn,0,none⟩) NL.length nc),O ii (k:Nat),.pointer (some ⟨gn,k*2,none⟩),.pointer (some ⟨gn,k*2,none⟩),O ii tx,O ii z',.pointer (some ⟨p,0,none⟩),.pointer (some ⟨p,0,none⟩),O ii ix,O ii (j:Nat),.pointer (some ⟨gc,j,none⟩),O ii mm] rfl rfl (by kernel_rfl) HS12 ?_;repeat ((first|refine zo rfl (by rfl) rfl (by rfl) ?_|refine zc rfl (by rfl) (fun wx hx=>by go_simp) ?_);simp only [zp])
        refine zn ?_;refine zq 25 (by kernel_rfl) rfl rfl (zAo (v:=O ii mm) (by rfl) (by rfl)) (fun _=>HS12) ?_;try simp only [zp]
        refine zAf (by kernel_rfl) ?_ _;dsimp only [zA1,Exit.then];obtain ⟨c0,c1⟩:=HS12.1.2.1;clear HS12 hz0 hz1 hz2 hz3
        by_cases h0:0<=mm
        ·have HA:Hid (∃m:Nat,mm=(m:Int)/\Std wd ht tl f c s ix iy iw ih (qx,qy)/\Least (zBh wd ht tl f c s ix iy iw ih) (qx,qy) (tx,ty) m):=zAc (by
          rcases HT.out.2 with ⟨m,e,-,h1,h2⟩|⟨e,-⟩
          ·exact ⟨m,Option.some.inj e,h1,h2⟩
          ·have:=Option.some.inj e;omega)
         have HEd:=zAc (zMh (w:=Y2.drew) (HJ.out.1.upto HbY.out) HJ.out.2.1.u (by omega) tx ty mm (HJ.out.2.1.fresh HJ.out.2.2.2.1 Hnd.out));have h0':¬mm<0:=by omega
         go_wp2_with fail;refine HEd.out.mono ?_;rintro e Y3 ⟨g3,oc3,L3,rfl,q1,q2,q3,q4,q5⟩
         have HN9:Hid (In1 wd ht tl f c s NL (qx,qy) (k+1) L3):=zAc (by
          obtain ⟨m,rfl,h1,h2⟩:=HA.out;obtain ⟨e1,e2,e3,e4⟩:=Hlet.out;rw [<-e1,<-e2,<-e3,<-e4] at h1 h2;refine HJ.out.2.1.add HJ.out.2.2.2.1 (fun e=>?_) HT.out.1 h1 h2 q2 q3 q4;have h5:=HI.out.2.2.2;rw [<-e] at h5
          exact hki2 (zGj Hnd.out HJ.out.2.2.2.1 h5))
         have HR3:=zAc (ai q1 (bt HJ.out.2.2.1 (bt HbY.out q5)));clear q1 q2 q3 q4 q5 HEd HA;go_wp2_with fail;go_roundw
         case rel=>exact ⟨k+1,g3,oc3,L3,rfl,by go_num,by omega,⟨HR3.out.1,HN9.out⟩,HR3.out.2⟩
         case measure=>simp only [intOf];omega
        ·have HN9:Hid (In1 wd ht tl f c s NL (qx,qy) (k+1) L):=zAc (HJ.out.2.1.pass HJ.out.2.2.2.1 (fun e e1 h=>by
          rcases HT.out.2 with ⟨m,e,-,h1,h2⟩|⟨e,h9⟩
          ·have:=Option.some.inj e;omega
          ·obtain ⟨-,-,-,m,-,h1,h2⟩:=h;obtain ⟨f1,f2,f3,f4⟩:=Hlet.out;rw [f1,f2,f3,f4] at h1 h2;rw [e1] at h2
           exact h9 m ⟨h1,h2.1⟩))
         have h0':mm<0:=by omega
         clear c0 c1;go_wp2_with fail;go_roundw
         case rel=>exact ⟨k+1,g,lc,L,rfl,by go_num,by omega,⟨HJ.out.1.upto HbY.out,HN9.out⟩,bt HJ.out.2.2.1 HbY.out⟩
         case measure=>simp only [intOf];omega
     ·have hk':k=NL.length:=by omega
      subst hk';have HJ2:=zAc (ai hR (ai (hJ.two (M:=M)) hB));have HK3:=HK;clear hR hJ hB HJ0 HK;go_wp2_with fail;go_loopw [9,15] (fun l v wr2=>∃(k g lc:Nat) (L:List E3),l = .slice (some ⟨g,0,none⟩) L.length lc/\v = O ii (k:Nat)/\k<=M.length/\(RE wr2 (.slice (some ⟨g,0,none⟩) L.length lc) L/\In2 wd ht tl f c s NL M (qx,qy) k L)/\Below w2.heap.size w2 wr2) (fun _ v _=>M.length-(intOf v).toNat)
      case atStart=>exact ⟨0,_,_,L,rfl,rfl,Nat.zero_le _,⟨HJ2.out.1,HJ2.out.2.1⟩,HJ2.out.2.2⟩
      case round =>
       clear HJ2 HOf HK3;obtain ⟨k,g',lc',L',rfl,rfl,hk,⟨hR,hJ⟩,hB⟩:=hrel;rename World=>wr2
       by_cases hkl:k<M.length
       ·obtain ⟨t,hti⟩:∃t,M[k]? = some t:=⟨_,List.getElem?_eq_getElem hkl⟩
        obtain ⟨tx,ty,ta,tb⟩:=t;have hkk:(k:Int)<(M.length:Nat):=by omega
        have hLl:L'.length<=15000:=by have:=hJ.l;omega
        have hBX:Below X.heap.size X wr2:=bt HE.out.1 hB;obtain ⟨gm,hgm,-,-,-⟩:=Rw.atq (Hin.out.2.2.2.2.1.upto (bt HI.out.1.b (bt HI.out.2.1 hBX))) hti;subst hgm
        have HK2:Hid (∀wx,Below wr2.heap.size wr2 wx->(fun wx:World=>(wx.cell? ⟨gn,i*2,none⟩=some (O ii qx)/\wx.cell? ⟨gn,i*2+1,none⟩=some (O ii qy))/\wx.cell? ⟨gm,k*4,none⟩=some (O ii tx)/\wx.cell? ⟨gm,k*4+1,none⟩=some (O ii ty)/\wx.cell? ⟨gm,k*4+2,none⟩=some (O ii ta)/\wx.cell? ⟨gm,k*4+3,none⟩=some (O ii tb)) wx):=zAc fun wx q=>by
         obtain ⟨g1,e1,-,a1,a2⟩:=zFu (Hin.out.2.1.upto (bt HI.out.1.b (bt HI.out.2.1 (bt hBX q)))) HI.out.2.2.2;obtain ⟨g2,e2,-,a3,-⟩:=Rw.atq (Hin.out.2.2.2.2.1.upto (bt HI.out.1.b (bt HI.out.2.1 (bt hBX q)))) hti;cases e1;cases e2;exact ⟨⟨a1,a2⟩,a3⟩
        have hd:Below wr2.heap.size wr2 wr2.drew:=⟨rfl,rfl,rfl,Nat.le_refl _,fun _ _=>rfl⟩
        have HS:=HK2.out wr2.drew hd;have HJ:=zAc (ai hR (ai hJ (ai hB (ai hti (ai hd hBX)))));have hap:=Hin.out.2.2.2.2.2.ap _ (List.mem_of_getElem? hti);have hAB:(tx,ty)≠(ta,tb):=fun e=>hap (congrArg clu e);have HAB:=zAc hAB;clear hR hJ hB hti hBX hd hap hAB;obtain ⟨bq,hbq⟩:∃b,decide (tx=qx/\ty=qy)=b:=⟨_,rfl⟩
        obtain ⟨br,hbr⟩:∃b,decide (ta=qx/\tb=qy)=b:=⟨_,rfl⟩
        have Hbq:=zAc hbq;have Hbr:=zAc hbr;clear hbq hbr;go_wp2_with fail;refine zAp ?_;refine zAg (fun wx:World=>(wx.cell? ⟨gn,i*2,none⟩=some (O ii qx)/\wx.cell? ⟨gn,i*2+1,none⟩=some (O ii qy))/\wx.cell? ⟨gm,k*4,none⟩=some (O ii tx)/\wx.cell? ⟨gm,k*4+1,none⟩=some (O ii ty)/\wx.cell? ⟨gm,k*4+2,none⟩=some (O ii ta)/\wx.cell? ⟨gm,k*4+3,none⟩=some (O ii tb)) [] (by kernel_rfl) ?_;refine zv 0 9 8 [(.slice (some ⟨gm,0,none⟩) M.length pc),O ii (k:Nat),.pointer (some ⟨gm,k*4,none⟩),.pointer (some ⟨gm,k*4,none⟩),cel tx ty,(.slice (some ⟨gn,0,none⟩) NL.length nc),O ii (i:Nat),.pointer (some ⟨gn,i*2,none⟩),cel qx qy] rfl rfl (by kernel_rfl) HS ?_;repeat ((first|refine zo rfl (by rfl) rfl (by rfl) ?_|refine zc rfl (by rfl) (fun wx hx=>by go_simp) ?_);simp only [zp])
        refine zn ?_;refine zt 9 8 (.bool bq) rfl (by kernel_rfl) (by rfl) (fun wx hx=>by rw [<-Hbq.out];exact zGi (by rfl) (by rfl) (by rfl)) HS ?_;try simp only [zp]
        refine zAf (by kernel_rfl) ?_ _;dsimp only [zA1,Exit.then];clear HS;cases bq
        ·have h1:Hid ((tx,ty)≠(qx,qy)):=zAc fun e=>by
          cases e;have:=Hbq.out;simp at this
         have HS:(fun wx:World=>(wx.cell? ⟨gn,i*2,none⟩=some (O ii qx)/\wx.cell? ⟨gn,i*2+1,none⟩=some (O ii qy))/\wx.cell? ⟨gm,k*4,none⟩=some (O ii tx)/\wx.cell? ⟨gm,k*4+1,none⟩=some (O ii ty)/\wx.cell? ⟨gm,k*4+2,none⟩=some (O ii ta)/\wx.cell? ⟨gm,k*4+3,none⟩=some (O ii tb)) wr2.drew.drew:=HK2.out _ (bt HJ.out.2.2.2.2.1 ⟨rfl,rfl,rfl,Nat.le_refl _,fun _ _=>rfl⟩);have HdD:Hid (Below wr2.heap.size wr2 wr2.drew.drew):=zAc (bt HJ.out.2.2.2.2.1 ⟨rfl,rfl,rfl,Nat.le_refl _,fun _ _=>rfl⟩);go_wp2_with fail;refine zAp ?_;refine zAg (fun wx:World=>(wx.cell? ⟨gn,i*2,none⟩=some (O ii qx)/\wx.cell? ⟨gn,i*2+1,none⟩=some (O ii qy))/\wx.cell? ⟨gm,k*4,none⟩=some (O ii tx)/\wx.cell? ⟨gm,k*4+1,none⟩=some (O ii ty)/\wx.cell? ⟨gm,k*4+2,none⟩=some (O ii ta)/\wx.cell? ⟨gm,k*4+3,none⟩=some (O ii tb)) [] (by kernel_rfl) ?_;refine zv 0 9 8 [(.slice (some ⟨gm,0,none⟩) M.length pc),O ii (k:Nat),.pointer (some ⟨gm,k*4,none⟩),.pointer (some ⟨gm,k*4+2,none⟩),cel ta tb,(.slice (some ⟨gn,0,none⟩) NL.length nc),O ii (i:Nat),.pointer (some ⟨gn,i*2,none⟩),cel qx qy] rfl rfl (by kernel_rfl) HS ?_;repeat ((first|refine zo rfl (by rfl) rfl (by rfl) ?_|refine zc rfl (by rfl) (fun wx hx=>by go_simp) ?_);simp only [zp])
         refine zn ?_;refine zt 9 8 (.bool br) rfl (by kernel_rfl) (by rfl) (fun wx hx=>by rw [<-Hbr.out];exact zGi (by rfl) (by rfl) (by rfl)) HS ?_;try simp only [zp]
         refine zAf (by kernel_rfl) ?_ _;dsimp only [zA1,Exit.then];cases br
         ·have HN9:Hid (In2 wd ht tl f c s NL M (qx,qy) (k+1) L'):=zAc (HJ.out.2.1.pass HJ.out.2.2.2.1 h1.out (fun e=>by
           cases e;have:=Hbr.out
           simp at this))
          clear HS;go_wp2_with fail;go_roundw
          case rel=>exact ⟨k+1,g',lc',L',rfl,by go_num,by omega,⟨HJ.out.1.upto HdD.out,HN9.out⟩,bt HJ.out.2.2.1 HdD.out⟩
          case measure=>simp only [intOf];omega
         ·have h2:Hid ((ta,tb)=(qx,qy)):=zAc (Prod.ext (of_decide_eq_true Hbr.out).1 (of_decide_eq_true Hbr.out).2);obtain ⟨c0,c1,-⟩:=HS.2;have HEd:=zAc (zMh (w:=wr2.drew.drew) (HJ.out.1.upto HdD.out) HJ.out.2.1.u (by omega) tx ty 10 (HJ.out.2.1.freshB Hin.out.2.2.2.2.2 HJ.out.2.2.2.1 h2.out));clear HS;go_wp2_with fail;refine HEd.out.mono ?_;rintro e Y3 ⟨g3,oc3,L3,rfl,q1,q2,q3,q4,q5⟩;have HN9:Hid (In2 wd ht tl f c s NL M (qx,qy) (k+1) L3):=zAc (HJ.out.2.1.addB HJ.out.2.2.2.1 h1.out h2.out q2 q3 q4);have HR3:=zAc (ai q1 (bt HJ.out.2.2.1 (bt HdD.out q5)));clear q1 q2 q3 q4 q5 HEd c0 c1;go_wp2_with fail;go_roundw
          case rel=>exact ⟨k+1,g3,oc3,L3,rfl,by go_num,by omega,⟨HR3.out.1,HN9.out⟩,HR3.out.2⟩
          case measure=>simp only [intOf];omega
        ·have h1:Hid ((tx,ty)=(qx,qy)):=zAc (Prod.ext (of_decide_eq_true Hbq.out).1 (of_decide_eq_true Hbq.out).2);have h2:Hid ((ta,tb)≠(qx,qy)):=zAc fun e=>HAB.out (h1.out.trans e.symm)
         have hbr0:br=false:=by
          rw [<-Hbr.out];exact decide_eq_false (fun e=>h2.out (Prod.ext e.1 e.2))
         subst hbr0;obtain ⟨-,-,c0,c1⟩:=(HK2.out wr2.drew HJ.out.2.2.2.2.1).2;have HEd:=zAc (zMh (w:=wr2.drew) (HJ.out.1.upto HJ.out.2.2.2.2.1) HJ.out.2.1.u (by omega) ta tb 10 (HJ.out.2.1.freshA Hin.out.2.2.2.2.2 HJ.out.2.2.2.1 h1.out));go_wp2_with fail;refine HEd.out.mono ?_;rintro e Y3 ⟨g3,oc3,L3,rfl,q1,q2,q3,q4,q5⟩;have HN9:Hid (In2 wd ht tl f c s NL M (qx,qy) (k+1) L3):=zAc (HJ.out.2.1.addA HJ.out.2.2.2.1 h1.out h2.out q2 q3 q4);have HdY:Hid (Below wr2.heap.size wr2 Y3.drew):=zAc (bt HJ.out.2.2.2.2.1 (bt q5 ⟨rfl,rfl,rfl,Nat.le_refl _,fun _ _=>rfl⟩));have HR3:Hid (RE Y3.drew (.slice (some ⟨g3,0,none⟩) L3.length oc3) L3):=zAc (q1.upto ⟨rfl,rfl,rfl,Nat.le_refl _,fun _ _=>rfl⟩);have HS:(fun wx:World=>(wx.cell? ⟨gn,i*2,none⟩=some (O ii qx)/\wx.cell? ⟨gn,i*2+1,none⟩=some (O ii qy))/\wx.cell? ⟨gm,k*4,none⟩=some (O ii tx)/\wx.cell? ⟨gm,k*4+1,none⟩=some (O ii ty)/\wx.cell? ⟨gm,k*4+2,none⟩=some (O ii ta)/\wx.cell? ⟨gm,k*4+3,none⟩=some (O ii tb)) Y3.drew:=HK2.out _ HdY.out;clear q1 q2 q3 q4 q5 HEd c0 c1;go_wp2_with fail;refine zAp ?_;refine zAg (fun wx:World=>(wx.cell? ⟨gn,i*2,none⟩=some (O ii qx)/\wx.cell? ⟨gn,i*2+1,none⟩=some (O ii qy))/\wx.cell? ⟨gm,k*4,none⟩=some (O ii tx)/\wx.cell? ⟨gm,k*4+1,none⟩=some (O ii ty)/\wx.cell? ⟨gm,k*4+2,none⟩=some (O ii ta)/\wx.cell? ⟨gm,k*4+3,none⟩=some (O ii tb)) [] (by kernel_rfl) ?_;refine zv 0 9 8 [(.slice (some ⟨gm,0,none⟩) M.length pc),O ii (k:Nat),.pointer (some ⟨gm,k*4,none⟩),.pointer (some ⟨gm,k*4+2,none⟩),cel ta tb,(.slice (some ⟨gn,0,none⟩) NL.length nc),O ii (i:Nat),.pointer (some ⟨gn,i*2,none⟩),cel qx qy] rfl rfl (by kernel_rfl) HS ?_;repeat ((first|refine zo rfl (by rfl) rfl (by rfl) ?_|refine zc rfl (by rfl) (fun wx hx=>by go_simp) ?_);simp only [zp])
         refine zn ?_;refine zt 9 8 (.bool false) rfl (by kernel_rfl) (by rfl) (fun wx hx=>by rw [<-Hbr.out];exact zGi (by rfl) (by rfl) (by rfl)) HS ?_;try simp only [zp]
         refine zAf (by kernel_rfl) ?_ _;dsimp only [zA1,Exit.then];clear HS;go_wp2_with fail;go_roundw
         case rel=>exact ⟨k+1,g3,oc3,L3,rfl,by go_num,by omega,⟨HR3.out,HN9.out⟩,bt HJ.out.2.2.1 HdY.out⟩
         case measure=>simp only [intOf];omega
       ·have hk':k=M.length:=by omega
        subst hk';obtain ⟨a3,n3,c3,w3,r1,r2,Vs',F',hI'⟩:=MI.push (HI.out.1.upto (bt HI.out.2.1 (bt HE.out.1 hB))) Hnd.out HI.out.2.2.2 ⟨_,_,_,rfl⟩ hR hJ.all (by omega);have HI9:=zAc hI';have HA9:=zAc r1
        have e4:wr2.cell? ⟨w.heap.size+2,4,none⟩=some ev:=by
         rw [cell_of_row wr2 _ 4 _ _ _ (HI.out.1.upto (bt HI.out.2.1 (bt HE.out.1 hB))).o];rfl
        have c4:w3.cell? ⟨w.heap.size+2,4,none⟩=some ev:=by rw [cell_of_row w3 _ 4 _ _ _ r2];rfl
        have f4:w3.frozen? ⟨w.heap.size+2,4,none⟩=false:=by simp [World.frozen?,r2]
        obtain ⟨ea,en,ec,hev⟩:∃a n c,ev = .slice a n c:=by
         obtain ⟨x,y,e⟩:=zE9 HI.out.1.r;exact ⟨_,_,_,e⟩
        subst hev;clear hI' r1 r2 hR hJ hB;go_wp2_with (first|(at_builtin;refine zAv rfl _ _ 82 rfl _ _ rfl rfl HA9.out ?_));go_roundw
        case rel=>exact ⟨i+1,_,_,_,by go_num,by omega,HI9.out⟩
        case measure=>simp only [intOf];omega
  ·have hi':i=NL.length:=by omega
   subst hi'
   obtain ⟨ea,en,ec,hev⟩:∃a n c,ev = .slice a n c:=by
    obtain ⟨x,y,e⟩:=zE9 hI.r;exact ⟨_,_,_,e⟩
   subst hev;have o9:=hI.z;have p9:=hI.o;have k0:wo.cell? ⟨w.heap.size+1,0,none⟩=some (O ii 0):=by rw [cell_of_row wo _ 0 _ _ _ o9];rfl
   have f0:wo.frozen? ⟨w.heap.size+1,0,none⟩=false:=by simp [World.frozen?,o9]
   have k1:wo.cell? ⟨w.heap.size+1,1,none⟩=some (O ii 0):=by rw [cell_of_row wo _ 1 _ _ _ o9];rfl
   have f1:wo.frozen? ⟨w.heap.size+1,1,none⟩=false:=by simp [World.frozen?,o9]
   have k2:wo.cell? ⟨w.heap.size+1,2,none⟩=some (.slice none 0 0):=by rw [cell_of_row wo _ 2 _ _ _ o9];rfl
   have f2:wo.frozen? ⟨w.heap.size+1,2,none⟩=false:=by simp [World.frozen?,o9]
   have k3:wo.cell? ⟨w.heap.size+1,3,none⟩=some (.slice none 0 0):=by rw [cell_of_row wo _ 3 _ _ _ o9];rfl
   have f3:wo.frozen? ⟨w.heap.size+1,3,none⟩=false:=by simp [World.frozen?,o9]
   have k4:wo.cell? ⟨w.heap.size+1,4,none⟩=some (.slice none 0 0):=by rw [cell_of_row wo _ 4 _ _ _ o9];rfl
   have f4:wo.frozen? ⟨w.heap.size+1,4,none⟩=false:=by simp [World.frozen?,o9]
   have l0:wo.cell? ⟨w.heap.size+2,0,none⟩=some (O ii (wd:Nat)):=by rw [cell_of_row wo _ 0 _ _ _ p9];rfl
   have l1:wo.cell? ⟨w.heap.size+2,1,none⟩=some (O ii (ht:Nat)):=by rw [cell_of_row wo _ 1 _ _ _ p9];rfl
   have l2:wo.cell? ⟨w.heap.size+2,2,none⟩=some (.slice a n cap):=by rw [cell_of_row wo _ 2 _ _ _ p9];rfl
   have l3:wo.cell? ⟨w.heap.size+2,3,none⟩=some (.slice na NL.length nc):=by rw [cell_of_row wo _ 3 _ _ _ p9];rfl
   have l4:wo.cell? ⟨w.heap.size+2,4,none⟩=some (.slice ea en ec):=by rw [cell_of_row wo _ 4 _ _ _ p9];rfl
   have H9:=zAc (ai hI o9);clear hI o9 p9;go_wp2_with fail;refine bodyPost_ret (v:=.agg #[O ii (wd:Nat),O ii (ht:Nat),(.slice a n cap),(.slice na NL.length nc),.slice ea en ec]) (by simp [results,Tryz.f64,go_sem, *]) rfl ?_;have T5:∀(Y:World) (j:Nat) (u:Value),Turns (fun k=>k=w.heap.size+1) Y (Y.setCell ⟨w.heap.size+1,j,none⟩ u):=fun Y j u=>Turns.set (S:=fun k=>k=w.heap.size+1) Y (p:=⟨w.heap.size+1,j,none⟩) rfl u;have tt:∀{A B C:World},Turns (fun k=>k=w.heap.size+1) A B->Turns (fun k=>k=w.heap.size+1) B C->Turns (fun k=>k=w.heap.size+1) A C:=fun h k=>h.trans (k.mono (fun _ _ e => .inl e));have TT:=tt (tt (tt (tt (T5 wo 0 (O ii (wd:Nat))) (T5 _ 1 (O ii (ht:Nat)))) (T5 _ 2 (.slice a n cap))) (T5 _ 3 (.slice na NL.length nc))) (T5 _ 4 (.slice ea en ec));have hDG:DG wo (.slice na NL.length nc) (.slice ea en ec) NL F:=⟨Hin.out.2.1.upto H9.out.1.b,Vs,H9.out.1.r,H9.out.1.l,fun j q x h1 h2=>(H9.out.1.e j q x h1 h2).1⟩
   refine ⟨_,F,rfl,hDG.turned TT (fun k e=>by subst e;exact ⟨_,H9.out.2⟩),fun q hq=>?_,H9.out.1.b.trans (TT.below (fun k e=>by omega) H9.out.1.b.size)⟩;obtain ⟨j,hj⟩:=List.mem_iff_getElem?.1 hq;obtain ⟨x,hx⟩:∃x,Vs[j]? = some x:=⟨_,List.getElem?_eq_getElem (by rw [H9.out.1.l];exact (List.getElem?_eq_some_iff.1 hj).1)⟩
   exact (H9.out.1.e j q x hj hx).2
end Go.Proofs.YthiafmlgialbnaaGreatDoor
