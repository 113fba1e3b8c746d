import Derived.Test.YtejjcenhjpjefaaGreatDoorSm
import Derived.Test.YtejjcenhjpjefaaGreatDoorSides
import Derived.Test.YtejjcenhjpjefaaGreatDoorCellsSeq
import Derived.Test.YtejjcenhjpjefaaGreatDoorHas
import Derived.Test.YtejjcenhjpjefaaGreatDoorHeldIn
import Derived.RangeFuncKeeps
set_option linter.all false
set_option maxRecDepth 1000000
set_option maxHeartbeats 64000000
open Go.Proofs.Tryz
open Go.Proofs.Tryz renaming prog->pg
open Array renaming getElem?_eq_some_iff->gE
open And renaming intro->ai
open Go.Value renaming int->O
open Go.IntKind renaming i64->ii
namespace Go.Proofs.YtejjcenhjpjefaaGreatDoor
open Go.RowKit
section
theorem own_lt {w:World} {v:Value} {e:TypeId} {z m:Nat} {xs:List Value} (h:w.ownsRow 0 e z v m xs) {j:Nat} (hj:v.ownBlock=some j):j<w.heap.size:=by
 rcases h.2 with ⟨rfl,_⟩|⟨g,cap,cur,rfl,hb,hg,_⟩
 ·simp [Value.ownBlock] at hj
 ·simp [Value.ownBlock] at hj;subst hj;exact (gE.1 hg).1
section
variable {w0 w w':World} {k p:Nat} {c s ix iy iw ih:Int} {gv cv:Value} {b:Nat} {lf:Value} {G:List Nat} {C:List Int} {hv:Value} {n:Int} {S:List It} {W H:Int} {tl:List Nat} {f:Int->Int->Option Int}
theorem Sch.ground {G':List Nat} (h:Sch w0 w k p c s ix iy iw ih gv cv b lf G C hv n S) (hG:Tls w' gv G') (T:Turns (fun j=>gv.ownBlock=some j) w w'):Sch w0 w' k p c s ix iy iw ih gv cv b lf G' C hv n S:=by
 obtain ⟨l,hl,hp⟩:=h.hs.row;exact ⟨h.bel.trans (T.below (fun j e=>h.gn j e) h.bel.size),h.sr.kept T (h.sr.ne_row h.gr (by decide)),hG,h.ct.kept T (fun j e q=>zC5 h.ct h.gr (by decide) e q),h.hs.kept T (hp.ne_row h.gr (by decide)) (fun j e q=>zC5 hl h.gr (by decide) e q),h.kn,h.bn,h.gn,h.cn,h.hn⟩
theorem zCi (h:Sch w0 w k p c s ix iy iw ih gv cv b lf G C hv n S) (hw:Wl w0 p W H tl f) (hg:Grnd w0) (hok:Gok W H tl f c s ix iy iw ih G) {x y:Int} (hx:0<=x-ix/\x-ix<iw) (hy:0<=y-iy/\y-iy<ih) (hi:0<=ix/\0<=iy/\ix+iw<=1048576/\iy+ih<=1048576) {q:Bool} (hq:stB W H tl f c s x y=q) :
 Calls pg 151 #[ptr k,cel x y] w fun e w'=>e = .returned (.bool q)/\∃G',Gok W H tl f c s ix iy iw ih G'/\Sch w0 w' k p c s ix iy iw ih gv cv b lf G' C hv n S/\Turns (fun j=>gv.ownBlock=some j) w w':=by
 subst hq;refine (zMi w0 k p c s ix iy iw ih gv cv b lf W H tl f G x y w hw hg h.bel h.sr h.gr hok h.gn hx hy hi).mono ?_;rintro e w1 ⟨rfl,G',h1,h2,h3⟩;exact ⟨rfl,G',h1,h.ground h2 h3,h3⟩
end
def stp (W H:Int) (tl:List Nat) (f:Int->Int->Option Int) (c s x y d:Int):Bool:=
 stB W H tl f c s (x+dX d.toNat) (y+dY d.toNat)&&(!oc d || (stB W H tl f c s (x+dX d.toNat) y&&stB W H tl f c s x (y+dY d.toNat)))
theorem Two.turned {T:Nat->Prop} {w w':World} {j:Nat} {u v:Int} (h:Two w j u v) (ht:Turns T w w') (hs:¬T j):Two w' j u v:=by
 have hb:=ht.block j h.2.2 hs;have hc:=fun o=>World.cell?_of_block (a:=⟨j,o,none⟩) hb;have hf:=fun o=>World.frozen?_of_block (a:=⟨j,o,none⟩) hb;exact ⟨⟨(hc 0).trans h.1.1,(hc 1).trans h.1.2⟩,⟨(hf 0).trans h.2.1.1,(hf 1).trans h.2.1.2⟩,Nat.lt_of_lt_of_le h.2.2 ht.size⟩
theorem zK9 (w0:World) (k p:Nat) (c s ix iy iw ih:Int) (gv cv:Value) (b:Nat) (lf:Value) (G:List Nat) (C:List Int) (hv:Value) (n:Int) (S:List It) (W H:Int) (tl:List Nat) (f:Int->Int->Option Int) (x y d u v:Int) (w:World)
 (h:Sch w0 w k p c s ix iy iw ih gv cv b lf G C hv n S) (hw:Wl w0 p W H tl f) (hg:Grnd w0) (ho:Offs w0) (hok:Gok W H tl f c s ix iy iw ih G) (hi:0<=ix/\0<=iy/\ix+iw<=1048576/\iy+ih<=1048576)
 (hx:0<=x-ix/\x-ix<iw) (hy:0<=y-iy/\y-iy<ih) (hd:0<=d/\d<8) (hu:u=x+dX d.toNat) (hv':v=y+dY d.toNat) (hux:0<=u-ix/\u-ix<iw) (hvy:0<=v-iy/\v-iy<ih) :
 Calls pg 119 #[ptr k,cel x y,O ii d,cel u v] w fun e w'=>e = .returned (.bool (stp W H tl f c s x y d))/\∃G',Gok W H tl f c s ix iy iw ih G'/\Sch w0 w' k p c s ix iy iw ih gv cv b lf G' C hv n S/\Turns (fun j=>gv.ownBlock=some j) w w':=by
 unfold stp;rw [<-hu,<-hv'];have hgl:∀j,gv.ownBlock=some j->j<w.heap.size:=fun j e=>own_lt h.gr e;have B0:Below w.heap.size w ((w.alloc (.cells #[O ii x,O ii y] 23)).alloc (.cells #[O ii u,O ii v] 23)):=zBe _ _ _;have Fx:Two ((w.alloc (.cells #[O ii x,O ii y] 23)).alloc (.cells #[O ii u,O ii v] 23)) w.heap.size x y:=(Two.newAt rfl).alloc;have Fu:Two ((w.alloc (.cells #[O ii x,O ii y] 23)).alloc (.cells #[O ii u,O ii v] 23)) (w.heap.size+1) u v:=Two.newAt (by simp);have zX:((w.alloc (.cells #[O ii x,O ii y] 23)).alloc (.cells #[O ii u,O ii v] 23)).heap.size=w.heap.size+2:=by simp
 have hX:=h.upto B0
 have hsb:sB x y d=true:=by
  simp only [sB,Bool.and_eq_true,zD9,zBq];rw [<-hu,<-hv'];omega
 have HO:Hid (∀wx,Below w0.heap.size w0 wx->Calls pg 152 #[cel x y,O ii d] wx fun e w'=>e = .returned (zD2 x y d)/\Below wx.heap.size wx w'):=zAb fun wx hb=>zIu x y d wx (ho.kept hb);have T0:Turns (fun j=>gv.ownBlock=some j) w ((w.alloc (.cells #[O ii x,O ii y] 23)).alloc (.cells #[O ii u,O ii v] 23)):=Turns.of_below B0;obtain ⟨X,eX⟩:=ex ((w.alloc (.cells #[O ii x,O ii y] 23)).alloc (.cells #[O ii u,O ii v] 23));rw [eX] at B0 Fx Fu zX hX T0;obtain ⟨⟨u0,u1⟩,-,-⟩:=Fu;have HX:=zAb eX;have HK1:Hid (∀w1,Turns (fun j=>gv.ownBlock=some j) X w1->Two w1 w.heap.size x y/\Turns (fun j=>gv.ownBlock=some j) w w1):=zAb fun w1 t1=>⟨Fx.turned t1 (fun e=>by have:=hgl _ e;omega),T0.trans (t1.mono (fun j _ e => .inl e))⟩
 have Hh:=zAb hX;have Hxy:=zAb (ai hux hvy);have Hxx:=zAb (ai hx hy);have Hsb:=zAb (ai hsb (ai hu hv'));have Hhi:=zAb hi;have Hok:=zAb hok;have Hwg:=zAb (ai hw hg);clear eX B0 Fx zX hX T0 h hux hvy hi hx hy hd hu hv' hgl ho hok hw hg hsb;cases hq1:stB W H tl f c s u v
 ·go_enter func119,ntmps119;go_wp2_with (rw [HX.out]);refine (zCi Hh.out Hwg.out.1 Hwg.out.2 Hok.out Hxy.out.1 Hxy.out.2 Hhi.out hq1).mono ?_;rintro e w1 ⟨rfl,G1,ok1,h1,t1⟩;have HE:=zAb (ai ok1 (ai h1 (HK1.out w1 t1).2));clear ok1 h1 t1 u0 u1;go_wp2_with fail;refine bodyPost_ret (v:=.bool false) (by simp [results,Tryz.results119,go_sem]) rfl ?_;exact ⟨rfl,_,HE.out.1,HE.out.2.1,HE.out.2.2⟩
 ·cases hoc:oc d
  ·have hsi:siB x y d=false:=by simp [siB,hoc]
   rw [zIv hsi] at HO;go_enter func119,ntmps119;go_wp2_with (rw [HX.out]);refine (zCi Hh.out Hwg.out.1 Hwg.out.2 Hok.out Hxy.out.1 Hxy.out.2 Hhi.out hq1).mono ?_;rintro e w1 ⟨rfl,G1,ok1,h1,t1⟩;obtain ⟨⟨⟨x0,x1⟩,-,-⟩,tw1⟩:=HK1.out w1 t1;have H1:=zAb h1;have HE:Hid (∀w2,Below w1.heap.size w1 w2->Gok W H tl f c s ix iy iw ih G1/\Sch w0 w2 k p c s ix iy iw ih gv cv b lf G1 C hv n S/\Turns (fun j=>gv.ownBlock=some j) w w2):=zAb fun w2 hb=>⟨ok1,h1.upto hb,tw1.trans (Turns.of_below hb)⟩
   clear ok1 h1 t1 tw1 u0 u1;go_wp2_with fail;refine (HO.out w1 H1.out.bel).mono ?_;rintro e w2 ⟨rfl,hb2⟩;have H2:=zAb hb2;clear hb2 x0 x1;go_wp2_with fail;refine bodyPost_ret (v:=.bool true) (by simp [results,Tryz.results119,go_sem]) rfl ?_;exact ⟨rfl,_,HE.out _ (bt H2.out (zBe _ _ _))⟩
  ·have hsi:siB x y d=true:=by simp [siB,hoc,Hsb.out.1]
   rw [zG3 hsi,<-Hsb.out.2.1,<-Hsb.out.2.2] at HO;cases hq2:stB W H tl f c s u y
   ·go_enter func119,ntmps119;go_wp2_with (rw [HX.out]);refine (zCi Hh.out Hwg.out.1 Hwg.out.2 Hok.out Hxy.out.1 Hxy.out.2 Hhi.out hq1).mono ?_;rintro e w1 ⟨rfl,G1,ok1,h1,t1⟩;obtain ⟨⟨⟨x0,x1⟩,-,-⟩,tw1⟩:=HK1.out w1 t1;have H1:=zAb h1;have HE:Hid (∀w2,Below w1.heap.size w1 w2->Gok W H tl f c s ix iy iw ih G1/\Sch w0 w2 k p c s ix iy iw ih gv cv b lf G1 C hv n S/\Turns (fun j=>gv.ownBlock=some j) w w2/\∀j,gv.ownBlock=some j->j<w2.heap.size):=zAb fun w2 hb=>⟨ok1,h1.upto hb,tw1.trans (Turns.of_below hb),fun j e=>own_lt (h1.upto hb).gr e⟩
    clear ok1 h1 t1 tw1 u0 u1;go_wp2_with fail;refine (HO.out w1 H1.out.bel).mono ?_;rintro e w2 ⟨rfl,hb2⟩;have H2:=zAb hb2;clear hb2 x0 x1;go_wp2_with fail;obtain ⟨ok2,h2,tw2,-⟩:=HE.out _ (bt H2.out (zBe w2 (.cells #[O ii u,O ii y] 23) (.cells #[O ii x,O ii v] 23)));have lt2:=(HE.out _ H2.out).2.2.2;have Fb:Two ((w2.alloc (.cells #[O ii u,O ii y] 23)).alloc (.cells #[O ii x,O ii v] 23)) (w2.heap.size+1) x v:=Two.newAt (by simp);refine (zCi h2 Hwg.out.1 Hwg.out.2 ok2 Hxy.out.1 Hxx.out.2 Hhi.out hq2).mono ?_;rintro e w3 ⟨rfl,G3,ok3,h3,t3⟩;obtain ⟨⟨b0,b1⟩,-,-⟩:=Fb.turned t3 (fun e=>by have:=lt2 _ e;omega);have H3:=zAb (ai ok3 (ai h3 (tw2.trans (t3.mono (fun j _ e => .inl e)))));clear ok3 h3 t3 ok2 h2 tw2 lt2 Fb HE;go_wp2_with fail;refine bodyPost_ret (v:=.bool false) (by simp [results,Tryz.results119,go_sem]) rfl ?_;exact ⟨rfl,_,H3.out.1,H3.out.2.1,H3.out.2.2⟩
   ·cases hq3:stB W H tl f c s x v
    all_goals
     go_enter func119,ntmps119;go_wp2_with (rw [HX.out]);refine (zCi Hh.out Hwg.out.1 Hwg.out.2 Hok.out Hxy.out.1 Hxy.out.2 Hhi.out hq1).mono ?_;rintro e w1 ⟨rfl,G1,ok1,h1,t1⟩;obtain ⟨⟨⟨x0,x1⟩,-,-⟩,tw1⟩:=HK1.out w1 t1;have H1:=zAb h1;have HE:Hid (∀w2,Below w1.heap.size w1 w2->Gok W H tl f c s ix iy iw ih G1/\Sch w0 w2 k p c s ix iy iw ih gv cv b lf G1 C hv n S/\Turns (fun j=>gv.ownBlock=some j) w w2/\∀j,gv.ownBlock=some j->j<w2.heap.size):=zAb fun w2 hb=>⟨ok1,h1.upto hb,tw1.trans (Turns.of_below hb),fun j e=>own_lt (h1.upto hb).gr e⟩
     clear ok1 h1 t1 tw1 u0 u1;go_wp2_with fail;refine (HO.out w1 H1.out.bel).mono ?_;rintro e w2 ⟨rfl,hb2⟩;have H2:=zAb hb2;clear hb2 x0 x1;go_wp2_with fail;obtain ⟨ok2,h2,tw2,-⟩:=HE.out _ (bt H2.out (zBe w2 (.cells #[O ii u,O ii y] 23) (.cells #[O ii x,O ii v] 23)));have lt2:=(HE.out _ H2.out).2.2.2;have Fb:Two ((w2.alloc (.cells #[O ii u,O ii y] 23)).alloc (.cells #[O ii x,O ii v] 23)) (w2.heap.size+1) x v:=Two.newAt (by simp);refine (zCi h2 Hwg.out.1 Hwg.out.2 ok2 Hxy.out.1 Hxx.out.2 Hhi.out hq2).mono ?_;rintro e w3 ⟨rfl,G3,ok3,h3,t3⟩;obtain ⟨⟨b0,b1⟩,-,-⟩:=Fb.turned t3 (fun e=>by have:=lt2 _ e;omega);have H3:=zAb (ai ok3 (ai h3 (tw2.trans (t3.mono (fun j _ e => .inl e)))));clear ok3 h3 t3 ok2 h2 tw2 lt2 Fb HE;go_wp2_with fail;refine (zCi H3.out.2.1 Hwg.out.1 Hwg.out.2 H3.out.1 Hxx.out.1 Hxy.out.2 Hhi.out hq3).mono ?_;rintro e w4 ⟨rfl,G4,ok4,h4,t4⟩;have H4:=zAb (ai ok4 (ai h4 (H3.out.2.2.trans (t4.mono (fun j _ e => .inl e)))));clear ok4 h4 t4 b0 b1;go_wp2_with fail
    ·refine bodyPost_ret (v:=.bool false) (by simp [results,Tryz.results119,go_sem]) rfl ?_;exact ⟨rfl,_,H4.out.1,H4.out.2.1,H4.out.2.2⟩
    ·refine bodyPost_ret (v:=.bool true) (by simp [results,Tryz.results119,go_sem]) rfl ?_;exact ⟨rfl,_,H4.out.1,H4.out.2.1,H4.out.2.2⟩
end
section
open Go.Shelf
attribute [local go_sem] Oper.semAt_some
def inn (x y p q c d:Int) (k:Nat):Bool:=sB x y k&&has p q c d (x+dX k) (y+dY k)
def zAq (x y p q c d:Int) (k:Nat):List (Fin 8):=((List.finRange 8).take k).filter (fun i=>inn x y p q c d i.val)
theorem zFl {k:Nat} (h:k<8):(List.finRange 8).take (k+1)=(List.finRange 8).take k++[⟨k,h⟩]:=by
 rw [List.take_succ_eq_append_getElem (by simpa using h)];simp
theorem zE0 {x y p q c d:Int} {k:Nat} (hk:k<8) (h:inn x y p q c d k=true):zAq x y p q c d (k+1)=zAq x y p q c d k++[⟨k,hk⟩]:=by
 simp [zAq,zFl hk,List.filter_append,h]
theorem zGa {x y p q c d:Int} {k:Nat} (hk:k<8) (h:inn x y p q c d k=false):zAq x y p q c d (k+1)=zAq x y p q c d k:=by
 simp [zAq,zFl hk,List.filter_append,h]
theorem zHa (x y p q c d:Int) (k:Nat):(zAq x y p q c d k).length<=k:=by
 simp only [zAq];exact Nat.le_trans (List.length_filter_le _ _) (by simp;omega)
def zXf (x y p q c d:Int) (k:Nat):List (Fin 8):=((List.finRange 8).drop k).filter (fun i=>inn x y p q c d i.val)
theorem zI2 (x y p q c d:Int) (k:Nat):zAq x y p q c d 8=zAq x y p q c d k++zXf x y p q c d k:=by
 rw [zAq,zAq,zXf,<-List.filter_append,List.take_append_drop];rfl
theorem zH3 (x y p q c d:Int) (k:Nat):zAq x y p q c d k <+: zAq x y p q c d 8:=⟨_,(zI2 x y p q c d k).symm⟩
abbrev zWn (x y:Int) (t:Fin 8):Array Value:=#[O ii (t.val:Int),.agg #[O ii (x+dX t.val),O ii (y+dY t.val)]]
def KA (B C:Nat) (X Y:World):Prop:=Y.heap[B]? = X.heap[B]?/\Y.heap[C]? = X.heap[C]?/\Y.heap[1]? = X.heap[1]?
theorem KA.refl (B C:Nat) (X:World):KA B C X X:=⟨rfl,rfl,rfl⟩
theorem KA.trans {B C:Nat} {X Y Z:World} (h:KA B C X Y) (k:KA B C Y Z):KA B C X Z:=⟨k.1.trans h.1,k.2.1.trans h.2.1,k.2.2.trans h.2.2⟩
theorem KA.below {B C:Nat} {X Y:World} {n:Nat} (h:Below n X Y) (hB:B<n) (hC:C<n) (h1:1<n):KA B C X Y:=⟨h.block B hB,h.block C hC,h.block 1 h1⟩
theorem qAi {B C:Nat} {w:World} (hB:B<w.heap.size) (hC:C<w.heap.size) (h1:1<w.heap.size) (W:World) (l:Nat) (o o':Obj) (hl:w.heap.size<=l) (h:W.heap[l]? = some o) (_:o.isCells=false) (_:o.isWalk=false):KA B C W (W.putObj l o'):=
 ⟨World.putObj_heap_other (by omega),World.putObj_heap_other (by omega),World.putObj_heap_other (by omega)⟩
theorem zOz {w w':World} {k:Nat} (h:k<w.heap.size) (e:w'.heap[k]? = w.heap[k]?):k<w'.heap.size:=by
 have:w.heap[k]? = some w.heap[k]:=Array.getElem?_eq_getElem h;exact (gE.1 (e.trans this)).1
theorem Two.blk {w w':World} {k:Nat} {u v:Int} (h:Two w k u v) (e:w'.heap[k]? = w.heap[k]?):Two w' k u v:=
 ⟨⟨(World.cell?_of_block (a:=⟨k,0,none⟩) e).trans h.1.1,(World.cell?_of_block (a:=⟨k,1,none⟩) e).trans h.1.2⟩,⟨(World.frozen?_of_block (a:=⟨k,0,none⟩) e).trans h.2.1.1,(World.frozen?_of_block (a:=⟨k,1,none⟩) e).trans h.2.1.2⟩,zOz h.2.2 e⟩
theorem Four.blk {w w':World} {k:Nat} {x y a b:Int} (h:Four w k x y a b) (e:w'.heap[k]? = w.heap[k]?):Four w' k x y a b:=by
 have hc:=fun o=>World.cell?_of_block (a:=⟨k,o,none⟩) e;have hf:=fun o=>World.frozen?_of_block (a:=⟨k,o,none⟩) e;exact ⟨⟨(hc 0).trans h.1.1,(hc 1).trans h.1.2.1,(hc 2).trans h.1.2.2.1,(hc 3).trans h.1.2.2.2⟩,⟨(hf 0).trans h.2.1.1,(hf 1).trans h.2.1.2.1,(hf 2).trans h.2.1.2.2.1,(hf 3).trans h.2.1.2.2.2⟩,zOz h.2.2 e⟩
theorem Offs.blk {w w':World} (h:Offs w) (e:w'.heap[1]? = w.heap[1]?):Offs w':=
 ⟨zOz h.1 e,fun k hk=>⟨(World.cell?_of_block (a:=⟨1,k*2,none⟩) e).trans (h.2 k hk).1,(World.cell?_of_block (a:=⟨1,k*2+1,none⟩) e).trans (h.2 k hk).2⟩⟩
theorem zIm (n B C:Nat) (x y p q c d:Int) (w:World) (ho:Offs w) (hX:Two w B x y) (hF:Four w C p q c d) :
 SeqStopsK Fence.wide n pg 149 #[.pointer (some ⟨B,0,none⟩),.pointer (some ⟨C,0,none⟩)] (zWn x y) (KA B C) (fun xs=>xs=zAq x y p q c d 8) (fun pre=>pre <+: zAq x y p q c d 8) 8 w:=fun l J Jx W hW hJ hJx hY h0=>by
 refine callsIn_of_wp func149 rfl trivial ?_ rfl;simp only [ntmps149,List.size_toArray,List.length_cons,List.length_nil,Nat.reduceAdd,Nat.reduceSub,Array.replicate_succ,Array.replicate_zero,List.push_toArray,List.append_toArray,List.nil_append,List.cons_append];have X0:=hX.kept hW;have F0:=hF.kept hW;gi_wp2_with fail;gi_loopw [7] (fun i wr=>∃k:Nat,k<=8/\i = O ii k/\J (zAq x y p q c d k) wr/\KA B C W wr) (fun i _=>8-(intOf i).toNat)
 case atStart=>exact ⟨0,Nat.zero_le _,rfl,h0,KA.refl _ _ _⟩
 case round =>
  obtain ⟨k,hk,rfl,hJk,hBk⟩:=hrel;have Xr:Two wr B x y:=X0.blk hBk.1;obtain ⟨⟨x0,x1⟩,_,zx⟩:=id Xr
  by_cases hlt:k<8
  ·have ho1:Offs wr:=(ho.kept hW).blk hBk.2.2;have Fr:Four wr C p q c d:=(hF.kept hW).blk hBk.2.1;have hKb:∀{w':World},Below wr.heap.size wr w'->KA B C wr w':=fun h=>KA.below h Xr.2.2 Fr.2.2 ho1.1;obtain ⟨⟨f0,f1,f2,f3⟩,_,zf⟩:=id Fr;cases hs:sB x y k
   ·gi_wp2_with fail;refine ⟨trivial,fun h=>(by cases h),?_⟩;refine (callsIn_wide.2 (zCb x y k _ ho1)).mono ?_;rintro e w1 ⟨rfl,hb1⟩;rw [hs,zNu hs,zNt hs];obtain ⟨⟨g0,g1,g2,g3⟩,_,zg⟩:=Fr.kept hb1;gi_wp2_with fail;refine ⟨trivial,?_⟩;gi_wp2_with fail;refine ⟨fun f hf=>(by cases hf),?_⟩;gi_wp2_with fail;go_roundw
    case rel=>exact ⟨k+1,by omega,by go_num,by rw [zGa hlt (show inn x y p q c d k=false by simp [inn,hs])];exact zBf hJ hJk (bt hb1 (zAh _ _)),hBk.trans (hKb (bt hb1 (zAh _ _)))⟩
    case measure=>simp [intOf];omega
   ·gi_wp2_with fail;refine ⟨trivial,fun h=>(by cases h),?_⟩;refine (callsIn_wide.2 (zCb x y k _ ho1)).mono ?_;rintro e w1 ⟨rfl,hb1⟩;rw [hs,zG5 hs,zG4 hs,Int.toNat_natCast];obtain ⟨⟨g0,g1,g2,g3⟩,_,zg⟩:=Fr.kept hb1;gi_wp2_with fail;cases hh:has p q c d (x+dX k) (y+dY k)
    ·refine ⟨trivial,fun h=>(by cases h),?_⟩;refine (callsIn_wide.2 (zB5 _ hh)).mono ?_;rintro e w2 ⟨rfl,hb2⟩;obtain ⟨⟨e0,e1⟩,_⟩:=zD4 hb2;have hb3:=bt (bt hb1 (zAh _ _)) hb2;clear hb2;gi_wp2_with fail;refine ⟨fun f hf=>(by cases hf),?_⟩;gi_wp2_with fail;go_roundw
     case rel=>exact ⟨k+1,by omega,by go_num,by rw [zGa hlt (show inn x y p q c d k=false by simp [inn,hs,hh])];exact zBf hJ hJk hb3,hBk.trans (hKb hb3)⟩
     case measure=>simp [intOf];omega
    ·refine ⟨trivial,fun h=>(by cases h),?_⟩;refine (callsIn_wide.2 (zB5 _ hh)).mono ?_;rintro e w2 ⟨rfl,hb2⟩;obtain ⟨⟨e0,e1⟩,_⟩:=zD4 hb2;have hb3:=bt (bt hb1 (zAh _ _)) hb2;clear hb2;have hyes:inn x y p q c d k=true:=by simp [inn,hs,hh]
     obtain ⟨fn,tmps,assign,body,hy,hR⟩:=hY (zAq x y p q c d k) ⟨k,hlt⟩ w2 (zBf hJ hJk hb3) (Nat.lt_of_le_of_lt (zHa _ _ _ _ _ _ _) hlt);dsimp only [zWn] at hy;gi_wp2_with fail;refine ⟨fun h=>(by cases h),?_⟩;refine hR.mono ?_;rintro e W3 (⟨rfl,hJ3,hk3⟩|⟨rfl,hJx3⟩)
     ·gi_wp2_with fail;go_roundw
      case rel=>exact ⟨k+1,by omega,by go_num,by rw [zE0 hlt hyes];exact hJ3,(hBk.trans (hKb hb3)).trans hk3⟩
      case measure=>simp [intOf];omega
     ·gi_wp2_with fail;refine bodyPost_ret (results_none rfl _ _ _) rfl ?_;refine ⟨⟨_,rfl⟩,.inr ⟨_,?_,hJx3⟩⟩;rw [<-zE0 hlt hyes];exact zH3 x y p q c d _
  ·have hk8:k=8:=by omega
   subst hk8;gi_wp2_with fail;go_end0
   exact ⟨⟨_,rfl⟩,.inl ⟨_,rfl,hJk⟩⟩
end
section
open Go.Shelf
attribute [local go_sem] Oper.semAt_some
abbrev Nb (x y p q c d:Int):={ t:Fin 8 // inn x y p q c d t.val=true }
def zCa (x y p q c d:Int) (k:Nat):List (Nb x y p q c d):=((List.finRange 8).take k).filterMap (fun i=>if h:inn x y p q c d i.val=true then some ⟨i,h⟩ else none)
abbrev qBd (x y p q c d:Int) (t:Nb x y p q c d):Array Value:=zWn x y t.1
theorem zEz {x y p q c d:Int} {k:Nat} (hk:k<8) (h:inn x y p q c d k=true):zCa x y p q c d (k+1)=zCa x y p q c d k++[⟨⟨k,hk⟩,h⟩]:=by
 simp [zCa,zFl hk,List.filterMap_append,h]
theorem zF9 {x y p q c d:Int} {k:Nat} (hk:k<8) (h:inn x y p q c d k=false):zCa x y p q c d (k+1)=zCa x y p q c d k:=by
 simp [zCa,zFl hk,List.filterMap_append,h]
theorem zMr (x y p q c d:Int) (k:Nat):(zCa x y p q c d k).length<=k:=by
 simp only [zCa];exact Nat.le_trans (List.length_filterMap_le _ _) (by simp;omega)
theorem zH2 (x y p q c d:Int) (k:Nat):zCa x y p q c d k <+: zCa x y p q c d 8:=by
 have e:(List.finRange 8).take 8=(List.finRange 8).take k++(List.finRange 8).drop k:=by rw [List.take_append_drop];rfl
 unfold zCa;rw [e,List.filterMap_append];exact ⟨_,rfl⟩
theorem zCw (x y p q c d:Int):∀k:Nat,k<=8->(zCa x y p q c d k).map (·.1)=zAq x y p q c d k
 |0,_=>rfl
 |k+1,h=>by
  cases hi:inn x y p q c d k
  ·rw [zF9 (by omega) hi,zGa (by omega) hi];exact zCw x y p q c d k (by omega)
  ·rw [zEz (by omega) hi,zE0 (by omega) hi,List.map_append,zCw x y p q c d k (by omega)];rfl
theorem zJg (n B C:Nat) (x y p q c d:Int) (w:World) (ho:Offs w) (hX:Two w B x y) (hF:Four w C p q c d) :
 SeqStopsK Fence.wide n pg 149 #[.pointer (some ⟨B,0,none⟩),.pointer (some ⟨C,0,none⟩)] (qBd x y p q c d) (KA B C) (fun xs=>xs=zCa x y p q c d 8) (fun pre=>pre <+: zCa x y p q c d 8) 8 w:=fun l J Jx W hW hJ hJx hY h0=>by
 refine callsIn_of_wp func149 rfl trivial ?_ rfl;simp only [ntmps149,List.size_toArray,List.length_cons,List.length_nil,Nat.reduceAdd,Nat.reduceSub,Array.replicate_succ,Array.replicate_zero,List.push_toArray,List.append_toArray,List.nil_append,List.cons_append];have X0:=hX.kept hW;have F0:=hF.kept hW;gi_wp2_with fail;gi_loopw [7] (fun i wr=>∃k:Nat,k<=8/\i = O ii k/\J (zCa x y p q c d k) wr/\KA B C W wr) (fun i _=>8-(intOf i).toNat)
 case atStart=>exact ⟨0,Nat.zero_le _,rfl,h0,KA.refl _ _ _⟩
 case round =>
  obtain ⟨k,hk,rfl,hJk,hBk⟩:=hrel;have Xr:Two wr B x y:=X0.blk hBk.1;obtain ⟨⟨x0,x1⟩,_,zx⟩:=id Xr
  by_cases hlt:k<8
  ·have ho1:Offs wr:=(ho.kept hW).blk hBk.2.2;have Fr:Four wr C p q c d:=(hF.kept hW).blk hBk.2.1;have hKb:∀{w':World},Below wr.heap.size wr w'->KA B C wr w':=fun h=>KA.below h Xr.2.2 Fr.2.2 ho1.1;obtain ⟨⟨f0,f1,f2,f3⟩,_,zf⟩:=id Fr;cases hs:sB x y k
   ·gi_wp2_with fail;refine ⟨trivial,fun h=>(by cases h),?_⟩;refine (callsIn_wide.2 (zCb x y k _ ho1)).mono ?_;rintro e w1 ⟨rfl,hb1⟩;rw [hs,zNu hs,zNt hs];obtain ⟨⟨g0,g1,g2,g3⟩,_,zg⟩:=Fr.kept hb1;gi_wp2_with fail;refine ⟨trivial,?_⟩;gi_wp2_with fail;refine ⟨fun f hf=>(by cases hf),?_⟩;gi_wp2_with fail;go_roundw
    case rel=>exact ⟨k+1,by omega,by go_num,by rw [zF9 hlt (show inn x y p q c d k=false by simp [inn,hs])];exact zBf hJ hJk (bt hb1 (zAh _ _)),hBk.trans (hKb (bt hb1 (zAh _ _)))⟩
    case measure=>simp [intOf];omega
   ·gi_wp2_with fail;refine ⟨trivial,fun h=>(by cases h),?_⟩;refine (callsIn_wide.2 (zCb x y k _ ho1)).mono ?_;rintro e w1 ⟨rfl,hb1⟩;rw [hs,zG5 hs,zG4 hs,Int.toNat_natCast];obtain ⟨⟨g0,g1,g2,g3⟩,_,zg⟩:=Fr.kept hb1;gi_wp2_with fail;cases hh:has p q c d (x+dX k) (y+dY k)
    ·refine ⟨trivial,fun h=>(by cases h),?_⟩;refine (callsIn_wide.2 (zB5 _ hh)).mono ?_;rintro e w2 ⟨rfl,hb2⟩;obtain ⟨⟨e0,e1⟩,_⟩:=zD4 hb2;have hb3:=bt (bt hb1 (zAh _ _)) hb2;clear hb2;gi_wp2_with fail;refine ⟨fun f hf=>(by cases hf),?_⟩;gi_wp2_with fail;go_roundw
     case rel=>exact ⟨k+1,by omega,by go_num,by rw [zF9 hlt (show inn x y p q c d k=false by simp [inn,hs,hh])];exact zBf hJ hJk hb3,hBk.trans (hKb hb3)⟩
     case measure=>simp [intOf];omega
    ·refine ⟨trivial,fun h=>(by cases h),?_⟩;refine (callsIn_wide.2 (zB5 _ hh)).mono ?_;rintro e w2 ⟨rfl,hb2⟩;obtain ⟨⟨e0,e1⟩,_⟩:=zD4 hb2;have hb3:=bt (bt hb1 (zAh _ _)) hb2;clear hb2;have hyes:inn x y p q c d k=true:=by simp [inn,hs,hh]
     obtain ⟨fn,tmps,assign,body,hy,hR⟩:=hY (zCa x y p q c d k) ⟨⟨k,hlt⟩,hyes⟩ w2 (zBf hJ hJk hb3) (Nat.lt_of_le_of_lt (zMr _ _ _ _ _ _ _) hlt);dsimp only [qBd,zWn] at hy;gi_wp2_with fail;refine ⟨fun h=>(by cases h),?_⟩;refine hR.mono ?_;rintro e W3 (⟨rfl,hJ3,hk3⟩|⟨rfl,hJx3⟩)
     ·gi_wp2_with fail;go_roundw
      case rel=>exact ⟨k+1,by omega,by go_num,by rw [zEz hlt hyes];exact hJ3,(hBk.trans (hKb hb3)).trans hk3⟩
      case measure=>simp [intOf];omega
     ·gi_wp2_with fail;refine bodyPost_ret (results_none rfl _ _ _) rfl ?_;refine ⟨⟨_,rfl⟩,.inr ⟨_,?_,hJx3⟩⟩;rw [<-zEz hlt hyes];exact zH2 x y p q c d _
  ·have hk8:k=8:=by omega
   subst hk8;gi_wp2_with fail;go_end0
   exact ⟨⟨_,rfl⟩,.inl ⟨_,rfl,hJk⟩⟩
end
section
open Go.Shelf
attribute [local go_sem] Oper.semAt_some
theorem Four.new (w:World) (t:TypeId) (x y a b:Int):Four (w.alloc (.cells #[O ii x,O ii y,O ii a,O ii b] t)) w.heap.size x y a b:=zBo (Below.refl _ _)
theorem Four.newAt {w:World} {k:Nat} (t:TypeId) (x y a b:Int) (h:w.heap.size=k):Four (w.alloc (.cells #[O ii x,O ii y,O ii a,O ii b] t)) k x y a b:=by subst h;exact Four.new w t x y a b
theorem zF8 {w:World} {e:TypeId} {k n:Nat} {v:Value} {xs:List Value} (h:w.ownsRow 0 e k v n xs) {j:Nat} (hj:v.ownBlock=some j):∃cur,w.heap[j]? = some (.cells cur e):=by
 rcases h.2 with ⟨e,_⟩|⟨g,cap,cur,e,hb,hg,r⟩
 ·rw [e] at hj;simp [Value.ownBlock] at hj
 ·rw [e] at hj;simp [Value.ownBlock] at hj;subst hj;exact ⟨cur,hg⟩
section
variable {w0 w w':World} {k p:Nat} {c s ix iy iw ih:Int} {gv cv:Value} {b:Nat} {lf:Value} {G:List Nat} {C:List Int} {hv:Value} {n:Int} {S:List It}
theorem Sch.cells (h:Sch w0 w k p c s ix iy iw ih gv cv b lf G C hv n S) {j:Nat} (hj:Own gv cv b hv j):∃cs t,w.heap[j]? = some (.cells cs t):=by
 obtain ⟨l,hl,hp⟩:=h.hs.row;rcases hj with e|e|e|e
 ·obtain ⟨cur,hc⟩:=zF8 h.gr e;exact ⟨_,_,hc⟩
 ·obtain ⟨cur,hc⟩:=zF8 h.ct e;exact ⟨_,_,hc⟩
 ·subst e;exact ⟨_,_,hp⟩
 ·obtain ⟨cur,hc⟩:=zF8 hl e;exact ⟨_,_,hc⟩
theorem Sch.own_lt (h:Sch w0 w k p c s ix iy iw ih gv cv b lf G C hv n S) {j:Nat} (hj:Own gv cv b hv j):j<w.heap.size:=by
 obtain ⟨cs,t,hc⟩:=h.cells hj;exact (gE.1 hc).1
theorem Sch.own_ge (h:Sch w0 w k p c s ix iy iw ih gv cv b lf G C hv n S) {j:Nat} (hj:Own gv cv b hv j):w0.heap.size<=j:=by
 rcases hj with e|e|e|e
 ·exact h.gn j e
 ·exact h.cn j e
 ·subst e;exact h.bn
 ·exact h.hn j e
theorem Sch.past {Sx:Nat->Prop} (h:Sch w0 w k p c s ix iy iw ih gv cv b lf G C hv n S) (T:Turns Sx w w') (h0:∀j,Sx j->w0.heap.size<=j) (hk:∀j,Sx j->∀cs t,w.heap[j]?≠some (.cells cs t)):Sch w0 w' k p c s ix iy iw ih gv cv b lf G C hv n S:=by
 obtain ⟨l,hl,hp⟩:=h.hs.row;have ne:∀j,Own gv cv b hv j->¬Sx j:=fun j e q=>by obtain ⟨cs,t,hc⟩:=h.cells e;exact hk j q cs t hc
 exact ⟨h.bel.trans (T.below h0 h.bel.size),h.sr.kept T (fun q=>hk k q _ _ h.sr),h.gr.kept T (fun j e=>ne j (.inl e)),h.ct.kept T (fun j e=>ne j (.inr (.inl e))),h.hs.kept T (ne b (.inr (.inr (.inl rfl)))) (fun j e=>ne j (.inr (.inr (.inr e)))),h.kn,h.bn,h.gn,h.cn,h.hn⟩
theorem Sch.own_from (h:Sch w0 w k p c s ix iy iw ih gv cv b lf G C hv n S) {B:Nat} {row:Option Nat} (hB:w0.heap.size<=B) (hg:w.grownBy w' row) (hr:∀r,row=some r->B<=r/\∃o:Obj,w.heap[r]? = some o/\o.isCells=false):Sch w0 w' k p c s ix iy iw ih gv cv b lf G C hv n S:=by
 refine h.past (Sx:=fun j=>row=some j) (Turns.of_grown hg (fun j e=>e)) (fun j e=>Nat.le_trans hB (hr j e).1) (fun j e cs t q=>?_);obtain ⟨-,o,ho,hn⟩:=hr j e;rw [q] at ho;cases ho;cases hn
theorem Sch.keeps (h:Sch w0 w k p c s ix iy iw ih gv cv b lf G C hv n S) (T:Turns (Own gv cv b hv) w w') (B:Nat):KeepsFrom B w w':=
 ⟨T.size,fun j o _ hj ho=>T.same (fun e=>by obtain ⟨cs,t,hc⟩:=h.cells e;rw [hj] at hc;cases hc;cases ho) hj⟩
end
abbrev AS:=List Int×Int×List It
def zH9 (ix iy iw:Int) (L:Int->Int->Int) (a:AS) (x y cost:Int):AS:=
 if (a.1[ij ix iy iw x y]?).getD 0≠-1/\(a.1[ij ix iy iw x y]?).getD 0<=cost then a else (a.1.set (ij ix iy iw x y) cost,a.2.1+1,⟨x,y,cost,cost+L x y,a.2.1⟩ :: a.2.2)
theorem zOv (ix iy iw:Int) (L:Int->Int->Int) (a:AS) (x y cost:Int):(zH9 ix iy iw L a x y cost).1.length=a.1.length:=by
 unfold zH9;split
 ·rfl
 ·simp
theorem zQ9 (ix iy iw:Int) (L:Int->Int->Int) (a:AS) (x y cost:Int):a.2.1<=(zH9 ix iy iw L a x y cost).2.1/\(zH9 ix iy iw L a x y cost).2.1<=a.2.1+1/\(zH9 ix iy iw L a x y cost).2.2.length<=a.2.2.length+1:=by
 unfold zH9;split
 ·simp;omega
 ·simp;omega
def goF (stp:Nat->Bool) (ix iy iw:Int) (L:Int->Int->Int) (x y cost:Int) (a:AS) (t:Fin 8):AS:=if stp t.val=true then zH9 ix iy iw L a (x+dX t.val) (y+dY t.val) (cost+co (t.val:Int)) else a
def zBj (stp:Nat->Bool) (ix iy iw:Int) (L:Int->Int->Int) (x y cost:Int) (a:AS) (l:List (Fin 8)):AS:=l.foldl (goF stp ix iy iw L x y cost) a
theorem zIr (stp:Nat->Bool) (ix iy iw:Int) (L:Int->Int->Int) (x y cost:Int) (a:AS) (l:List (Fin 8)) (t:Fin 8):zBj stp ix iy iw L x y cost a (l++[t])=goF stp ix iy iw L x y cost (zBj stp ix iy iw L x y cost a l) t:=by simp [zBj]
theorem zYk (stp:Nat->Bool) (ix iy iw:Int) (L:Int->Int->Int) (x y cost:Int) (a:AS) (t:Fin 8):(goF stp ix iy iw L x y cost a t).1.length=a.1.length/\a.2.1<=(goF stp ix iy iw L x y cost a t).2.1/\(goF stp ix iy iw L x y cost a t).2.1<=a.2.1+1/\(goF stp ix iy iw L x y cost a t).2.2.length<=a.2.2.length+1:=by
 unfold goF;split
 ·exact ⟨zOv _ _ _ _ _ _ _ _,zQ9 _ _ _ _ _ _ _ _⟩
 ·simp;omega
theorem zEt (stp:Nat->Bool) (ix iy iw:Int) (L:Int->Int->Int) (x y cost:Int):∀(l:List (Fin 8)) (a:AS),(zBj stp ix iy iw L x y cost a l).1.length=a.1.length/\a.2.1<=(zBj stp ix iy iw L x y cost a l).2.1/\(zBj stp ix iy iw L x y cost a l).2.1<=a.2.1+((l.length:Nat):Int)/\(zBj stp ix iy iw L x y cost a l).2.2.length<=a.2.2.length+l.length
 | [],a=>by simp [zBj]
 |t::l,a=>by
  have h1:=zYk stp ix iy iw L x y cost a t;have h2:=zEt stp ix iy iw L x y cost l (goF stp ix iy iw L x y cost a t);have e:zBj stp ix iy iw L x y cost a (t::l)=zBj stp ix iy iw L x y cost (goF stp ix iy iw L x y cost a t) l:=rfl;rw [e,List.length_cons]
  push_cast
  omega
theorem zEa (x y p q c d:Int) (w:World):Calls pg 118 #[cel x y,rct p q c d] w fun e w'=>e = .returned (.func (.func 149) #[] #[ptr w.heap.size,ptr (w.heap.size+1)])/\w'=(w.alloc (.cells #[O ii x,O ii y] 23)).alloc (.cells #[O ii p,O ii q,O ii c,O ii d] 65):=by
 go_enter func118,ntmps118;go_wp2_with fail;go_ret;exact ⟨rfl,rfl⟩
end
end Go.Proofs.YtejjcenhjpjefaaGreatDoor
