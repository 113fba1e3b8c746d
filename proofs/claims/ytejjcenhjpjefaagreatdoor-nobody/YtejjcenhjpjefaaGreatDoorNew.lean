import Derived.Test.YtejjcenhjpjefaaGreatDoorAtW
set_option linter.all false
set_option maxRecDepth 1000000
set_option maxHeartbeats 64000000
open Go.Proofs.Tryz
open Go.Proofs.Tryz renaming prog->pg
open Array renaming getElem?_eq_some_iff->gE
open Go.Value renaming int->O
open Go.IntKind renaming i64->ii
namespace Go.Proofs.YtejjcenhjpjefaaGreatDoor
open Go.RowKit
def Tls (w:World) (v:Value) (l:List Nat):Prop:=w.ownsRow 0 5 1 v l.length (l.map (fun n=>Value.int .u8 (n:Nat)))
theorem Tls.kept {w w':World} {v:Value} {l:List Nat} {S:Nat->Prop} (h:Tls w v l) (ht:Turns S w w') (hs:∀k,v.ownBlock=some k->¬S k):Tls w' v l:=zA3 h ht hs
theorem Tls.form {w:World} {v:Value} {l:List Nat} (h:Tls w v l) :
 ∃a cap,v = .slice a l.length cap/\l.length<=cap/\cap<=maxLen/\∀i x,l[i]? = some x->∃g,a=some ⟨g,0,none⟩/\g<w.heap.size/\w.cell? ⟨g,i,none⟩=some (.int .u8 (x:Nat)):=by
 rcases h.2 with ⟨e,h0⟩|⟨g,cap,cur,e,hb,hg,hn,hm,hs,ht⟩
 ·exact ⟨none,0,by rw [h0];exact e,by omega,by decide,fun i t hi=>by
   have:=List.eq_nil_of_length_eq_zero h0;subst this;simp at hi⟩
 ·refine ⟨_,cap,e,hn,hm,fun i x hi=>⟨g,rfl,(gE.1 hg).1,?_⟩⟩;have:=h.cells (g:=g) (by rw [e];rfl) i (.int .u8 (x:Nat)) (by simp [hi]);simpa [Addr.add_lit] using this
def TlR (w:World) (v:Value) (l:List Nat):Prop:=
 ∃a cap,v = .slice a l.length cap/\l.length<=cap/\l.length<=maxLen/\(a=none->l.length=0/\cap=0)/\∀i x,l[i]? = some x->∃g o,a=some ⟨g,o,none⟩/\g<w.heap.size/\w.cell? ⟨g,o+i,none⟩=some (.int .u8 (x:Nat))
theorem TlR.kept {w w':World} {v:Value} {l:List Nat} (h:TlR w v l) (hb:Below w.heap.size w w'):TlR w' v l:=by
 obtain ⟨a,cap,e,h1,h2,h3,h4⟩:=h;refine ⟨a,cap,e,h1,h2,h3,fun i x hx=>?_⟩;obtain ⟨g,o,e1,e2,e3⟩:=h4 i x hx;exact ⟨g,o,e1,Nat.lt_of_lt_of_le e2 hb.size,(hb.cell (p:=⟨g,o+i,none⟩) e2).trans e3⟩
theorem Tls.r {w:World} {v:Value} {l:List Nat} (h:Tls w v l):TlR w v l:=by
 have hf:=h.form;obtain ⟨a,cap,e,h1,h2,h3⟩:=hf;refine ⟨a,cap,e,h1,Nat.le_trans h1 h2,fun ha=>?_,fun i x hx=>?_⟩
 ·subst ha;rcases h.2 with ⟨e',h0⟩|⟨g,cap',cur,e',_⟩
  ·rw [e'] at e;injection e with _ _ hc;exact ⟨h0,hc.symm⟩
  ·rw [e'] at e;injection e with h1;cases h1
 ·obtain ⟨g,e1,e2,e3⟩:=h3 i x hx;exact ⟨g,0,e1,e2,by rw [Nat.zero_add];exact e3⟩
def BdAtR (w:World) (a:Option Addr) (i:Nat) (t:Bd):Prop:=
 ∃g o,a=some ⟨g,o,none⟩/\g<w.heap.size/\w.cell? ⟨g,o+i*5,none⟩=some (O ii t.id)/\w.cell? ⟨g,o+i*5+1,none⟩=some (O ii t.x)/\w.cell? ⟨g,o+i*5+2,none⟩=some (O ii t.y)/\w.cell? ⟨g,o+i*5+3,none⟩=some (O ii t.a)/\w.cell? ⟨g,o+i*5+4,none⟩=some (O ii t.b)
theorem BdAtR.kept {w w':World} {a:Option Addr} {i:Nat} {t:Bd} (h:BdAtR w a i t) (hb:Below w.heap.size w w'):BdAtR w' a i t:=by
 obtain ⟨g,o,e1,e2,c0,c1,c2,c3,c4⟩:=h;have hc:=fun o=>hb.cell (p:=⟨g,o,none⟩) e2;exact ⟨g,o,e1,Nat.lt_of_lt_of_le e2 hb.size,(hc _).trans c0,(hc _).trans c1,(hc _).trans c2,(hc _).trans c3,(hc _).trans c4⟩
def BdR (w:World) (v:Value) (l:List Bd):Prop:=
 ∃a cap,v = .slice a l.length cap/\l.length<=cap/\l.length<=maxLen/\(a=none->l.length=0/\cap=0)/\∀i t,l[i]? = some t->BdAtR w a i t
theorem BdR.nil (w:World):BdR w (.slice none 0 0) []:=⟨none,0,rfl,Nat.le_refl _,by decide,fun _=>⟨rfl,rfl⟩,fun i t h=>by simp at h⟩
theorem zYb:(pg.info? 5).map (fun i=>(i.zero,i.size,i.bytes))=some (some (.int .u8 0),1,1):=by kernel_rfl
theorem zXm {l:List Nat}:∀u∈l.map (fun n=>Value.int .u8 (n:Nat)),u.oneCell'=true:=by
 intro u hu;obtain ⟨n,_,rfl⟩:=List.mem_map.1 hu;rfl
def zMc (w:World) (e:TypeId) (k n:Nat) (xs:List Value) (en:Ending) (w':World):Prop:=
 ∃a cap,en = .returned (.slice a n cap)/\w'.ownsRow 0 e k (.slice a n cap) n xs/\Below w.heap.size w w'/\∀b,(Value.slice a n cap).ownBlock=some b->w.heap.size<=b
theorem zM8 {w w1:World} {e:TypeId} {k n:Nat} {xs:List Value} {v':Value} (hown:w1.ownsRow 0 e k v' (0+n) ([]++xs)) (hg:(w.alloc (.cells #[] e)).grownBy w1 (some w.heap.size)) (hloc:v'.ownBlock=some w.heap.size\/v'.ownBlock=some (w.alloc (.cells #[] e)).heap.size):zMc w e k n xs (.returned v') w1:=by
 have hB:Below w.heap.size w w1:=(zAh w _).grown hg (by simp) (fun j e=>by cases e;exact Nat.le_refl _);rw [Nat.zero_add,List.nil_append] at hown;rcases hown.2 with ⟨rfl,rfl⟩|⟨g,cap,cur,rfl,r⟩
 ·exact ⟨none,0,rfl,hown,hB,fun b h=>by simp [Value.ownBlock] at h⟩
 ·refine ⟨_,_,rfl,hown,hB,fun b h=>?_⟩;rcases hloc with h'|h'
  ·rw [h'] at h;simp at h;omega
  ·rw [h'] at h;simp at h;omega
theorem qAv (a:Addr) (n c:Nat) (w:World):(binOp .eql 57 (.slice (some a) n c) (.slice none 0 0)).run pg w = .ok (.bool false) w:=by kernel_rfl
theorem zYs (w:World):(binOp .eql 57 (.slice none 0 0) (.slice none 0 0)).run pg w = .ok (.bool true) w:=by kernel_rfl
theorem zVx (l:List Nat) (v:Value) (w:World) (hv:TlR w v l) (hl:l.length<=16384) :
 Calls pg 33 #[v] w (zMc w 5 1 l.length (l.map (fun n=>Value.int .u8 (n:Nat)))):=by
 obtain ⟨fi,hf,hz,h1,h2⟩:=info_parts zYb;have q1:=qAv;have q2:=zYs;obtain ⟨a,cap,rfl,hn,hm,ha,hat⟩:=hv
 cases a with
 |none =>
  obtain ⟨h0,rfl⟩:=ha rfl
  have hE:zMc w 5 1 l.length (l.map (fun n=>Value.int .u8 (n:Nat))) (.returned (.slice none 0 0)) w:=by
   obtain rfl:=List.eq_nil_of_length_eq_zero h0;exact ⟨none,0,rfl,World.ownsRow_nil _ _ _ _,Below.refl _ _,fun b h=>by simp [Value.ownBlock] at h⟩
  rw [h0] at hE ⊢;have HE:=zAb hE;clear hE h0 ha hat hn hm;go_enter func33,ntmps33;go_wp2_with fail;go_ret;exact HE.out
 |some ad =>
  have hcells:∀j u,(l.map (fun n=>Value.int .u8 (n:Nat)))[j]? = some u->(w.alloc (.cells #[] 5)).cell? (ad.add j)=some u:=fun j u hu=>by
   rw [List.getElem?_map] at hu
   cases hx:l[j]? with
   |none=>rw [hx] at hu;cases hu
   |some x =>
    rw [hx] at hu;cases hu;obtain ⟨g,o,e1,e2,e3⟩:=hat j x hx;cases e1;rw [Addr.add_lit];exact ((zAh w _).cell (p:=⟨g,o+j,none⟩) e2).trans e3
  have hm1:0+l.length<=maxLen:=by unfold maxLen;omega
  have hm2:(0+l.length)*1<=140737488355328:=by omega
  have hbase:(w.alloc (.cells #[] 5)).ownsRow 0 5 1 (.slice (some ⟨w.heap.size,0,none⟩) 0 0) 0 []:=World.ownsRow_made w #[] 0 (Nat.zero_le _) (by decide) rfl;have HB:=zAb hbase;have HC:=zAb hcells;obtain ⟨n,hnn⟩:∃n,n=l.length:=⟨_,rfl⟩
  have hln:(l.map (fun n=>Value.int .u8 (n:Nat))).length=l.length*1:=by simp
  clear hbase hcells ha hat hn hm;go_enter func33,ntmps33;go_wp2_with (at_builtin;refine wpList_append_own_at _ rfl _ _ 57 rfl 0 5 fi (.int .u8 0) 1 1 Tryz.underlying57 hf hz h1 h2 rfl (by decide) (.slice (some ⟨w.heap.size,0,none⟩) 0 0) 0 [] rfl HB.out ad l.length cap (l.map (fun n=>Value.int .u8 (n:Nat))) rfl hln HC.out zXm hm1 hm2 (Nat.zero_le _) ?_;intro v' w1 hown' hgrow hnil hloc;have HE:=zAb (zM8 hown' hgrow hloc);clear hown' hgrow hnil hloc);go_ret;exact HE.out
def mx (l:List Nat):Nat:=l.foldl max 0
theorem zUl (l:List Nat) (x:Nat):mx (l++[x])=max (mx l) x:=by simp [mx]
theorem zXx {l:List Nat} {k:Nat} (hk:0<k):mx l<k↔∀x∈l,x<k:=by
 suffices h:∀(l:List Nat) (a:Nat),l.foldl max a<k↔a<k/\∀x∈l,x<k by
  unfold mx;rw [h];exact ⟨fun h=>h.2,fun h=>⟨hk,h⟩⟩
 intro l
 induction l with
 |nil=>intro a;simp
 |cons x r ih=>intro a;rw [List.foldl_cons,ih,Nat.max_lt];simp only [List.mem_cons,forall_eq_or_imp];exact and_assoc
theorem zXy {l:List Nat} (h:∀x∈l,x<256):mx l<256:=(zXx (by omega)).2 h
theorem zUy (l:List Nat) (v:Value) (w:World) (hv:TlR w v l) (hl:l.length<=16384) (hp:0<l.length) (hb:∀x∈l,x<256) :
 Calls pg 68 #[v] w fun e w'=>e = .returned (.int .u8 (mx l:Nat))/\w'=w:=by
 obtain ⟨a,cap,rfl,hcap,hmax,-,hat⟩:=hv;obtain ⟨x0,hx0⟩:∃x,l[0]? = some x:=⟨_,List.getElem?_eq_getElem hp⟩
 obtain ⟨g,o,rfl,hg,c0⟩:=hat 0 x0 hx0;rw [Nat.add_zero] at c0;have hlen:(0:Int)<(l.length:Nat)/\((l.length:Nat):Int)<=16384:=by omega
 have hone:mx (l.take 1)=x0:=by
  cases l with
  |nil=>simp at hp
  |cons y r=>simp at hx0;subst hx0;simp [mx]
 have hx256:x0<256:=hb x0 (List.mem_of_getElem? hx0);go_enter func68,ntmps68;go_wp2_with fail;go_loopw [3,4] (fun p q wr=>∃k:Nat,1<=k/\k<=l.length/\q = O ii k/\p = .int .u8 (mx (l.take k):Nat)/\wr=w) (fun p q _=>l.length-(intOf q).toNat)
 case atStart=>exact ⟨1,Nat.le_refl _,hp,rfl,by rw [hone],rfl⟩
 case round =>
  obtain ⟨k,hk1,hk2,rfl,rfl,rfl⟩:=hrel
  by_cases hlt:k<l.length
  ·obtain ⟨x,hx⟩:∃x,l[k]? = some x:=⟨_,List.getElem?_eq_getElem hlt⟩
   obtain ⟨g',o',hge,_,ck⟩:=hat k x hx;have hgg:g'=g/\o'=o:=by injection hge with h;injection h with h h';exact ⟨h.symm,h'.symm⟩
   obtain ⟨rfl,rfl⟩:=hgg;have hm:=zXy (l:=l.take k) (fun y hy=>hb y (List.mem_of_mem_take hy));have hx2:=hb x (List.mem_of_getElem? hx)
   have hstep:mx (l.take (k+1))=max (mx (l.take k)) x:=by
    rw [List.take_add_one,hx];exact zUl _ _
   have Hs:=zAb hstep;obtain ⟨m,hmm⟩:=ex (mx (l.take k));rw [hmm] at hm Hs ⊢;clear hstep hat hmm hx hb hge;have hki:(k:Int)<(l.length:Nat):=by omega
   by_cases hc:m<x
   ·have hc':(m:Int)<(x:Int):=by omega
    go_wp2_with fail;go_roundw
    case rel=>exact ⟨k+1,by omega,by omega,by go_num,by rw [Hs.out,Nat.max_eq_right (by omega)],trivial⟩
    case measure=>simp [intOf];omega
   ·have hc':¬(m:Int)<(x:Int):=by omega
    go_wp2_with fail;go_roundw
    case rel=>exact ⟨k+1,by omega,by omega,by go_num,by rw [Hs.out,Nat.max_eq_left (by omega)],trivial⟩
    case measure=>simp [intOf];omega
  ·have hke:k=l.length:=by omega
   subst hke;rw [List.take_length];go_wp2_with fail;go_ret;exact ⟨rfl,rfl⟩
def mt (W H:Int) (l:List Nat):Bool:=gs W 128&&(gs H 128&&(decide ((l.length:Int)=W*H)&&l.all (fun x=>decide (x<4))))
theorem qA0 {W H:Int} (h1:gs W 128=true) (h2:gs H 128=true):1<=W*H/\W*H<=16384:=by
 simp only [gs,decide_eq_true_iff] at h1 h2;refine ⟨?_,?_⟩
 ·have:=Int.mul_le_mul h1.1 h2.1 (by omega) (by omega);omega
 ·have:=Int.mul_le_mul h1.2 h2.2 (by omega) (by omega);omega
theorem zXz (l:List Nat):decide (((mx l:Nat):Int)<4)=l.all (fun x=>decide (x<4)):=by
 rw [Bool.eq_iff_iff,decide_eq_true_iff,List.all_eq_true];have:=zXx (l:=l) (show 0<4 by omega);simp only [decide_eq_true_iff];rw [<-this];omega
abbrev mp (W H:Int) (tv bv:Value):Value:=.agg #[O ii W,O ii H,tv,bv]
theorem zI8 (W H:Int) (tv:Value) (b2:Option Addr) (n2 c2:Nat) (l:List Nat) (w:World) (hv:TlR w tv l) (hb:∀x∈l,x<256) :
 Calls pg 32 #[mp W H tv (.slice b2 n2 c2)] w fun e w'=>e = .returned (.bool (mt W H l))/\Below w.heap.size w w':=by
 have hv':=hv;obtain ⟨a,cap,rfl,hcap,hmax,-,-⟩:=hv'
 have hl63:(0:Int)<=(l.length:Nat)/\((l.length:Nat):Int)<=9223372036854775807:=by
  have:l.length<=9223372036854775807:=hmax;omega
 cases h1:gs W 128
 ·have hm:mt W H l=false:=by simp [mt,h1]
  rw [hm];clear hm hv;go_enter func32,ntmps32;go_wp2_with (go_at_call 67;refine (zB0 _ _ _).mono ?_;rintro e w' ⟨rfl,rfl⟩);go_ret;exact ⟨rfl,zAh _ _⟩
 ·cases h2:gs H 128
  ·have hm:mt W H l=false:=by simp [mt,h2]
   rw [hm];clear hm hv;go_enter func32,ntmps32;go_wp2_with (go_at_call 67;refine (zB0 _ _ _).mono ?_;rintro e w' ⟨rfl,rfl⟩);go_ret;exact ⟨rfl,zAh _ _⟩
  ·have hA:=qA0 h1 h2;have hw:IntKind.i64.wrap (W*H)=W*H:=by rw [IntKind.wrap_i64];omega
   by_cases h3:(l.length:Int)=W*H
   ·have hm:mt W H l=l.all (fun x=>decide (x<4)):=by simp [mt,h1,h2,h3]
    have hbq:(((l.length:Nat):Int) != W*H)=false:=by simp [h3]
    have T0:=zAh w (.cells #[O ii W,O ii H,.slice a l.length cap,.slice b2 n2 c2] 60);have HX:=zAb (zUy l _ _ (hv.kept T0) (by omega) (by omega) hb);rw [hm,<-zXz l];have hmx:=zXy hb;obtain ⟨m,hmm⟩:=ex (mx l);rw [hmm] at HX hmx ⊢;have H3:=zAb h3;clear hm hv hmm h3 hA T0 hb;go_enter func32,ntmps32;go_wp2_with (first|(go_at_call 67;refine (zB0 _ _ _).mono ?_;rintro e w' ⟨rfl,rfl⟩)|(go_at_call 68;refine HX.out.mono ?_;rintro e w' ⟨rfl,rfl⟩));go_ret;exact ⟨rfl,zAh _ _⟩
   ·have hm:mt W H l=false:=by simp [mt,h3]
    have hbq:(((l.length:Nat):Int) != W*H)=true:=by simp [h3]
    rw [hm];clear hm hv hA;go_enter func32,ntmps32;go_wp2_with (go_at_call 67;refine (zB0 _ _ _).mono ?_;rintro e w' ⟨rfl,rfl⟩);go_ret;exact ⟨rfl,zAh _ _⟩
def zWj (w1:World) (W H:Int) (tl:List Nat) (p bm:Nat) (tv:Value) (w':World):Prop:=
 Wd w' p W H tv (.slice none 0 0) bm (.slice none 0 0)/\Tls w' tv tl/\Who w' bm 0 (fun _ _=>none)/\Below w1.heap.size w1 w'/\w1.heap.size<=p/\w1.heap.size<=bm/\∀b,tv.ownBlock=some b->w1.heap.size<=b
theorem zPi {w1 w2:World} {W H:Int} {tl:List Nat} {tv:Value} (ho:Tls w2 tv tl) (hb:Below w1.heap.size w1 w2) (hf:∀b,tv.ownBlock=some b->w1.heap.size<=b) :
 zWj w1 W H tl (w2.heap.size+1) w2.heap.size tv ((w2.alloc (.map #[] 0)).alloc (.cells #[O ii 0,O ii 0,O ii W,O ii H,tv,.slice none 0 0,.map (some w2.heap.size),.slice none 0 0] 93)):=by
 have TB:Turns NoB (w2.alloc (.map #[] 0)) ((w2.alloc (.map #[] 0)).alloc (.cells #[O ii 0,O ii 0,O ii W,O ii H,tv,.slice none 0 0,.map (some w2.heap.size),.slice none 0 0] 93)):=Turns.of_below (zAh _ _);have TA:Turns NoB w2 (w2.alloc (.map #[] 0)):=Turns.of_below (zAh _ _);have hz:=hb.size;refine ⟨?_,(ho.kept TA (fun _ _=>id)).kept TB (fun _ _=>id),(Who.made w2).kept TB id,bt hb (zBe _ _ _),by omega,hz,hf⟩;have:=heap_alloc_new (w2.alloc (.map #[] 0)) (.cells #[O ii 0,O ii 0,O ii W,O ii H,tv,.slice none 0 0,.map (some w2.heap.size),.slice none 0 0] 93);simpa [Wd] using this
theorem zPh {w1 w2:World} {W H:Int} {tl:List Nat} {tv:Value} (ho:Tls w2 tv tl) (hb:Below (w1.alloc (.map #[] 0)).heap.size (w1.alloc (.map #[] 0)) w2) (hf:∀b,tv.ownBlock=some b->w1.heap.size<=b) :
 zWj w1 W H tl w2.heap.size w1.heap.size tv (w2.alloc (.cells #[O ii 0,O ii 0,O ii W,O ii H,tv,.slice none 0 0,.map (some w1.heap.size),.slice none 0 0] 93)):=by
 have TB:Turns NoB w2 (w2.alloc (.cells #[O ii 0,O ii 0,O ii W,O ii H,tv,.slice none 0 0,.map (some w1.heap.size),.slice none 0 0] 93)):=Turns.of_below (zAh _ _);have TA:Turns NoB (w1.alloc (.map #[] 0)) w2:=Turns.of_below hb;have hz:=hb.size;simp at hz;exact ⟨heap_alloc_new w2 _,ho.kept TB (fun _ _=>id),((Who.made w1).kept TA id).kept TB id,bt (bt (zAh _ _) hb) (zAh _ _),by omega,Nat.le_refl _,hf⟩
theorem zFf {N:Nat} {w w':World} (h:Below N w.drew w'):Below N w w':=⟨h.os,h.tape,h.output,h.size,h.block⟩
def zB9 (l:List Bd):Int->Int->Option Int:=l.foldl (fun f t=>zDg f (zFg t.x t.y t.a t.b) t.id) (fun _ _=>none)
theorem zNf (l:List Bd) (t:Bd):zB9 (l++[t])=zDg (zB9 l) (zFg t.x t.y t.a t.b) t.id:=by simp [zB9]
def zGl (l:List Bd):Int:=(l.getLast?.map Bd.id).getD 0
theorem zGk (l:List Bd) (t:Bd):zGl (l++[t])=t.id:=by simp [zGl]
def okL (W H:Int):List Bd->List Bd->Bool
 |_,[]=>true
 |done,t::r=>decide (zGl done<t.id)&&(decide (zM7 W H (zB9 done) done t=0)&&okL W H (done++[t]) r)
def okM (W H:Int) (tl:List Nat) (L:List Bd):Bool:=mt W H tl&&okL W H [] L
theorem zN6:∀{l:List Bd} {i:Int},(∀t∈l,t.id<i)->pos l i=l.length
 | [],_,_=>rfl
 |t::r,i,h=>by
  have h1:=h t (by simp);have:=zN6 (l:=r) (i:=i) (fun s hs=>h s (by simp [hs]));unfold pos at this ⊢;rw [List.takeWhile_cons];simp [h1,this]
theorem zU8 {l:List Bd} {t:Bd} (h:∀s∈l,s.id<t.id):ins l t=l++[t]:=by
 unfold ins;rw [zN6 h];simp
theorem zJp {l:List Bd} {t:Bd} (hs:zCn l) (h:∀s∈l,s.id<t.id):zCn (l++[t]):=by
 unfold zCn at hs ⊢;rw [List.pairwise_append];exact ⟨hs,by simp,fun a ha b hb=>by simp at hb;subst hb;exact h a ha⟩
def Made (w:World) (W H:Int) (tl:List Nat) (L:List Bd) (p:Nat) (w':World):Prop:=
 ∃bm tv bv,Wd w' p W H tv bv bm (.slice none 0 0)/\Tls w' tv tl/\Bds w' bv L/\Who w' bm (64*L.length) (zB9 L)/\Below w.heap.size w w'/\
  (w.heap.size<=p/\w.heap.size<=bm/\(∀b,tv.ownBlock=some b->w.heap.size<=b)/\∀b,bv.ownBlock=some b->w.heap.size<=b)
def qA4 (w:World) (W H:Int) (tl:List Nat) (L:List Bd) (p bm:Nat) (tv:Value) (k:Nat) (wr:World):Prop:=
 ∃bv',Wd wr p W H tv bv' bm (.slice none 0 0)/\Tls wr tv tl/\Bds wr bv' (L.take k)/\Who wr bm (64*k) (zB9 (L.take k))/\Below w.heap.size w wr/\(∀b,bv'.ownBlock=some b->w.heap.size<=b)/\
  (okL W H [] L=okL W H (L.take k) (L.drop k))/\zCn (L.take k)/\(∀t∈L.take k,t.id<=zGl (L.take k))/\k<=256
theorem zQ0 (W H:Int) (tv bv:Value) (tl:List Nat) (L:List Bd) (w:World) (hv:TlR w tv tl) (hb:∀x∈tl,x<256) (hl:BdR w bv L) (hm:mt W H tl=true) :
 Calls pg 14 #[mp W H tv bv] w fun e w'=>(okL W H [] L=true/\∃p,e = .returned (.tuple #[ptr p,O ii 0])/\Made w W H tl L p w')\/(okL W H [] L=false/\e = .returned (.tuple #[.pointer none,O ii 1])/\Below w.heap.size w w'):=by
 have hv':=hv;obtain ⟨a1,cap1,rfl,hc1,-,-⟩:=hv';obtain ⟨a2,cap2,rfl,hc2,hmx2,-,hat⟩:=hl
 have hl63:(0:Int)<=(L.length:Nat)/\((L.length:Nat):Int)<=9223372036854775807:=by
  have:L.length<=9223372036854775807:=hmx2;omega
 have hlen:tl.length<=16384:=by
  simp only [mt,Bool.and_eq_true,decide_eq_true_iff] at hm;have:=qA0 hm.1 hm.2.1;have:=hm.2.2.1;omega
 obtain ⟨X,hX⟩:=ex (w.alloc (.cells #[O ii W,O ii H,.slice a1 tl.length cap1,.slice a2 L.length cap2] 60));have B0:Below w.heap.size w X:=by rw [<-hX];exact zAh _ _
 have HBox:X.heap[w.heap.size]? = some (.cells #[O ii W,O ii H,.slice a1 tl.length cap1,.slice a2 L.length cap2] 60 (0,0)):=by rw [<-hX];exact heap_alloc_new w _
 have HM:=zAb (zI8 W H _ a2 L.length cap2 tl X (hv.kept B0) hb);rw [hm] at HM;have hmm:=@run_makeMap pg;have x0:X.cell? ⟨w.heap.size,0,none⟩=some (O ii W):=cell_of_row X w.heap.size 0 _ _ _ HBox;have x1:X.cell? ⟨w.heap.size,1,none⟩=some (O ii H):=cell_of_row X w.heap.size 1 _ _ _ HBox;have x2:X.cell? ⟨w.heap.size,2,none⟩=some (.slice a1 tl.length cap1):=cell_of_row X w.heap.size 2 _ _ _ HBox;have x3:X.cell? ⟨w.heap.size,3,none⟩=some (.slice a2 L.length cap2):=cell_of_row X w.heap.size 3 _ _ _ HBox;go_enter func14,ntmps14;go_wp2_with (go_at_call 32;refine HM.out.mono ?_;rintro e w1 ⟨rfl,hb1⟩);have HB1:Below w.heap.size w w1:=bt B0 hb1;have HBx1:=(hb1.block w.heap.size (gE.1 HBox).1).trans HBox
 have hbxc:∀wx,Below w1.heap.size w1 wx->∀j:Nat,wx.cell? ⟨w.heap.size,j,none⟩=(#[O ii W,O ii H,.slice a1 tl.length cap1,.slice a2 L.length cap2]:Array Value)[j]? := fun wx hx j =>
  cell_of_row wx w.heap.size j _ _ _ ((hx.block w.heap.size (gE.1 HBx1).1).trans HBx1)
 have hS:∀wx,Below w1.heap.size w1 wx->wx.cell? ⟨w.heap.size,0,none⟩=some (O ii W)/\wx.cell? ⟨w.heap.size,1,none⟩=some (O ii H)/\wx.cell? ⟨w.heap.size,2,none⟩=some (.slice a1 tl.length cap1):=fun wx hx=>⟨hbxc wx hx 0,hbxc wx hx 1,hbxc wx hx 2⟩
 have HC:∀wx,Below w1.heap.size w1 wx->Hid (Calls pg 33 #[.slice a1 tl.length cap1] wx (zMc wx 5 1 tl.length (tl.map (fun n=>Value.int .u8 (n:Nat))))):=fun wx hx =>
  zVx tl _ wx ((hv.kept HB1).kept hx) hlen
 clear hX HM x0 x1 x2 x3;refine Code.wp_mono (Q:=zAv (fun a' w'=>∃p bm a3 cap3,a'={ tmps:=#[mp W H (.slice a1 tl.length cap1) (.slice a2 L.length cap2),ptr w.heap.size,.pointer none,O ii 0,ptr p,undef,undef,undef,mp W H (.slice a1 tl.length cap1) (.slice a2 L.length cap2),.bool true,.bool false,ptr w.heap.size,O ii W,.pointer (some ⟨w.heap.size,1,none⟩),O ii H,rct 0 0 W H,.pointer (some ⟨w.heap.size,2,none⟩),.slice a1 tl.length cap1,.slice a3 tl.length cap3,.map (some bm),.agg #[O ii 0,O ii 0,O ii W,O ii H,.slice a3 tl.length cap3,.slice none 0 0,.map (some bm),.slice none 0 0],ptr p,undef,undef,undef,undef,undef,undef,undef,undef,undef,undef,undef,undef,undef,undef,undef,undef,undef,undef,undef,undef,undef,undef,undef,undef],defers:=[] }/\zWj w1 W H tl p bm (.slice a3 tl.length cap3) w')) ?rest ?_
 case rest =>
  rintro (_|_|_|_|_) a' w2 hO;all_goals first|exact hO.elim|skip
  obtain ⟨p,bm,a3,cap3,rfl,hF⟩:=hO;obtain ⟨f1,f2,f3,f4,f5,f6,f7⟩:=hF;have y3:w2.cell? ⟨w.heap.size,3,none⟩=some (.slice a2 L.length cap2):=hbxc w2 f4 3;have hz1:=HB1.size
  have R0:qA4 w W H tl L p bm (.slice a3 tl.length cap3) 0 w2:=
   ⟨.slice none 0 0,f1,f2,World.ownsRow_nil _ _ _ _,by simpa [zB9] using f3,bt HB1 f4,fun b h=>by simp [Value.ownBlock] at h,by simp,by simp [zCn],by simp,by omega⟩
  have hps:w.heap.size<=p/\w.heap.size<=bm/\∀b,(Value.slice a3 tl.length cap3).ownBlock=some b->w.heap.size<=b:=⟨by omega,by omega,fun b h=>Nat.le_trans hz1 (f7 b h)⟩
  have HR0:=zAb R0;clear f1 f2 f3 f4 f5 f6 f7 R0 HC hS hbxc HBx1 HB1 hb1 hv hmm HBox;go_wp2_with fail;go_loopw [5,7,25] (fun s5 s7 s25 wr=>∃k:Nat,k<=L.length/\s25 = O ii k/\s5 = O ii (zGl (L.take k))/\qA4 w W H tl L p bm (.slice a3 tl.length cap3) k wr) (fun s5 s7 s25 _=>L.length-(intOf s25).toNat)
  case atStart=>exact ⟨0,Nat.zero_le _,rfl,rfl,HR0.out⟩
  case round =>
   obtain ⟨k,hk,rfl,rfl,hN⟩:=hrel
   by_cases hlt:k<L.length
   ·obtain ⟨t,ht⟩:∃t,L[k]? = some t:=⟨_,List.getElem?_eq_getElem hlt⟩
    obtain ⟨bv',n1,n2,n3,n4,n5,n6,n7,n8,n9,n10⟩:=hN;obtain ⟨g,o,rfl,hg,c0,c1,c2,c3,c4⟩:=(hat k t ht).kept n5;have hki:(k:Int)<(L.length:Nat):=by omega
    have hdr:L.drop k=t::L.drop (k+1):=by
     rw [List.drop_eq_getElem_cons hlt];have:=(List.getElem?_eq_some_iff.1 ht).2;rw [this]
    have htk:L.take (k+1)=L.take k++[t]:=by rw [List.take_add_one,ht];rfl
    rw [hdr] at n7;have TB:Turns NoB wr (wr.alloc (.cells #[O ii t.id,O ii t.x,O ii t.y,O ii t.a,O ii t.b] 95)):=Turns.of_below (zAh _ _);have FB:Five (wr.alloc (.cells #[O ii t.id,O ii t.x,O ii t.y,O ii t.a,O ii t.b] 95)) wr.heap.size t:=heap_alloc_new wr _;have HBr:Below w.heap.size w (wr.alloc (.cells #[O ii t.id,O ii t.x,O ii t.y,O ii t.a,O ii t.b] 95)):=n5.alloc n5.size _;have m1:=n1.kept TB id;have m2:=n2.kept TB (fun _ _=>id);have m3:=n3.kept TB (fun _ _=>id);have m4:=n4.kept TB id;have hlk:(L.take k).length=k:=by rw [List.length_take];omega
    have HMay:=zAb (zOx p bm (64*k) W H _ bv' _ (zB9 (L.take k)) (L.take k) t _ m1 m4 m3 n8 (by omega));obtain ⟨la,hla⟩:=ex (zGl (L.take k));rw [hla] at n9 ⊢
    by_cases hid:t.id<=la
    ·have hok:okL W H [] L=false:=by
      rw [n7,okL,hla,decide_eq_false (by omega)];rfl
     have HOK:=zAb hok;clear hok n7 n8 n9 n1 n2 n3 n4 m1 m2 m3 m4 hdr htk hla HMay hm hat;go_wp2_with fail;go_ret2
     exact .inr ⟨HOK.out,rfl,HBr⟩
    ·obtain ⟨cd,hcd⟩:=ex (zM7 W H (zB9 (L.take k)) (L.take k) t);rw [hcd] at HMay
     by_cases hc0:cd=0
     ·subst hc0;have HCD:=zAb hcd;obtain ⟨z1,z2,z3,z4⟩:=zPu hcd;have hall:∀s∈L.take k,s.id<t.id:=fun s hs=>by have:=n9 s hs;omega
      have hlc:=zX3 z1
      have HK:=zAb (show ∀w3,Below (wr.alloc (.cells #[O ii t.id,O ii t.x,O ii t.y,O ii t.a,O ii t.b] 95)).heap.size (wr.alloc (.cells #[O ii t.id,O ii t.x,O ii t.y,O ii t.a,O ii t.b] 95)) w3->
       Calls pg 35 #[ptr p,t.v] w3 (fun e w'=>e = .returned (.tuple #[])/\qA4 w W H tl L p bm (.slice a3 tl.length cap3) (k+1) w'/\Five w' wr.heap.size t)/\Five w3 wr.heap.size t from fun w3 hb3=>by
       have T3:Turns NoB (wr.alloc (.cells #[O ii t.id,O ii t.x,O ii t.y,O ii t.a,O ii t.b] 95)) w3:=Turns.of_below hb3;have q1:=m1.kept T3 id;have q2:=m2.kept T3 (fun _ _=>id);have q3:=m3.kept T3 (fun _ _=>id);have q4:=m4.kept T3 id;have q5:=FB.kept T3 id;refine ⟨(zNp p bm (64*k) W H _ bv' _ (zB9 (L.take k)) (L.take k) t w3 q1 q4 q3 n8 (by omega) (zZ2 z1) (by unfold maxLen;omega)).mono ?_,q5⟩;rintro e w4 ⟨rfl,g4,cap4,s1,s2,s3,s4,s5⟩;have hB3:Below w.heap.size w w3:=HBr.trans (hb3.mono HBr.size);have hz3:=hB3.size
       have hB4:Below w.heap.size w w4:=hB3.trans (s4.below (fun j hj=>by
        rcases hj with h|h|h
        ·omega
        ·omega
        ·exact n6 j h) hz3)
       refine ⟨rfl,⟨.slice (some ⟨g4,0,none⟩) ((L.take k).length+1) cap4,s1,q2.kept s4 (fun j e h=>?_),?_,?_,hB4,fun b h=>?_,?_,?_,?_,by omega⟩,q5.kept s4 (fun h=>?_)⟩
       ·rcases h with h|h|h
        ·subst h;exact q1.ne_row q2 (by decide) e
        ·subst h;exact zEy q2 q4 e
        ·exact zC5 q2 q3 (by decide) e h
       ·rw [htk,<-zU8 hall];exact s2
       ·rw [htk,zNf];exact s3.mono (by omega)
       ·simp only [Value.ownBlock,Option.some.injEq] at h;subst h;rcases s5 with h|h
        ·exact n6 _ h
        ·omega
       ·rw [n7,okL,hla,decide_eq_true (by omega),HCD.out,htk];rfl
       ·rw [htk];exact zJp n8 hall
       ·rw [htk,zGk];intro s hs;rcases List.mem_append.1 hs with h|h
        ·have:=hall s h;omega
        ·simp at h;subst h;exact Int.le_refl _
       ·have hw3:wr.heap.size<w3.heap.size:=by have:=hb3.size;simp at this;omega
        rcases h with h|h|h
        ·have:=n1.lt;omega
        ·have:=n4.lt;omega
        ·have:=(n3.lt _ h).2;omega)
      have HL:=zAb (show zGl (L.take (k+1))=t.id by rw [htk,zGk]);clear n7 n8 n9 n1 n2 n3 n4 m1 m2 m3 m4 hdr htk hla hm hat hcd hall z1 z2 z3 z4 FB TB;go_wp2_with (first|(go_at_call 34;refine HMay.out.mono ?_;rintro e w3 ⟨rfl,hb3⟩;obtain ⟨HSt,HF3⟩:=HK.out w3 hb3;have z0:w3.cell? ⟨wr.heap.size,0,none⟩=some (O ii t.id):=HF3.c 0;have z1:w3.cell? ⟨wr.heap.size,1,none⟩=some (O ii t.x):=HF3.c 1;have z2:w3.cell? ⟨wr.heap.size,2,none⟩=some (O ii t.y):=HF3.c 2;have z3:w3.cell? ⟨wr.heap.size,3,none⟩=some (O ii t.a):=HF3.c 3;have z4:w3.cell? ⟨wr.heap.size,4,none⟩=some (O ii t.b):=HF3.c 4)  | (go_at_call 35;refine HSt.mono ?_;clear HSt;rintro e w4 ⟨rfl,HN4,HF4⟩;have z5:w4.cell? ⟨wr.heap.size,0,none⟩=some (O ii t.id):=HF4.c 0));go_roundw
      case rel=>exact ⟨k+1,by omega,by go_num,by rw [HL.out],HN4⟩
      case measure=>simp [intOf];omega
     ·have hok:okL W H [] L=false:=by
       rw [n7,okL,hcd,decide_eq_false hc0];simp
      have HOK:=zAb hok;have hc1:(cd != 0)=true:=by simp [hc0]
      clear hok n7 n8 n9 n1 n2 n3 n4 m1 m2 m3 m4 hdr htk hla hm hat hcd;go_wp2_with (go_at_call 34;refine HMay.out.mono ?_;rintro e w3 ⟨rfl,hb3⟩);go_ret2
      exact .inr ⟨HOK.out,rfl,bt HBr hb3⟩
   ·have hke:k=L.length:=by omega
    subst hke;have HN:=zAb hN;clear hN;go_wp2_with fail;go_ret2
    left;obtain ⟨bv',n1,n2,n3,n4,n5,n6,n7,n8,n9,n10⟩:=HN.out;rw [List.take_length] at n3 n4 n7;rw [List.drop_length] at n7;exact ⟨by rw [n7];rfl,p,rfl,bm,_,bv',n1,n2,n3,n4,n5,hps.1,hps.2.1,hps.2.2,n6⟩
 refine wp_region_held_drew (S:=fun w'=>w'.cell? ⟨w.heap.size,0,none⟩=some (O ii W)/\w'.cell? ⟨w.heap.size,1,none⟩=some (O ii H)/\w'.cell? ⟨w.heap.size,2,none⟩=some (.slice a1 tl.length cap1)) (by kernel_rfl) (hS w1 (Below.refl _ _)) (fun hHeld=>?_);refine wpAnyH_take (i:=0) (v:=?_) rfl (by kernel_rfl) (by kernel_rfl) (by kernel_rfl) (fun _ _ _ h=>h.elim) (Or.inl ⟨by rfl,?_⟩) (by assumption) ?_
 rotate_left
 ·intro wx hSw;try dsimp only at hSw
  go_simp;try with_reducible rfl
 try simp only [Act.put,List.getElem_toArray,List.getElem_cons_zero,List.setIfInBounds_toArray,List.set_cons_zero,List.set_cons_succ]
 refine wpAnyH_take (i:=1) (v:=?_) rfl (by kernel_rfl) (by kernel_rfl) (by kernel_rfl) (fun _ _ _ h=>h.elim) (Or.inl ⟨by rfl,?_⟩) (by assumption) ?_
 rotate_left
 ·intro wx hSw;try dsimp only at hSw
  go_simp;try with_reducible rfl
 try simp only [zp]
 refine wpAnyH_take (i:=2) (v:=?_) rfl (by kernel_rfl) (by kernel_rfl) (by kernel_rfl) (fun _ _ _ h=>h.elim) (Or.inl ⟨by rfl,?_⟩) (by assumption) ?_
 rotate_left
 ·intro wx hSw;try dsimp only at hSw
  go_simp;try with_reducible rfl
 try simp only [zp]
 refine wpAnyH_take (i:=3) (v:=?_) rfl (by kernel_rfl) (by kernel_rfl) (by kernel_rfl) (fun _ _ _ h=>h.elim) (Or.inl ⟨by rfl,?_⟩) (by assumption) ?_
 rotate_left
 ·intro wx hSw;try dsimp only at hSw
  go_simp;try with_reducible rfl
 try simp only [zp]
 refine wpAnyH_take (i:=4) (v:=?_) rfl (by kernel_rfl) (by kernel_rfl) (by kernel_rfl) (fun _ _ _ h=>h.elim) (Or.inl ⟨by rfl,?_⟩) (by assumption) ?_
 rotate_left
 ·intro wx hSw;try dsimp only at hSw
  go_simp;try with_reducible rfl
 try simp only [zp]
 refine wpAnyH_take (i:=5) (v:=?_) rfl (by kernel_rfl) (by kernel_rfl) (by kernel_rfl) (fun _ _ _ h=>h.elim) (Or.inl ⟨by rfl,?_⟩) (by assumption) ?_
 rotate_left
 ·intro wx hSw;try dsimp only at hSw
  go_simp;try with_reducible rfl
 try simp only [zp]
 refine wpAnyH_take (i:=6) (v:=?_) rfl (by kernel_rfl) (by kernel_rfl) (by kernel_rfl) (fun _ _ _ h=>h.elim) (Or.inl ⟨by rfl,?_⟩) (by assumption) ?_
 rotate_left
 ·intro wx hSw;try dsimp only at hSw
  go_simp;try with_reducible rfl
 try simp only [zp]
 refine wpAnyH_ready (rs:=[7,8]) (by kernel_rfl) (by simp) ?_;refine AllReadyH.cons rfl (fun K hK=>?_) ?_
 ·go_simp;refine (HC _ (Below.refl _ _).drew).out.mono ?_;rintro e w2 ⟨a3,cap3,rfl,hown,hb2,hf2⟩;have hBB:Below w1.heap.size w1 w2:=bt (Below.refl _ _).drew hb2;try go_wp2_with fail
  refine hK.out _ _ ?_ (fun hHeld=>?_)
  ·first|exact hS _ (Below.refl _ _)|exact hS _ (zAh _ _)|exact hS _ (zAh _ _).drew|exact hS _ (by assumption)|exact hS _ (bt (by assumption) (zAh _ _))|exact hS _ (zAh _ _)|exact hS _ (bt (bt (by assumption) (zAh _ _)) (zAh _ _))
  clear hK K;try simp only [zp]
  refine wpAnyH_ready (rs:=[8]) (by kernel_rfl) (by simp) ?_;refine AllReadyH.cons rfl (fun K hK=>?_) ?_
  ·go_simp;refine hK.out _ _ ?_ (fun hHeld=>?_)
   ·first|exact hS _ (Below.refl _ _)|exact hS _ (zAh _ _)|exact hS _ (zAh _ _).drew|exact hS _ (by assumption)|exact hS _ (bt (by assumption) (zAh _ _))|exact hS _ (zAh _ _)|exact hS _ (bt (bt (by assumption) (zAh _ _)) (zAh _ _))
   clear hK K;try simp only [zp]
   refine wpAnyH_take (i:=9) (v:=?_) rfl (by kernel_rfl) (by kernel_rfl) (by kernel_rfl) (fun _ _ _ h=>h.elim) (Or.inl ⟨by rfl,?_⟩) (by assumption) ?_
   rotate_left
   ·intro wx hSw;try dsimp only at hSw
    go_simp;try with_reducible rfl
   try simp only [zp]
   refine wpAnyH_ready (rs:=[10]) (by kernel_rfl) (by simp) ?_;refine AllReadyH.cons rfl (fun K hK=>?_) ?_
   ·go_simp;refine hK.out _ _ ?_ (fun hHeld=>?_)
    ·first|exact hS _ (Below.refl _ _)|exact hS _ (zAh _ _)|exact hS _ (zAh _ _).drew|exact hS _ (by assumption)|exact hS _ (bt (by assumption) (zAh _ _))|exact hS _ (zAh _ _)|exact hS _ (bt (bt (by assumption) (zAh _ _)) (zAh _ _))
    clear hK K;try simp only [zp]
    refine wpAnyH_take (i:=11) (v:=?_) rfl (by kernel_rfl) (by kernel_rfl) (by kernel_rfl) (fun _ _ _ h=>h.elim) (Or.inl ⟨by rfl,?_⟩) (by assumption) ?_
    rotate_left
    ·intro wx hSw;try dsimp only at hSw
     go_simp;try with_reducible rfl
    try simp only [zp]
    refine wpAnyH_done (by kernel_rfl) ?_ _;first|exact ⟨_,_,_,_,rfl,zPi hown hBB hf2⟩|exact ⟨_,_,_,_,rfl,zPh hown (zFf hb2) (fun b h=>Nat.le_trans (by simp) (hf2 b h))⟩
   exact AllReadyH.nil
  exact AllReadyH.nil
 refine AllReadyH.cons rfl (fun K hK=>?_) ?_
 ·go_simp;refine hK.out _ _ ?_ (fun hHeld=>?_)
  ·first|exact hS _ (Below.refl _ _)|exact hS _ (zAh _ _)|exact hS _ (zAh _ _).drew|exact hS _ (by assumption)|exact hS _ (bt (by assumption) (zAh _ _))|exact hS _ (zAh _ _)|exact hS _ (bt (bt (by assumption) (zAh _ _)) (zAh _ _))
  clear hK K;try simp only [zp]
  refine wpAnyH_ready (rs:=[7]) (by kernel_rfl) (by simp) ?_;refine AllReadyH.cons rfl (fun K hK=>?_) ?_
  ·go_simp;refine (HC _ (zAh _ _).drew).out.mono ?_;rintro e w2 ⟨a3,cap3,rfl,hown,hb2,hf2⟩;have hBB:Below w1.heap.size w1 w2:=bt (zAh _ _).drew hb2;try go_wp2_with fail
   refine hK.out _ _ ?_ (fun hHeld=>?_)
   ·first|exact hS _ (Below.refl _ _)|exact hS _ (zAh _ _)|exact hS _ (zAh _ _).drew|exact hS _ (by assumption)|exact hS _ (bt (by assumption) (zAh _ _))|exact hS _ (zAh _ _)|exact hS _ (bt (bt (by assumption) (zAh _ _)) (zAh _ _))
   clear hK K;try simp only [zp]
   refine wpAnyH_take (i:=9) (v:=?_) rfl (by kernel_rfl) (by kernel_rfl) (by kernel_rfl) (fun _ _ _ h=>h.elim) (Or.inl ⟨by rfl,?_⟩) (by assumption) ?_
   rotate_left
   ·intro wx hSw;try dsimp only at hSw
    go_simp;try with_reducible rfl
   try simp only [zp]
   refine wpAnyH_ready (rs:=[10]) (by kernel_rfl) (by simp) ?_;refine AllReadyH.cons rfl (fun K hK=>?_) ?_
   ·go_simp;refine hK.out _ _ ?_ (fun hHeld=>?_)
    ·first|exact hS _ (Below.refl _ _)|exact hS _ (zAh _ _)|exact hS _ (zAh _ _).drew|exact hS _ (by assumption)|exact hS _ (bt (by assumption) (zAh _ _))|exact hS _ (zAh _ _)|exact hS _ (bt (bt (by assumption) (zAh _ _)) (zAh _ _))
    clear hK K;try simp only [zp]
    refine wpAnyH_take (i:=11) (v:=?_) rfl (by kernel_rfl) (by kernel_rfl) (by kernel_rfl) (fun _ _ _ h=>h.elim) (Or.inl ⟨by rfl,?_⟩) (by assumption) ?_
    rotate_left
    ·intro wx hSw;try dsimp only at hSw
     go_simp;try with_reducible rfl
    try simp only [zp]
    refine wpAnyH_done (by kernel_rfl) ?_ _;first|exact ⟨_,_,_,_,rfl,zPi hown hBB hf2⟩|exact ⟨_,_,_,_,rfl,zPh hown (zFf hb2) (fun b h=>Nat.le_trans (by simp) (hf2 b h))⟩
   exact AllReadyH.nil
  exact AllReadyH.nil
 exact AllReadyH.nil
end Go.Proofs.YtejjcenhjpjefaaGreatDoor
