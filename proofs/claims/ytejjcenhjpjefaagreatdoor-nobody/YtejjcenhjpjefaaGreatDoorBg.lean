import Derived.Test.YtejjcenhjpjefaaGreatDoorSm
import Derived.Laws.MathBits
import Derived.Laws.CopyRow
import Derived.Deep.OwnRows
import Derived.Test.YtejjcenhjpjefaaGreatDoorNr
set_option linter.all false
set_option maxRecDepth 1000000
set_option maxHeartbeats 64000000
open Go.Proofs.Tryz
open Go.Proofs.Tryz renaming prog->pg
open Array renaming getElem?_eq_some_iff->gE
open And renaming intro->ai
open Go.Value renaming int->O
open Go.IntKind renaming i64->ii
namespace Go.Proofs.YtejjcenhjpjefaaGreatDoor
open Go.RowKit Go.Shelf
attribute [local go_sem] Oper.semAt_some
theorem zOl (n:Int) (hn:0<=n/\n<=16384) (w:World):Calls pg 143 #[.int .u64 1,.int .u64 n] w fun e w'=>e = .returned (.tuple #[.int .u64 0,.int .u64 n])/\w'=w:=by
 have h1:bits .and .u64 1 4294967295=1:=by rw [and_low32 1 (by omega) (by omega)];omega
 have h2:bits .and .u64 n 4294967295=n:=by rw [and_low32 n (by omega) (by omega)];omega
 have h0:bits .and .u64 0 4294967295=0:=by rw [and_low32 0 (by omega) (by omega)];omega
 have hd:n/4294967296=0:=by omega
 have hw:IntKind.u64.wrap n=n:=by rw [IntKind.wrap_u64];omega
 have hw0:IntKind.u64.wrap 0=0:=by decide
 go_enter func143,ntmps143;go_wp2_with (first|rw [h1]|rw [h2]|rw [h0]|rw [hd]|fail);refine bodyPost_ret (v:=.tuple #[.int .u64 0,.int .u64 n]) ?_ rfl ⟨rfl,rfl⟩;simp [results,Tryz.f143,go_sem,h1,h2,h0,hd,hw,hw0]
theorem zUm (n:Int) (hn:0<=n/\n<=16384) (w:World):Calls pg 112 #[.int .u64 1,.int .u64 n] w fun e w'=>e = .returned (.tuple #[.int .u64 0,.int .u64 n])/\w'=w:=by
 have H:=zAb (zOl n hn w);go_enter func112,ntmps112;go_wp2_with fail;refine H.out.mono ?_;rintro e w' ⟨rfl,rfl⟩;go_wp2_with fail;refine bodyPost_ret (v:=.tuple #[.int .u64 0,.int .u64 n]) ?_ rfl ⟨rfl,rfl⟩;simp [results,Tryz.f112,go_sem]
theorem zJa (z:Value) (n:Nat):madeCells #[z] n=Array.replicate n z:=by
 simp only [madeCells];refine Array.ext (by simp) (fun i h1 h2=>?_);simp [Nat.mod_one]
theorem zYc:(pg.info? 3).map (fun i=>(i.zero,i.size,i.bytes))=some (some (O ii 0),1,8):=by kernel_rfl
theorem zOy (n:Nat) (hn:n<=16384) (w:World):(Instr.makeSlice 113 (O ii (n:Nat)) (O ii (n:Nat))).run pg w = .ok (.slice (some ⟨w.heap.size,0,none⟩) n n) (w.alloc (.cells (Array.replicate n (O ii 0)) 3)):=by
 have:=run_make_row' (P:=pg) 113 3 (O ii 0) 8 Tryz.underlying113 zYc rfl .i64 .i64 n (by omega) (by omega) w;rw [zJa] at this;exact this
def zGd (z:Int) (n i:Nat):List Value:=List.replicate i (O ii z)++List.replicate (n-i) (O ii 0)
theorem zNz {P:Program} {ev:Operand->Value} {o:Oper} {w w':World} {s x:Operand} {t:TypeId} {v xv v':Value} (ho:o.op = .call { callee:=.builtin .copy,args:=#[s,x],argTypes:=#[t,t] })
 (hs:ev s=v) (hx:ev x=xv) (hr:(Builtin.copy_ #[t,t] o.type #[v,xv]).run P w = .ok v' w'):(execOp ev o).run P w = .ok (.value v') w':=by
 simp [execOp,ho,resolve,invoke,builtin,hs,hx,hr,Result.andThen]
theorem zUd {z:Int} {i:Nat}:∀v∈List.replicate i (Value.int .i64 z),v.oneCell'=true:=fun v hv=>by
 rw [List.eq_of_mem_replicate hv];rfl
theorem zLg (w:World) (B:Nat) (z:Int) (n i m:Nat) (a:Addr) (c1 c2 sl:Nat) (ty:TypeId) (hg:w.heap[B]? = some (.cells (zGd z n i).toArray 3)) (hm:m=Nat.min sl (n-i)) (hi:i<=n) (hsrc:∀j,j<m->w.cell? (a.add j)=some (O ii z)) :
 ∃w',(Builtin.copy_ #[113,113] ty #[.slice (some ⟨B,i,none⟩) (n-i) c1,.slice (some a) sl c2]).run pg w = .ok (O ii (m:Nat)) w'/\w'.heap[B]? = some (.cells (zGd z n (i+m)).toArray 3)/\∀N w0,Below N w0 w->N<=B->Below N w0 w':=by
 have hmn:m<=n-i:=by rw [hm];exact Nat.min_le_right _ _
 have:=run_copy_row (P:=pg) w 113 113 ty 3 B i (n-i) c1 a sl c2 (zGd z n i).toArray 3 (List.replicate m (O ii z)) Tryz.underlying113 (by kernel_rfl) hg (by simp [hm]) (fun j v hv=>by
  obtain ⟨h1,h2⟩:=List.getElem?_eq_some_iff.1 hv;simp at h1 h2;rw [<-h2]
  exact hsrc j h1) (by simp [zGd];omega) zUd
 refine ⟨_,this.trans (by rw [List.length_replicate];rfl),?_,fun N w0 hb hN=>?_⟩
 ·have e1:(List.replicate i (Value.int .i64 z)++List.replicate (n-i) (Value.int .i64 0)).take i=List.replicate i (Value.int .i64 z):=by
   rw [List.take_append_of_le_length (by simp)];simp
  have e2:(List.replicate i (Value.int .i64 z)++List.replicate (n-i) (Value.int .i64 0)).drop (i+m)=List.replicate (n-(i+m)) (Value.int .i64 0):=by
   rw [List.drop_append];simp;omega
  have e3:List.take i (zGd z n i).toArray.toList++List.replicate m (Value.int .i64 z)++List.drop (i+m) (zGd z n i).toArray.toList=zGd z n (i+m):=by
   show List.take i (zGd z n i)++_++List.drop (i+m) (zGd z n i)=_;unfold zGd;rw [e1,e2,List.replicate_append_replicate]
  rw [e3];exact setRow_heap w B _ _ 3 _ hg
 ·exact hb.trans ⟨rfl,rfl,rfl,by simp [World.setRow],fun k hk=>setRow_other w B k _ (by omega)⟩
theorem zI3 (g:Nat) (z:Int) (n:Nat) (hn:0<n/\n<=16384) (w:World) (hc:w.cell? ⟨g,0,none⟩=some (O ii z)) (hg:g<w.heap.size) :
 Calls pg 82 #[.slice (some ⟨g,0,none⟩) 1 1,O ii (n:Nat)] w fun e w'=>e = .returned (.slice (some ⟨w.heap.size,0,none⟩) n n)/\w'.heap[w.heap.size]? = some (.cells (zGd z n n).toArray 3)/\Below w.heap.size w w':=by
 have hmk:=zOy n hn.2;have HM:=zAb (zUm (n:Nat) (by omega) w);have B0:Below w.heap.size w (w.alloc (.cells (Array.replicate n (O ii 0)) 3)):=zAh _ _
 have R0:(w.alloc (.cells (Array.replicate n (Value.int .i64 0)) 3)).heap[w.heap.size]? = some (.cells (zGd z n 0).toArray 3):=by
  rw [heap_alloc_new];simp [zGd]
 obtain ⟨W1,r1,R1,K1⟩:=zLg (w.alloc (.cells (Array.replicate n (O ii 0)) 3)) w.heap.size z n 0 1 ⟨g,0,none⟩ n 1 1 3 R0 (by show 1=min 1 n;omega) (by omega) (fun j hj=>by
  obtain rfl:j=0:=by omega
  rw [Addr.add_lit]
  exact cell_later B0 hc)
 have B1:=K1 _ _ B0 (Nat.le_refl _);have HR1:=zAb (show (Builtin.copy_ #[113,113] 3 #[.slice (some ⟨w.heap.size,0,none⟩) n n,.slice (some ⟨g,0,none⟩) 1 1]).run pg (w.alloc (.cells (Array.replicate n (O ii 0)) 3)) = .ok (O ii (1:Nat)) W1 from r1);have HS:=zAb (ai R1 B1);clear r1 R0 K1 B0 R1 B1;go_enter func82,ntmps82;go_wp2_with fail;refine HM.out.mono ?_;rintro e w' ⟨rfl,rfl⟩;have hnp:¬((n:Nat):Int)<0:=by omega
 go_wp2_with (rw [HR1.out]);obtain ⟨B,hB⟩:=ex (w'.heap.size);rw [hB] at HS ⊢;have HB:=zAb hB;clear hmk hB HR1 HM hc hg;go_loopw [8] (fun v wr=>∃i:Nat,v = O ii (i:Nat)/\(1<=i/\i<=n)/\wr.heap[B]? = some (.cells (zGd z n i).toArray 3)/\Below B w' wr) (fun v _=>n-(intOf v).toNat)
 case atStart=>exact ⟨1,rfl,by omega,HS.out.1,HS.out.2⟩
 case round =>
  clear HS;obtain ⟨i,rfl,⟨hi1,hi2⟩,hR,hb⟩:=hrel
  by_cases hlt:i<n
  ·obtain ⟨m,hm⟩:=ex (Nat.min i (n-i));have hmm:m=min i (n-i):=hm.symm
   obtain ⟨W2,r2,R2,K2⟩:=zLg wr.drew B z n i m ⟨B,0,none⟩ (n-i) n i 3 hR hm.symm hi2 (fun j hj=>by
    rw [Addr.add_lit,Nat.zero_add];have hj2:j<i:=by omega
    have hR':wr.drew.heap[B]? = some (.cells (zGd z n i).toArray 3):=hR;rw [cell_of_row _ B j _ _ _ hR']
    simp [zGd,List.getElem?_append,hj2])
   have HA:=zAb r2;have HE:=zAb (ai R2 (K2 _ _ hb.drew (Nat.le_refl _)));have hil:((i:Nat):Int)<(n:Nat):=by omega
   have hile:((i:Nat):Int)<=(n:Nat):=by omega
   have hwr:IntKind.i64.wrap (((i:Nat):Int)+((m:Nat):Int))=((i:Nat):Int)+((m:Nat):Int):=IntWalk.i64_in _ (by omega);have hne:¬n=i:=by omega
   have Hm:=zAb hmm;clear hR hb r2 R2 K2 hm hmm;go_wp2_with fail;refine zAj ?_;refine zAe (fun _=>True) [] (by kernel_rfl) ?_;refine zv 0 7 8 [O ii (i:Nat),.slice (some ⟨B,0,none⟩) n n,O ii (i:Nat),.slice (some ⟨B,i,none⟩) (n-i) (n-i),.slice (some ⟨B,0,none⟩) n n,O ii (i:Nat),.slice (some ⟨B,0,none⟩) i n] rfl rfl (by kernel_rfl) trivial ?_;repeat (refine zc rfl (by rfl) (fun wx hx=>by go_simp) ?_;simp only [zp])
   refine zn ?_;refine zq 7 (by kernel_rfl) rfl rfl (zNz (by rfl) (by rfl) (by rfl) HA.out) (fun _=>trivial) ?_;try simp only [zp]
   refine zv 8 2 8 [O ii (((i:Nat):Int)+((m:Nat):Int)),O ii (((i:Nat):Int)+((m:Nat):Int))] rfl rfl (by kernel_rfl) trivial ?_;repeat (refine zc rfl (by rfl) (fun wx hx=>by go_simp) ?_;simp only [zp])
   refine zn ?_;refine zAd (by kernel_rfl) ?_ _;dsimp only [zAv,Exit.then];go_wp2_with fail;go_roundw
   case rel=>exact ⟨i+m,by push_cast;rfl,by have:=Hm.out;omega,HE.out.1,HE.out.2⟩
   case measure=>have:=Hm.out;simp [intOf];omega
  ·obtain rfl:i=n:=by omega
   have hki:¬((i:Nat):Int)<(i:Nat):=by omega
   have HE:=zAb (ai hR hb);clear hR hb;go_wp2_with fail;go_ret;rw [HB.out];exact ⟨rfl,HE.out⟩
attribute [local go_sem] Oper.semAt_some
theorem qBm (n:Nat) (hn:n<=16384) (w:World):∃w',(Instr.makeSlice 57 (O ii (n:Nat)) (O ii (n:Nat))).run pg w = .ok (.slice (some ⟨w.heap.size,0,none⟩) n n) w'/\w'.heap[w.heap.size]? = some (.cells (Array.replicate n (.int .u8 0)) 5)/\Below w.heap.size w w':=by
 have:=run_make_row' (P:=pg) 57 5 (.int .u8 0) 1 Tryz.underlying57 zYb rfl .i64 .i64 n (by omega) (by omega) w;rw [zJa] at this;exact ⟨_,this,heap_alloc_new _ _,zAh _ _⟩
theorem zEe {P:Program} {ev:Operand->Value} {o:Oper} {w w':World} {t:TypeId} {x y:Operand} {n:Nat} {v:Value} (ho:o.op = .makeSlice t x y) (hx:ev x = O ii (n:Nat)) (hy:ev y = O ii (n:Nat)) (hr:(Instr.makeSlice t (O ii (n:Nat)) (O ii (n:Nat))).run P w = .ok v w'):(execOp ev o).run P w = .ok (.value v) w':=by
 simp [execOp,ho,hx,hy,hr,Result.andThen]
theorem zFo {ev:Operand->Value} {o:Oper} {w:World} (ho:o.op = .buildSlice 113 1 #[(0,.const (.int .i64 (-1)))]) (hx:ev (.const (.int .i64 (-1))) = .int .i64 (-1)):(execOp ev o).run pg w = .ok (.value (.slice (some ⟨w.heap.size,0,none⟩) 1 1)) (w.alloc (.cells #[.int .i64 (-1)] 3)):=by
 unfold execOp;rw [ho];go_simp
theorem zEg {ev:Operand->Value} {o:Oper} {w:World} {x:Operand} {p b:Nat} {c s ix iy iw ih:Int} {ga ca:Option Addr} {gl gc cl cc:Nat} {F:Fn} {fr:Array Value} {bd:Array Value} (ho:o.op = .box 116 x) (hx:ev x = .agg #[ptr p,O ii c,O ii s,O ii ix,O ii iy,O ii iw,O ii ih,.slice ga gl gc,.slice ca cl cc,ptr b,.func F fr bd]) :
 (execOp ev o).run pg w = .ok (.value (ptr w.heap.size)) (w.alloc (.cells #[ptr p,O ii c,O ii s,O ii ix,O ii iy,O ii iw,O ii ih,.slice ga gl gc,.slice ca cl cc,ptr b,.func F fr bd] 116)):=by
 unfold execOp;rw [ho];simp only [hx];go_simp
theorem zEx:Rcl 82:=zl fun _ _=>by go_simp
theorem zDv:Rcl 83:=zl fun _ _=>by go_simp
theorem zH5 (z:Int) (n:Nat):zGd z n n=(List.replicate n z).map (fun n=>Value.int .i64 n):=by simp [zGd,List.map_replicate]
theorem zTu {w0 w:World} {k p b gb cb N:Nat} {c s ix iy iw ih:Int} {lf:Value} (hb:Below w0.heap.size w0 w) (hN:N<=16384) (h1:Sr w k p c s ix iy iw ih (.slice (some ⟨gb,0,none⟩) N N) (.slice (some ⟨cb,0,none⟩) N N) b lf)
 (h2:w.heap[gb]? = some (.cells (Array.replicate N (.int .u8 0)) 5)) (h3:w.heap[cb]? = some (.cells (zGd (-1) N N).toArray 3)) (h4:w.heap[b]? = some (.cells #[fn31,.slice none 0 0,O ii 0,.bool false] 185))
 (hk:w0.heap.size<=k/\w0.heap.size<=b/\w0.heap.size<=gb/\w0.heap.size<=cb) :
 Sch w0 w k p c s ix iy iw ih (.slice (some ⟨gb,0,none⟩) N N) (.slice (some ⟨cb,0,none⟩) N N) b lf (List.replicate N 0) (List.replicate N (-1)) (.slice none 0 0) 0 [] where
 bel:=hb
 sr:=h1
 gr:=⟨by simp,.inr ⟨gb,N,_,by simp,Nat.zero_le _,h2,by simp,by unfold maxLen;omega,by simp,by simp [List.map_replicate]⟩⟩
 ct:=⟨by simp,.inr ⟨cb,N,_,by simp,Nat.zero_le _,h3,by simp,by unfold maxLen;omega,by simp [zGd],by rw [zH5];simp⟩⟩
 hs:=⟨[],h4,⟨rfl,.inl ⟨rfl,rfl⟩⟩,fun i _ h=>by simp at h,List.Perm.refl _⟩
 kn:=hk.1
 bn:=hk.2.1
 gn:=fun j e=>by simp [Value.ownBlock] at e;omega
 cn:=fun j e=>by simp [Value.ownBlock] at e;omega
 hn:=fun j e=>by simp [Value.ownBlock] at e
def zMd (w0:World) (p:Nat) (c s ix iy iw ih:Int) (lf:Value) (N:Nat) (L:Int->Int->Int) (x y:Int) (w:World) (e:Ending) (w':World):Prop:=
 ∃k gv cv b hv,e = .returned (ptr k)/\Sch w0 w' k p c s ix iy iw ih gv cv b lf (List.replicate N 0) ((List.replicate N (-1)).set (ij ix iy iw x y) 0) hv 1 [⟨x,y,0,L x y,0⟩]/\Below w.heap.size w w'
theorem zMa (w0:World) (p:Nat) (c s ix iy iw ih:Int) (F:Fn) (fr:Array Value) (bd:Array Value) (N:Nat) (L:Int->Int->Int) (x y:Int) (w:World)
 (h0:Below w0.heap.size w0 w) (hlf:Lfo w0 (.func F fr bd) L) (hN:iw*ih=(N:Nat)) (hN2:N<=16384)
 (hx:0<=x-ix/\x-ix<iw) (hy:0<=y-iy/\y-iy<ih) (hi:0<=ix/\0<=iy/\ix+iw<=1048576/\iy+ih<=1048576) (hL:0<=L x y/\L x y<=1099511627776) :
 Calls pg 46 #[ptr p,cel c s,cel x y,rct ix iy iw ih,(.func F fr bd)] w (zMd w0 p c s ix iy iw ih (.func F fr bd) N L x y w):=by
 obtain ⟨X,hX⟩:=ex (((w.alloc (.cells #[O ii c,O ii s] 29)).alloc (.cells #[O ii x,O ii y] 23)).alloc (.cells #[O ii ix,O ii iy,O ii iw,O ii ih] 65));have B0:Below w.heap.size w X:=hX▸bt (zBe _ _ _) (zAh _ _);have F0:Two X w.heap.size c s:=by rw [<-hX];exact ((Two.newAt rfl).alloc).alloc
 have F1:Two X (w.heap.size+1) x y:=by rw [<-hX];exact (Two.newAt (by simp)).alloc
 have F2:Four X (w.heap.size+2) ix iy iw ih:=by rw [<-hX];exact Four.newAt _ _ _ _ _ (by simp)
 have zX:X.heap.size=w.heap.size+3:=by rw [<-hX];simp
 have h0w:=h0.size
 have HK:Hid (∀wx,Below X.heap.size X wx->(fun wx:World=>(wx.cell? ⟨w.heap.size,0,none⟩=some (O ii c)/\wx.cell? ⟨w.heap.size,1,none⟩=some (O ii s))/\wx.cell? ⟨w.heap.size+2,0,none⟩=some (O ii ix)/\wx.cell? ⟨w.heap.size+2,1,none⟩=some (O ii iy)/\wx.cell? ⟨w.heap.size+2,2,none⟩=some (O ii iw)/\wx.cell? ⟨w.heap.size+2,3,none⟩=some (O ii ih)) wx):=zAb fun wx q=>by
  have e0:=F0.kept q;have e2:=F2.kept q;exact ⟨⟨e0.1.1,e0.1.2⟩,e2.1.1,e2.1.2.1,e2.1.2.2.1,e2.1.2.2.2⟩
 have HF1:Hid (∀wx,Below X.heap.size X wx->Two wx (w.heap.size+1) x y/\Below w.heap.size w wx/\Below w0.heap.size w0 wx):=zAb fun wx q=>⟨F1.kept q,bt B0 q,h0.trans ((bt B0 q).mono h0w)⟩
 have hI:=zCr (c:=0) (d:=0) hy.1 hy.2 hx.1 hx.2;have hij:ij ix iy iw x y<N:=by unfold ij;have:ih*iw=iw*ih:=Int.mul_comm _ _;omega
 have hN0:0<N:=by omega
 have Hend:Hid (∀wx k gb cb b,Below X.heap.size X wx->Sr wx k p c s ix iy iw ih (.slice (some ⟨gb,0,none⟩) N N) (.slice (some ⟨cb,0,none⟩) N N) b (.func F fr bd)->wx.heap[gb]? = some (.cells (Array.replicate N (.int .u8 0)) 5)->wx.heap[cb]? = some (.cells (zGd (-1) N N).toArray 3)->wx.heap[b]? = some (.cells #[fn31,.slice none 0 0,O ii 0,.bool false] 185)->
  (w.heap.size<=k/\w.heap.size<=b/\w.heap.size<=gb/\w.heap.size<=cb)->Calls pg 85 #[ptr k,cel x y,O ii 0] wx fun e w'=>e = .returned (.tuple #[])/\zMd w0 p c s ix iy iw ih (.func F fr bd) N L x y w (.returned (ptr k)) w'):=zAb fun wx k gb cb b q s1 s2 s3 s4 s5=>by
  have hS:=zTu (HF1.out wx q).2.2 hN2 s1 s2 s3 s4 (by omega);refine (zOu w0 k p c s ix iy iw ih _ _ b _ _ _ _ 0 [] L x y 0 (-1) wx hS hlf (by rw [List.getElem?_replicate,if_pos hij]) hx hy hi (by omega) (by omega) (by simp)).mono ?_;rintro e w' ⟨rfl,C',hv',n',S',a1,a2,a3,a4⟩;refine ⟨rfl,k,.slice (some ⟨gb,0,none⟩) N N,.slice (some ⟨cb,0,none⟩) N N,b,hv',rfl,?_,?_⟩
  ·rcases a2 with ⟨⟨a,-⟩,-⟩|⟨-,rfl,rfl,rfl⟩
   ·exact absurd rfl a
   ·rw [show (0:Int)+L x y=L x y by omega,show (0:Int)+1=1 by omega] at a1;exact a1
  ·refine (HF1.out wx q).2.1.trans (a3.below (fun j e=>?_) (HF1.out wx q).2.1.size);rcases e with e|e|e|e
   ·simp [Value.ownBlock] at e;omega
   ·simp [Value.ownBlock] at e;omega
   ·omega
   ·simp [Value.ownBlock] at e
 have hmul:IntKind.i64.wrap (iw*ih)=(N:Nat):=by rw [hN];exact IntWalk.i64_in _ (by omega)
 have HMk:=zAb (qBm N hN2);have HRp:Hid (∀wx ob,wx.cell? ⟨ob,0,none⟩=some (O ii (-1))->ob<wx.heap.size->Calls pg 82 #[.slice (some ⟨ob,0,none⟩) 1 1,O ii (N:Nat)] wx fun e w'=>e = .returned (.slice (some ⟨wx.heap.size,0,none⟩) N N)/\w'.heap[wx.heap.size]? = some (.cells (zGd (-1) N N).toArray 3)/\Below wx.heap.size wx w'):=zAb fun wx ob q1 q2=>zI3 ob (-1) N ⟨hN0,hN2⟩ wx q1 q2;have HX:=zAb hX;have HS:(fun wx:World=>(wx.cell? ⟨w.heap.size,0,none⟩=some (O ii c)/\wx.cell? ⟨w.heap.size,1,none⟩=some (O ii s))/\wx.cell? ⟨w.heap.size+2,0,none⟩=some (O ii ix)/\wx.cell? ⟨w.heap.size+2,1,none⟩=some (O ii iy)/\wx.cell? ⟨w.heap.size+2,2,none⟩=some (O ii iw)/\wx.cell? ⟨w.heap.size+2,3,none⟩=some (O ii ih)) X.drew:=HK.out _ (Below.refl _ _).drew;have Hz:=zAb zX;clear hX B0 F0 F1 F2 zX h0 h0w hlf hN hN2 hx hy hi hL hI hij hN0;go_enter func46,ntmps46;go_wp2_with (rw [HX.out]);refine zAj ?_;refine zAe (fun wx:World=>(wx.cell? ⟨w.heap.size,0,none⟩=some (O ii c)/\wx.cell? ⟨w.heap.size,1,none⟩=some (O ii s))/\wx.cell? ⟨w.heap.size+2,0,none⟩=some (O ii ix)/\wx.cell? ⟨w.heap.size+2,1,none⟩=some (O ii iy)/\wx.cell? ⟨w.heap.size+2,2,none⟩=some (O ii iw)/\wx.cell? ⟨w.heap.size+2,3,none⟩=some (O ii ih)) [] (by kernel_rfl) ?_;refine zv 0 8 8 [ptr p,cel c s,rct ix iy iw ih,.pointer (some ⟨w.heap.size+2,2,none⟩),O ii iw,.pointer (some ⟨w.heap.size+2,3,none⟩),O ii ih,O ii (N:Nat)] rfl rfl (by kernel_rfl) HS ?_;repeat (refine zc rfl (by rfl) (fun wx hx=>by go_simp) ?_;simp only [zp])
 refine zn ?_;refine zv 10 5 8 [.pointer (some ⟨w.heap.size+2,2,none⟩),O ii iw,.pointer (some ⟨w.heap.size+2,3,none⟩),O ii ih,O ii (N:Nat)] rfl rfl (by kernel_rfl) HS ?_;repeat (refine zc rfl (by rfl) (fun wx hx=>by go_simp) ?_;simp only [zp])
 refine zn ?_;refine zt 17 8 ((.func F fr bd)) rfl (by kernel_rfl) (by rfl) (fun wx hx=>by go_simp) HS ?_;try simp only [zp]
 have W0b:Below X.heap.size X X.drew:=(Below.refl _ _).drew;obtain ⟨W0,hW0⟩:=ex (X.drew);rw [hW0] at W0b ⊢;clear hW0 HS;refine zw 8 [9] (by kernel_rfl) ?_;obtain ⟨W1,r8,f8,b8⟩:=HMk.out W0;have W1b:Below X.heap.size X W1:=bt W0b b8;refine readyZ.cons rfl rfl (zEe (by rfl) (by rfl) (by rfl) r8) (fun _=>HK.out _ W1b) ?_ ?_
 ·try simp only [zp]
  have z8:X.heap.size<=W0.heap.size:=W0b.size;obtain ⟨gb,hgb⟩:=ex (W0.heap.size);try rw [hgb]
  rw [hgb] at f8 z8;refine zw 9 [] (by kernel_rfl) ?_;obtain ⟨W2,h9⟩:∃W,W1.alloc (.cells #[O ii (-1)] 3)=W:=⟨_,rfl⟩
  have b9:Below W1.heap.size W1 W2:=h9▸zAh _ _;have W2b:Below X.heap.size X W2:=bt W1b b9;have f9:W2.heap[W1.heap.size]? = some (.cells #[O ii (-1)] 3):=by rw [<-h9];exact heap_alloc_new _ _
  have r9:=@zFo;refine readyZ.cons rfl rfl (h9▸zFo (by rfl) (by rfl)) (fun _=>HK.out _ W2b) ?_ readyZ.nil;try simp only [zp]
  clear h9 r9;obtain ⟨ob,hob⟩:=ex (W1.heap.size);try rw [hob]
  rw [hob] at f9;have f8:=(b9.block _ (gE.1 f8).1).trans f8;refine zw 15 [] (by kernel_rfl) ?_;refine readyZ.call rfl rfl (zEx (by rfl) (by rfl) (by simp only [zj];rfl)) (HRp.out W2 ob (by rw [cell_of_row _ ob 0 _ _ _ f9];rfl) (gE.1 f9).1) ?_ readyZ.nil;rintro e W3 ⟨rfl,f15,b15⟩;have W3b:Below X.heap.size X W3:=bt W2b b15;refine ⟨_,rfl,fun _=>HK.out _ W3b,?_⟩;try simp only [zp]
  have z15:X.heap.size<=W2.heap.size:=W2b.size;obtain ⟨cb,hcb⟩:=ex (W2.heap.size);try rw [hcb]
  rw [hcb] at f15 z15;have f8:=(b15.block _ (gE.1 f8).1).trans f8;have f9:=(b15.block _ (gE.1 f9).1).trans f9;refine zw 16 [] (by kernel_rfl) ?_;refine readyZ.call rfl rfl (zDv (by rfl) (by rfl) (by simp only [zj];rfl)) (hnew_any W3) ?_ readyZ.nil;rintro e W4 ⟨rfl,h16⟩;have b16:Below W3.heap.size W3 W4:=h16▸zAh _ _;have f16:W4.heap[W3.heap.size]? = some (.cells #[fn31,.slice none 0 0,O ii 0,.bool false] 185):=by rw [h16];exact heap_alloc_new _ _
  have W4b:Below X.heap.size X W4:=bt W3b b16;refine ⟨_,rfl,fun _=>HK.out _ W4b,?_⟩;try simp only [zp]
  have z16:X.heap.size<=W3.heap.size:=W3b.size;clear h16;obtain ⟨hb,hhb⟩:=ex (W3.heap.size);try rw [hhb]
  rw [hhb] at f16 z16;have f8:=(b16.block _ (gE.1 f8).1).trans f8;have f9:=(b16.block _ (gE.1 f9).1).trans f9;have f15:=(b16.block _ (gE.1 f15).1).trans f15;refine zt 18 8 (.agg #[ptr p,O ii c,O ii s,O ii ix,O ii iy,O ii iw,O ii ih,.slice (some ⟨gb,0,none⟩) N N,.slice (some ⟨cb,0,none⟩) N N,ptr hb,(.func F fr bd)]) rfl (by kernel_rfl) (by rfl) (fun wx hx=>by go_simp) (HK.out _ W4b) ?_;try simp only [zp]
  obtain ⟨Wk,hWk⟩:∃W,W4.alloc (.cells #[ptr p,O ii c,O ii s,O ii ix,O ii iy,O ii iw,O ii ih,.slice (some ⟨gb,0,none⟩) N N,.slice (some ⟨cb,0,none⟩) N N,ptr hb,(.func F fr bd)] 116)=W:=⟨_,rfl⟩
  have bk:Below W4.heap.size W4 Wk:=hWk▸zAh _ _;have Wkb:Below X.heap.size X Wk:=bt W4b bk;refine zq 19 (by kernel_rfl) rfl rfl (hWk▸zEg (by rfl) (by rfl)) (fun _=>HK.out _ Wkb) ?_;try simp only [zp]
  have zk:=W4b.size;have hz:=Hz.out;have HE:=zAb (Hend.out Wk W4.heap.size gb cb hb Wkb (by rw [<-hWk];exact heap_alloc_new _ _) ((bk.block _ (gE.1 f8).1).trans f8) ((bk.block _ (gE.1 f15).1).trans f15) ((bk.block _ (gE.1 f16).1).trans f16) (by omega));have c1:=(HF1.out Wk Wkb).1;obtain ⟨⟨y0,y1⟩,-,-⟩:=c1;generalize W4.heap.size=kk at HE ⊢;refine zt 20 8 (ptr kk) rfl (by kernel_rfl) (by rfl) (fun wx hx=>by go_simp) (HK.out _ Wkb) ?_;try simp only [zp]
  refine zAd (by kernel_rfl) ?_ _;dsimp only [zAv,Exit.then];clear f8 f15 f16 bk hWk zk hz HK HF1 Hend HMk HRp;go_wp2_with fail;refine HE.out.mono ?_;rintro e w' ⟨rfl,hfin⟩;have Hfin:=zAb hfin;clear hfin;go_wp2_with fail;go_ret;exact Hfin.out
 obtain ⟨W1,h9⟩:∃W,W0.alloc (.cells #[O ii (-1)] 3)=W:=⟨_,rfl⟩
 have b9:Below W0.heap.size W0 W1:=h9▸zAh _ _;have W1b:Below X.heap.size X W1:=bt W0b b9;have f9:W1.heap[W0.heap.size]? = some (.cells #[O ii (-1)] 3):=by rw [<-h9];exact heap_alloc_new _ _
 have r9:=@zFo;refine readyZ.cons rfl rfl (h9▸zFo (by rfl) (by rfl)) (fun _=>HK.out _ W1b) ?_ readyZ.nil;try simp only [zp]
 clear h9 r9;obtain ⟨ob,hob⟩:=ex (W0.heap.size);try rw [hob]
 rw [hob] at f9;refine zw 8 [15] (by kernel_rfl) ?_;obtain ⟨W2,r8,f8,b8⟩:=HMk.out W1;have W2b:Below X.heap.size X W2:=bt W1b b8;refine readyZ.cons rfl rfl (zEe (by rfl) (by rfl) (by rfl) r8) (fun _=>HK.out _ W2b) ?_ ?_
 ·try simp only [zp]
  have z8:X.heap.size<=W1.heap.size:=W1b.size;obtain ⟨gb,hgb⟩:=ex (W1.heap.size);try rw [hgb]
  rw [hgb] at f8 z8;have f9:=(b8.block _ (gE.1 f9).1).trans f9;refine zw 15 [] (by kernel_rfl) ?_;refine readyZ.call rfl rfl (zEx (by rfl) (by rfl) (by simp only [zj];rfl)) (HRp.out W2 ob (by rw [cell_of_row _ ob 0 _ _ _ f9];rfl) (gE.1 f9).1) ?_ readyZ.nil;rintro e W3 ⟨rfl,f15,b15⟩;have W3b:Below X.heap.size X W3:=bt W2b b15;refine ⟨_,rfl,fun _=>HK.out _ W3b,?_⟩;try simp only [zp]
  have z15:X.heap.size<=W2.heap.size:=W2b.size;obtain ⟨cb,hcb⟩:=ex (W2.heap.size);try rw [hcb]
  rw [hcb] at f15 z15;have f9:=(b15.block _ (gE.1 f9).1).trans f9;have f8:=(b15.block _ (gE.1 f8).1).trans f8;refine zw 16 [] (by kernel_rfl) ?_;refine readyZ.call rfl rfl (zDv (by rfl) (by rfl) (by simp only [zj];rfl)) (hnew_any W3) ?_ readyZ.nil;rintro e W4 ⟨rfl,h16⟩;have b16:Below W3.heap.size W3 W4:=h16▸zAh _ _;have f16:W4.heap[W3.heap.size]? = some (.cells #[fn31,.slice none 0 0,O ii 0,.bool false] 185):=by rw [h16];exact heap_alloc_new _ _
  have W4b:Below X.heap.size X W4:=bt W3b b16;refine ⟨_,rfl,fun _=>HK.out _ W4b,?_⟩;try simp only [zp]
  have z16:X.heap.size<=W3.heap.size:=W3b.size;clear h16;obtain ⟨hb,hhb⟩:=ex (W3.heap.size);try rw [hhb]
  rw [hhb] at f16 z16;have f9:=(b16.block _ (gE.1 f9).1).trans f9;have f8:=(b16.block _ (gE.1 f8).1).trans f8;have f15:=(b16.block _ (gE.1 f15).1).trans f15;refine zt 18 8 (.agg #[ptr p,O ii c,O ii s,O ii ix,O ii iy,O ii iw,O ii ih,.slice (some ⟨gb,0,none⟩) N N,.slice (some ⟨cb,0,none⟩) N N,ptr hb,(.func F fr bd)]) rfl (by kernel_rfl) (by rfl) (fun wx hx=>by go_simp) (HK.out _ W4b) ?_;try simp only [zp]
  obtain ⟨Wk,hWk⟩:∃W,W4.alloc (.cells #[ptr p,O ii c,O ii s,O ii ix,O ii iy,O ii iw,O ii ih,.slice (some ⟨gb,0,none⟩) N N,.slice (some ⟨cb,0,none⟩) N N,ptr hb,(.func F fr bd)] 116)=W:=⟨_,rfl⟩
  have bk:Below W4.heap.size W4 Wk:=hWk▸zAh _ _;have Wkb:Below X.heap.size X Wk:=bt W4b bk;refine zq 19 (by kernel_rfl) rfl rfl (hWk▸zEg (by rfl) (by rfl)) (fun _=>HK.out _ Wkb) ?_;try simp only [zp]
  have zk:=W4b.size;have hz:=Hz.out;have HE:=zAb (Hend.out Wk W4.heap.size gb cb hb Wkb (by rw [<-hWk];exact heap_alloc_new _ _) ((bk.block _ (gE.1 f8).1).trans f8) ((bk.block _ (gE.1 f15).1).trans f15) ((bk.block _ (gE.1 f16).1).trans f16) (by omega));have c1:=(HF1.out Wk Wkb).1;obtain ⟨⟨y0,y1⟩,-,-⟩:=c1;generalize W4.heap.size=kk at HE ⊢;refine zt 20 8 (ptr kk) rfl (by kernel_rfl) (by rfl) (fun wx hx=>by go_simp) (HK.out _ Wkb) ?_;try simp only [zp]
  refine zAd (by kernel_rfl) ?_ _;dsimp only [zAv,Exit.then];clear f8 f15 f16 bk hWk zk hz HK HF1 Hend HMk HRp;go_wp2_with fail;refine HE.out.mono ?_;rintro e w' ⟨rfl,hfin⟩;have Hfin:=zAb hfin;clear hfin;go_wp2_with fail;go_ret;exact Hfin.out
 refine readyZ.call rfl rfl (zEx (by rfl) (by rfl) (by simp only [zj];rfl)) (HRp.out W1 ob (by rw [cell_of_row _ ob 0 _ _ _ f9];rfl) (gE.1 f9).1) ?_ readyZ.nil;rintro e W2 ⟨rfl,f15,b15⟩;have W2b:Below X.heap.size X W2:=bt W1b b15;refine ⟨_,rfl,fun _=>HK.out _ W2b,?_⟩;try simp only [zp]
 have z15:X.heap.size<=W1.heap.size:=W1b.size;obtain ⟨cb,hcb⟩:=ex (W1.heap.size);try rw [hcb]
 rw [hcb] at f15 z15;have f9:=(b15.block _ (gE.1 f9).1).trans f9;refine zw 8 [16] (by kernel_rfl) ?_;obtain ⟨W3,r8,f8,b8⟩:=HMk.out W2;have W3b:Below X.heap.size X W3:=bt W2b b8;refine readyZ.cons rfl rfl (zEe (by rfl) (by rfl) (by rfl) r8) (fun _=>HK.out _ W3b) ?_ ?_
 ·try simp only [zp]
  have z8:X.heap.size<=W2.heap.size:=W2b.size;obtain ⟨gb,hgb⟩:=ex (W2.heap.size);try rw [hgb]
  rw [hgb] at f8 z8;have f9:=(b8.block _ (gE.1 f9).1).trans f9;have f15:=(b8.block _ (gE.1 f15).1).trans f15;refine zw 16 [] (by kernel_rfl) ?_;refine readyZ.call rfl rfl (zDv (by rfl) (by rfl) (by simp only [zj];rfl)) (hnew_any W3) ?_ readyZ.nil;rintro e W4 ⟨rfl,h16⟩;have b16:Below W3.heap.size W3 W4:=h16▸zAh _ _;have f16:W4.heap[W3.heap.size]? = some (.cells #[fn31,.slice none 0 0,O ii 0,.bool false] 185):=by rw [h16];exact heap_alloc_new _ _
  have W4b:Below X.heap.size X W4:=bt W3b b16;refine ⟨_,rfl,fun _=>HK.out _ W4b,?_⟩;try simp only [zp]
  have z16:X.heap.size<=W3.heap.size:=W3b.size;clear h16;obtain ⟨hb,hhb⟩:=ex (W3.heap.size);try rw [hhb]
  rw [hhb] at f16 z16;have f9:=(b16.block _ (gE.1 f9).1).trans f9;have f15:=(b16.block _ (gE.1 f15).1).trans f15;have f8:=(b16.block _ (gE.1 f8).1).trans f8;refine zt 18 8 (.agg #[ptr p,O ii c,O ii s,O ii ix,O ii iy,O ii iw,O ii ih,.slice (some ⟨gb,0,none⟩) N N,.slice (some ⟨cb,0,none⟩) N N,ptr hb,(.func F fr bd)]) rfl (by kernel_rfl) (by rfl) (fun wx hx=>by go_simp) (HK.out _ W4b) ?_;try simp only [zp]
  obtain ⟨Wk,hWk⟩:∃W,W4.alloc (.cells #[ptr p,O ii c,O ii s,O ii ix,O ii iy,O ii iw,O ii ih,.slice (some ⟨gb,0,none⟩) N N,.slice (some ⟨cb,0,none⟩) N N,ptr hb,(.func F fr bd)] 116)=W:=⟨_,rfl⟩
  have bk:Below W4.heap.size W4 Wk:=hWk▸zAh _ _;have Wkb:Below X.heap.size X Wk:=bt W4b bk;refine zq 19 (by kernel_rfl) rfl rfl (hWk▸zEg (by rfl) (by rfl)) (fun _=>HK.out _ Wkb) ?_;try simp only [zp]
  have zk:=W4b.size;have hz:=Hz.out;have HE:=zAb (Hend.out Wk W4.heap.size gb cb hb Wkb (by rw [<-hWk];exact heap_alloc_new _ _) ((bk.block _ (gE.1 f8).1).trans f8) ((bk.block _ (gE.1 f15).1).trans f15) ((bk.block _ (gE.1 f16).1).trans f16) (by omega));have c1:=(HF1.out Wk Wkb).1;obtain ⟨⟨y0,y1⟩,-,-⟩:=c1;generalize W4.heap.size=kk at HE ⊢;refine zt 20 8 (ptr kk) rfl (by kernel_rfl) (by rfl) (fun wx hx=>by go_simp) (HK.out _ Wkb) ?_;try simp only [zp]
  refine zAd (by kernel_rfl) ?_ _;dsimp only [zAv,Exit.then];clear f8 f15 f16 bk hWk zk hz HK HF1 Hend HMk HRp;go_wp2_with fail;refine HE.out.mono ?_;rintro e w' ⟨rfl,hfin⟩;have Hfin:=zAb hfin;clear hfin;go_wp2_with fail;go_ret;exact Hfin.out
 refine readyZ.call rfl rfl (zDv (by rfl) (by rfl) (by simp only [zj];rfl)) (hnew_any W2) ?_ readyZ.nil;rintro e W3 ⟨rfl,h16⟩;have b16:Below W2.heap.size W2 W3:=h16▸zAh _ _;have f16:W3.heap[W2.heap.size]? = some (.cells #[fn31,.slice none 0 0,O ii 0,.bool false] 185):=by rw [h16];exact heap_alloc_new _ _
 have W3b:Below X.heap.size X W3:=bt W2b b16;refine ⟨_,rfl,fun _=>HK.out _ W3b,?_⟩;try simp only [zp]
 have z16:X.heap.size<=W2.heap.size:=W2b.size;clear h16;obtain ⟨hb,hhb⟩:=ex (W2.heap.size);try rw [hhb]
 rw [hhb] at f16 z16;have f9:=(b16.block _ (gE.1 f9).1).trans f9;have f15:=(b16.block _ (gE.1 f15).1).trans f15;refine zw 8 [] (by kernel_rfl) ?_;obtain ⟨W4,r8,f8,b8⟩:=HMk.out W3;have W4b:Below X.heap.size X W4:=bt W3b b8;refine readyZ.cons rfl rfl (zEe (by rfl) (by rfl) (by rfl) r8) (fun _=>HK.out _ W4b) ?_ readyZ.nil;try simp only [zp]
 have z8:X.heap.size<=W3.heap.size:=W3b.size;obtain ⟨gb,hgb⟩:=ex (W3.heap.size);try rw [hgb]
 rw [hgb] at f8 z8;have f9:=(b8.block _ (gE.1 f9).1).trans f9;have f15:=(b8.block _ (gE.1 f15).1).trans f15;have f16:=(b8.block _ (gE.1 f16).1).trans f16;refine zt 18 8 (.agg #[ptr p,O ii c,O ii s,O ii ix,O ii iy,O ii iw,O ii ih,.slice (some ⟨gb,0,none⟩) N N,.slice (some ⟨cb,0,none⟩) N N,ptr hb,(.func F fr bd)]) rfl (by kernel_rfl) (by rfl) (fun wx hx=>by go_simp) (HK.out _ W4b) ?_;try simp only [zp]
 obtain ⟨Wk,hWk⟩:∃W,W4.alloc (.cells #[ptr p,O ii c,O ii s,O ii ix,O ii iy,O ii iw,O ii ih,.slice (some ⟨gb,0,none⟩) N N,.slice (some ⟨cb,0,none⟩) N N,ptr hb,(.func F fr bd)] 116)=W:=⟨_,rfl⟩
 have bk:Below W4.heap.size W4 Wk:=hWk▸zAh _ _;have Wkb:Below X.heap.size X Wk:=bt W4b bk;refine zq 19 (by kernel_rfl) rfl rfl (hWk▸zEg (by rfl) (by rfl)) (fun _=>HK.out _ Wkb) ?_;try simp only [zp]
 have zk:=W4b.size;have hz:=Hz.out;have HE:=zAb (Hend.out Wk W4.heap.size gb cb hb Wkb (by rw [<-hWk];exact heap_alloc_new _ _) ((bk.block _ (gE.1 f8).1).trans f8) ((bk.block _ (gE.1 f15).1).trans f15) ((bk.block _ (gE.1 f16).1).trans f16) (by omega));have c1:=(HF1.out Wk Wkb).1;obtain ⟨⟨y0,y1⟩,-,-⟩:=c1;generalize W4.heap.size=kk at HE ⊢;refine zt 20 8 (ptr kk) rfl (by kernel_rfl) (by rfl) (fun wx hx=>by go_simp) (HK.out _ Wkb) ?_;try simp only [zp]
 refine zAd (by kernel_rfl) ?_ _;dsimp only [zAv,Exit.then];clear f8 f15 f16 bk hWk zk hz HK HF1 Hend HMk HRp;go_wp2_with fail;refine HE.out.mono ?_;rintro e w' ⟨rfl,hfin⟩;have Hfin:=zAb hfin;clear hfin;go_wp2_with fail;go_ret;exact Hfin.out
end Go.Proofs.YtejjcenhjpjefaaGreatDoor
