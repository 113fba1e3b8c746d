import Derived.Test.YtejjcenhjpjefaaGreatDoorSm
import Derived.Test.YtejjcenhjpjefaaGreatDoorOct
import Derived.Test.YtejjcenhjpjefaaGreatDoorJn
set_option linter.all false
set_option maxRecDepth 1000000
set_option maxHeartbeats 64000000
open Go.Proofs.Tryz
open Go.Proofs.Tryz renaming prog->pg
open Go.Value renaming int->O
open Go.IntKind renaming i64->ii
namespace Go.Proofs.YtejjcenhjpjefaaGreatDoor
open Go.RowKit
theorem zRw (x y fx fy:Int) (j:Nat) (w:World) (h:Two w j fx fy) :
 Calls pg 47 #[cel x y,ptr j] w fun e w'=>e = .returned (O ii (ocN x y fx fy))/\Below w.heap.size w w':=by
 have F:=h.kept (zAh w (.cells #[O ii x,O ii y] 23));obtain ⟨⟨c0,c1⟩,-,-⟩:=F;go_enter func47,ntmps47;go_wp2_with (go_at_call 48;refine (zGg _ _ _ _ _).mono ?_;rintro e w1 ⟨rfl,hb1⟩);go_ret;exact ⟨rfl,bt (zAh _ _) hb1⟩
theorem zU2 (w0:World) (j:Nat) (fx fy:Int) (h:Two w0 j fx fy):Lfo w0 (.func (.func 47) #[] #[ptr j]) (fun x y=>ocN x y fx fy):=fun x y=>by
 refine ⟨47,#[cel x y,ptr j],?_,fun w hb=>zRw x y fx fy j w (h.kept hb)⟩;intro ev o w c ar ts hop hf hvs;unfold execOp;simp only [hop,resolve,hf,hvs];go_simp
section
open Go.Shelf
theorem zD8 (x y:Int):0<=zD3 x y:=by
 unfold zD3 amt
 split<;>split<;>omega
theorem zUf {x y:Int} (hx:-4194304<=x/\x<=4194304) (hy:-4194304<=y/\y<=4194304):zD3 x y<=1099511627776:=by
 unfold zD3 amt
 split<;>split<;>omega
theorem zOg:∀(t:Fin 8) (x y:Int),zD3 x y<=co ((t.val:Nat):Int)+zD3 (x+dX t.val) (y+dY t.val):=by
 intro t x y;have hc:co ((t.val:Nat):Int)=if dX t.val=0\/dY t.val=0 then 10 else 14:=by revert t;decide
 have h1:=zFu t.val;have h2:=zFt t.val;rw [hc];generalize dX t.val=a at *;generalize dY t.val=b at *;unfold zD3 amt
 split<;>split<;>split<;>split<;>split<;>omega
theorem zCy (x y a b:Int):0<=ocN x y a b:=by
 unfold ocN
 split
 ·exact zD8 _ _
 ·omega
theorem zSp (x y a b:Int):ocN x y a b<=1099511627776:=by
 unfold ocN
 split
 ·rename_i h;rw [Bool.and_eq_true,zBq,zBq] at h;exact zUf (by omega) (by omega)
 ·omega
theorem zOh {W H:Int} {tl:List Nat} {f:Int->Int->Option Int} {c s ix iy iw ih fx fy:Int} (hi:0<=ix/\0<=iy/\ix+iw<=1048576/\iy+ih<=1048576) (hf:inB ix iy iw ih (fx,fy)) :
 ∀a b k,zAx W H tl f c s ix iy iw ih a b k->(ocN a.1 a.2 fx fy).toNat<=k+(ocN b.1 b.2 fx fy).toNat:=by
 rintro ⟨x,y⟩ b k ⟨t,h1,h2,rfl,h4⟩;simp only at h1 h4 ⊢;have hin:=h1;rw [inn,Bool.and_eq_true,sB,Bool.and_eq_true,Bool.and_eq_true] at hin;have hb:=zLz h1;have hn1:nrC (x+dX t.val) (y+dY t.val)=true:=by have:=hin.1.2;rwa [Int.toNat_natCast] at this
 have hn2:nrC fx fy=true:=(zBq _ _).2 (by obtain ⟨⟨a1,a2⟩,a3,a4⟩:=hf;simp only at a1 a2 a3 a4;omega);rw [zJ9 hin.1.1.2 hn2,zJ9 hn1 hn2];have:=zOg t (x-fx) (y-fy);rw [show x-fx+dX t.val=x+dX t.val-fx by omega,show y-fy+dY t.val=y+dY t.val-fy by omega] at this;have:=zD8 (x-fx) (y-fy);have:=zD8 (x+dX t.val-fx) (y+dY t.val-fy);omega
theorem zLn (fx fy:Int):ocN fx fy fx fy=0:=by
 unfold ocN
 split
 ·rw [Int.sub_self,Int.sub_self];rfl
 ·rfl
end
section
open Go.Shelf
theorem Wk.left {α:Type} {step:α->α->Nat->Prop} {left:α->Nat} (hcon:∀a b k,step a b k->left a<=k+left b) {a b:α} {n:Nat} (h:Wk step a b n):left a<=n+left b:=by
 induction h using Wk.ind with
 |nil=>omega
 |snoc _ hs ih=>have:=hcon _ _ _ hs;omega
section
variable {W H:Int} {tl:List Nat} {f:Int->Int->Option Int} {c s ix iy iw ih:Int} {L:Int->Int->Int} {sx sy gx gy:Int}
theorem Okk.told (hcon:∀a b k,zAx W H tl f c s ix iy iw ih a b k->(L a.1 a.2).toNat<=k+(L b.1 b.2).toNat) (hL:∀u v,0<=L u v) (hL0:L gx gy=0) (hgo:inB ix iy iw ih (gx,gy)) {i:Nat} {C:List Int} {n:Int} {S R:List It} {tx ty tc tf:Int} {ok:Bool}
 (h:Okk W H tl f c s ix iy iw ih L sx sy i C n S) (hx:Nx ix iy iw C S tx ty tc tf ok R) (he:ok=false\/Stp ix iy iw gx gy C tf) {m:Int} (hm:C[ij ix iy iw gx gy]? = some m) :
 (m = -1/\∀k,¬Wk (zAx W H tl f c s ix iy iw ih) (sx,sy) (gx,gy) k)\/
 (0<=m/\Least (zAx W H tl f c s ix iy iw ih) (sx,sy) (gx,gy) m.toNat/\∃Hq,Sk (zAx W H tl f c s ix iy iw ih) (sx,sy) (tab ix iy iw ih C) Hq/\∀q g,(q,g)∈Hq->m.toNat<g+(L q.1 q.2).toNat):=by
 have htab:=zFy hgo hm;have hmb:=h.tb m (List.mem_of_getElem? hm)
 have hadm:∀q k,Wk (zAx W H tl f c s ix iy iw ih) q (gx,gy) k->(L q.1 q.2).toNat<=k:=fun q k hw=>by
  have:=Wk.left (left:=fun q:Int×Int=>(L q.1 q.2).toNat) hcon hw;simp only [hL0] at this;omega
 obtain ⟨xs,h1,⟨rfl,rfl,h2⟩|⟨rfl,pre,t,rfl,h2,h3,rfl,rfl,rfl,rfl⟩⟩:=hx
 ·have ho:=h.drops h1 h2;have hsk:Sk (zAx W H tl f c s ix iy iw ih) (sx,sy) (tab ix iy iw ih C) []:=ho.sk
  by_cases hm1:m = -1
  ·rw [if_pos hm1] at htab;exact .inl ⟨hm1,hsk.no htab⟩
  ·rw [if_neg hm1] at htab;refine .inr ⟨by omega,?_,[],hsk,fun q g hq=>by cases hq⟩;exact hsk.told (left:=fun q:Int×Int=>(L q.1 q.2).toNat) htab (by simp only [hL0];rfl) hadm (fun q g hq=>by cases hq)
 ·rcases he with he|⟨m',e1,e2,e3⟩
  ·cases he
  rw [hm] at e1;cases e1;rw [if_neg e2] at htab;obtain ⟨R0,d1,d2,d3⟩:=h1.last;have ho:=h.drops d1 h2
  have hH:∀q g,(q,g)∈qu R0->m.toNat<g+(L q.1 q.2).toNat:=fun q g hq=>by
   obtain ⟨u,hu,e⟩:=List.mem_map.1 hq;simp only [Prod.mk.injEq] at e;obtain ⟨rfl,rfl⟩:=e;have f2:=ho.whole u hu;have f3:=d3 u hu
   have f4:t.f<=u.f:=by
    by_cases q:u.f<t.f
    ·rw [(zGj u t).2 (.inl q)] at f3;cases f3
    ·omega
   have:=ho.cst u hu;have:=hL u.x u.y;simp only;omega
  exact .inr ⟨by omega,ho.sk.told (left:=fun q:Int×Int=>(L q.1 q.2).toNat) htab (by simp only [hL0];rfl) hadm hH,qu R0,ho.sk,hH⟩
theorem Okk.begin {N:Nat} (hN:N=(ih*iw).toNat) (hs:inB ix iy iw ih (sx,sy)):Okk W H tl f c s ix iy iw ih L sx sy 0 ((List.replicate N (-1)).set (ij ix iy iw sx sy) 0) 1 [⟨sx,sy,0,L sx sy,0⟩]:=by
 have hemp:tab ix iy iw ih (List.replicate N (-1))=fun _=>none:=by
  funext q
  unfold tab
  split
  ·rename_i hq;rw [List.getElem?_replicate,if_pos (by rw [hN];exact zGy hq)];simp
  ·rfl
 have ht:tab ix iy iw ih ((List.replicate N (-1)).set (ij ix iy iw sx sy) 0)=put (fun _=>none) (sx,sy) 0:=by
  have:=zNl (C:=List.replicate N (-1)) (g:=0) hs (by simp [hN]) (by omega);rw [hemp] at this;exact this
 refine ⟨by simp [hN],fun t ht=>?_,fun t ht=>?_,fun t ht=>?_,fun m hm=>?_,by omega,by simp,?_,[],?_,rfl,fun q hq=>by cases hq⟩
 ·simp at ht;subst ht;exact hs
 ·simp at ht;subst ht;simp
 ·simp at ht;subst ht;simp
 ·rcases List.mem_or_eq_of_mem_set hm with hm|rfl
  ·have:=List.eq_of_mem_replicate hm;subst this;omega
  ·omega
 ·rw [ht];exact Sk.begin _ _
 ·rw [ht];exact Se.begin _ _
end
end
end Go.Proofs.YtejjcenhjpjefaaGreatDoor
