import Derived.Test.YthiafmlgialbnaaGreatDoorAwake
import Derived.Test.YthiafmlgialbnaaGreatDoorSides
import Derived.Test.YthiafmlgialbnaaGreatDoorGSt
import Derived.Test.YthiafmlgialbnaaGreatDoorRowS
import Derived.Test.YthiafmlgialbnaaGreatDoorBord
import Derived.Test.YthiafmlgialbnaaGreatDoorHull
import Derived.Test.YthiafmlgialbnaaGreatDoorZlast
import Derived.Test.YthiafmlgialbnaaGreatDoorHeldIn
set_option linter.all false
set_option maxRecDepth 1000000
set_option maxHeartbeats 64000000
open Go.Proofs.Tryz
open Go.Proofs.Tryz renaming prog->pg
open And renaming intro->ai
open Go.Value renaming int->O
open Go.IntKind renaming i64->ii
namespace Go.Proofs.YthiafmlgialbnaaGreatDoor
open Go.RowKit
theorem zSo (p:Nat) (S:Int->Int->Bool) (c s x y d:Int) (w:World)
 (HT:∀wx,Below w.heap.size w wx->Calls pg 156 #[cel x y,O ii d] wx fun e w'=>e = .returned (.tuple #[cel (sX x y d) (sY x y d),.bool (sB x y d)])/\Below wx.heap.size wx w')
 (HD:∀wx,Below w.heap.size w wx->Calls pg 199 #[cel x y,O ii d] wx fun e w'=>e = .returned (zC3 x y d)/\Below wx.heap.size wx w')
 (HS:∀wx,Below w.heap.size w wx->∀x y,Calls pg 126 #[ptr p,shv c s,cel x y] wx fun e w'=>e = .returned (.bool (S x y))/\Below wx.heap.size wx w') :
 Calls pg 188 #[ptr p,shv c s,cel x y,O ii d] w fun e w'=>e = .returned (.bool (lg S x y d))/\Below w.heap.size w w':=by
 have B2:=zA5 w (.cells #[O ii c,O ii s] 27) (.cells #[O ii x,O ii y] 47);have S0:Two ((w.alloc (.cells #[O ii c,O ii s] 27)).alloc (.cells #[O ii x,O ii y] 47)) w.heap.size c s:=(Two.newAt rfl).alloc;have C0:Two ((w.alloc (.cells #[O ii c,O ii s] 27)).alloc (.cells #[O ii x,O ii y] 47)) (w.heap.size+1) x y:=Two.newAt (by simp);unfold zC3 at HD;unfold lg;obtain ⟨tx,htx⟩:=ex (sX x y d);obtain ⟨ty,hty⟩:=ex (sY x y d);obtain ⟨ax,hax⟩:=ex (siX x y d);obtain ⟨ay,hay⟩:=ex (si0 x y d y);obtain ⟨bx,hbx⟩:=ex (si0 x y d x);obtain ⟨bY,hby⟩:=ex (siY x y d);rw [htx,hty] at HT;rw [hax,hay,hbx,hby] at HD;rw [htx,hty,hax,hay,hbx,hby];clear htx hty hax hay hbx hby;have HS':∀wx (b:Bool) u v,Below w.heap.size w wx->S u v=b->Calls pg 126 #[ptr p,shv c s,cel u v] wx fun e w'=>e = .returned (.bool b)/\Below wx.heap.size wx w':=fun wx b u v hb he=>he▸HS wx hb u v;clear HS;cases g1:sB x y d
 ·rw [g1] at HT;go_enter func188,ntmps188;go_wp2_with fail;refine (HT _ B2).mono ?_;rintro e w1 ⟨rfl,hb1⟩;have HB1:=zAc (bt B2 hb1);have S1:=zAc (S0.kept hb1);have C1:=zAc (C0.kept hb1);clear S0 C0 hb1;have BX:Below w1.heap.size w1 (w1.alloc (.cells #[O ii tx,O ii ty] 47)):=zAk _ _;have T2:Two (w1.alloc (.cells #[O ii tx,O ii ty] 47)) w1.heap.size tx ty:=Two.newAt rfl;obtain ⟨w2,h2⟩:=ex (w1.alloc (.cells #[O ii tx,O ii ty] 47));rw [h2] at BX T2;have S2:=S1.out.kept BX;have C2:=C1.out.kept BX;have HB2:=zAc (bt HB1.out BX);go_wp2_with fail;clear h2;go_ret;exact ⟨zAm (by simp []),HB2.out⟩
 ·rw [g1] at HT;cases g2:S x y
  ·go_enter func188,ntmps188;go_wp2_with fail;refine (HT _ B2).mono ?_;rintro e w1 ⟨rfl,hb1⟩;have HB1:=zAc (bt B2 hb1);have S1:=zAc (S0.kept hb1);have C1:=zAc (C0.kept hb1);clear S0 C0 hb1;have BX:Below w1.heap.size w1 (w1.alloc (.cells #[O ii tx,O ii ty] 47)):=zAk _ _;have T2:Two (w1.alloc (.cells #[O ii tx,O ii ty] 47)) w1.heap.size tx ty:=Two.newAt rfl;obtain ⟨w2,h2⟩:=ex (w1.alloc (.cells #[O ii tx,O ii ty] 47));rw [h2] at BX T2;have S2:=S1.out.kept BX;have C2:=C1.out.kept BX;have HB2:=zAc (bt HB1.out BX);obtain ⟨⟨c0,c1⟩,-,-⟩:=id C2;obtain ⟨⟨s0,s1⟩,-,-⟩:=id S2;go_wp2_with fail;clear h2;refine (HS' _ _ _ _ HB2.out g2).mono ?_;rintro e w3 ⟨rfl,hb3⟩;have HB3:=zAc (bt HB2.out hb3);have S3:=S2.kept hb3;have C3:=C2.kept hb3;have T3:=T2.kept hb3;clear hb3 c0 c1 s0 s1;go_wp2_with fail;go_ret;exact ⟨zAm (by simp []),HB3.out⟩
  ·cases g3:S tx ty
   ·go_enter func188,ntmps188;go_wp2_with fail;refine (HT _ B2).mono ?_;rintro e w1 ⟨rfl,hb1⟩;have HB1:=zAc (bt B2 hb1);have S1:=zAc (S0.kept hb1);have C1:=zAc (C0.kept hb1);clear S0 C0 hb1;have BX:Below w1.heap.size w1 (w1.alloc (.cells #[O ii tx,O ii ty] 47)):=zAk _ _;have T2:Two (w1.alloc (.cells #[O ii tx,O ii ty] 47)) w1.heap.size tx ty:=Two.newAt rfl;obtain ⟨w2,h2⟩:=ex (w1.alloc (.cells #[O ii tx,O ii ty] 47));rw [h2] at BX T2;have S2:=S1.out.kept BX;have C2:=C1.out.kept BX;have HB2:=zAc (bt HB1.out BX);obtain ⟨⟨c0,c1⟩,-,-⟩:=id C2;obtain ⟨⟨s0,s1⟩,-,-⟩:=id S2;go_wp2_with fail;clear h2;refine (HS' _ _ _ _ HB2.out g2).mono ?_;rintro e w3 ⟨rfl,hb3⟩;have HB3:=zAc (bt HB2.out hb3);have S3:=S2.kept hb3;have C3:=C2.kept hb3;have T3:=T2.kept hb3;clear hb3 c0 c1 s0 s1;obtain ⟨⟨t0,t1⟩,-,-⟩:=id T3;obtain ⟨⟨s0,s1⟩,-,-⟩:=id S3;go_wp2_with fail;refine (HS' _ _ _ _ HB3.out g3).mono ?_;rintro e w4 ⟨rfl,hb4⟩;have HB4:=zAc (bt HB3.out hb4);have S4:=S3.kept hb4;have C4:=C3.kept hb4;clear hb4 t0 t1 s0 s1;go_wp2_with fail;go_ret;exact ⟨zAm (by simp []),HB4.out⟩
   ·cases g4:siB x y d
    ·rw [g4] at HD;go_enter func188,ntmps188;go_wp2_with fail;refine (HT _ B2).mono ?_;rintro e w1 ⟨rfl,hb1⟩;have HB1:=zAc (bt B2 hb1);have S1:=zAc (S0.kept hb1);have C1:=zAc (C0.kept hb1);clear S0 C0 hb1;have BX:Below w1.heap.size w1 (w1.alloc (.cells #[O ii tx,O ii ty] 47)):=zAk _ _;have T2:Two (w1.alloc (.cells #[O ii tx,O ii ty] 47)) w1.heap.size tx ty:=Two.newAt rfl;obtain ⟨w2,h2⟩:=ex (w1.alloc (.cells #[O ii tx,O ii ty] 47));rw [h2] at BX T2;have S2:=S1.out.kept BX;have C2:=C1.out.kept BX;have HB2:=zAc (bt HB1.out BX);obtain ⟨⟨c0,c1⟩,-,-⟩:=id C2;obtain ⟨⟨s0,s1⟩,-,-⟩:=id S2;go_wp2_with fail;clear h2;refine (HS' _ _ _ _ HB2.out g2).mono ?_;rintro e w3 ⟨rfl,hb3⟩;have HB3:=zAc (bt HB2.out hb3);have S3:=S2.kept hb3;have C3:=C2.kept hb3;have T3:=T2.kept hb3;clear hb3 c0 c1 s0 s1;obtain ⟨⟨t0,t1⟩,-,-⟩:=id T3;obtain ⟨⟨s0,s1⟩,-,-⟩:=id S3;go_wp2_with fail;refine (HS' _ _ _ _ HB3.out g3).mono ?_;rintro e w4 ⟨rfl,hb4⟩;have HB4:=zAc (bt HB3.out hb4);have S4:=S3.kept hb4;have C4:=C3.kept hb4;clear hb4 t0 t1 s0 s1;obtain ⟨⟨c0,c1⟩,-,-⟩:=id C4;go_wp2_with fail;refine (HD _ HB4.out).mono ?_;rintro e w5 ⟨rfl,hb5⟩;have HB5:=zAc (bt HB4.out hb5);have S5:=S4.kept hb5;clear hb5 c0 c1;have BZ:Below w5.heap.size w5 ((w5.alloc (.cells #[O ii ax,O ii ay] 47)).alloc (.cells #[O ii bx,O ii bY] 47)):=zA5 _ _ _;have TA:Two ((w5.alloc (.cells #[O ii ax,O ii ay] 47)).alloc (.cells #[O ii bx,O ii bY] 47)) w5.heap.size ax ay:=(Two.newAt rfl).alloc;have TB:Two ((w5.alloc (.cells #[O ii ax,O ii ay] 47)).alloc (.cells #[O ii bx,O ii bY] 47)) (w5.heap.size+1) bx bY:=Two.newAt (by simp);obtain ⟨w6,h6⟩:=ex ((w5.alloc (.cells #[O ii ax,O ii ay] 47)).alloc (.cells #[O ii bx,O ii bY] 47));rw [h6] at BZ TA TB;have S6:=S5.kept BZ;have HB6:=zAc (bt HB5.out BZ);go_wp2_with fail;clear h6;go_ret;exact ⟨zAm (by simp []),HB6.out⟩
    ·rw [g4] at HD;cases g5:S ax ay
     ·go_enter func188,ntmps188;go_wp2_with fail;refine (HT _ B2).mono ?_;rintro e w1 ⟨rfl,hb1⟩;have HB1:=zAc (bt B2 hb1);have S1:=zAc (S0.kept hb1);have C1:=zAc (C0.kept hb1);clear S0 C0 hb1;have BX:Below w1.heap.size w1 (w1.alloc (.cells #[O ii tx,O ii ty] 47)):=zAk _ _;have T2:Two (w1.alloc (.cells #[O ii tx,O ii ty] 47)) w1.heap.size tx ty:=Two.newAt rfl;obtain ⟨w2,h2⟩:=ex (w1.alloc (.cells #[O ii tx,O ii ty] 47));rw [h2] at BX T2;have S2:=S1.out.kept BX;have C2:=C1.out.kept BX;have HB2:=zAc (bt HB1.out BX);obtain ⟨⟨c0,c1⟩,-,-⟩:=id C2;obtain ⟨⟨s0,s1⟩,-,-⟩:=id S2;go_wp2_with fail;clear h2;refine (HS' _ _ _ _ HB2.out g2).mono ?_;rintro e w3 ⟨rfl,hb3⟩;have HB3:=zAc (bt HB2.out hb3);have S3:=S2.kept hb3;have C3:=C2.kept hb3;have T3:=T2.kept hb3;clear hb3 c0 c1 s0 s1;obtain ⟨⟨t0,t1⟩,-,-⟩:=id T3;obtain ⟨⟨s0,s1⟩,-,-⟩:=id S3;go_wp2_with fail;refine (HS' _ _ _ _ HB3.out g3).mono ?_;rintro e w4 ⟨rfl,hb4⟩;have HB4:=zAc (bt HB3.out hb4);have S4:=S3.kept hb4;have C4:=C3.kept hb4;clear hb4 t0 t1 s0 s1;obtain ⟨⟨c0,c1⟩,-,-⟩:=id C4;go_wp2_with fail;refine (HD _ HB4.out).mono ?_;rintro e w5 ⟨rfl,hb5⟩;have HB5:=zAc (bt HB4.out hb5);have S5:=S4.kept hb5;clear hb5 c0 c1;have BZ:Below w5.heap.size w5 ((w5.alloc (.cells #[O ii ax,O ii ay] 47)).alloc (.cells #[O ii bx,O ii bY] 47)):=zA5 _ _ _;have TA:Two ((w5.alloc (.cells #[O ii ax,O ii ay] 47)).alloc (.cells #[O ii bx,O ii bY] 47)) w5.heap.size ax ay:=(Two.newAt rfl).alloc;have TB:Two ((w5.alloc (.cells #[O ii ax,O ii ay] 47)).alloc (.cells #[O ii bx,O ii bY] 47)) (w5.heap.size+1) bx bY:=Two.newAt (by simp);obtain ⟨w6,h6⟩:=ex ((w5.alloc (.cells #[O ii ax,O ii ay] 47)).alloc (.cells #[O ii bx,O ii bY] 47));rw [h6] at BZ TA TB;have S6:=S5.kept BZ;have HB6:=zAc (bt HB5.out BZ);obtain ⟨⟨a0,a1⟩,-,-⟩:=id TA;obtain ⟨⟨s0,s1⟩,-,-⟩:=id S6;go_wp2_with fail;clear h6;refine (HS' _ _ _ _ HB6.out g5).mono ?_;rintro e w7 ⟨rfl,hb7⟩;have HB7:=zAc (bt HB6.out hb7);have S7:=S6.kept hb7;have TB7:=TB.kept hb7;clear hb7 a0 a1 s0 s1;go_wp2_with fail;go_ret;exact ⟨zAm (by simp []),HB7.out⟩
     ·go_enter func188,ntmps188;go_wp2_with fail;refine (HT _ B2).mono ?_;rintro e w1 ⟨rfl,hb1⟩;have HB1:=zAc (bt B2 hb1);have S1:=zAc (S0.kept hb1);have C1:=zAc (C0.kept hb1);clear S0 C0 hb1;have BX:Below w1.heap.size w1 (w1.alloc (.cells #[O ii tx,O ii ty] 47)):=zAk _ _;have T2:Two (w1.alloc (.cells #[O ii tx,O ii ty] 47)) w1.heap.size tx ty:=Two.newAt rfl;obtain ⟨w2,h2⟩:=ex (w1.alloc (.cells #[O ii tx,O ii ty] 47));rw [h2] at BX T2;have S2:=S1.out.kept BX;have C2:=C1.out.kept BX;have HB2:=zAc (bt HB1.out BX);obtain ⟨⟨c0,c1⟩,-,-⟩:=id C2;obtain ⟨⟨s0,s1⟩,-,-⟩:=id S2;go_wp2_with fail;clear h2;refine (HS' _ _ _ _ HB2.out g2).mono ?_;rintro e w3 ⟨rfl,hb3⟩;have HB3:=zAc (bt HB2.out hb3);have S3:=S2.kept hb3;have C3:=C2.kept hb3;have T3:=T2.kept hb3;clear hb3 c0 c1 s0 s1;obtain ⟨⟨t0,t1⟩,-,-⟩:=id T3;obtain ⟨⟨s0,s1⟩,-,-⟩:=id S3;go_wp2_with fail;refine (HS' _ _ _ _ HB3.out g3).mono ?_;rintro e w4 ⟨rfl,hb4⟩;have HB4:=zAc (bt HB3.out hb4);have S4:=S3.kept hb4;have C4:=C3.kept hb4;clear hb4 t0 t1 s0 s1;obtain ⟨⟨c0,c1⟩,-,-⟩:=id C4;go_wp2_with fail;refine (HD _ HB4.out).mono ?_;rintro e w5 ⟨rfl,hb5⟩;have HB5:=zAc (bt HB4.out hb5);have S5:=S4.kept hb5;clear hb5 c0 c1;have BZ:Below w5.heap.size w5 ((w5.alloc (.cells #[O ii ax,O ii ay] 47)).alloc (.cells #[O ii bx,O ii bY] 47)):=zA5 _ _ _;have TA:Two ((w5.alloc (.cells #[O ii ax,O ii ay] 47)).alloc (.cells #[O ii bx,O ii bY] 47)) w5.heap.size ax ay:=(Two.newAt rfl).alloc;have TB:Two ((w5.alloc (.cells #[O ii ax,O ii ay] 47)).alloc (.cells #[O ii bx,O ii bY] 47)) (w5.heap.size+1) bx bY:=Two.newAt (by simp);obtain ⟨w6,h6⟩:=ex ((w5.alloc (.cells #[O ii ax,O ii ay] 47)).alloc (.cells #[O ii bx,O ii bY] 47));rw [h6] at BZ TA TB;have S6:=S5.kept BZ;have HB6:=zAc (bt HB5.out BZ);obtain ⟨⟨a0,a1⟩,-,-⟩:=id TA;obtain ⟨⟨s0,s1⟩,-,-⟩:=id S6;go_wp2_with fail;clear h6;refine (HS' _ _ _ _ HB6.out g5).mono ?_;rintro e w7 ⟨rfl,hb7⟩;have HB7:=zAc (bt HB6.out hb7);have S7:=S6.kept hb7;have TB7:=TB.kept hb7;clear hb7 a0 a1 s0 s1;obtain ⟨⟨b0,b1⟩,-,-⟩:=id TB7;obtain ⟨⟨s0,s1⟩,-,-⟩:=id S7;go_wp2_with fail;refine (HS' _ _ _ _ HB7.out rfl).mono ?_;rintro e w8 ⟨rfl,hb8⟩;have HB8:=zAc (bt HB7.out hb8);clear hb8 b0 b1 s0 s1;go_wp2_with fail;go_ret;exact ⟨zAm (by simp []),HB8.out⟩
theorem zRo {w:World} {p:Nat} {W H:Int} {tl:List Nat} {f:Int->Int->Option Int} (c s x y d:Int) (hw:Wl w p W H tl f) (hg:Grnd w) (ho:Offs w) :
 Calls pg 188 #[ptr p,shv c s,cel x y,O ii d] w fun e w'=>e = .returned (.bool (lg (stB W H tl f c s) x y d))/\Below w.heap.size w w':=
 zSo p (stB W H tl f c s) c s x y d w (fun wx hb=>zCc x y d wx (ho.kept hb)) (fun wx hb=>zJy x y d wx (ho.kept hb)) (fun wx hb u v=>zE7 p W H tl f c s u v wx (hw.kept hb) (hg.kept hb))
section
open Go.Shelf
def clx (d X:Int) (i:Nat):Int:=if d=0 then X else X+i
def cly (d Y:Int) (i:Nat):Int:=if d=0 then Y+i else Y
def rrq (d X Y:Int) (r:Nat×Nat):Q4:=if d=0 then ⟨X,Y+(r.1:Nat),1,(r.2:Nat)⟩ else ⟨X+(r.1:Nat),Y,(r.2:Nat),1⟩
def opB (S:Int->Int->Bool) (d X Y:Int) (i:Nat):Bool:=lg S (clx d X i) (cly d Y i) d
def BdOk (d X Y A B:Int) (n:Nat):Prop:=may X Y A B=true->((d=0/\A=1/\B=(n:Nat))\/(d=1/\A=(n:Nat)/\B=1))/\(1<=n/\n<=8)/\(0<=X/\X<=1000)/\0<=Y/\Y<=1000
theorem BdOk.cells {d X Y A B:Int} {n:Nat} (h:BdOk d X Y A B n) (hm:may X Y A B=true):(zEe X Y A B).map (·.1)=(List.range n).map fun i=>(clx d X i,cly d Y i):=by
 obtain ⟨h1,h2,h3,h4⟩:=h hm;rw [zEe,if_pos hm,upto,List.map_map];have hn:B.toNat*A.toNat=n:=by rcases h1 with ⟨-,rfl,rfl⟩|⟨-,rfl,rfl⟩<;>simp
 rw [hn];refine List.map_congr_left (fun i hi=>?_);have hlt:i<n:=List.mem_range.1 hi
 have hc:zC9 X Y A.toNat i=(clx d X i,cly d Y i):=by
  unfold zC9 clx cly;rcases h1 with ⟨rfl,rfl,rfl⟩|⟨rfl,rfl,rfl⟩
  ·simp [Nat.mod_one]
  ·rw [Int.toNat_natCast,Nat.mod_eq_of_lt hlt,Nat.div_eq_of_lt hlt];simp
 show (mkC (zC9 X Y A.toNat i)).1=_;rw [hc];refine zKk ⟨zAx ?_,zAx ?_⟩<;>(unfold clx cly;simp only;split<;>omega)
def zKr (t u:Q4):Q4:=if huB t.x t.y t.a t.b u.x u.y u.a u.b=true then ⟨min t.x u.x,min t.y u.y,max (t.x+t.a-1) (u.x+u.a-1)-min t.x u.x+1,max (t.y+t.b-1) (u.y+u.b-1)-min t.y u.y+1⟩ else ⟨0,0,0,0⟩
theorem zYw (t u:Q4):huV t.x t.y t.a t.b u.x u.y u.a u.b=(zKr t u).v:=by
 unfold huV zKr zZ6 zGo
 split<;>rfl
def fqS (S:Int->Int->Bool) (d:Int) (st:List Q4×Bool) (q:Int×Int):List Q4×Bool:=
 if lg S q.1 q.2 d=true then (if st.2=true then (st.1.dropLast++[zKr (st.1.getLastD ⟨0,0,0,0⟩) ⟨q.1,q.2,1,1⟩],true) else (st.1++[⟨q.1,q.2,1,1⟩],true)) else (st.1,false)
def fq (S:Int->Int->Bool) (d:Int) (l:List (Int×Int)):List Q4×Bool:=l.foldl (fqS S d) ([],false)
theorem zJk (S:Int->Int->Bool) (d:Int) (l:List (Int×Int)) (q:Int×Int):fq S d (l++[q])=fqS S d (fq S d l) q:=by simp [fq]
theorem zV8 (S:Int->Int->Bool) (d:Int) (st:List Q4×Bool) (q:Int×Int):((fqS S d st q).2=true->∃L r,(fqS S d st q).1=L++[r])/\(fqS S d st q).1.length<=st.1.length+1:=by
 unfold fqS
 split
 ·split
  ·refine ⟨fun _=>⟨_,_,rfl⟩,?_⟩;simp only [List.length_append,List.length_dropLast,List.length_cons,List.length_nil];omega
  ·refine ⟨fun _=>⟨_,_,rfl⟩,by simp⟩
 ·exact ⟨fun h=>absurd h (by simp),Nat.le_succ _⟩
theorem zV7 {S:Int->Int->Bool} {d:Int} {st:List Q4×Bool} {x y:Int} (h:lg S x y d=false):fqS S d st (x,y)=(st.1,false):=by simp [fqS,h]
theorem zRd {S:Int->Int->Bool} {d:Int} {st:List Q4×Bool} {x y:Int} (h:lg S x y d=true) (hb:st.2=false):fqS S d st (x,y)=(st.1++[⟨x,y,1,1⟩],true):=by simp [fqS,h,hb]
theorem zV6 {S:Int->Int->Bool} {d:Int} {st:List Q4×Bool} {x y:Int} {L:List Q4} {r:Q4} (h:lg S x y d=true) (hb:st.2=true) (hl:st.1=L++[r]):fqS S d st (x,y)=(L++[zKr r ⟨x,y,1,1⟩],true):=by simp [fqS,h,hb,hl]
theorem zHx {α:Type} (l:List α):l=[]\/∃L q,l=L++[q]:=by
 cases h:l.reverse with
 |nil=>left;simpa using h
 |cons q L=>right;exact ⟨L.reverse,q,by have:=congrArg List.reverse h;simpa using this⟩
theorem qC9 (S:Int->Int->Bool) (d:Int) (l:List (Int×Int)):((fq S d l).2=true->∃L r,(fq S d l).1=L++[r]):=by
 rcases zHx l with rfl|⟨L,q,rfl⟩
 ·intro h;cases h
 ·rw [zJk];exact (zV8 _ _ _ _).1
theorem zV5 (S:Int->Int->Bool) (d:Int):∀(n:Nat) (l:List (Int×Int)),l.length=n->(fq S d l).1.length<=n
 |0,l,h=>by
  have:=List.eq_nil_of_length_eq_zero h;subst this;simp [fq]
 |n+1,l,h=>by
  rcases zHx l with rfl|⟨L,q,rfl⟩
  ·simp at h
  ·rw [zJk];have h1:=zV5 S d n L (by simpa using h);have h2:=(zV8 S d (fq S d L) q).2;omega
theorem zTw {d X Y:Int} {a n i:Nat} (hd:d=0\/d=1) (hX:0<=X/\X<=1000) (hY:0<=Y/\Y<=1000) (hi:i<8) (h1:1<=n) (ha:a+n=i):zKr (rrq d X Y (a,n)) ⟨clx d X i,cly d Y i,1,1⟩=rrq d X Y (a,n+1):=by
 have hm:∀{x y u v:Int},(0<=x/\x<=1100)->(0<=y/\y<=1100)->(1<=u/\u<=100)->(1<=v/\v<=100)->may x y u v=true:=fun {x y u v} h1 h2 h3 h4=>(zA0 _ _ _ _).2 (by omega);rcases hd with rfl|rfl
 ·simp only [zKr,rrq,clx,cly,if_true];rw [if_pos]
  ·simp only [Q4.mk.injEq];omega
  ·rw [huB,hm (by omega) (by omega) (by omega) (by omega),hm (by omega) (by omega) (by omega) (by omega),hm (by omega) (by omega) (by omega) (by omega)];rfl
 ·simp only [zKr,rrq,clx,cly,if_neg (show ¬(1:Int)=0 by decide)];rw [if_pos]
  ·simp only [Q4.mk.injEq];omega
  ·rw [huB,hm (by omega) (by omega) (by omega) (by omega),hm (by omega) (by omega) (by omega) (by omega),hm (by omega) (by omega) (by omega) (by omega)];rfl
theorem zRc {S:Int->Int->Bool} {d X Y:Int} (hd:d=0\/d=1) (hX:0<=X/\X<=1000) (hY:0<=Y/\Y<=1000):∀k,k<=8->fq S d ((List.range k).map fun i=>(clx d X i,cly d Y i))=((zBi (opB S d X Y) k).1.map (rrq d X Y),(zBi (opB S d X Y) k).2)
 |0,_=>rfl
 |k+1,hk=>by
  rw [List.range_succ,List.map_append,List.map_cons,List.map_nil,zJk,zRc hd hX hY k (by omega)];cases ho:opB S d X Y k
  ·rw [zV7 (by exact ho),zDn ho]
  ·cases hb:(zBi (opB S d X Y) k).2
   ·rw [zRd (by exact ho) rfl,zEs ho hb];simp only [List.map_append,List.map_cons,List.map_nil]
    have:rrq d X Y (k,1)=⟨clx d X k,cly d Y k,1,1⟩:=by
     rcases hd with rfl|rfl
     ·simp [rrq,clx,cly]
     ·simp [rrq,clx,cly]
    rw [this]
   ·obtain ⟨pre,a,n,e,ha⟩:=(zDd (opB S d X Y) k).1 hb;have h1:=(zDd (opB S d X Y) k).2.1 (a,n) (by rw [e];simp);rw [zV6 (L:=pre.map (rrq d X Y)) (r:=rrq d X Y (a,n)) (by exact ho) rfl (by simp [e]),zGx ho hb e,zTw hd hX hY (by omega) h1.1 ha];simp
structure Rs (w Z:World) (p:Nat) (c s d:Int) (lv:Value) (L:List Q4) (b:Bool) (M:Nat):Prop where
 bl:Below w.heap.size w Z
 b0:Boxed Z w.heap.size 29 (ptr p)
 b1:Two Z (w.heap.size+1) c s
 b3:Boxed Z (w.heap.size+3) 3 (O ii d)
 b4:Boxed Z (w.heap.size+4) 99 lv
 b5:Boxed Z (w.heap.size+5) 4 (.bool b)
 row:Rq 49 Z lv L
 own:∀g,lv.ownBlock=some g->M<=g
 size:M<=Z.heap.size
 hM:w.heap.size+6<=M
section
variable {w Z Z':World} {p:Nat} {c s d:Int} {lv:Value} {L:List Q4} {b:Bool} {M:Nat}
theorem Rs.turned (h:Rs w Z p c s d lv L b M) {S:Nat->Prop} (T:Turns S Z Z') (hS:∀j,S j->M<=j) (hv:∀g,lv.ownBlock=some g->¬S g):Rs w Z' p c s d lv L b M:=by
 have hM:=h.hM;have hz:=h.bl.size;have key:∀j,j<M->¬S j:=fun j hj e=>by have:=hS j e;omega
 exact ⟨h.bl.trans (T.below (fun j e=>by have:=hS j e;omega) hz),zAl h.b0 T (key _ (by omega)),zDc h.b1 T (key _ (by omega)),zAl h.b3 T (key _ (by omega)),zAl h.b4 T (key _ (by omega)),zAl h.b5 T (key _ (by omega)),h.row.kept T hv,h.own,Nat.le_trans h.size T.size,h.hM⟩
theorem Rs.upto (h:Rs w Z p c s d lv L b M) (hb:Below Z.heap.size Z Z'):Rs w Z' p c s d lv L b M:=h.turned (S:=NoB) (Turns.of_below hb) (fun _ e=>e.elim) (fun _ _=>id)
theorem Rs.own_from (h:Rs w Z p c s d lv L b M) {row:Option Nat} (hg:Z.grownBy Z' row) (hr:∀r,row=some r->M<=r/\∃o:Obj,Z.heap[r]? = some o/\o.isCells=false):Rs w Z' p c s d lv L b M:=
 h.turned (S:=fun j=>row=some j) (Turns.of_grown hg (fun j e=>e)) (fun j e=>(hr j e).1) (fun g hg' e=>by
  obtain ⟨cur,hc⟩:=h.row.blk hg';obtain ⟨o,ho,hi⟩:=(hr g e).2
  rw [hc] at ho;cases ho;cases hi)
theorem Rs.setB (h:Rs w Z p c s d lv L b M) (b':Bool):Rs w (Z.setCell ⟨w.heap.size+5,0,none⟩ (.bool b')) p c s d lv L b' M/\Turns (fun j=>j=w.heap.size+5) Z (Z.setCell ⟨w.heap.size+5,0,none⟩ (.bool b')):=by
 have hM:=h.hM;have hz:=h.bl.size;have T:Turns (fun j=>j=w.heap.size+5) Z (Z.setCell ⟨w.heap.size+5,0,none⟩ (.bool b')):=Turns.set (S:=fun j=>j=w.heap.size+5) Z (p:=⟨w.heap.size+5,0,none⟩) rfl _;refine ⟨⟨h.bl.trans (T.below (fun j e=>by omega) hz),zAl h.b0 T (by omega),zDc h.b1 T (by omega),zAl h.b3 T (by omega),zAl h.b4 T (by omega),h.b5.set _,h.row.kept T (fun g e q=>by have:=h.own g e;omega),h.own,Nat.le_trans h.size T.size,h.hM⟩,T⟩
theorem Rs.setL (h:Rs w Z p c s d lv L b M) {lv':Value} {L':List Q4} (T:Turns (fun j=>lv.ownBlock=some j) Z Z') (hr:Rq 49 Z' lv' L') (ho:∀g,lv'.ownBlock=some g->M<=g) :
 Rs w (Z'.setCell ⟨w.heap.size+4,0,none⟩ lv') p c s d lv' L' b M/\Turns (fun j=>j=w.heap.size+4\/lv.ownBlock=some j) Z (Z'.setCell ⟨w.heap.size+4,0,none⟩ lv'):=by
 have hM:=h.hM;have hz:=h.bl.size;have key:∀j,j<M->¬lv.ownBlock=some j:=fun j hj e=>by have:=h.own j e;omega
 have T2:Turns (fun j=>j=w.heap.size+4) Z' (Z'.setCell ⟨w.heap.size+4,0,none⟩ lv'):=Turns.set (S:=fun j=>j=w.heap.size+4) Z' (p:=⟨w.heap.size+4,0,none⟩) rfl _;have TT:Turns (fun j=>j=w.heap.size+4\/lv.ownBlock=some j) Z (Z'.setCell ⟨w.heap.size+4,0,none⟩ lv'):=(T.mono (fun j _ e => .inr e)).trans (T2.mono (fun j _ e => .inl (.inl e)));have b4:=(zAl h.b4 T (key _ (by omega)))
 refine ⟨⟨h.bl.trans (TT.below (fun j e=>by rcases e with e|e;omega;have:=h.own j e;omega) hz),zAl (zAl h.b0 T (key _ (by omega))) T2 (by omega),zDc (zDc h.b1 T (key _ (by omega))) T2 (by omega),zAl (zAl h.b3 T (key _ (by omega))) T2 (by omega),b4.set _,zAl (zAl h.b5 T (key _ (by omega))) T2 (by omega),hr.kept T2 (fun g e q=>by have:=ho g e;omega),ho,Nat.le_trans h.size TT.size,h.hM⟩,TT⟩
theorem Rs.keeps (h:Rs w Z p c s d lv L b M) (T:Turns (fun j=>j=w.heap.size+5\/j=w.heap.size+4\/lv.ownBlock=some j) Z Z'):KeepsFrom M Z Z':=
 ⟨T.size,fun j o hj ho hi=>T.same (fun e=>by
  have hM:=h.hM;rcases e with e|e|e
  ·omega
  ·omega
  ·obtain ⟨cur,hc⟩:=h.row.blk e
   rw [hc] at ho;cases ho;cases hi) ho⟩
end
attribute [local go_sem] Oper.semAt_some
theorem zEg {F:Fence} {nF:Nat} {P:Program} {w:World} {ops:Array Oper} {rest:List Oper} {o:Oper} {a:Act} {Q:Exit->Act->World->Prop}
 (hgd:o.guard=none) (s x:Operand) (t:TypeId) (ho:o.op = .call { callee:=.builtin .append,args:=#[s,x],argTypes:=#[t,t] })
 (v xv:Value) (hs:a.eval s=v) (hx:a.eval x=xv) {v':Value} {w':World} (hr:(Builtin.append_ #[t,t] o.type #[v,xv]).run P w = .ok v' w') (h:wpListIn F nF P ops Q rest (a.put o.dst v') w') :
 wpListIn F nF P ops Q (o::rest) a w:=by
 refine wpListIn_plain hgd fun K hK=>?_;unfold Oper.wpIn;refine ⟨by simp [Oper.about,ho,resolve,Target.leads,Sem.run_pure],?_⟩;rw [Oper.semAt_plain F _ _ (by rw [ho];intro c hc';cases hc')];simp [execOp,ho,resolve,invoke,builtin,hs,hx,hr,Result.andThen];exact hK _ _ h
theorem zN1 (X:World) {l:Nat} (o:Obj) (S:Nat->Prop) (hl:S l):Turns S X (X.putObj l o):=Turns.of_grown (grownBy_putObj' X l o) (fun k e=>by cases e;exact hl)
theorem zOe:Rcl 189:=zl fun _ _=>by go_simp
def zXm (S:Int->Int->Bool) (d X Y A B:Int) (n:Nat):List Q4:=if may X Y A B=true then (zBi (opB S d X Y) n).1.map (rrq d X Y) else []
theorem zK8 {w:World} {p:Nat} {W H:Int} {tl:List Nat} {f:Int->Int->Option Int} (c s kx ky d X Y A B:Int) (n:Nat) (hw:Wl w p W H tl f) (hg:Grnd w) (ho:Offs w)
 (hb:bdV W H kx ky d=rct X Y A B) (hn:BdOk d X Y A B n) :
 Calls pg 157 #[ptr p,shv c s,cel kx ky,O ii d] w fun e w'=>∃lv,e = .returned lv/\Rq 49 w' lv (zXm (stB W H tl f c s) d X Y A B n)/\Below w.heap.size w w'/\∀g,lv.ownBlock=some g->w.heap.size<=g:=by
 refine (callsIn_wide (n:=10)).1 ?_;refine callsIn_of_wp_marks func157 rfl trivial ?_ rfl;simp only [ntmps157,List.size_toArray,List.length_cons,List.length_nil,Nat.reduceAdd,Nat.reduceSub,Array.replicate_succ,Array.replicate_zero,List.push_toArray,List.append_toArray,List.nil_append,List.cons_append];obtain ⟨V,hV⟩:=ex ((((((w.alloc (.cells #[ptr p] 29)).alloc (.cells #[O ii c,O ii s] 27)).alloc (.cells #[O ii kx,O ii ky] 47)).alloc (.cells #[O ii d] 3)).alloc (.cells #[.slice none 0 0] 99)).alloc (.cells #[.bool false] 4));have B0:Below w.heap.size w V:=hV▸bt (bt (zA5 _ _ _) (zA5 _ _ _)) (zA5 _ _ _);have k0:Boxed V w.heap.size 29 (ptr p):=by rw [<-hV];exact (((((Boxed.new w 29 _).alloc _).alloc _).alloc _).alloc _).alloc _
 have k1:Two V (w.heap.size+1) c s:=by rw [<-hV];exact ((((Two.newAt (by simp)).alloc).alloc).alloc).alloc
 have k2:Two V (w.heap.size+2) kx ky:=by rw [<-hV];exact (((Two.newAt (by simp)).alloc).alloc).alloc
 have k3:Boxed V (w.heap.size+3) 3 (O ii d):=by
  rw [<-hV];have:=Boxed.new (((w.alloc (.cells #[ptr p] 29)).alloc (.cells #[O ii c,O ii s] 27)).alloc (.cells #[O ii kx,O ii ky] 47)) 3 (O ii d);exact ((by simpa using this:Boxed _ (w.heap.size+3) 3 (O ii d)).alloc _).alloc _
 have k4:Boxed V (w.heap.size+4) 99 (.slice none 0 0):=by
  rw [<-hV];have:=Boxed.new ((((w.alloc (.cells #[ptr p] 29)).alloc (.cells #[O ii c,O ii s] 27)).alloc (.cells #[O ii kx,O ii ky] 47)).alloc (.cells #[O ii d] 3)) 99 (.slice none 0 0);exact (by simpa using this:Boxed _ (w.heap.size+4) 99 (.slice none 0 0)).alloc _
 have k5:Boxed V (w.heap.size+5) 4 (.bool false):=by
  rw [<-hV];have:=Boxed.new (((((w.alloc (.cells #[ptr p] 29)).alloc (.cells #[O ii c,O ii s] 27)).alloc (.cells #[O ii kx,O ii ky] 47)).alloc (.cells #[O ii d] 3)).alloc (.cells #[.slice none 0 0] 99)) 4 (.bool false);simpa using this
 have zV:V.heap.size=w.heap.size+6:=by rw [<-hV];simp
 have HBo:=zAc (zRz kx ky d (hw.kept B0));rw [hb] at HBo;have HSt:Hid (∀wx,Below w.heap.size w wx->∀u v,Calls pg 188 #[ptr p,shv c s,cel u v,O ii d] wx fun e w'=>e = .returned (.bool (lg (stB W H tl f c s) u v d))/\Below wx.heap.size wx w'):=zAc fun wx q u v=>zRo c s u v d (hw.kept q) (hg.kept q) (ho.kept q);have HV:=zAc hV;have HR0:Hid (Rs w V p c s d (.slice none 0 0) [] false (w.heap.size+6)):=zAc ⟨B0,k0,k1,k3,k4,k5,Rw.nil _ _ _ _,(fun g e=>by cases e),by omega,Nat.le_refl _⟩;have c0:=k0.cell;obtain ⟨⟨c2,c3⟩,-,-⟩:=id k2;have c4:=k3.cell;have zV':=zAc zV;clear hV hb B0 k0 k1 k2 k3 k4 k5 zV hw hg ho;gi_wp2_with fail;rw [HV.out];simp only [Nat.add_assoc,Nat.reduceAdd];refine ⟨trivial,?_⟩;refine (callsIn_wide.2 HBo.out).mono ?_;rintro e w1 ⟨rfl,hb1⟩;have HR1:=zAc (HR0.out.upto hb1);have hs1:=hb1.size;clear hb1 c0 c2 c3 c4;gi_wp2_with fail;refine ⟨trivial,?_⟩;refine (callsIn_wide.2 (zDu X Y A B w1)).mono ?_;rintro e X0 ⟨rfl,hX0⟩;have F0:Four X0 w1.heap.size X Y A B:=by rw [hX0];exact Four.new12 _ _ _ _ _ _
 have zX:X0.heap.size=w1.heap.size+1:=by rw [hX0];simp
 have hR2:Rs w X0 p c s d (.slice none 0 0) [] false X0.heap.size:=by
  have h:=HR1.out.upto (Z':=X0) (by rw [hX0];exact zAk _ _);exact ⟨h.bl,h.b0,h.b1,h.b3,h.b4,h.b5,h.row,(fun g e=>by cases e),Nat.le_refl _,by have:=zV'.out;omega⟩
 have hN:may X Y A B=true->B.toNat*A.toNat<=8:=fun hm=>by
  obtain ⟨h1,h2,-⟩:=hn hm;rcases h1 with ⟨-,rfl,rfl⟩|⟨-,rfl,rfl⟩<;>(simp;omega)
 have hw6:w.heap.size+6<=w1.heap.size:=by have:=zV'.out;omega
 clear hX0 HR1 HR0 HBo HV;gi_wp2_with fail
 refine wpIn_rangeFunc_ownH rfl (n:=10) (by omega) (gf:=86) (lb:=#[ptr w1.heap.size]) rfl trivial (enters_of func86 (by kernel_rfl) rfl)
  (zCs (10-1) w1.heap.size 8 X Y A B X0 F0 hN) zZ8 (zZ9 (by omega)) (Below.refl _ _) (fun _=>rfl)
  (fun pre Z=>∃lv,Rs w Z p c s d lv (fq (stB W H tl f c s) d (pre.map (·.1))).1 (fq (stB W H tl f c s) d (pre.map (·.1))).2 X0.heap.size) (fun _ _ _=>False)
  (fun pre Y' Z row hs hg hr=>by obtain ⟨lv,h⟩:=hs;exact ⟨lv,h.own_from hg hr⟩) (fun _ _ _ _ _ h _ _=>h.elim)
  ⟨_,hR2⟩
  (fun q a' Z=>∃Bx,X0.heap.size<=Bx/\Two Z Bx q.1.1 q.1.2/\a'={ tmps:=#[ptr p,shv c s,cel kx ky,O ii d,ptr w.heap.size,ptr (w.heap.size+1),ptr (w.heap.size+2),ptr (w.heap.size+3),.slice none 0 0,ptr (w.heap.size+4),ptr (w.heap.size+5),ptr Bx,undef,undef,ptr p,cel kx ky,O ii d,rct X Y A B,.func (.func 86) #[] #[ptr w1.heap.size],cel q.1.1 q.1.2,undef,undef,undef,undef,undef,undef,undef,undef,undef,undef,undef,undef,undef,undef,undef,undef,undef,undef,undef,undef,undef,undef,undef,undef,undef,undef,undef,undef,undef,undef,undef],defers:=[] })
  (fun q a' _ X Y row hs hg hr=>by obtain ⟨Bx,e1,e2,e3⟩:=hs;exact ⟨Bx,e1,e2.own hg (fun r e=>(hr r e).2),e3⟩)
  ?assign ?body ?done ?stop
 case assign =>
  rintro lo pre q Z K ⟨lv,hR⟩ hK;have hz:=hR.size;gi_wp2
  exact hK _ _ ((KeepsOthers.alloc _ _).from _) (Below.heap_alloc _ _ _ (by omega)) ⟨lv,hR.upto (zAk _ _)⟩ ⟨Z.heap.size,by omega,Two.newAt rfl,rfl⟩
 case body =>
  rintro lo pre q a' Z hlo hlr ⟨lv,hR⟩ ⟨Bx,hBx,bX,rfl⟩ hlt;obtain ⟨⟨qx,qy⟩,hqw⟩:=q;simp only at bX ⊢;obtain ⟨st,hst⟩:=ex (fq (stB W H tl f c s) d (pre.map (·.1)));have hln:fq (stB W H tl f c s) d ((pre++[(⟨(qx,qy),hqw⟩:Cel)]).map (·.1))=fqS (stB W H tl f c s) d st (qx,qy):=by rw [List.map_append,List.map_cons,List.map_nil,zJk,hst]
  have hne:=qC9 (stB W H tl f c s) d (pre.map (·.1));have hle:=zV5 (stB W H tl f c s) d pre.length (pre.map (·.1)) (by simp);rw [hst] at hR hne hle;obtain ⟨L,gb⟩:=st;simp only at hR hne hle;obtain ⟨ob,hob⟩:=ex (lg (stB W H tl f c s) qx qy d)
  have HSq:Hid (∀wx,Below w.heap.size w wx->Calls pg 188 #[ptr p,shv c s,cel qx qy,O ii d] wx fun e w'=>e = .returned (.bool ob)/\Below wx.heap.size wx w'):=zAc fun wx q=>by
   have:=HSt.out wx q qx qy
   rwa [hob] at this
  have x0:=hR.b0.cell;obtain ⟨⟨x1,x2⟩,-,-⟩:=id hR.b1;have x3:=hR.b3.cell;obtain ⟨⟨y0,y1⟩,-,-⟩:=id bX;have HRi:=zAc hR;have HbX:=zAc bX;have Hln:=zAc hln;have Hob:=zAc hob;have HBx:=zAc hBx;have Hlt:=zAc (Nat.le_trans hle (Nat.le_of_lt hlt));have Hne:=zAc hne;clear hR bX hln hob hlt hlr hlo hle hne hst;gi_wp2_with fail;refine ⟨trivial,?_⟩;refine (CallsIn.inRound lo (callsIn_wide.2 (HSq.out Z HRi.out.bl))).mono ?_;rintro e Z1 ⟨rfl,hb1⟩;have bX1:=HbX.out.kept hb1;have T1:Turns NoB Z Z1:=Turns.of_below hb1;have R1:=HRi.out.upto hb1;clear x0 x1 x2 x3 y0 y1;obtain ⟨Z2,hZ2⟩:=ex (Z1.alloc (.cells #[O ii qx,O ii qy,O ii 1,O ii 1] 49));have R2:Rs w Z2 p c s d lv L gb X0.heap.size:=by rw [<-hZ2];exact R1.upto (zAk _ _)
  have F2:Four Z2 Z1.heap.size qx qy 1 1:=by rw [<-hZ2];exact Four.new12 _ _ _ _ _ _
  have T2:Turns NoB Z Z2:=T1.trans (by rw [<-hZ2];exact (Turns.of_below (zAk _ _)).mono (fun _ _ e => .inl e));have z2:Z2.heap.size=Z1.heap.size+1:=by rw [<-hZ2];simp
  obtain ⟨⟨y0,y1⟩,-,-⟩:=id bX1;have HZ2:=zAc hZ2;have hzB:X0.heap.size<=Z1.heap.size:=R1.size;have HR2:=zAc R2;have HT2:=zAc T2;have HF2:=zAc F2;have Hz2:=zAc z2
  have HKB:Hid (∀Z',Turns (fun j=>j=w.heap.size+5\/j=w.heap.size+4\/lv.ownBlock=some j) Z Z'->KeepsFrom X0.heap.size Z Z'/\KB w1.heap.size Z Z'):=zAc fun Z' TT=>⟨HRi.out.keeps TT,TT.block _ (by have:=HRi.out.size;omega) (fun e=>by
   rcases e with e|e|e
   ·omega
   ·omega
   ·have:=HRi.out.own _ e;omega)⟩
  clear hZ2 R1 R2 T1 T2 F2 hb1 bX1 z2;cases ob
  ·have hE:KeepsFrom X0.heap.size Z (Z2.setCell ⟨w.heap.size+5,0,none⟩ (.bool false))/\KB w1.heap.size Z (Z2.setCell ⟨w.heap.size+5,0,none⟩ (.bool false))/\∃lv,Rs w (Z2.setCell ⟨w.heap.size+5,0,none⟩ (.bool false)) p c s d lv (fq (stB W H tl f c s) d ((pre++[(⟨(qx,qy),hqw⟩:Cel)]).map (·.1))).1 (fq (stB W H tl f c s) d ((pre++[(⟨(qx,qy),hqw⟩:Cel)]).map (·.1))).2 X0.heap.size:=by
    obtain ⟨r3,t3⟩:=HR2.out.setB false;have TT:Turns (fun j=>j=w.heap.size+5\/j=w.heap.size+4\/lv.ownBlock=some j) Z (Z2.setCell ⟨w.heap.size+5,0,none⟩ (.bool false)):=(HT2.out.mono (fun _ _ e=>e.elim)).trans (t3.mono (fun _ _ e => .inl (.inl e)));obtain ⟨q1,q2⟩:=HKB.out _ TT;refine ⟨q1,q2,lv,?_⟩;rw [Hln.out,zV7 Hob.out];exact r3
   have HE:=zAc hE;have g5:Z2.frozen? ⟨w.heap.size+5,0,none⟩=false:=HR2.out.b5.frozen;have x5:=HR2.out.b5.cell;clear hE;gi_wp2_with (first|rw [HZ2.out]|fail);exact HE.out
  ·have x5:=HR2.out.b5.cell;have x4:=HR2.out.b4.cell;obtain ⟨⟨f0,f1,f2,f3⟩,-,-⟩:=HF2.out;cases gb
   ·obtain ⟨a1,cap1,hlv⟩:=HR2.out.row.slice4;obtain ⟨v',Z3,rA,rR,rO,rT⟩:=HR2.out.row.push4 (st:=99) Tryz.underlying99 zMc ⟨qx,qy,1,1⟩ (by have:=Hlt.out;omega);obtain ⟨a2,cap2,hv2⟩:=rR.slice4;rw [List.length_append,List.length_cons,List.length_nil,Nat.zero_add] at hv2
    have hown:∀g,v'.ownBlock=some g->X0.heap.size<=g:=fun g e=>by
     rcases rO g e with q|q
     ·exact HR2.out.own g q
     ·have:=HR2.out.size;omega
    obtain ⟨R4,T4⟩:=HR2.out.setL rT rR hown;obtain ⟨R5,T5⟩:=R4.setB true;have b43:Boxed Z3 (w.heap.size+4) 99 lv:=zAl HR2.out.b4 rT (fun e=>by have:=HR2.out.own _ e;have:=HR2.out.hM;omega)
    have hE:KeepsFrom X0.heap.size Z ((Z3.setCell ⟨w.heap.size+4,0,none⟩ v').setCell ⟨w.heap.size+5,0,none⟩ (.bool true))/\KB w1.heap.size Z ((Z3.setCell ⟨w.heap.size+4,0,none⟩ v').setCell ⟨w.heap.size+5,0,none⟩ (.bool true))/\∃lv,Rs w ((Z3.setCell ⟨w.heap.size+4,0,none⟩ v').setCell ⟨w.heap.size+5,0,none⟩ (.bool true)) p c s d lv (fq (stB W H tl f c s) d ((pre++[(⟨(qx,qy),hqw⟩:Cel)]).map (·.1))).1 (fq (stB W H tl f c s) d ((pre++[(⟨(qx,qy),hqw⟩:Cel)]).map (·.1))).2 X0.heap.size:=by
     have TT:Turns (fun j=>j=w.heap.size+5\/j=w.heap.size+4\/lv.ownBlock=some j) Z ((Z3.setCell ⟨w.heap.size+4,0,none⟩ v').setCell ⟨w.heap.size+5,0,none⟩ (.bool true)):=((HT2.out.mono (fun _ _ e=>e.elim)).trans (T4.mono (fun j _ e => .inl (by rcases e with e|e;exact .inr (.inl e);exact .inr (.inr e))))).trans (T5.mono (fun _ _ e => .inl (.inl e)));obtain ⟨q1,q2⟩:=HKB.out _ TT;refine ⟨q1,q2,v',?_⟩;rw [Hln.out,zRd Hob.out rfl];exact R5
    subst hv2;subst hlv;have HA:=zAc rA;have HE:=zAc hE;have x4':=b43.cell;have g4':=b43.frozen;have x5':=R4.b5.cell;have g5':=R4.b5.frozen;have x4a:(Z2.alloc (.cells #[O ii qx,O ii qy,O ii 1,O ii 1] 49)).cell? ⟨w.heap.size+4,0,none⟩=some (.slice a1 L.length cap1):=(HR2.out.b4.alloc _).cell;clear rA rR rO rT hown R4 T4 R5 T5 b43 hE HKB HR2 HRi HbX HF2 Hlt Hne hzB hBx HBx HSq HT2;gi_wp2_with (first|rw [HZ2.out]|(gi_at_builtin;refine zEg rfl _ _ 99 rfl _ _ rfl rfl HA.out ?_));exact HE.out
   ·obtain ⟨L0,r,hL⟩:=Hne.out rfl;subst hL;obtain ⟨g,cap,hlv,hgl,hgo⟩:=HR2.out.row.own_some;subst hlv;have hgX:X0.heap.size<=g:=HR2.out.own g rfl;obtain ⟨⟨l0,l1,l2,l3⟩,lf⟩:=HR2.out.row.lastq;have hlen:(0:Int)<=(L0.length:Nat)/\((L0.length:Nat):Int)<=8:=by have:=Hlt.out;simp at this;omega
    have hwr:IntKind.i64.wrap ((L0.length:Nat):Int)=((L0.length:Nat):Int):=by rw [IntKind.wrap_i64];omega
    have hwr2:IntKind.i64.wrap (((L0.length:Nat):Int)+1-1)=((L0.length:Nat):Int):=by rw [IntKind.wrap_i64];omega
    have HS:(fun wx:World=>wx.cell? ⟨w.heap.size+4,0,none⟩=some (.slice (some ⟨g,0,none⟩) (L0.length+1) cap)/\(wx.cell? ⟨g,L0.length*4,none⟩=some (O ii r.x)/\wx.cell? ⟨g,L0.length*4+1,none⟩=some (O ii r.y)/\wx.cell? ⟨g,L0.length*4+2,none⟩=some (O ii r.a)/\wx.cell? ⟨g,L0.length*4+3,none⟩=some (O ii r.b))/\wx.cell? ⟨Z1.heap.size,0,none⟩=some (O ii qx)/\wx.cell? ⟨Z1.heap.size,1,none⟩=some (O ii qy)/\wx.cell? ⟨Z1.heap.size,2,none⟩=some (O ii 1)/\wx.cell? ⟨Z1.heap.size,3,none⟩=some (O ii 1)) Z2.drew:=⟨x4,⟨l0,l1,l2,l3⟩,f0,f1,f2,f3⟩
    obtain ⟨hx,hy,ha,hb,hh⟩:∃hx hy ha hb,zKr r ⟨qx,qy,1,1⟩=⟨hx,hy,ha,hb⟩:=⟨_,_,_,_,rfl⟩
    have HHu:Hid (∀wx,Calls pg 189 #[rct r.x r.y r.a r.b,rct qx qy 1 1] wx fun e w'=>e = .returned (rct hx hy ha hb)/\Below wx.heap.size wx w'):=zAc fun wx=>by
     have:=zTz r.x r.y r.a r.b qx qy 1 1 wx
     rwa [zYw r ⟨qx,qy,1,1⟩,hh] at this
    have Hhh:=zAc hh;have Hfr:=zAc lf;have Hgx:=zAc (ai hgX hgl);clear hh lf l0 l1 l2 l3 x4 f0 f1 f2 f3 hgX hgl hgo;gi_wp2_with (first|rw [HZ2.out]|fail);refine zBc ?_;refine zA6 (fun wx:World=>wx.cell? ⟨w.heap.size+4,0,none⟩=some (.slice (some ⟨g,0,none⟩) (L0.length+1) cap)/\(wx.cell? ⟨g,L0.length*4,none⟩=some (O ii r.x)/\wx.cell? ⟨g,L0.length*4+1,none⟩=some (O ii r.y)/\wx.cell? ⟨g,L0.length*4+2,none⟩=some (O ii r.a)/\wx.cell? ⟨g,L0.length*4+3,none⟩=some (O ii r.b))/\wx.cell? ⟨Z1.heap.size,0,none⟩=some (O ii qx)/\wx.cell? ⟨Z1.heap.size,1,none⟩=some (O ii qy)/\wx.cell? ⟨Z1.heap.size,2,none⟩=some (O ii 1)/\wx.cell? ⟨Z1.heap.size,3,none⟩=some (O ii 1)) [13] zEj (by kernel_rfl) (by kernel_rfl) ?_;refine zv 0 8 20 [.slice (some ⟨g,0,none⟩) (L0.length+1) cap,.slice (some ⟨g,0,none⟩) (L0.length+1) cap,O ii (((L0.length+1:Nat)):Int),O ii ((L0.length:Nat):Int),.slice (some ⟨g,0,none⟩) (L0.length+1) cap,.slice (some ⟨g,0,none⟩) (L0.length+1) cap,O ii (((L0.length+1:Nat)):Int),O ii ((L0.length:Nat):Int)] rfl rfl (by kernel_rfl) HS ?_;repeat (refine zc rfl (by rfl) (fun wx hx=>by go_simp) ?_;simp only [zp])
    refine zn ?_;refine zt 8 20 (.pointer (some ⟨g,L0.length*4,none⟩)) rfl (by kernel_rfl) (by rfl) (fun wx hx=>by go_simp;intro hq;omega) HS ?_;try simp only [zp]
    refine zv 9 2 20 [rct r.x r.y r.a r.b,rct qx qy 1 1] rfl rfl (by kernel_rfl) HS ?_;repeat (refine zc rfl (by rfl) (fun wx hx=>by go_simp) ?_;simp only [zp])
    refine zn ?_;refine zw 11 [] (by kernel_rfl) ?_;refine readyZ.call rfl rfl (zOe (by rfl) (by rfl) (by simp only [zj];rfl)) (HHu.out _) ?_ readyZ.nil;rintro e Z3 ⟨rfl,hb3'⟩;have hb3:Below Z2.heap.size Z2 Z3:=Below.trans (Below.drew (Below.refl Z2.heap.size Z2)) hb3';have R3:=HR2.out.upto hb3;obtain ⟨⟨l0,l1,l2,l3⟩,lf⟩:=R3.row.lastq;have F3:=HF2.out.kept hb3;obtain ⟨⟨f0,f1,f2,f3⟩,-,-⟩:=F3;have x4:=R3.b4.cell;have HS3:(fun wx:World=>wx.cell? ⟨w.heap.size+4,0,none⟩=some (.slice (some ⟨g,0,none⟩) (L0.length+1) cap)/\(wx.cell? ⟨g,L0.length*4,none⟩=some (O ii r.x)/\wx.cell? ⟨g,L0.length*4+1,none⟩=some (O ii r.y)/\wx.cell? ⟨g,L0.length*4+2,none⟩=some (O ii r.a)/\wx.cell? ⟨g,L0.length*4+3,none⟩=some (O ii r.b))/\wx.cell? ⟨Z1.heap.size,0,none⟩=some (O ii qx)/\wx.cell? ⟨Z1.heap.size,1,none⟩=some (O ii qy)/\wx.cell? ⟨Z1.heap.size,2,none⟩=some (O ii 1)/\wx.cell? ⟨Z1.heap.size,3,none⟩=some (O ii 1)) Z3:=⟨x4,⟨l0,l1,l2,l3⟩,f0,f1,f2,f3⟩
    refine ⟨_,rfl,fun _=>HS3,?_⟩;try simp only [zp]
    refine zt 12 20 (.pointer (some ⟨g,L0.length*4,none⟩)) rfl (by kernel_rfl) (by rfl) (fun wx hx=>by go_simp;intro hq;omega) HS3 ?_;try simp only [zp]
    obtain ⟨rR,rT⟩:=R3.row.set4q ⟨hx,hy,ha,hb⟩;obtain ⟨Z4,hZ4⟩:=ex ((((Z3.setCell ⟨g,L0.length*4,none⟩ (O ii hx)).setCell ⟨g,L0.length*4+1,none⟩ (O ii hy)).setCell ⟨g,L0.length*4+2,none⟩ (O ii ha)).setCell ⟨g,L0.length*4+3,none⟩ (O ii hb));rw [hZ4] at rR rT
    have R4:Rs w Z4 p c s d (.slice (some ⟨g,0,none⟩) (L0.length+1) cap) (L0++[⟨hx,hy,ha,hb⟩]) true X0.heap.size:=by
     have hgX:=Hgx.out.1;have hM:=R3.hM;have hz:=R3.bl.size;exact ⟨R3.bl.trans (rT.below (fun j e=>by omega) hz),zAl R3.b0 rT (by omega),zDc R3.b1 rT (by omega),zAl R3.b3 rT (by omega),zAl R3.b4 rT (by omega),zAl R3.b5 rT (by omega),rR,R3.own,Nat.le_trans R3.size rT.size,R3.hM⟩
    obtain ⟨R5,T5⟩:=R4.setB true
    have hE:KeepsFrom X0.heap.size Z (Z4.setCell ⟨w.heap.size+5,0,none⟩ (.bool true))/\KB w1.heap.size Z (Z4.setCell ⟨w.heap.size+5,0,none⟩ (.bool true))/\∃lv,Rs w (Z4.setCell ⟨w.heap.size+5,0,none⟩ (.bool true)) p c s d lv (fq (stB W H tl f c s) d ((pre++[(⟨(qx,qy),hqw⟩:Cel)]).map (·.1))).1 (fq (stB W H tl f c s) d ((pre++[(⟨(qx,qy),hqw⟩:Cel)]).map (·.1))).2 X0.heap.size:=by
     have TT:Turns (fun j=>j=w.heap.size+5\/j=w.heap.size+4\/(Value.slice (some ⟨g,0,none⟩) (L0.length+1) cap).ownBlock=some j) Z (Z4.setCell ⟨w.heap.size+5,0,none⟩ (.bool true)):=(((HT2.out.mono (fun _ _ e=>e.elim)).trans ((Turns.of_below (S:=NoB) hb3).mono (fun _ _ e=>e.elim))).trans (rT.mono (fun j _ e => .inl (.inr (.inr (by rw [e];rfl)))))).trans (T5.mono (fun _ _ e => .inl (.inl e)));obtain ⟨q1,q2⟩:=HKB.out _ TT;refine ⟨q1,q2,.slice (some ⟨g,0,none⟩) (L0.length+1) cap,?_⟩;rw [Hln.out,zV6 (L:=L0) (r:=r) Hob.out rfl rfl,Hhh.out];exact R5
    have HE:=zAc hE;have x5a:=R4.b5.cell;have g5a:=R4.b5.frozen;have z0:=lf (L0.length*4);have z1:=lf (L0.length*4+1);have z2:=lf (L0.length*4+2);have z3:=lf (L0.length*4+3);have HZ4:=zAc hZ4;clear hE R5 T5 R4 rR rT hZ4 R3 lf HS3 HS x4 f0 f1 f2 f3 HKB HR2 HRi HbX HF2 Hlt Hne hBx HBx HSq HT2 hb3 hb3';refine zw 13 [] (by kernel_rfl) ?_;refine readyZ.skip rfl rfl (w':=(((Z3.setCell ⟨g,L0.length*4,none⟩ (O ii hx)).setCell ⟨g,L0.length*4+1,none⟩ (O ii hy)).setCell ⟨g,L0.length*4+2,none⟩ (O ii ha)).setCell ⟨g,L0.length*4+3,none⟩ (O ii hb)) (by go_simp) (fun h=>absurd (by decide) h) ?_ readyZ.nil;refine zAf (by kernel_rfl) ?_ _;dsimp only [zA1,Exit.then];rw [HZ4.out];clear zX;gi_wp2_with fail;exact HE.out
 case done =>
  rintro D xs Z hD rfl ⟨lv,hR⟩ hK;have T:Turns (fun j=>j=D) Z (Z.putObj D (.deferred none)):=zN1 _ _ _ rfl;have x4:=hR.b4.cell;obtain ⟨a1,cap1,hlv⟩:=hR.row.slice4
  have hfin:Rq 49 (Z.putObj D (.deferred none)) lv (zXm (stB W H tl f c s) d X Y A B n)/\Below w.heap.size w (Z.putObj D (.deferred none))/\∀g,lv.ownBlock=some g->w.heap.size<=g:=by
   have hM:=hR.hM;refine ⟨?_,hR.bl.trans (T.below (fun j e=>by omega) hR.bl.size),fun g e=>by have:=hR.own g e;omega⟩
   have hrow:=hR.row.kept T (fun g e q=>by
    obtain ⟨cur,hc⟩:=hR.row.blk e;subst q
    rw [hK] at hc;cases hc)
   have hl:(fq (stB W H tl f c s) d ((zEe X Y A B).map (·.1))).1=zXm (stB W H tl f c s) d X Y A B n:=by
    unfold zXm;cases hm:may X Y A B
    ·rw [zEe,if_neg (by rw [hm];decide),if_neg (by decide)];rfl
    ·obtain ⟨h1,h2,h3,h4⟩:=hn hm;rw [hn.cells hm,zRc (by rcases h1 with ⟨rfl,-⟩|⟨rfl,-⟩;exact .inl rfl;exact .inr rfl) h3 h4 n h2.2,if_pos rfl]
   rw [<-hl];exact hrow
  subst hlv;have HE:=zAc hfin;clear hfin hR T zX;gi_wp2_with fail;refine ⟨by simp,.inl ⟨_,_,rfl,run_takeDeferred hK,?_⟩⟩;exact ⟨_,by simp [results,Tryz.f157,go_sem],_,rfl,HE.out⟩
 case stop=>exact fun D c pre Z hD hp h hK=>h.elim
attribute [local go_sem] Oper.semAt_some
theorem zKl (x y a b d mx my:Int) (w:World) (ho:Offs w) (hx:0<=x/\x<=2000) (hy:0<=y/\y<=2000) (ha:1<=a/\a<=100) (hb:1<=b/\b<=100) (hmx:x+(a-1)/2=mx) (hmy:y+(b-1)/2=my) :
 Calls pg 158 #[rct x y a b,O ii d] w fun e w'=>e = .returned (.agg #[O ii mx,O ii my,O ii (sX mx my d),O ii (sY mx my d)])/\Below w.heap.size w w':=by
 obtain ⟨X,hX⟩:=ex ((w.alloc (.cells #[O ii x,O ii y,O ii a,O ii b] 49)).alloc (.cells #[O ii 0,O ii 0,O ii 0,O ii 0] 122));have B0:Below w.heap.size w X:=by rw [<-hX];exact zA5 _ _ _
 have F0:Four X w.heap.size x y a b:=by rw [<-hX];exact (Four.newAt12 _ _ _ _ _ rfl).kept (zAk _ _)
 have G0:Four X (w.heap.size+1) 0 0 0 0:=by rw [<-hX];exact Four.newAt12 _ _ _ _ _ (by simp)
 have zX:X.heap.size=w.heap.size+2:=by rw [<-hX];simp
 obtain ⟨a',ha'⟩:∃e,a-1=e:=⟨_,rfl⟩
 obtain ⟨b',hb'⟩:∃e,b-1=e:=⟨_,rfl⟩
 obtain ⟨ta,hta⟩:∃e,a'.tdiv 2=e:=⟨_,rfl⟩
 obtain ⟨tb,htb⟩:∃e,b'.tdiv 2=e:=⟨_,rfl⟩
 have e1:a'.tdiv 2=a'/2:=Int.tdiv_eq_ediv_of_nonneg (by omega);have e2:b'.tdiv 2=b'/2:=Int.tdiv_eq_ediv_of_nonneg (by omega);have k1:IntKind.i64.wrap (a-1)=a':=by rw [ha',IntKind.wrap_i64];omega
 have k2:IntKind.i64.wrap (b-1)=b':=by rw [hb',IntKind.wrap_i64];omega
 have k3:IntKind.i64.wrap ta=ta:=by rw [IntKind.wrap_i64];omega
 have k4:IntKind.i64.wrap tb=tb:=by rw [IntKind.wrap_i64];omega
 have k5:IntKind.i64.wrap (x+ta)=mx:=by rw [IntKind.wrap_i64];omega
 have k6:IntKind.i64.wrap (y+tb)=my:=by rw [IntKind.wrap_i64];omega
 have HSt:Hid (∀wx,Below w.heap.size w wx->Calls pg 156 #[cel mx my,O ii d] wx fun e w'=>e = .returned (.tuple #[cel (sX mx my d) (sY mx my d),.bool (sB mx my d)])/\Below wx.heap.size wx w'):=zAc fun wx q=>zCc mx my d wx (ho.kept q);generalize sX mx my d=tx at HSt ⊢;generalize sY mx my d=ty at HSt ⊢;generalize sB mx my d=tb' at HSt;clear e1 e2 ha' hb' hx hy ha hb hmx hmy ho;obtain ⟨⟨c0,c1,c2,c3⟩,-,-⟩:=id F0;obtain ⟨Y,hY⟩:=ex (X.alloc (.cells #[O ii mx,O ii my] 47));have BY:Below X.heap.size X Y:=by rw [<-hY];exact zAk _ _
 have TY:Two Y (w.heap.size+2) mx my:=by rw [<-hY];exact Two.newAt zX.symm
 have G1:=G0.kept BY;obtain ⟨⟨d0,d1⟩,-,-⟩:=id TY;have HX:=zAc hX;have HY:=zAc hY;have HB:=zAc (bt B0 BY);have HzX:=zAc zX;clear hX hY B0 BY zX F0 G0;go_enter func158,ntmps158;go_wp2_with fail;rw [HX.out,HY.out];simp only [Nat.add_assoc,Nat.reduceAdd];refine (HSt.out Y HB.out).mono ?_;rintro e w1 ⟨rfl,hb1⟩;obtain ⟨V,hV⟩:=ex (w1.alloc (.cells #[O ii tx,O ii ty] 47));have BV:Below w1.heap.size w1 V:=by rw [<-hV];exact zAk _ _
 have TV:Two V w1.heap.size tx ty:=by rw [<-hV];exact Two.newAt rfl
 have T2:=(TY.kept hb1).kept BV;have G2:=(G1.kept hb1).kept BV;have HBV:=zAc (bt (bt HB.out hb1) BV);have HV:=zAc hV;clear hV BV hb1 c0 c1 c2 c3 d0 d1 k1 k2 k3 k4 k5 k6 hta htb HX HY G1 TY HSt HB;obtain ⟨⟨c0,c1⟩,-,-⟩:=TV;obtain ⟨⟨d0,d1⟩,-,-⟩:=T2;obtain ⟨⟨r0,r1,r2,r3⟩,⟨g0,g1,g2,g3⟩,z1⟩:=G2;go_wp2_with (rw [HV.out]);refine bodyPost_ret (v:=.agg #[O ii mx,O ii my,O ii tx,O ii ty]) (by simp [results,Tryz.results158,go_sem, *]) rfl ⟨rfl,?_⟩;exact zFw HBV.out (by omega)
def ptq (d X Y:Int) (r:Nat×Nat):Q4:=⟨clx d X (r.1+(r.2-1)/2),cly d Y (r.1+(r.2-1)/2),sX (clx d X (r.1+(r.2-1)/2)) (cly d Y (r.1+(r.2-1)/2)) d,sY (clx d X (r.1+(r.2-1)/2)) (cly d Y (r.1+(r.2-1)/2)) d⟩
theorem zKm {w:World} {d X Y:Int} {r:Nat×Nat} (hd:d=0\/d=1) (hX:0<=X/\X<=1000) (hY:0<=Y/\Y<=1000) (h1:1<=r.2) (h2:r.1+r.2<=8) (ho:Offs w) :
 Calls pg 158 #[(rrq d X Y r).v,O ii d] w fun e w'=>e = .returned (ptq d X Y r).v/\Below w.heap.size w w':=by
 obtain ⟨a,n⟩:=r;simp only at h1 h2;rcases hd with rfl|rfl
 ·simp only [rrq,if_true];exact zKl X (Y+(a:Nat)) 1 (n:Nat) 0 _ _ w ho (by omega) (by omega) (by omega) (by omega) (by simp [ptq,clx]) (by simp only [ptq,cly,if_true];omega)
 ·simp only [rrq,if_neg (show ¬(1:Int)=0 by decide)];exact zKl (X+(a:Nat)) Y (n:Nat) 1 1 _ _ w ho (by omega) (by omega) (by omega) (by omega) (by simp only [ptq,clx,if_neg (show ¬(1:Int)=0 by decide)];omega) (by simp [ptq,cly])
def btL (d X Y:Int) (R:List (Nat×Nat)):List Q4:=R.map (ptq d X Y)
theorem zIn {w:World} {p:Nat} {d X Y:Int} {R:List (Nat×Nat)} (c s kx ky:Int) (hd:d=0\/d=1\/R=[]) (hX:0<=X/\X<=1000) (hY:0<=Y/\Y<=1000) (hR:∀r∈R,1<=r.2/\r.1+r.2<=8) (hlen:R.length<=8) (ho:Offs w)
 (HRu:∀wx,Below w.heap.size w wx->Calls pg 157 #[ptr p,shv c s,cel kx ky,O ii d] wx fun e w'=>∃lv,e = .returned lv/\Rq 49 w' lv (R.map (rrq d X Y))/\Below wx.heap.size wx w'/\∀g,lv.ownBlock=some g->wx.heap.size<=g) :
 Calls pg 124 #[ptr p,shv c s,cel kx ky,O ii d] w fun e w'=>∃lv,e = .returned lv/\Rq 122 w' lv (btL d X Y R)/\Below w.heap.size w w'/\∀g,lv.ownBlock=some g->w.heap.size<=g:=by
 obtain ⟨V,hV⟩:=ex ((w.alloc (.cells #[O ii c,O ii s] 27)).alloc (.cells #[O ii kx,O ii ky] 47));have B0:Below w.heap.size w V:=by rw [<-hV];exact zA5 _ _ _
 have T0:Two V w.heap.size c s:=by rw [<-hV];exact (Two.newAt rfl).alloc
 have T1:Two V (w.heap.size+1) kx ky:=by rw [<-hV];exact Two.newAt (by simp)
 have HRun:=zAc (HRu V B0);have HV:=zAc hV;have HB:=zAc B0
 have HMi:Hid (∀wx,Below w.heap.size w wx->∀r∈R,Calls pg 158 #[(rrq d X Y r).v,O ii d] wx fun e w'=>e = .returned (ptq d X Y r).v/\Below wx.heap.size wx w'):=zAc fun wx q r hr=>by
  have:=hR r hr;rcases hd with h|h|h
  ·exact zKm (.inl h) hX hY this.1 this.2 (ho.kept q)
  ·exact zKm (.inr h) hX hY this.1 this.2 (ho.kept q)
  ·rw [h] at hr;cases hr
 obtain ⟨⟨c0,c1⟩,-,-⟩:=id T0;obtain ⟨⟨c2,c3⟩,-,-⟩:=id T1;clear hV B0 T0 T1 hd hX hY hR ho HRu;go_enter func124,ntmps124;go_wp2_with (rw [HV.out]);refine HRun.out.mono ?_;rintro e w1 ⟨rv,rfl,hrow,hb1,hown⟩;obtain ⟨ar,capr,hrv,hcap,hel⟩:=Rw.form Q4.cs_len hrow;rw [List.length_map] at hrv;subst hrv;have HB1:=zAc (bt HB.out hb1);have Hrow:=zAc hrow;clear hrow hb1 hown c0 c1 c2 c3 HRun HV HB hcap hel;go_wp2_with fail;have hrI:(0:Int)<=(R.length:Nat)/\((R.length:Nat):Int)<=8:=by omega
 go_loopw [9,18] (fun u v wr=>∃(i:Nat) (a:Option Addr) (cp:Nat),u = .slice a i cp/\v = O ii (i:Nat)/\i<=R.length/\(Rq 122 wr (.slice a i cp) (btL d X Y (R.take i))/\∀g,(Value.slice a i cp).ownBlock=some g->w1.heap.size<=g)/\Below w1.heap.size w1 wr) (fun _ v _=>R.length-(intOf v).toNat)
 case atStart=>exact ⟨0,none,0,rfl,rfl,Nat.zero_le _,⟨Rw.nil _ _ _ _,fun g e=>by cases e⟩,Below.refl _ _⟩
 case round =>
  obtain ⟨i,a,cp,rfl,rfl,hi,⟨hr,hownr⟩,hbl⟩:=hrel
  by_cases hlt:i<R.length
  ·have hli:((i:Nat):Int)<(R.length:Nat):=by omega
   have hiI:(0:Int)<=(i:Nat)/\((i:Nat):Int)<=8:=by omega
   have hrm:R[i]∈R:=List.getElem_mem hlt;obtain ⟨ar',capr',e,-,hel⟩:=Rw.form Q4.cs_len (Hrow.out.upto hbl);simp only [Value.slice.injEq,List.length_map] at e;obtain ⟨rfl,-,rfl⟩:=e;obtain ⟨g,hg,hgl,hc⟩:=hel i (rrq d X Y R[i]) (by simp [hlt]);subst hg
   have htk:btL d X Y (R.take (i+1))=btL d X Y (R.take i)++[ptq d X Y R[i]]:=by
    unfold btL;rw [List.take_add_one,List.getElem?_eq_getElem hlt,List.map_append];rfl
   have HMr:=zAc (fun wx q=>HMi.out wx q R[i] hrm);obtain ⟨t,ht⟩:=ex (rrq d X Y R[i]);obtain ⟨q,hq⟩:=ex (ptq d X Y R[i]);rw [ht] at hc;rw [hq] at htk;rw [ht,hq] at HMr;obtain ⟨tx,ty,ta,tb⟩:=t;obtain ⟨qx,qy,qa,qb⟩:=q;have c0:wr.cell? ⟨g,i*4,none⟩=some (O ii tx):=by simpa [Q4.cs] using hc 0 _ rfl
   have c1:wr.cell? ⟨g,i*4+1,none⟩=some (O ii ty):=by simpa [Q4.cs] using hc 1 _ rfl
   have c2:wr.cell? ⟨g,i*4+2,none⟩=some (O ii ta):=by simpa [Q4.cs] using hc 2 _ rfl
   have c3:wr.cell? ⟨g,i*4+3,none⟩=some (O ii tb):=by simpa [Q4.cs] using hc 3 _ rfl
   obtain ⟨Y1,hY1⟩:=ex (wr.alloc (.cells #[O ii tx,O ii ty,O ii ta,O ii tb] 49));have BY1:Below wr.heap.size wr Y1:=by rw [<-hY1];exact zAk _ _
   have FY1:Four Y1 wr.heap.size tx ty ta tb:=by rw [<-hY1];exact Four.new12 _ _ _ _ _ _
   obtain ⟨⟨d0,d1,d2,d3⟩,-,-⟩:=id FY1;have HM1:=zAc (HMr.out Y1 (bt HB1.out (bt hbl BY1)));have HY1:=zAc hY1;have Hr:=zAc hr;have Hown:=zAc hownr;have Hbl:=zAc (bt hbl BY1);have HbY:=zAc BY1;have Htk:=zAc htk;clear hr hownr hbl BY1 htk hY1 FY1 hc hel ht hq HMr hgl;go_wp2_with (rw [HY1.out]);refine HM1.out.mono ?_;rintro e w2 ⟨rfl,hb2⟩;have hlb:(btL d X Y (R.take i)).length=i:=by simp [btL];omega
   have r2:=(Hr.out.upto HbY.out).upto hb2;obtain ⟨v',w3,rA,rR,rO,rT⟩:=r2.push4 (st:=118) Tryz.underlying118 zFn ⟨qx,qy,qa,qb⟩ (by omega);obtain ⟨a2,cap2,hv2⟩:=rR.slice4;rw [List.length_append,List.length_cons,List.length_nil,Nat.zero_add,hlb] at hv2;subst hv2;have hbw:=bt Hbl.out hb2
   have HE:Hid (∃(i':Nat) (a:Option Addr) (cp:Nat),(Value.slice a2 (i+1) cap2) = .slice a i' cp/\(Value.int .i64 (((i:Nat):Int)+1)) = O ii (i':Nat)/\i'<=R.length/\(Rq 122 w3 (.slice a i' cp) (btL d X Y (R.take i'))/\∀g,(Value.slice a i' cp).ownBlock=some g->w1.heap.size<=g)/\Below w1.heap.size w1 w3):=zAc ⟨i+1,a2,cap2,rfl,by push_cast;rfl,by omega,⟨by rw [Htk.out];exact rR,fun g e=>by
    rcases rO g e with q|q
    ·exact Hown.out g q
    ·have:=hbw.size;omega⟩,hbw.trans (rT.below (fun j e=>Hown.out j e) hbw.size)⟩
   have HA:=zAc rA;clear rA rR rO rT hbw r2 hb2 c0 c1 c2 c3 d0 d1 d2 d3 HM1 hlb Htk Hown Hr HbY Hbl;go_wp2_with (at_builtin;refine zAv rfl _ _ 118 rfl _ _ rfl rfl HA.out ?_);go_roundw
   case rel=>exact HE.out
   case measure=>simp [intOf];omega
  ·have hle:¬((i:Nat):Int)<(R.length:Nat):=by omega
   have heq:i=R.length:=by omega
   have HE:Hid (∃lv,Ending.returned (Value.slice a i cp) = .returned lv/\Rq 122 wr lv (btL d X Y R)/\Below w.heap.size w wr/\∀g,lv.ownBlock=some g->w.heap.size<=g):=zAc ⟨_,rfl,by rw [heq,List.take_length] at hr;rw [heq];exact hr,bt HB1.out hbl,fun g e=>by have:=hownr g e;have:=HB1.out.size;omega⟩;clear heq hr hownr hbl;go_wp2_with fail;refine bodyPost_ret (v:=.slice a i cp) (by simp [results,Tryz.results124,go_sem]) rfl ?_;exact HE.out
end
end Go.Proofs.YthiafmlgialbnaaGreatDoor
