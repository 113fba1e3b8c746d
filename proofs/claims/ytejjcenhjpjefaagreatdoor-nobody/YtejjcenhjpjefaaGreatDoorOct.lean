import Derived.WalkKit
import Derived.OpenShut
import Derived.Laws.MathBits
import Derived.Laws.Bits64b
import Derived.Laws.BitsAllLaws
import Derived.Test.YtejjcenhjpjefaaGreatDoorBase
import Derived.WalkSpells
import Derived.WalkLawsBesides
set_option linter.all false
set_option maxRecDepth 1000000
set_option maxHeartbeats 64000000
open Go.Proofs.Tryz
open Go.Proofs.Tryz renaming prog->pg
open Go.Value renaming int->O
open Go.IntKind renaming i64->ii
namespace Go.Proofs.YtejjcenhjpjefaaGreatDoor
open Go.RowKit
def fit (n:Int):Bool:=decide (-9223372036854775808<=n/\n<=9223372036854775807)
def told (n:Int):Int:=if fit n=true then n else 0
theorem zDc (n:Int):fit n=true↔(-9223372036854775808<=n/\n<=9223372036854775807):=by simp [fit]
theorem zCl (n:Int):fit n=false↔(n < -9223372036854775808\/9223372036854775807<n):=by
 unfold fit;rw [decide_eq_false_iff_not];omega
theorem zYq {n:Int} (h1:-9223372036854775808<=n) (h2:n<=9223372036854775807):fit n=true:=(zDc n).2 ⟨h1,h2⟩
theorem zUi {n:Int} (h:n < -9223372036854775808\/9223372036854775807<n):fit n=false:=by
 cases hf:fit n with
 |false=>rfl
 |true=>have:=(zDc n).1 hf;omega
theorem zDm {n:Int} (h:fit n=true):told n=n:=by simp [told,h]
theorem zCo {n:Int} (h:fit n=false):told n=0:=by simp [told,h]
theorem zMe {n:Int} (h:fit n=true):wrap64 n=n:=by
 have:=(zDc n).1 h;unfold wrap64;omega
theorem zGz (v:BitVec 64):IntKind.i64.wrap (v.toNat:Int)=v.toInt:=by
 have:=v.isLt;rw [BitVec.toInt_eq_toNat_cond,IntKind.wrap_i64]
 split<;>omega
theorem zNd (x y:Int):bits .xor .i64 x y=(BitVec.ofInt 64 x ^^^ BitVec.ofInt 64 y).toInt:=zGz _
theorem zWb (x y:Int):bits .and .i64 x y=(BitVec.ofInt 64 x &&& BitVec.ofInt 64 y).toInt:=zGz _
theorem zEi (x:Int) (h:-9223372036854775808<=x/\x<=9223372036854775807):(BitVec.ofInt 64 x).msb=decide (x<0):=by
 rw [BitVec.msb_eq_toInt,BitVec.toInt_ofInt,Int.bmod_def]
 congr 1
 apply propext
 split<;>omega
theorem zNc (x y:Int) (hx:-9223372036854775808<=x/\x<=9223372036854775807) (hy:-9223372036854775808<=y/\y<=9223372036854775807) :
 (bits .xor .i64 x y<0)↔¬(x<0↔y<0):=by
 rw [zNd];have h:=BitVec.msb_eq_toInt (x:=BitVec.ofInt 64 x ^^^ BitVec.ofInt 64 y);rw [BitVec.msb_xor,zEi x hx,zEi y hy] at h;have h2:(decide ((BitVec.ofInt 64 x ^^^ BitVec.ofInt 64 y).toInt<0)=true)↔(BitVec.ofInt 64 x ^^^ BitVec.ofInt 64 y).toInt<0:=decide_eq_true_iff;rw [<-h2,<-h]
 by_cases h3:x<0<;>by_cases h4:y<0<;>simp [h3,h4]
theorem zWa (x y:Int) (hx:-9223372036854775808<=x/\x<=9223372036854775807) (hy:-9223372036854775808<=y/\y<=9223372036854775807) :
 (bits .and .i64 x y<0)↔(x<0/\y<0):=by
 rw [zWb];have h:=BitVec.msb_eq_toInt (x:=BitVec.ofInt 64 x &&& BitVec.ofInt 64 y);rw [BitVec.msb_and,zEi x hx,zEi y hy] at h;have h2:(decide ((BitVec.ofInt 64 x &&& BitVec.ofInt 64 y).toInt<0)=true)↔(BitVec.ofInt 64 x &&& BitVec.ofInt 64 y).toInt<0:=decide_eq_true_iff;rw [<-h2,<-h];simp
theorem zJn (v:BitVec 64):-9223372036854775808<=v.toInt/\v.toInt<=9223372036854775807:=by
 have h1:=BitVec.toInt_lt (x:=v);have h2:=BitVec.le_toInt (x:=v);omega
theorem zIo (x y:Int):-9223372036854775808<=bits .xor .i64 x y/\bits .xor .i64 x y<=9223372036854775807:=by
 rw [zNd];exact zJn _
theorem zE7 (n:Int):-9223372036854775808<=wrap64 n/\wrap64 n<=9223372036854775807:=by unfold wrap64;omega
theorem zP2 (a b:Int) (ha:-9223372036854775808<=a/\a<=9223372036854775807) (hb:-9223372036854775808<=b/\b<=9223372036854775807) :
 (bits .and .i64 (bits .xor .i64 a (wrap64 (a+b))) (bits .xor .i64 b (wrap64 (a+b)))<0)↔fit (a+b)=false:=by
 rw [zWa _ _ (zIo _ _) (zIo _ _),zNc _ _ ha (zE7 _),zNc _ _ hb (zE7 _),zCl];unfold wrap64;omega
theorem zDp (a b:Int) (ha:-9223372036854775808<=a/\a<=9223372036854775807) (hb:-9223372036854775808<=b/\b<=9223372036854775807) :
 -85070591730234615865843651857942052864<=a*b/\a*b<=85070591730234615865843651857942052864:=by
 have h:(a*b).natAbs<=9223372036854775808*9223372036854775808:=by
  rw [Int.natAbs_mul];exact Nat.mul_le_mul (by omega) (by omega)
 have e:(9223372036854775808*9223372036854775808:Nat)=85070591730234615865843651857942052864:=by decide
 omega
theorem zOk (a b M:Int):(a+M)*(b+M)=a*b+M*a+M*b+M*M:=by grind
theorem zM0 (a b M:Int):(a+M)*b=a*b+M*b:=by grind
theorem zMz (a b M:Int):a*(b+M)=a*b+M*a:=by grind
theorem zTf (a b:Int) (ha:-9223372036854775808<=a/\a<=9223372036854775807) (hb:-9223372036854775808<=b/\b<=9223372036854775807) (h1:0<=a) (h2:0<=b) :
 wrap64 (a*b/18446744073709551616)=a*b/18446744073709551616/\a*b%18446744073709551616=a*b%18446744073709551616:=by
 have hr:=zDp a b ha hb;unfold wrap64;generalize a*b=p at *;omega
theorem zTh (a b:Int) (ha:-9223372036854775808<=a/\a<=9223372036854775807) (hb:-9223372036854775808<=b/\b<=9223372036854775807) (h1:a<0) (h2:0<=b) :
 wrap64 (IntKind.u64.wrap ((a%18446744073709551616)*b/18446744073709551616-b))=a*b/18446744073709551616/\(a%18446744073709551616)*b%18446744073709551616=a*b%18446744073709551616:=by
 have hr:=zDp a b ha hb;have ea:a%18446744073709551616=a+18446744073709551616:=by omega
 rw [ea,zM0,IntKind.wrap_u64];unfold wrap64;generalize a*b=p at *;omega
theorem zTg (a b:Int) (ha:-9223372036854775808<=a/\a<=9223372036854775807) (hb:-9223372036854775808<=b/\b<=9223372036854775807) (h1:0<=a) (h2:b<0) :
 wrap64 (IntKind.u64.wrap (a*(b%18446744073709551616)/18446744073709551616-a))=a*b/18446744073709551616/\a*(b%18446744073709551616)%18446744073709551616=a*b%18446744073709551616:=by
 have hr:=zDp a b ha hb;have eb:b%18446744073709551616=b+18446744073709551616:=by omega
 rw [eb,zMz,IntKind.wrap_u64];unfold wrap64;generalize a*b=p at *;omega
theorem zTi (a b:Int) (ha:-9223372036854775808<=a/\a<=9223372036854775807) (hb:-9223372036854775808<=b/\b<=9223372036854775807) (h1:a<0) (h2:b<0) :
 wrap64 (IntKind.u64.wrap (IntKind.u64.wrap ((a%18446744073709551616)*(b%18446744073709551616)/18446744073709551616-b%18446744073709551616)-a%18446744073709551616))=a*b/18446744073709551616/\(a%18446744073709551616)*(b%18446744073709551616)%18446744073709551616=a*b%18446744073709551616:=by
 have hr:=zDp a b ha hb;have ea:a%18446744073709551616=a+18446744073709551616:=by omega
 have eb:b%18446744073709551616=b+18446744073709551616:=by omega
 rw [ea,eb,zOk,IntKind.wrap_u64,IntKind.wrap_u64];unfold wrap64;generalize a*b=p at *;omega
theorem zQ3 (p:Int) (h1:-85070591730234615865843651857942052864<=p) (h2:p<=85070591730234615865843651857942052864) :
 (p/18446744073709551616=wrap64 (p%18446744073709551616)/9223372036854775808↔fit p=true)/\(fit p=true->wrap64 (p%18446744073709551616)=p):=by
 rw [zDc];unfold wrap64;omega
def dvB (a b:Int):Bool:=if b=0 then false else fit (a.fdiv b)
def dvV (a b:Int):Int:=if dvB a b=true then a.fdiv b else 0
def mdV (a b:Int):Int:=if dvB a b=true then a.fmod b else 0
def amt (a:Int):Int:=if a<0 then -a else a
def zD3 (x y:Int):Int:=14*min (amt x) (amt y)+10*(max (amt x) (amt y)-min (amt x) (amt y))
theorem zC0 (a:Int) (ha:-9223372036854775808<=a/\a<=9223372036854775807):0<=amt a/\amt a<=9223372036854775808:=by unfold amt;split<;>omega
theorem zB4 {k:IntKind} {a b:Int} {p q:Bool} (h:a=b) (h2:p=q):Ending.returned (.tuple #[.int k a,.bool p]) = .returned (.tuple #[.int k b,.bool q]):=by rw [h,h2]
theorem zGb {k l:IntKind} {a b:Int} {p q:Int} (h:a=b) (h2:p=q):Ending.returned (.tuple #[.int k a,.int l p]) = .returned (.tuple #[.int k b,.int l q]):=by rw [h,h2]
theorem zSk {k:IntKind} {a b:Int} (h:a=b):Ending.returned (.int k a) = .returned (.int k b):=by rw [h]
theorem zK1 (a b:Int) (w:World) (ha:-9223372036854775808<=a/\a<=9223372036854775807) (hb:-9223372036854775808<=b/\b<=9223372036854775807) :
 Calls pg 116 #[O ii a,O ii b] w fun e w'=>e = .returned (.tuple #[O ii (told (a+b)),.bool (fit (a+b))])/\w'=w:=by
 have hw:=zAb (zP2 a b ha hb)
 cases hf:fit (a+b) with
 |false =>
  have h1:=hw.out.2 hf;have h2:=zAb hf;clear hf;go_enter func116,ntmps116;go_wp2
  go_ret2
  exact ⟨zB4 (zCo h2).symm rfl,rfl⟩
 |true =>
  have h1:¬_:=fun h=>Bool.noConfusion (hf.symm.trans (hw.out.1 h));have h2:=zAb hf;clear hf;go_enter func116,ntmps116;go_wp2
  go_ret2
  exact ⟨zB4 ((zMe h2).trans (zDm h2).symm) rfl,rfl⟩
theorem zOm (x y:Int) (w:World) (hx:0<=x/\x<18446744073709551616) (hy:0<=y/\y<18446744073709551616) :
 Calls pg 143 #[.int .u64 x,.int .u64 y] w fun e w'=>e = .returned (.tuple #[.int .u64 (x*y/18446744073709551616),.int .u64 (x*y%18446744073709551616)])/\w'=w:=by
 have e:=zAb (mul64_arith x y hx.1 hx.2 hy.1 hy.2);go_enter func143,ntmps143;go_wp2
 go_ret2
 refine ⟨zGb ?_ ?_,rfl⟩
 ·simp only [IntKind.wrap_u64,and_low32 x hx.1 hx.2,and_low32 y hy.1 hy.2];rw [and_low32 _ (by omega) (by omega)];exact e.out
 ·exact IntKind.wrap_u64 _
theorem zLw (a b:Int):(a%18446744073709551616)*(b%18446744073709551616)%18446744073709551616=a*b%18446744073709551616:=(Int.mul_emod a b 18446744073709551616).symm
theorem zK6 (a b:Int) (w:World) (ha:-9223372036854775808<=a/\a<=9223372036854775807) (hb:-9223372036854775808<=b/\b<=9223372036854775807) :
 Calls pg 168 #[O ii a,O ii b] w fun e w'=>e = .returned (.tuple #[O ii (a*b/18446744073709551616),.int .u64 (a*b%18446744073709551616)])/\w'=w:=by
 have m1:=zAb (zTf a b ha hb);have m2:=zAb (zTh a b ha hb);have m3:=zAb (zTg a b ha hb);have m4:=zAb (zTi a b ha hb);go_enter func168,ntmps168;go_wp2_with (go_at_call 143;refine (zOm _ _ _ (by rw [IntKind.wrap_u64];omega) (by rw [IntKind.wrap_u64];omega)).mono ?_;rintro e w' ⟨rfl,rfl⟩);all_goals go_ret2
 ·have h1:a<0:=by assumption
  have h2:b<0:=by assumption
  have h:=m4.out h1 h2;simp only [IntKind.wrap_u64] at h;refine ⟨zGb ?_ ?_,rfl⟩<;>simp only [IntKind.wrap_u64]
  ·exact h.1
  ·exact zLw a b
 ·have h1:a<0:=by assumption
  have h2:0<=b:=by assumption
  have h:=m2.out h1 h2;simp only [IntKind.wrap_u64] at h;refine ⟨zGb ?_ ?_,rfl⟩<;>simp only [IntKind.wrap_u64]
  ·exact h.1
  ·exact zLw a b
 ·have h1:0<=a:=by assumption
  have h2:b<0:=by assumption
  have h:=m3.out h1 h2;simp only [IntKind.wrap_u64] at h;refine ⟨zGb ?_ ?_,rfl⟩<;>simp only [IntKind.wrap_u64]
  ·exact h.1
  ·exact zLw a b
 ·have h1:0<=a:=by assumption
  have h2:0<=b:=by assumption
  have h:=m1.out h1 h2;exact ⟨zGb h.1 (by simp only [IntKind.wrap_u64];exact zLw a b),rfl⟩
theorem zUn (a b:Int) (w:World) (ha:-9223372036854775808<=a/\a<=9223372036854775807) (hb:-9223372036854775808<=b/\b<=9223372036854775807) :
 Calls pg 146 #[O ii a,O ii b] w fun e w'=>e = .returned (.tuple #[O ii (told (a*b)),.bool (fit (a*b))])/\w'=w:=by
 have hr:=zDp a b ha hb;have hm:=zAb (zQ3 (a*b) hr.1 hr.2)
 cases hf:fit (a*b) with
 |false =>
  have h1:(a*b/18446744073709551616 != wrap64 (a*b%18446744073709551616)/9223372036854775808)=true:=by
   rw [bne_iff_ne];intro h;exact Bool.noConfusion (hf.symm.trans (hm.out.1.1 h))
  have h2:=zAb hf;clear hf hm hr;go_enter func146,ntmps146;go_wp2_with (go_at_call 168;refine (zK6 _ _ _ ha hb).mono ?_;rintro e w' ⟨rfl,rfl⟩);go_ret2
  exact ⟨zB4 (zCo h2).symm rfl,rfl⟩
 |true =>
  have h1:(a*b/18446744073709551616 != wrap64 (a*b%18446744073709551616)/9223372036854775808)=false:=by
   rw [bne_eq_false_iff_eq];exact hm.out.1.2 hf
  have h3:=zAb (hm.out.2 hf);have h2:=zAb hf;clear hf hm hr;go_enter func146,ntmps146;go_wp2_with (go_at_call 168;refine (zK6 _ _ _ ha hb).mono ?_;rintro e w' ⟨rfl,rfl⟩);go_ret2
  exact ⟨zB4 (h3.out.trans (zDm h2).symm) rfl,rfl⟩
theorem zAu (a:Int) (w:World) (ha:-9223372036854775808<=a/\a<=9223372036854775807) :
 Calls pg 114 #[O ii a] w fun e w'=>e = .returned (.int .u64 (amt a))/\w'=w:=by
 go_enter func114,ntmps114;go_wp2
 all_goals go_ret
 ·have h:a<0:=by assumption
  refine ⟨zSk ?_,rfl⟩;simp only [IntKind.wrap_u64];unfold amt;rw [if_pos h];omega
 ·have h:0<=a:=by assumption
  refine ⟨zSk ?_,rfl⟩;unfold amt;rw [if_neg (by omega)]
theorem zA9 (n k:Int) (w:World) (hn:0<=n/\n<=9223372036854775808) (hk:1<=k/\k<=9223372036854775807) :
 Calls pg 115 #[.int .u64 n,O ii k] w fun e w'=>e = .returned (.tuple #[O ii (told (n*k)),.bool (fit (n*k))])/\w'=w:=by
 by_cases h:9223372036854775807<n
 ·have hf:fit (n*k)=false:=by
   have e:n=9223372036854775808:=by omega
   subst e;apply zUi;omega
  have h2:=zAb hf;clear hf;go_enter func115,ntmps115;go_wp2
  go_ret2
  exact ⟨zB4 (zCo h2).symm h2.out.symm,rfl⟩
 ·go_enter func115,ntmps115;go_wp2_with (go_at_call 146;refine (zUn _ _ _ (by omega) (by omega)).mono ?_;rintro e w' ⟨rfl,rfl⟩);go_ret2
  exact ⟨rfl,rfl⟩
theorem zOd (a b:Int) (w:World) (ha:-9223372036854775808<=a/\a<=9223372036854775807) (hb:-9223372036854775808<=b/\b<=9223372036854775807) (h:amt a<amt b) :
 Calls pg 86 #[O ii a,O ii b] w fun e w'=>e = .returned (.tuple #[O ii (told (zD3 a b)),.bool (fit (zD3 a b))])/\w'=w:=by
 have h1:=zC0 a ha;have h2:=zC0 b hb;have ho:zD3 a b=amt a*14+(amt b-amt a)*10:=by unfold zD3;omega
 have Ho:=zAb ho;clear ho
 cases hf1:fit (amt a*14) with
 |false =>
  have h2:fit (zD3 a b)=false:=by rw [Ho.out];rw [zCl] at hf1 ⊢;omega
  have h3:=zAb h2;clear h2;go_enter func86,ntmps86;go_wp2_with fail;refine (zAu _ _ ha).mono ?_;rintro e w' ⟨rfl,rfl⟩;go_wp2_with fail;refine (zAu _ _ hb).mono ?_;rintro e w' ⟨rfl,rfl⟩;go_wp2_with fail;refine (zA9 _ _ _ (by omega) (by omega)).mono ?_;rintro e w' ⟨rfl,rfl⟩;go_wp2_with fail;go_ret2
  exact ⟨zB4 (zCo h3).symm h3.out.symm,rfl⟩
 |true =>
  cases hf2:fit ((amt b-amt a)*10) with
  |false =>
   have h2:fit (zD3 a b)=false:=by rw [Ho.out];rw [zCl] at hf2 ⊢;omega
   have h3:=zAb h2;clear h2;go_enter func86,ntmps86;go_wp2_with fail;refine (zAu _ _ ha).mono ?_;rintro e w' ⟨rfl,rfl⟩;go_wp2_with fail;refine (zAu _ _ hb).mono ?_;rintro e w' ⟨rfl,rfl⟩;go_wp2_with fail;refine (zA9 _ _ _ (by omega) (by omega)).mono ?_;rintro e w' ⟨rfl,rfl⟩;go_wp2_with fail;refine (zA9 _ _ _ (by omega) (by omega)).mono ?_;rintro e w' ⟨rfl,rfl⟩;go_wp2_with fail;go_ret2
   exact ⟨zB4 (zCo h3).symm h3.out.symm,rfl⟩
  |true =>
   have t1:=zAb (zDm hf1);have t2:=zAb (zDm hf2);have r1:-9223372036854775808<=told (amt a*14)/\told (amt a*14)<=9223372036854775807:=by rw [t1.out];exact (zDc _).1 hf1
   have r2:-9223372036854775808<=told ((amt b-amt a)*10)/\told ((amt b-amt a)*10)<=9223372036854775807:=by rw [t2.out];exact (zDc _).1 hf2
   go_enter func86,ntmps86;go_wp2_with fail;refine (zAu _ _ ha).mono ?_;rintro e w' ⟨rfl,rfl⟩;go_wp2_with fail;refine (zAu _ _ hb).mono ?_;rintro e w' ⟨rfl,rfl⟩;go_wp2_with fail;refine (zA9 _ _ _ (by omega) (by omega)).mono ?_;rintro e w' ⟨rfl,rfl⟩;go_wp2_with fail;refine (zA9 _ _ _ (by omega) (by omega)).mono ?_;rintro e w' ⟨rfl,rfl⟩;go_wp2_with fail;refine (zK1 _ _ _ r1 r2).mono ?_;rintro e w' ⟨rfl,rfl⟩;go_wp2_with fail;go_ret2
   exact ⟨zB4 (by rw [t1.out,t2.out,Ho.out]) (by rw [t1.out,t2.out,Ho.out]),rfl⟩
theorem zOe (a b:Int) (w:World) (ha:-9223372036854775808<=a/\a<=9223372036854775807) (hb:-9223372036854775808<=b/\b<=9223372036854775807) (h:amt b<amt a) :
 Calls pg 86 #[O ii a,O ii b] w fun e w'=>e = .returned (.tuple #[O ii (told (zD3 a b)),.bool (fit (zD3 a b))])/\w'=w:=by
 have h1:=zC0 a ha;have h2:=zC0 b hb;have ho:zD3 a b=amt b*14+(amt a-amt b)*10:=by unfold zD3;omega
 have Ho:=zAb ho;clear ho
 cases hf1:fit (amt b*14) with
 |false =>
  have h2:fit (zD3 a b)=false:=by rw [Ho.out];rw [zCl] at hf1 ⊢;omega
  have h3:=zAb h2;clear h2;go_enter func86,ntmps86;go_wp2_with fail;refine (zAu _ _ ha).mono ?_;rintro e w' ⟨rfl,rfl⟩;go_wp2_with fail;refine (zAu _ _ hb).mono ?_;rintro e w' ⟨rfl,rfl⟩;go_wp2_with fail;refine (zA9 _ _ _ (by omega) (by omega)).mono ?_;rintro e w' ⟨rfl,rfl⟩;go_wp2_with fail;go_ret2
  exact ⟨zB4 (zCo h3).symm h3.out.symm,rfl⟩
 |true =>
  cases hf2:fit ((amt a-amt b)*10) with
  |false =>
   have h2:fit (zD3 a b)=false:=by rw [Ho.out];rw [zCl] at hf2 ⊢;omega
   have h3:=zAb h2;clear h2;go_enter func86,ntmps86;go_wp2_with fail;refine (zAu _ _ ha).mono ?_;rintro e w' ⟨rfl,rfl⟩;go_wp2_with fail;refine (zAu _ _ hb).mono ?_;rintro e w' ⟨rfl,rfl⟩;go_wp2_with fail;refine (zA9 _ _ _ (by omega) (by omega)).mono ?_;rintro e w' ⟨rfl,rfl⟩;go_wp2_with fail;refine (zA9 _ _ _ (by omega) (by omega)).mono ?_;rintro e w' ⟨rfl,rfl⟩;go_wp2_with fail;go_ret2
   exact ⟨zB4 (zCo h3).symm h3.out.symm,rfl⟩
  |true =>
   have t1:=zAb (zDm hf1);have t2:=zAb (zDm hf2);have r1:-9223372036854775808<=told (amt b*14)/\told (amt b*14)<=9223372036854775807:=by rw [t1.out];exact (zDc _).1 hf1
   have r2:-9223372036854775808<=told ((amt a-amt b)*10)/\told ((amt a-amt b)*10)<=9223372036854775807:=by rw [t2.out];exact (zDc _).1 hf2
   go_enter func86,ntmps86;go_wp2_with fail;refine (zAu _ _ ha).mono ?_;rintro e w' ⟨rfl,rfl⟩;go_wp2_with fail;refine (zAu _ _ hb).mono ?_;rintro e w' ⟨rfl,rfl⟩;go_wp2_with fail;refine (zA9 _ _ _ (by omega) (by omega)).mono ?_;rintro e w' ⟨rfl,rfl⟩;go_wp2_with fail;refine (zA9 _ _ _ (by omega) (by omega)).mono ?_;rintro e w' ⟨rfl,rfl⟩;go_wp2_with fail;refine (zK1 _ _ _ r1 r2).mono ?_;rintro e w' ⟨rfl,rfl⟩;go_wp2_with fail;go_ret2
   exact ⟨zB4 (by rw [t1.out,t2.out,Ho.out]) (by rw [t1.out,t2.out,Ho.out]),rfl⟩
theorem zOf (a b:Int) (w:World) (ha:-9223372036854775808<=a/\a<=9223372036854775807) (hb:-9223372036854775808<=b/\b<=9223372036854775807) (h:amt a=amt b) :
 Calls pg 86 #[O ii a,O ii b] w fun e w'=>e = .returned (.tuple #[O ii (told (zD3 a b)),.bool (fit (zD3 a b))])/\w'=w:=by
 have h1:=zC0 a ha;have h2:=zC0 b hb;have h3:amt a<=amt b:=by omega
 have h4:amt b<=amt a:=by omega
 have Ho:Hid (zD3 a b=amt a*14):=by show zD3 a b=amt a*14;unfold zD3;omega
 clear h
 cases hf1:fit (amt a*14) with
 |false =>
  have h6:fit (zD3 a b)=false:=by rw [Ho.out];exact hf1
  have h7:=zAb h6;clear h6;go_enter func86,ntmps86;go_wp2_with fail;refine (zAu _ _ ha).mono ?_;rintro e w' ⟨rfl,rfl⟩;go_wp2_with fail;refine (zAu _ _ hb).mono ?_;rintro e w' ⟨rfl,rfl⟩;go_wp2_with fail;refine (zA9 _ _ _ (by omega) (by omega)).mono ?_;rintro e w' ⟨rfl,rfl⟩;go_wp2_with fail;go_ret2
  exact ⟨zB4 (zCo h7).symm h7.out.symm,rfl⟩
 |true =>
  have t1:=zAb (zDm hf1);have r1:-9223372036854775808<=told (amt a*14)/\told (amt a*14)<=9223372036854775807:=by rw [t1.out];exact (zDc _).1 hf1
  have f0:fit 0=true:=by decide
  have t0:told 0=0:=by decide
  go_enter func86,ntmps86;go_wp2_with fail;refine (zAu _ _ ha).mono ?_;rintro e w' ⟨rfl,rfl⟩;go_wp2_with fail;refine (zAu _ _ hb).mono ?_;rintro e w' ⟨rfl,rfl⟩;go_wp2_with fail;refine (zA9 _ _ _ (by omega) (by omega)).mono ?_;rintro e w' ⟨rfl,rfl⟩;go_wp2_with fail;refine (zA9 _ _ _ (by omega) (by omega)).mono ?_;rintro e w' ⟨rfl,rfl⟩;go_wp2_with fail;refine (zK1 _ _ _ r1 (by omega)).mono ?_;rintro e w' ⟨rfl,rfl⟩;go_wp2_with fail;go_ret2
  exact ⟨zB4 (by rw [t1.out,Ho.out]) (by rw [t1.out,Ho.out]),rfl⟩
theorem zMx (a b:Int) (w:World) (ha:-9223372036854775808<=a/\a<=9223372036854775807) (hb:-9223372036854775808<=b/\b<=9223372036854775807) :
 Calls pg 86 #[O ii a,O ii b] w fun e w'=>e = .returned (.tuple #[O ii (told (zD3 a b)),.bool (fit (zD3 a b))])/\w'=w:=by
 rcases Int.lt_trichotomy (amt a) (amt b) with h|h|h
 ·exact zOd a b w ha hb h
 ·exact zOf a b w ha hb h
 ·exact zOe a b w ha hb h
theorem zNe {n:Int} (h0:-9223372036854775808<=n) (h1:n<=9223372036854775807):IntKind.i64.wrap n=n:=by rw [IntKind.wrap_i64];omega
theorem zMb {a c:Int} (h:-1048576<=a/\a<=1048576) (h2:-1048576<=c/\c<=1048576):0<=amt (a-c)/\amt (a-c)<=2097152:=by unfold amt;split<;>omega
def ocN (a b c d:Int):Int:=if (nrC a b&&nrC c d)=true then zD3 (a-c) (b-d) else 0
theorem zUh {a b c d:Int} (h:nrC a b=false):ocN a b c d=0:=by simp [ocN,h]
theorem zUg {a b c d:Int} (h:nrC c d=false):ocN a b c d=0:=by simp [ocN,h]
theorem zJ9 {a b c d:Int} (h:nrC a b=true) (h2:nrC c d=true):ocN a b c d=zD3 (a-c) (b-d):=by simp [ocN,h,h2]
theorem zQz {a b c d:Int} (h:nrC a b=true) (h2:nrC c d=true):told (zD3 (a-c) (b-d))=zD3 (a-c) (b-d):=by
 have h:=(zBq a b).1 h;have h2:=(zBq c d).1 h2;have m1:=zMb h.1 h2.1;have m2:=zMb h.2 h2.2;apply zDm;apply zYq<;>(unfold zD3;omega)
theorem zJ8 (a b c d:Int) (w:World) (h:nrC a b=false) :
 Calls pg 48 #[.agg #[O ii a,O ii b],.agg #[O ii c,O ii d]] w fun e w'=>e = .returned (O ii (ocN a b c d))/\Below w.heap.size w w':=by
 rw [zUh h];go_enter func48,ntmps48;go_wp2_with (go_at_call 73;refine (zBh _ _ _).mono ?_;rintro e w1 ⟨rfl,hb1⟩);go_ret;exact ⟨rfl,bt (zBe _ _ _) hb1⟩
theorem zJ7 (a b c d:Int) (w:World) (h:nrC a b=true) (h2:nrC c d=false) :
 Calls pg 48 #[.agg #[O ii a,O ii b],.agg #[O ii c,O ii d]] w fun e w'=>e = .returned (O ii (ocN a b c d))/\Below w.heap.size w w':=by
 rw [zUg h2];go_enter func48,ntmps48;go_wp2_with fail;refine (zBh _ _ _).mono ?_;rintro e w1 ⟨rfl,hb1⟩;obtain ⟨⟨e0,e1⟩,_,z1⟩:=zCs hb1;go_wp2_with fail;refine (zBh _ _ _).mono ?_;rintro e w2 ⟨rfl,hb2⟩;go_wp2_with fail;go_ret;exact ⟨rfl,bt (bt (zBe _ _ _) hb1) hb2⟩
theorem zJ6 (a b c d:Int) (w:World) (h:nrC a b=true) (h2:nrC c d=true) :
 Calls pg 48 #[.agg #[O ii a,O ii b],.agg #[O ii c,O ii d]] w fun e w'=>e = .returned (O ii (ocN a b c d))/\Below w.heap.size w w':=by
 rw [zJ9 h h2];obtain ⟨⟨a0,a1⟩,b0,b1⟩:=(zBq a b).1 h;obtain ⟨⟨cc0,cc1⟩,d0,d1⟩:=(zBq c d).1 h2;have HO:=zAb (zQz h h2);have wx:IntKind.i64.wrap (a-c)=a-c:=zNe (by omega) (by omega);have wy:IntKind.i64.wrap (b-d)=b-d:=zNe (by omega) (by omega);go_enter func48,ntmps48;go_wp2_with fail;refine (zBh _ _ _).mono ?_;rintro e w1 ⟨rfl,hb1⟩;obtain ⟨⟨c0,c1⟩,⟨f0,f1⟩,z0⟩:=zGq hb1;obtain ⟨⟨e0,e1⟩,⟨g0,g1⟩,z1⟩:=zCs hb1;have B1:=zAb (bt (zBe _ _ _) hb1);clear hb1;go_wp2_with fail;refine (zBh _ _ _).mono ?_;rintro e w2 ⟨rfl,hb2⟩;obtain ⟨⟨k0,k1⟩,_⟩:=Below.two hb2 z0 c0 c1 f0 f1;obtain ⟨⟨l0,l1⟩,_⟩:=Below.two hb2 z1 e0 e1 g0 g1;have B2:=zAb hb2;clear hb2 c0 c1 e0 e1;go_wp2_with (go_at_call 86;refine (zMx _ _ _ (by omega) (by omega)).mono ?_;rintro e w' ⟨rfl,rfl⟩);go_ret;exact ⟨zH4 HO.out,bt B1.out B2.out⟩
theorem zGg (a b c d:Int) (w:World) :
 Calls pg 48 #[.agg #[O ii a,O ii b],.agg #[O ii c,O ii d]] w fun e w'=>e = .returned (O ii (ocN a b c d))/\Below w.heap.size w w':=by
 cases h:nrC a b
 ·exact zJ8 a b c d w h
 ·cases h2:nrC c d
  ·exact zJ7 a b c d w h h2
  ·exact zJ6 a b c d w h h2
end Go.Proofs.YtejjcenhjpjefaaGreatDoor
