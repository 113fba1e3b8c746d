import Derived.Test.YthiafmlgialbnaaGreatDoorBase
import Derived.Deep.QuietTactic
import Derived.BigQuiet
import Derived.Test.YthiafmlgialbnaaGreatDoorHas
set_option linter.all false
set_option maxRecDepth 1000000
set_option maxHeartbeats 64000000
open Go.Proofs.Tryz
open Go.Proofs.Tryz renaming prog->pg
open Go.Value renaming int->O
open Go.IntKind renaming i64->ii
namespace Go.Proofs.YthiafmlgialbnaaGreatDoor
open Go.RowKit
structure Lat (W:World) where
 w:World
 h:Below W.heap.size W w
theorem zAq (W:World):Nonempty (Lat W):=⟨⟨W,Below.refl _ _⟩⟩
theorem zAh {P:Program} {id:Nat} {Q:Exit->Act->World->Prop} {a:Act} {w:World} {l:List Oper} (hm:P.follows .mixedOrders=true) (hB:Region.lexB .any l.toArray=true)
 (h:wpQuiet P l.toArray (fun w'=>∃n:Lat w,w'=n.w) (fun a'=>∀w',(∃n:Lat w,w'=n.w)->Q .normal a' w') l a):(Code.region id l.toArray true).wp P Q a w:=
 wp_region_quiet (C:=fun w'=>∃n:Lat w,w'=n.w) hm hB ⟨⟨w.drew,(Below.refl _ _).drew⟩,rfl⟩ (by simpa using h)
theorem zAi {P:Program} {f:FuncId} {args:Array Value} {W:World} {n:Lat W} {v:Value} (h:Calls P f args n.w fun e w'=>e = .returned v/\Below n.w.heap.size n.w w') :
 Calls P f args n.w fun e w''=>e = .returned v/\∃m:Lat W,w''=m.w:=
 h.mono fun _ w' ⟨he,hb⟩=>⟨he,⟨w',bt n.h hb⟩,rfl⟩
theorem zA3 {P:Program} {f:FuncId} {args:Array Value} {W:World} {n:Lat W} {v:Value} (h:Calls P f args n.w fun e w'=>e = .returned v/\w'=n.w) :
 Calls P f args n.w fun e w''=>e = .returned v/\∃m:Lat W,w''=m.w:=
 h.mono fun _ w' ⟨he,hb⟩=>⟨he,n,hb⟩
theorem zKx (u v:Int) (w:World):(Instr.field 47 (.agg #[O ii u,O ii v]) 0).run pg w = .ok (O ii u) w:=by kernel_rfl
theorem zKw (u v:Int) (w:World):(Instr.field 47 (.agg #[O ii u,O ii v]) 1).run pg w = .ok (O ii v) w:=by kernel_rfl
theorem zA7 {x y a b:Int} {c:Bool} (w:World) (h:may x y a b=c) :
 Calls pg 148 #[.agg #[O ii x,O ii y,O ii a,O ii b]] w fun e w'=>e = .returned (.bool c)/\Below w.heap.size w w':=by
 subst h;exact zH8 x y a b w
theorem zEm (w:World) (x y a b p q:Int):∃W,WR w x y a b p q=W/\Below w.heap.size w W/\
 ((∀n:Lat W,n.w.cell? ⟨w.heap.size,0,none⟩=some (O ii x))/\(∀n:Lat W,n.w.cell? ⟨w.heap.size,1,none⟩=some (O ii y))/\(∀n:Lat W,n.w.cell? ⟨w.heap.size,2,none⟩=some (O ii a))/\(∀n:Lat W,n.w.cell? ⟨w.heap.size,3,none⟩=some (O ii b)))/\
 (∀n:Lat W,n.w.cell? ⟨w.heap.size+1,0,none⟩=some (O ii p))/\(∀n:Lat W,n.w.cell? ⟨w.heap.size+1,1,none⟩=some (O ii q)):=
 ⟨_,rfl,zA5 _ _ _,⟨fun n=>(zC1 n.h).1.1,fun n=>(zC1 n.h).1.2.1,fun n=>(zC1 n.h).1.2.2.1,fun n=>(zC1 n.h).1.2.2.2⟩,fun n=>(zBu n.h).1.1,fun n=>(zBu n.h).1.2⟩
theorem zP6 (x y a b p q:Int) (w:World) (h:may x y a b=false) :
 Calls pg 145 #[.agg #[O ii x,O ii y,O ii a,O ii b],.agg #[O ii p,O ii q]] w fun e w'=>e = .returned (.bool (has x y a b p q))/\Below w.heap.size w w':=by
 rw [show has x y a b p q=false from zV0 h];have f0:=zKx;have f1:=zKw;obtain ⟨W,hW,HB,⟨c0,c1,c2,c3⟩,e0,e1⟩:=zEm w x y a b p q;go_enter func145,ntmps145;go_wp2_with fail;clear hW;have hne:=zAq W;refine zAh (by kernel_rfl) (by kernel_rfl) ?_
 repeat (go_big_quiet_step (first
  |(go_at_call 148;exact zAi (zA7 _ h))
  |(go_at_call 149;exact zAi (zA9 _ _ _ _ _ h h h))))
 refine wpQuiet_nil ?_;rintro _ ⟨n,rfl⟩;go_wp2_with fail;go_ret;exact ⟨rfl,HB.trans (n.h.mono HB.size)⟩
theorem zTd (x y a b p q:Int) (w:World) (h:may x y a b=true) (h1:¬x<=p) :
 Calls pg 145 #[.agg #[O ii x,O ii y,O ii a,O ii b],.agg #[O ii p,O ii q]] w fun e w'=>e = .returned (.bool (has x y a b p q))/\Below w.heap.size w w':=by
 rw [show has x y a b p q=false from zV4 h1];have hd:=decide_eq_false h1;have f0:=zKx;have f1:=zKw;obtain ⟨W,hW,HB,⟨c0,c1,c2,c3⟩,e0,e1⟩:=zEm w x y a b p q;go_enter func145,ntmps145;go_wp2_with fail;clear hW;have hne:=zAq W;refine zAh (by kernel_rfl) (by kernel_rfl) ?_
 repeat (go_big_quiet_step (first
  |(go_at_call 148;exact zAi (zA7 _ h))
  |(go_at_call 149;exact zAi (zA9 _ _ _ _ _ h h h))))
 refine wpQuiet_nil ?_;rintro _ ⟨n,rfl⟩;go_wp2_with fail;go_ret;exact ⟨rfl,HB.trans (n.h.mono HB.size)⟩
theorem zTc (x y a b p q:Int) (w:World) (h:may x y a b=true) (h1:x<=p) (h2:¬y<=q) :
 Calls pg 145 #[.agg #[O ii x,O ii y,O ii a,O ii b],.agg #[O ii p,O ii q]] w fun e w'=>e = .returned (.bool (has x y a b p q))/\Below w.heap.size w w':=by
 rw [show has x y a b p q=false from zV2 h2];have hd:=decide_eq_false h2;have f0:=zKx;have f1:=zKw;obtain ⟨W,hW,HB,⟨c0,c1,c2,c3⟩,e0,e1⟩:=zEm w x y a b p q;go_enter func145,ntmps145;go_wp2_with fail;clear hW;have hne:=zAq W;refine zAh (by kernel_rfl) (by kernel_rfl) ?_
 repeat (go_big_quiet_step (first
  |(go_at_call 148;exact zAi (zA7 _ h))
  |(go_at_call 149;exact zAi (zA9 _ _ _ _ _ h h h))))
 refine wpQuiet_nil ?_;rintro _ ⟨n,rfl⟩;go_wp2_with fail;go_ret;exact ⟨rfl,HB.trans (n.h.mono HB.size)⟩
theorem zTb (x y a b p q:Int) (w:World) (h:may x y a b=true) (h1:x<=p) (h2:y<=q) (h3:¬p<=x+a-1) (m1:nrC x y=true) (m2:sd a=true) (m3:sd b=true) :
 Calls pg 145 #[.agg #[O ii x,O ii y,O ii a,O ii b],.agg #[O ii p,O ii q]] w fun e w'=>e = .returned (.bool (has x y a b p q))/\Below w.heap.size w w':=by
 rw [show has x y a b p q=false from zV3 h3];have hd:=decide_eq_false h3;have f0:=zKx;have f1:=zKw;obtain ⟨W,hW,HB,⟨c0,c1,c2,c3⟩,e0,e1⟩:=zEm w x y a b p q;go_enter func145,ntmps145;go_wp2_with fail;clear hW;have hne:=zAq W;refine zAh (by kernel_rfl) (by kernel_rfl) ?_
 repeat (go_big_quiet_step (first
  |(go_at_call 148;exact zAi (zA7 _ h))
  |(go_at_call 149;exact zAi (zA9 _ _ _ _ _ m1 m2 m3))))
 refine wpQuiet_nil ?_;rintro _ ⟨n,rfl⟩;go_wp2_with fail;go_ret;exact ⟨rfl,HB.trans (n.h.mono HB.size)⟩
theorem zTa (x y a b p q:Int) (w:World) (h:may x y a b=true) (h1:x<=p) (h2:y<=q) (h3:p<=x+a-1) (m1:nrC x y=true) (m2:sd a=true) (m3:sd b=true) :
 Calls pg 145 #[.agg #[O ii x,O ii y,O ii a,O ii b],.agg #[O ii p,O ii q]] w fun e w'=>e = .returned (.bool (has x y a b p q))/\Below w.heap.size w w':=by
 rw [show has x y a b p q=decide (q<=y+b-1) from qBu h h1 h3 h2];have f0:=zKx;have f1:=zKw;obtain ⟨W,hW,HB,⟨c0,c1,c2,c3⟩,e0,e1⟩:=zEm w x y a b p q;go_enter func145,ntmps145;go_wp2_with fail;clear hW;have hne:=zAq W;refine zAh (by kernel_rfl) (by kernel_rfl) ?_
 repeat (go_big_quiet_step (first
  |(go_at_call 148;exact zAi (zA7 _ h))
  |(go_at_call 149;exact zAi (zA9 _ _ _ _ _ m1 m2 m3))))
 refine wpQuiet_nil ?_;rintro _ ⟨n,rfl⟩;go_wp2_with fail;go_ret;exact ⟨rfl,HB.trans (n.h.mono HB.size)⟩
theorem zOl (x y a b p q:Int) (w:World) :
 Calls pg 145 #[.agg #[O ii x,O ii y,O ii a,O ii b],.agg #[O ii p,O ii q]] w fun e w'=>e = .returned (.bool (has x y a b p q))/\Below w.heap.size w w':=by
 cases h:may x y a b
 ·exact zP6 x y a b p q w h
 ·obtain ⟨m1,m2,m3,_⟩:=zBj h
  by_cases h1:x<=p
  ·by_cases h2:y<=q
   ·by_cases h3:p<=x+a-1
    ·exact zTa x y a b p q w h h1 h2 h3 m1 m2 m3
    ·exact zTb x y a b p q w h h1 h2 h3 m1 m2 m3
   ·exact zTc x y a b p q w h h1 h2
  ·exact zTd x y a b p q w h h1
def wi (x y a b p q c d:Int):Bool:=may x y a b&&(has p q c d x y&&has p q c d (x+a-1) (y+b-1))
abbrev WQ (w:World) (x y a b p q c d:Int):World:=(w.alloc (.cells #[O ii x,O ii y,O ii a,O ii b] 49)).alloc (.cells #[O ii p,O ii q,O ii c,O ii d] 49)
theorem zBs {x y a b:Int} {c:Bool} (w:World) (h:may x y a b=c) :
 Calls pg 25 #[.agg #[O ii x,O ii y,O ii a,O ii b]] w fun e w'=>e = .returned (.bool c)/\Below w.heap.size w w':=by
 subst h;exact zJe x y a b w
theorem zBy {x y a b p q:Int} {c:Bool} (w:World) (h:has x y a b p q=c) :
 Calls pg 122 #[.agg #[O ii x,O ii y,O ii a,O ii b],.agg #[O ii p,O ii q]] w fun e w'=>e = .returned (.bool c)/\Below w.heap.size w w':=by
 subst h;exact zNj x y a b p q w
theorem zBo {x y a b p q:Int} {c:Bool} (w:World) (h:has x y a b p q=c) :
 Calls pg 145 #[.agg #[O ii x,O ii y,O ii a,O ii b],.agg #[O ii p,O ii q]] w fun e w'=>e = .returned (.bool c)/\Below w.heap.size w w':=by
 subst h;exact zOl x y a b p q w
theorem zD9 {w w1:World} {a b c d:Value} {t:TypeId} {o:Obj} (h:Below ((w.alloc o).alloc (.cells #[a,b,c,d] t)).heap.size ((w.alloc o).alloc (.cells #[a,b,c,d] t)) w1) :
 (w1.cell? ⟨w.heap.size+1,0,none⟩=some a/\w1.cell? ⟨w.heap.size+1,1,none⟩=some b/\w1.cell? ⟨w.heap.size+1,2,none⟩=some c/\w1.cell? ⟨w.heap.size+1,3,none⟩=some d)/\(w1.frozen? ⟨w.heap.size+1,0,none⟩=false/\w1.frozen? ⟨w.heap.size+1,1,none⟩=false/\w1.frozen? ⟨w.heap.size+1,2,none⟩=false/\w1.frozen? ⟨w.heap.size+1,3,none⟩=false)/\w.heap.size+1<w1.heap.size:=by
 have:=zA2 h;simpa using this
theorem zDw (w:World) (x y a b p q c d:Int):∃W,WQ w x y a b p q c d=W/\Below w.heap.size w W/\
 ((∀n:Lat W,n.w.cell? ⟨w.heap.size,0,none⟩=some (O ii x))/\(∀n:Lat W,n.w.cell? ⟨w.heap.size,1,none⟩=some (O ii y))/\(∀n:Lat W,n.w.cell? ⟨w.heap.size,2,none⟩=some (O ii a))/\(∀n:Lat W,n.w.cell? ⟨w.heap.size,3,none⟩=some (O ii b)))/\
 ((∀n:Lat W,n.w.cell? ⟨w.heap.size+1,0,none⟩=some (O ii p))/\(∀n:Lat W,n.w.cell? ⟨w.heap.size+1,1,none⟩=some (O ii q))/\(∀n:Lat W,n.w.cell? ⟨w.heap.size+1,2,none⟩=some (O ii c))/\(∀n:Lat W,n.w.cell? ⟨w.heap.size+1,3,none⟩=some (O ii d))):=
 ⟨_,rfl,zA5 _ _ _,⟨fun n=>(zC1 n.h).1.1,fun n=>(zC1 n.h).1.2.1,fun n=>(zC1 n.h).1.2.2.1,fun n=>(zC1 n.h).1.2.2.2⟩,fun n=>(zD9 n.h).1.1,fun n=>(zD9 n.h).1.2.1,fun n=>(zD9 n.h).1.2.2.1,fun n=>(zD9 n.h).1.2.2.2⟩
theorem zSj (x y a b p q c d:Int) (w:World) (h:may x y a b=false) :
 Calls pg 113 #[.agg #[O ii x,O ii y,O ii a,O ii b],.agg #[O ii p,O ii q,O ii c,O ii d]] w fun e w'=>e = .returned (.bool (wi x y a b p q c d))/\Below w.heap.size w w':=by
 rw [show wi x y a b p q c d=false by simp [wi,h]];obtain ⟨W,hW,HB,⟨c0,c1,c2,c3⟩,e0,e1,e2,e3⟩:=zDw w x y a b p q c d;go_enter func113,ntmps113;go_wp2_with fail;clear hW;have hne:=zAq W;refine zAh (by kernel_rfl) (by kernel_rfl) ?_
 repeat (go_big_quiet_step (first
  |(go_at_call 25;exact zAi (zBs _ h))))
 refine wpQuiet_nil ?_;rintro _ ⟨n,rfl⟩;go_wp2_with fail;go_ret;exact ⟨rfl,HB.trans (n.h.mono HB.size)⟩
theorem zSi (x y a b p q c d:Int) (w:World) (h:may x y a b=true) (h1:has p q c d x y=false) :
 Calls pg 113 #[.agg #[O ii x,O ii y,O ii a,O ii b],.agg #[O ii p,O ii q,O ii c,O ii d]] w fun e w'=>e = .returned (.bool (wi x y a b p q c d))/\Below w.heap.size w w':=by
 rw [show wi x y a b p q c d=false by simp [wi,h1]];obtain ⟨W,hW,HB,⟨c0,c1,c2,c3⟩,e0,e1,e2,e3⟩:=zDw w x y a b p q c d;go_enter func113,ntmps113;go_wp2_with fail;clear hW;have hne:=zAq W;refine zAh (by kernel_rfl) (by kernel_rfl) ?_
 repeat (go_big_quiet_step (first
  |(go_at_call 25;exact zAi (zBs _ h))
  |(go_at_call 122;exact zAi (zBy _ h1))))
 refine wpQuiet_nil ?_;rintro _ ⟨n,rfl⟩;go_wp2_with fail;go_ret;exact ⟨rfl,HB.trans (n.h.mono HB.size)⟩
theorem zSh (x y a b p q c d:Int) (w:World) (h:may x y a b=true) (h1:has p q c d x y=true) (m1:nrC x y=true) (m2:sd a=true) (m3:sd b=true) :
 Calls pg 113 #[.agg #[O ii x,O ii y,O ii a,O ii b],.agg #[O ii p,O ii q,O ii c,O ii d]] w fun e w'=>e = .returned (.bool (wi x y a b p q c d))/\Below w.heap.size w w':=by
 rw [show wi x y a b p q c d=has p q c d (x+a-1) (y+b-1) by simp [wi,h,h1]];obtain ⟨W,hW,HB,⟨c0,c1,c2,c3⟩,e0,e1,e2,e3⟩:=zDw w x y a b p q c d;go_enter func113,ntmps113;go_wp2_with fail;clear hW;have hne:=zAq W;refine zAh (by kernel_rfl) (by kernel_rfl) ?_
 iterate 7 (go_big_quiet_step (first
  |(go_at_call 25;exact zAi (zBs _ h))
  |(go_at_call 122;exact zAi (zBy _ h1))))
 repeat (go_big_quiet_step (first
  |(go_at_call 53;exact zAi (zDh _ _ _ _ _ m1 m2 m3))
  |(go_at_call 122;exact zAi (zBy _ rfl))))
 refine wpQuiet_nil ?_;rintro _ ⟨n,rfl⟩;go_wp2_with fail;go_ret;exact ⟨rfl,HB.trans (n.h.mono HB.size)⟩
theorem zCd (x y a b p q c d:Int) (w:World) :
 Calls pg 113 #[.agg #[O ii x,O ii y,O ii a,O ii b],.agg #[O ii p,O ii q,O ii c,O ii d]] w fun e w'=>e = .returned (.bool (wi x y a b p q c d))/\Below w.heap.size w w':=by
 cases h:may x y a b
 ·exact zSj x y a b p q c d w h
 ·obtain ⟨m1,m2,m3,_⟩:=zBj h;cases h1:has p q c d x y
  ·exact zSi x y a b p q c d w h h1
  ·exact zSh x y a b p q c d w h h1 m1 m2 m3
theorem zLe (x y a b p q c d:Int) (w:World) (h:may x y a b=false) :
 Calls pg 101 #[.agg #[O ii x,O ii y,O ii a,O ii b],.agg #[O ii p,O ii q,O ii c,O ii d]] w fun e w'=>e = .returned (.bool (wi x y a b p q c d))/\Below w.heap.size w w':=by
 rw [show wi x y a b p q c d=false by simp [wi,h]];obtain ⟨W,hW,HB,⟨c0,c1,c2,c3⟩,e0,e1,e2,e3⟩:=zDw w x y a b p q c d;go_enter func101,ntmps101;go_wp2_with fail;clear hW;have hne:=zAq W;refine zAh (by kernel_rfl) (by kernel_rfl) ?_
 repeat (go_big_quiet_step (first
  |(go_at_call 148;exact zAi (zA7 _ h))))
 refine wpQuiet_nil ?_;rintro _ ⟨n,rfl⟩;go_wp2_with fail;go_ret;exact ⟨rfl,HB.trans (n.h.mono HB.size)⟩
theorem zLd (x y a b p q c d:Int) (w:World) (h:may x y a b=true) (h1:has p q c d x y=false) :
 Calls pg 101 #[.agg #[O ii x,O ii y,O ii a,O ii b],.agg #[O ii p,O ii q,O ii c,O ii d]] w fun e w'=>e = .returned (.bool (wi x y a b p q c d))/\Below w.heap.size w w':=by
 rw [show wi x y a b p q c d=false by simp [wi,h1]];obtain ⟨W,hW,HB,⟨c0,c1,c2,c3⟩,e0,e1,e2,e3⟩:=zDw w x y a b p q c d;go_enter func101,ntmps101;go_wp2_with fail;clear hW;have hne:=zAq W;refine zAh (by kernel_rfl) (by kernel_rfl) ?_
 repeat (go_big_quiet_step (first
  |(go_at_call 148;exact zAi (zA7 _ h))
  |(go_at_call 145;exact zAi (zBo _ h1))))
 refine wpQuiet_nil ?_;rintro _ ⟨n,rfl⟩;go_wp2_with fail;go_ret;exact ⟨rfl,HB.trans (n.h.mono HB.size)⟩
theorem zLc (x y a b p q c d:Int) (w:World) (h:may x y a b=true) (h1:has p q c d x y=true) (m1:nrC x y=true) (m2:sd a=true) (m3:sd b=true) :
 Calls pg 101 #[.agg #[O ii x,O ii y,O ii a,O ii b],.agg #[O ii p,O ii q,O ii c,O ii d]] w fun e w'=>e = .returned (.bool (wi x y a b p q c d))/\Below w.heap.size w w':=by
 rw [show wi x y a b p q c d=has p q c d (x+a-1) (y+b-1) by simp [wi,h,h1]];obtain ⟨W,hW,HB,⟨c0,c1,c2,c3⟩,e0,e1,e2,e3⟩:=zDw w x y a b p q c d;go_enter func101,ntmps101;go_wp2_with fail;clear hW;have hne:=zAq W;refine zAh (by kernel_rfl) (by kernel_rfl) ?_
 iterate 7 (go_big_quiet_step (first
  |(go_at_call 148;exact zAi (zA7 _ h))
  |(go_at_call 145;exact zAi (zBo _ h1))))
 repeat (go_big_quiet_step (first
  |(go_at_call 149;exact zAi (zA9 _ _ _ _ _ m1 m2 m3))
  |(go_at_call 145;exact zAi (zBo _ rfl))))
 refine wpQuiet_nil ?_;rintro _ ⟨n,rfl⟩;go_wp2_with fail;go_ret;exact ⟨rfl,HB.trans (n.h.mono HB.size)⟩
theorem zE0 (x y a b p q c d:Int) (w:World) :
 Calls pg 101 #[.agg #[O ii x,O ii y,O ii a,O ii b],.agg #[O ii p,O ii q,O ii c,O ii d]] w fun e w'=>e = .returned (.bool (wi x y a b p q c d))/\Below w.heap.size w w':=by
 cases h:may x y a b
 ·exact zLe x y a b p q c d w h
 ·obtain ⟨m1,m2,m3,_⟩:=zBj h;cases h1:has p q c d x y
  ·exact zLd x y a b p q c d w h h1
  ·exact zLc x y a b p q c d w h h1 m1 m2 m3
def zGo:Value:=.agg #[O ii 0,O ii 0,O ii 0,O ii 0]
def zZ6 (u v s t:Int):Value:=.agg #[O ii u,O ii v,O ii (s-u+1),O ii (t-v+1)]
def mtB (x y a b p q c d:Int):Bool:=may x y a b&&(may p q c d&&(decide (max x p<=min (x+a-1) (p+c-1))&&decide (max y q<=min (y+b-1) (q+d-1))))
def mtV (x y a b p q c d:Int):Value:=if mtB x y a b p q c d=true then zZ6 (max x p) (max y q) (min (x+a-1) (p+c-1)) (min (y+b-1) (q+d-1)) else zGo
def huB (x y a b p q c d:Int):Bool:=may x y a b&&(may p q c d&&may (min x p) (min y q) (max (x+a-1) (p+c-1)-min x p+1) (max (y+b-1) (q+d-1)-min y q+1))
def huV (x y a b p q c d:Int):Value:=if huB x y a b p q c d=true then zZ6 (min x p) (min y q) (max (x+a-1) (p+c-1)) (max (y+b-1) (q+d-1)) else zGo
theorem zNc {x y a b p q c d:Int} (h:may x y a b=true) (h2:may p q c d=true) :
 may (max x p) (max y q) (min (x+a-1) (p+c-1)-max x p+1) (min (y+b-1) (q+d-1)-max y q+1)=(decide (max x p<=min (x+a-1) (p+c-1))&&decide (max y q<=min (y+b-1) (q+d-1))):=by
 have h:=(zA0 _ _ _ _).1 h;have h2:=(zA0 _ _ _ _).1 h2;rw [Bool.eq_iff_iff,zA0,Bool.and_eq_true,decide_eq_true_iff,decide_eq_true_iff];omega
theorem zVq {x y a b p q c d:Int} (h:may x y a b=true) (h2:may p q c d=true) :
 mtB x y a b p q c d=may (max x p) (max y q) (min (x+a-1) (p+c-1)-max x p+1) (min (y+b-1) (q+d-1)-max y q+1):=by
 rw [zNc h h2,mtB,h,h2];simp
theorem qBt {x y a b p q c d:Int} (h:may x y a b=true) (h2:may p q c d=true) :
 huB x y a b p q c d=may (min x p) (min y q) (max (x+a-1) (p+c-1)-min x p+1) (max (y+b-1) (q+d-1)-min y q+1):=by
 rw [huB,h,h2];simp
theorem zJa {x y a b p q c d:Int} (h:may x y a b=false):mtB x y a b p q c d=false:=by simp [mtB,h]
theorem zI9 {x y a b p q c d:Int} (h:may p q c d=false):mtB x y a b p q c d=false:=by simp [mtB,h]
theorem zYz {x y a b p q c d:Int} (h:may x y a b=false):huB x y a b p q c d=false:=by simp [huB,h]
theorem zYy {x y a b p q c d:Int} (h:may p q c d=false):huB x y a b p q c d=false:=by simp [huB,h]
theorem zF2 {x y a b p q c d:Int} (h:mtB x y a b p q c d=false):mtV x y a b p q c d=zGo:=by simp [mtV,h]
theorem zQ8 {x y a b p q c d:Int} (h:huB x y a b p q c d=false):huV x y a b p q c d=zGo:=by simp [huV,h]
theorem zI8 {x y a b p q c d:Int} (h:mtB x y a b p q c d=true):mtV x y a b p q c d=zZ6 (max x p) (max y q) (min (x+a-1) (p+c-1)) (min (y+b-1) (q+d-1)):=by simp [mtV,h]
theorem zYx {x y a b p q c d:Int} (h:huB x y a b p q c d=true):huV x y a b p q c d=zZ6 (min x p) (min y q) (max (x+a-1) (p+c-1)) (max (y+b-1) (q+d-1)):=by simp [huV,h]
abbrev W5 (w:World) (x y a b p q c d:Int):World:=((w.alloc (.cells #[O ii x,O ii y,O ii a,O ii b] 49)).alloc (.cells #[O ii p,O ii q,O ii c,O ii d] 49)).alloc (.cells #[O ii 0,O ii 0,O ii 0,O ii 0] 49)
def Four (w:World) (b:Nat) (u v s t:Int):Prop:=(w.cell? ⟨b,0,none⟩=some (O ii u)/\w.cell? ⟨b,1,none⟩=some (O ii v)/\w.cell? ⟨b,2,none⟩=some (O ii s)/\w.cell? ⟨b,3,none⟩=some (O ii t))/\(w.frozen? ⟨b,0,none⟩=false/\w.frozen? ⟨b,1,none⟩=false/\w.frozen? ⟨b,2,none⟩=false/\w.frozen? ⟨b,3,none⟩=false)/\b<w.heap.size
def Two (w:World) (b:Nat) (u v:Int):Prop:=(w.cell? ⟨b,0,none⟩=some (O ii u)/\w.cell? ⟨b,1,none⟩=some (O ii v))/\(w.frozen? ⟨b,0,none⟩=false/\w.frozen? ⟨b,1,none⟩=false)/\b<w.heap.size
theorem zAw {w w1:World} {x y a b p q c d:Int} (h:Below (W5 w x y a b p q c d).heap.size (W5 w x y a b p q c d) w1) :
 Four w1 w.heap.size x y a b/\Four w1 (w.heap.size+1) p q c d/\Four w1 (w.heap.size+1+1) 0 0 0 0:=by
 refine ⟨zC1 (bt (zAk _ _) h),zD9 (bt (zAk _ _) h),?_⟩;have:=zD9 (w:=w.alloc (.cells #[O ii x,O ii y,O ii a,O ii b] 49)) h;simpa [Four] using this
theorem zCa (w:World) (x y a b p q c d:Int):Below w.heap.size w (W5 w x y a b p q c d):=bt (zA5 _ _ _) (zAk _ _)
end Go.Proofs.YthiafmlgialbnaaGreatDoor
