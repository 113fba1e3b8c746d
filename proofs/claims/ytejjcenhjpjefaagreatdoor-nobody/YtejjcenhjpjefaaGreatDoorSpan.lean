import Derived.Test.YtejjcenhjpjefaaGreatDoorBase
import Derived.Deep.QuietTactic
import Derived.BigQuiet
import Derived.Test.YtejjcenhjpjefaaGreatDoorHas
set_option linter.all false
set_option maxRecDepth 1000000
set_option maxHeartbeats 64000000
open Go.Proofs.Tryz
open Go.Proofs.Tryz renaming prog->pg
open Go.Value renaming int->O
open Go.IntKind renaming i64->ii
namespace Go.Proofs.YtejjcenhjpjefaaGreatDoor
open Go.RowKit
structure Lat (W:World) where
 w:World
 h:Below W.heap.size W w
theorem zA8 (W:World):Nonempty (Lat W):=⟨⟨W,Below.refl _ _⟩⟩
theorem zAp {P:Program} {id:Nat} {Q:Exit->Act->World->Prop} {a:Act} {w:World} {l:List Oper} (hm:P.follows .mixedOrders=true) (hB:Region.lexB .any l.toArray=true)
 (h:wpQuiet P l.toArray (fun w'=>∃n:Lat w,w'=n.w) (fun a'=>∀w',(∃n:Lat w,w'=n.w)->Q .normal a' w') l a):(Code.region id l.toArray true).wp P Q a w:=
 wp_region_quiet (C:=fun w'=>∃n:Lat w,w'=n.w) hm hB ⟨⟨w.drew,(Below.refl _ _).drew⟩,rfl⟩ (by simpa using h)
theorem zAr {P:Program} {f:FuncId} {args:Array Value} {W:World} {n:Lat W} {v:Value} (h:Calls P f args n.w fun e w'=>e = .returned v/\Below n.w.heap.size n.w w') :
 Calls P f args n.w fun e w''=>e = .returned v/\∃m:Lat W,w''=m.w:=
 h.mono fun _ w' ⟨he,hb⟩=>⟨he,⟨w',bt n.h hb⟩,rfl⟩
theorem zA6 {P:Program} {f:FuncId} {args:Array Value} {W:World} {n:Lat W} {v:Value} (h:Calls P f args n.w fun e w'=>e = .returned v/\w'=n.w) :
 Calls P f args n.w fun e w''=>e = .returned v/\∃m:Lat W,w''=m.w:=
 h.mono fun _ w' ⟨he,hb⟩=>⟨he,n,hb⟩

def wi (x y a b p q c d:Int):Bool:=may x y a b&&(has p q c d x y&&has p q c d (x+a-1) (y+b-1))
abbrev WQ (w:World) (x y a b p q c d:Int):World:=(w.alloc (.cells #[O ii x,O ii y,O ii a,O ii b] 65)).alloc (.cells #[O ii p,O ii q,O ii c,O ii d] 65)
theorem zBy {x y a b:Int} {c:Bool} (w:World) (h:may x y a b=c) :
 Calls pg 36 #[.agg #[O ii x,O ii y,O ii a,O ii b]] w fun e w'=>e = .returned (.bool c)/\Below w.heap.size w w':=by
 subst h;exact zIa x y a b w
theorem zB5 {x y a b p q:Int} {c:Bool} (w:World) (h:has x y a b p q=c) :
 Calls pg 42 #[.agg #[O ii x,O ii y,O ii a,O ii b],.agg #[O ii p,O ii q]] w fun e w'=>e = .returned (.bool c)/\Below w.heap.size w w':=by
 subst h;exact zIe x y a b p q w
theorem zDx {w w1:World} {a b c d:Value} {t:TypeId} {o:Obj} (h:Below ((w.alloc o).alloc (.cells #[a,b,c,d] t)).heap.size ((w.alloc o).alloc (.cells #[a,b,c,d] t)) w1) :
 (w1.cell? ⟨w.heap.size+1,0,none⟩=some a/\w1.cell? ⟨w.heap.size+1,1,none⟩=some b/\w1.cell? ⟨w.heap.size+1,2,none⟩=some c/\w1.cell? ⟨w.heap.size+1,3,none⟩=some d)/\(w1.frozen? ⟨w.heap.size+1,0,none⟩=false/\w1.frozen? ⟨w.heap.size+1,1,none⟩=false/\w1.frozen? ⟨w.heap.size+1,2,none⟩=false/\w1.frozen? ⟨w.heap.size+1,3,none⟩=false)/\w.heap.size+1<w1.heap.size:=by
 have:=zBo h;simpa using this
theorem zHq (w:World) (x y a b p q c d:Int):∃W,WQ w x y a b p q c d=W/\Below w.heap.size w W/\
 ((∀n:Lat W,n.w.cell? ⟨w.heap.size,0,none⟩=some (O ii x))/\(∀n:Lat W,n.w.cell? ⟨w.heap.size,1,none⟩=some (O ii y))/\(∀n:Lat W,n.w.cell? ⟨w.heap.size,2,none⟩=some (O ii a))/\(∀n:Lat W,n.w.cell? ⟨w.heap.size,3,none⟩=some (O ii b)))/\
 ((∀n:Lat W,n.w.cell? ⟨w.heap.size+1,0,none⟩=some (O ii p))/\(∀n:Lat W,n.w.cell? ⟨w.heap.size+1,1,none⟩=some (O ii q))/\(∀n:Lat W,n.w.cell? ⟨w.heap.size+1,2,none⟩=some (O ii c))/\(∀n:Lat W,n.w.cell? ⟨w.heap.size+1,3,none⟩=some (O ii d))):=
 ⟨_,rfl,zBe _ _ _,⟨fun n=>(zE5 n.h).1.1,fun n=>(zE5 n.h).1.2.1,fun n=>(zE5 n.h).1.2.2.1,fun n=>(zE5 n.h).1.2.2.2⟩,fun n=>(zDx n.h).1.1,fun n=>(zDx n.h).1.2.1,fun n=>(zDx n.h).1.2.2.1,fun n=>(zDx n.h).1.2.2.2⟩
theorem zQh (x y a b p q c d:Int) (w:World) (h:may x y a b=false) :
 Calls pg 20 #[.agg #[O ii x,O ii y,O ii a,O ii b],.agg #[O ii p,O ii q,O ii c,O ii d]] w fun e w'=>e = .returned (.bool (wi x y a b p q c d))/\Below w.heap.size w w':=by
 rw [show wi x y a b p q c d=false by simp [wi,h]];obtain ⟨W,hW,HB,⟨c0,c1,c2,c3⟩,e0,e1,e2,e3⟩:=zHq w x y a b p q c d;go_enter func20,ntmps20;go_wp2_with fail;clear hW;have hne:=zA8 W;refine zAp (by kernel_rfl) (by kernel_rfl) ?_
 repeat (go_big_quiet_step (first
  |(go_at_call 36;exact zAr (zBy _ h))))
 refine wpQuiet_nil ?_;rintro _ ⟨n,rfl⟩;go_wp2_with fail;go_ret;exact ⟨rfl,HB.trans (n.h.mono HB.size)⟩
theorem zQg (x y a b p q c d:Int) (w:World) (h:may x y a b=true) (h1:has p q c d x y=false) :
 Calls pg 20 #[.agg #[O ii x,O ii y,O ii a,O ii b],.agg #[O ii p,O ii q,O ii c,O ii d]] w fun e w'=>e = .returned (.bool (wi x y a b p q c d))/\Below w.heap.size w w':=by
 rw [show wi x y a b p q c d=false by simp [wi,h1]];obtain ⟨W,hW,HB,⟨c0,c1,c2,c3⟩,e0,e1,e2,e3⟩:=zHq w x y a b p q c d;go_enter func20,ntmps20;go_wp2_with fail;clear hW;have hne:=zA8 W;refine zAp (by kernel_rfl) (by kernel_rfl) ?_
 repeat (go_big_quiet_step (first
  |(go_at_call 36;exact zAr (zBy _ h))
  |(go_at_call 42;exact zAr (zB5 _ h1))))
 refine wpQuiet_nil ?_;rintro _ ⟨n,rfl⟩;go_wp2_with fail;go_ret;exact ⟨rfl,HB.trans (n.h.mono HB.size)⟩
theorem zQf (x y a b p q c d:Int) (w:World) (h:may x y a b=true) (h1:has p q c d x y=true) (m1:nrC x y=true) (m2:sd a=true) (m3:sd b=true) :
 Calls pg 20 #[.agg #[O ii x,O ii y,O ii a,O ii b],.agg #[O ii p,O ii q,O ii c,O ii d]] w fun e w'=>e = .returned (.bool (wi x y a b p q c d))/\Below w.heap.size w w':=by
 rw [show wi x y a b p q c d=has p q c d (x+a-1) (y+b-1) by simp [wi,h,h1]];obtain ⟨W,hW,HB,⟨c0,c1,c2,c3⟩,e0,e1,e2,e3⟩:=zHq w x y a b p q c d;go_enter func20,ntmps20;go_wp2_with fail;clear hW;have hne:=zA8 W;refine zAp (by kernel_rfl) (by kernel_rfl) ?_
 iterate 7 (go_big_quiet_step (first
  |(go_at_call 36;exact zAr (zBy _ h))
  |(go_at_call 42;exact zAr (zB5 _ h1))))
 repeat (go_big_quiet_step (first
  |(go_at_call 52;exact zAr (zC9 _ _ _ _ _ m1 m2 m3))
  |(go_at_call 42;exact zAr (zB5 _ rfl))))
 refine wpQuiet_nil ?_;rintro _ ⟨n,rfl⟩;go_wp2_with fail;go_ret;exact ⟨rfl,HB.trans (n.h.mono HB.size)⟩
theorem zB1 (x y a b p q c d:Int) (w:World) :
 Calls pg 20 #[.agg #[O ii x,O ii y,O ii a,O ii b],.agg #[O ii p,O ii q,O ii c,O ii d]] w fun e w'=>e = .returned (.bool (wi x y a b p q c d))/\Below w.heap.size w w':=by
 cases h:may x y a b
 ·exact zQh x y a b p q c d w h
 ·obtain ⟨m1,m2,m3,_⟩:=zCz h;cases h1:has p q c d x y
  ·exact zQg x y a b p q c d w h h1
  ·exact zQf x y a b p q c d w h h1 m1 m2 m3
def zGw:Value:=.agg #[O ii 0,O ii 0,O ii 0,O ii 0]
def zTr (u v s t:Int):Value:=.agg #[O ii u,O ii v,O ii (s-u+1),O ii (t-v+1)]
def mtB (x y a b p q c d:Int):Bool:=may x y a b&&(may p q c d&&(decide (max x p<=min (x+a-1) (p+c-1))&&decide (max y q<=min (y+b-1) (q+d-1))))
def mtV (x y a b p q c d:Int):Value:=if mtB x y a b p q c d=true then zTr (max x p) (max y q) (min (x+a-1) (p+c-1)) (min (y+b-1) (q+d-1)) else zGw
def huB (x y a b p q c d:Int):Bool:=may x y a b&&(may p q c d&&may (min x p) (min y q) (max (x+a-1) (p+c-1)-min x p+1) (max (y+b-1) (q+d-1)-min y q+1))
def huV (x y a b p q c d:Int):Value:=if huB x y a b p q c d=true then zTr (min x p) (min y q) (max (x+a-1) (p+c-1)) (max (y+b-1) (q+d-1)) else zGw
theorem zRa {x y a b p q c d:Int} (h:may x y a b=true) (h2:may p q c d=true) :
 may (max x p) (max y q) (min (x+a-1) (p+c-1)-max x p+1) (min (y+b-1) (q+d-1)-max y q+1)=(decide (max x p<=min (x+a-1) (p+c-1))&&decide (max y q<=min (y+b-1) (q+d-1))):=by
 have h:=(zA5 _ _ _ _).1 h;have h2:=(zA5 _ _ _ _).1 h2;rw [Bool.eq_iff_iff,zA5,Bool.and_eq_true,decide_eq_true_iff,decide_eq_true_iff];omega
theorem zX0 {x y a b p q c d:Int} (h:may x y a b=true) (h2:may p q c d=true) :
 mtB x y a b p q c d=may (max x p) (max y q) (min (x+a-1) (p+c-1)-max x p+1) (min (y+b-1) (q+d-1)-max y q+1):=by
 rw [zRa h h2,mtB,h,h2];simp
theorem zYe {x y a b p q c d:Int} (h:may x y a b=true) (h2:may p q c d=true) :
 huB x y a b p q c d=may (min x p) (min y q) (max (x+a-1) (p+c-1)-min x p+1) (max (y+b-1) (q+d-1)-min y q+1):=by
 rw [huB,h,h2];simp
theorem zOq {x y a b p q c d:Int} (h:may x y a b=false):mtB x y a b p q c d=false:=by simp [mtB,h]
theorem zOp {x y a b p q c d:Int} (h:may p q c d=false):mtB x y a b p q c d=false:=by simp [mtB,h]
theorem zVi {x y a b p q c d:Int} (h:may x y a b=false):huB x y a b p q c d=false:=by simp [huB,h]
theorem zVh {x y a b p q c d:Int} (h:may p q c d=false):huB x y a b p q c d=false:=by simp [huB,h]
theorem zOo {x y a b p q c d:Int} (h:mtB x y a b p q c d=false):mtV x y a b p q c d=zGw:=by simp [mtV,h]
theorem zPb {x y a b p q c d:Int} (h:huB x y a b p q c d=false):huV x y a b p q c d=zGw:=by simp [huV,h]
theorem zOn {x y a b p q c d:Int} (h:mtB x y a b p q c d=true):mtV x y a b p q c d=zTr (max x p) (max y q) (min (x+a-1) (p+c-1)) (min (y+b-1) (q+d-1)):=by simp [mtV,h]
theorem zVg {x y a b p q c d:Int} (h:huB x y a b p q c d=true):huV x y a b p q c d=zTr (min x p) (min y q) (max (x+a-1) (p+c-1)) (max (y+b-1) (q+d-1)):=by simp [huV,h]
abbrev W5 (w:World) (x y a b p q c d:Int):World:=((w.alloc (.cells #[O ii x,O ii y,O ii a,O ii b] 65)).alloc (.cells #[O ii p,O ii q,O ii c,O ii d] 65)).alloc (.cells #[O ii 0,O ii 0,O ii 0,O ii 0] 65)
def Four (w:World) (b:Nat) (u v s t:Int):Prop:=(w.cell? ⟨b,0,none⟩=some (O ii u)/\w.cell? ⟨b,1,none⟩=some (O ii v)/\w.cell? ⟨b,2,none⟩=some (O ii s)/\w.cell? ⟨b,3,none⟩=some (O ii t))/\(w.frozen? ⟨b,0,none⟩=false/\w.frozen? ⟨b,1,none⟩=false/\w.frozen? ⟨b,2,none⟩=false/\w.frozen? ⟨b,3,none⟩=false)/\b<w.heap.size
def Two (w:World) (b:Nat) (u v:Int):Prop:=(w.cell? ⟨b,0,none⟩=some (O ii u)/\w.cell? ⟨b,1,none⟩=some (O ii v))/\(w.frozen? ⟨b,0,none⟩=false/\w.frozen? ⟨b,1,none⟩=false)/\b<w.heap.size
theorem zBm {w w1:World} {x y a b p q c d:Int} (h:Below (W5 w x y a b p q c d).heap.size (W5 w x y a b p q c d) w1) :
 Four w1 w.heap.size x y a b/\Four w1 (w.heap.size+1) p q c d/\Four w1 (w.heap.size+1+1) 0 0 0 0:=by
 refine ⟨zE5 (bt (zAh _ _) h),zDx (bt (zAh _ _) h),?_⟩;have:=zDx (w:=w.alloc (.cells #[O ii x,O ii y,O ii a,O ii b] 65)) h;simpa [Four] using this
theorem zDs (w:World) (x y a b p q c d:Int):Below w.heap.size w (W5 w x y a b p q c d):=bt (zBe _ _ _) (zAh _ _)
end Go.Proofs.YtejjcenhjpjefaaGreatDoor
