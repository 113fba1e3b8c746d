import Derived.Test.YtejjcenhjpjefaaGreatDoorRows
import Derived.WalkKit
import Derived.ProofKit
set_option linter.all false
set_option maxRecDepth 1000000
set_option maxHeartbeats 64000000
open Go.Proofs.Tryz
open Go.Proofs.Tryz renaming prog->pg
open Go.Value renaming int->O
open Go.IntKind renaming i64->ii
namespace Go.Proofs.YtejjcenhjpjefaaGreatDoor
open Go.RowKit
def nr (n:Int):Bool:=decide (-1048576<=n/\n<=1048576)
def nrC (x y:Int):Bool:=nr x&&nr y
theorem zSq (n:Int):nr n=true↔(-1048576<=n/\n<=1048576):=by simp [nr]
theorem zXs (n:Int):nr n=false↔¬(-1048576<=n/\n<=1048576):=by simp only [nr,decide_eq_false_iff_not]
theorem zBq (x y:Int):nrC x y=true↔((-1048576<=x/\x<=1048576)/\(-1048576<=y/\y<=1048576)):=by rw [nrC,Bool.and_eq_true,zSq,zSq]
theorem zAm {a b:Bool} (h:a=b):Ending.returned (.bool a) = .returned (.bool b):=by rw [h]
theorem zH4 {k:IntKind} {a b:Int} (h:a=b):Ending.returned (.int k a) = .returned (.int k b):=by rw [h]
theorem zV8 {W w1:World} (hb:Below W.heap.size W w1):(∀b o,b<W.heap.size->w1.cell? ⟨b,o,none⟩=W.cell? ⟨b,o,none⟩)/\(∀b o,b<W.heap.size->w1.frozen? ⟨b,o,none⟩=W.frozen? ⟨b,o,none⟩):=
 ⟨fun b o h=>hb.cell (p:=⟨b,o,none⟩) h,fun b o h=>hb.frozen (p:=⟨b,o,none⟩) h⟩
theorem zAb {p:Prop} (h:p):Hid p:=h
theorem ex {α:Sort _} (a:α):∃b,a=b:=⟨a,rfl⟩
theorem bt {a b c:World} (h1:Below a.heap.size a b) (h2:Below b.heap.size b c):Below a.heap.size a c:=h1.trans (h2.mono h1.size)
theorem zAh (w:World) (o:Obj):Below w.heap.size w (w.alloc o):=(Below.refl _ _).alloc (Nat.le_refl _) o
theorem zBe (w:World) (o p:Obj):Below w.heap.size w ((w.alloc o).alloc p):=bt (zAh w o) (zAh _ p)
theorem zD4 {w w1:World} {a b:Value} {t:TypeId} (h:Below (w.alloc (.cells #[a,b] t)).heap.size (w.alloc (.cells #[a,b] t)) w1) :
 (w1.cell? ⟨w.heap.size,0,none⟩=some a/\w1.cell? ⟨w.heap.size,1,none⟩=some b)/\(w1.frozen? ⟨w.heap.size,0,none⟩=false/\w1.frozen? ⟨w.heap.size,1,none⟩=false)/\w.heap.size<w1.heap.size:=by
 have hz:=h.size;have hl:w.heap.size<(w.alloc (.cells #[a,b] t)).heap.size:=by simp
 have h0:=h.cell (p:=⟨w.heap.size,0,none⟩) hl;have h1:=h.cell (p:=⟨w.heap.size,1,none⟩) hl;have f0:=h.frozen (p:=⟨w.heap.size,0,none⟩) hl;have f1:=h.frozen (p:=⟨w.heap.size,1,none⟩) hl;exact ⟨⟨by rw [h0];simp [go_sem],by rw [h1];simp [go_sem]⟩,⟨by rw [f0];simp [go_sem],by rw [f1];simp [go_sem]⟩,Nat.lt_of_lt_of_le hl hz⟩
theorem zGq {w w1:World} {a b:Value} {t:TypeId} {o:Obj} (h:Below ((w.alloc (.cells #[a,b] t)).alloc o).heap.size ((w.alloc (.cells #[a,b] t)).alloc o) w1) :
 (w1.cell? ⟨w.heap.size,0,none⟩=some a/\w1.cell? ⟨w.heap.size,1,none⟩=some b)/\(w1.frozen? ⟨w.heap.size,0,none⟩=false/\w1.frozen? ⟨w.heap.size,1,none⟩=false)/\w.heap.size<w1.heap.size:=
 zD4 (bt (zAh _ _) h)
theorem zCs {w w1:World} {a b:Value} {t:TypeId} {o:Obj} (h:Below ((w.alloc o).alloc (.cells #[a,b] t)).heap.size ((w.alloc o).alloc (.cells #[a,b] t)) w1) :
 (w1.cell? ⟨w.heap.size+1,0,none⟩=some a/\w1.cell? ⟨w.heap.size+1,1,none⟩=some b)/\(w1.frozen? ⟨w.heap.size+1,0,none⟩=false/\w1.frozen? ⟨w.heap.size+1,1,none⟩=false)/\w.heap.size+1<w1.heap.size:=by
 have:=zD4 h;simpa using this
theorem zKx {w w1:World} {a b:Value} {t:TypeId} (h:Below (w.alloc (.cells #[a,b] t)).drew.heap.size (w.alloc (.cells #[a,b] t)).drew w1) :
 (w1.cell? ⟨w.heap.size,0,none⟩=some a/\w1.cell? ⟨w.heap.size,1,none⟩=some b)/\(w1.frozen? ⟨w.heap.size,0,none⟩=false/\w1.frozen? ⟨w.heap.size,1,none⟩=false)/\w.heap.size<w1.heap.size:=
 zD4 (bt ((Below.refl _ _).drew) h)
theorem zYz (w:World) (o:Obj):Below w.heap.size w (w.alloc o).drew:=(zAh w o).drew
theorem Below.two {W w2:World} (h:Below W.heap.size W w2) {b:Nat} {u v:Value} (hb:b<W.heap.size) (h0:W.cell? ⟨b,0,none⟩=some u) (h1:W.cell? ⟨b,1,none⟩=some v) (f0:W.frozen? ⟨b,0,none⟩=false) (f1:W.frozen? ⟨b,1,none⟩=false) :
 (w2.cell? ⟨b,0,none⟩=some u/\w2.cell? ⟨b,1,none⟩=some v)/\(w2.frozen? ⟨b,0,none⟩=false/\w2.frozen? ⟨b,1,none⟩=false):=
 ⟨⟨(h.cell (p:=⟨b,0,none⟩) hb).trans h0,(h.cell (p:=⟨b,1,none⟩) hb).trans h1⟩,(h.frozen (p:=⟨b,0,none⟩) hb).trans f0,(h.frozen (p:=⟨b,1,none⟩) hb).trans f1⟩
theorem set2 {w w1:World} {a b:Value} {p q:Addr} (h:Below w.heap.size w w1) (hp:w.heap.size<=p.block) (hq:w.heap.size<=q.block):Below w.heap.size w ((w1.setCell p a).setCell q b):=
 (h.setCell hp _).setCell hq _
theorem zQ2 (n:Int) (w:World):Calls pg 106 #[O ii n] w fun e w'=>e = .returned (.bool (nr n))/\w'=w:=by
 by_cases h1:-1048576<=n
 ·by_cases h2:n<=1048576
  ·go_enter func106,ntmps106;go_wp2
   go_ret;exact ⟨zAm (by simp [nr,h1,h2]),rfl⟩
  ·go_enter func106,ntmps106;go_wp2
   go_ret;exact ⟨zAm (by simp [nr,h1,h2]),rfl⟩
 ·go_enter func106,ntmps106;go_wp2
  go_ret;exact ⟨zAm (by rw [eq_comm,zXs];omega),rfl⟩
theorem zBh (x y:Int) (w:World):Calls pg 73 #[.agg #[O ii x,O ii y]] w fun e w'=>e = .returned (.bool (nrC x y))/\Below w.heap.size w w':=by
 cases hx:nr x
 all_goals
  go_enter func73,ntmps73;go_wp2_with (go_at_call 106;refine (zQ2 _ _).mono ?_;rintro e w' ⟨rfl,rfl⟩);go_ret;exact ⟨zAm (by simp [nrC,hx]),zAh _ _⟩
end Go.Proofs.YtejjcenhjpjefaaGreatDoor
