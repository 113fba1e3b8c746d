/-
  What two rectangles have both, and what has them both, as numbers; the rectangle from a cell to another one. Two cells in a block of their own, carried along. Small facts for the reference's Meet and Hull.
-/
import Derived.Test.YtekpamilcpeanaaDoorWithin
namespace Go.Proofs.YtekpamilcpeanaaDoor
open Go.RowKit
set_option linter.unusedVariables false
def zero4 : Value := .agg #[.int .i64 0, .int .i64 0, .int .i64 0, .int .i64 0]
def span (u v s t : Int) : Value := .agg #[.int .i64 u, .int .i64 v, .int .i64 (s - u + 1), .int .i64 (t - v + 1)]
def mtB (x y a b p q c d : Int) : Bool := may x y a b && (may p q c d && (decide (max x p ≤ min (x + a - 1) (p + c - 1)) && decide (max y q ≤ min (y + b - 1) (q + d - 1))))
def mtV (x y a b p q c d : Int) : Value := if mtB x y a b p q c d = true then span (max x p) (max y q) (min (x + a - 1) (p + c - 1)) (min (y + b - 1) (q + d - 1)) else zero4
def huB (x y a b p q c d : Int) : Bool := may x y a b && (may p q c d && may (min x p) (min y q) (max (x + a - 1) (p + c - 1) - min x p + 1) (max (y + b - 1) (q + d - 1) - min y q + 1))
def huV (x y a b p q c d : Int) : Value := if huB x y a b p q c d = true then span (min x p) (min y q) (max (x + a - 1) (p + c - 1)) (max (y + b - 1) (q + d - 1)) else zero4
theorem may_meet {x y a b p q c d : Int} (h : may x y a b = true) (h2 : may p q c d = true) :
    may (max x p) (max y q) (min (x + a - 1) (p + c - 1) - max x p + 1) (min (y + b - 1) (q + d - 1) - max y q + 1) = (decide (max x p ≤ min (x + a - 1) (p + c - 1)) && decide (max y q ≤ min (y + b - 1) (q + d - 1))) := by
  have h := (may_iff _ _ _ _).1 h
  have h2 := (may_iff _ _ _ _).1 h2
  rw [Bool.eq_iff_iff, may_iff, Bool.and_eq_true, decide_eq_true_iff, decide_eq_true_iff]
  omega
theorem mtB_eq {x y a b p q c d : Int} (h : may x y a b = true) (h2 : may p q c d = true) :
    mtB x y a b p q c d = may (max x p) (max y q) (min (x + a - 1) (p + c - 1) - max x p + 1) (min (y + b - 1) (q + d - 1) - max y q + 1) := by
  rw [may_meet h h2, mtB, h, h2]; simp
theorem huB_eq {x y a b p q c d : Int} (h : may x y a b = true) (h2 : may p q c d = true) :
    huB x y a b p q c d = may (min x p) (min y q) (max (x + a - 1) (p + c - 1) - min x p + 1) (max (y + b - 1) (q + d - 1) - min y q + 1) := by
  rw [huB, h, h2]; simp
theorem mtB_no1 {x y a b p q c d : Int} (h : may x y a b = false) : mtB x y a b p q c d = false := by simp [mtB, h]
theorem mtB_no2 {x y a b p q c d : Int} (h : may p q c d = false) : mtB x y a b p q c d = false := by simp [mtB, h]
theorem huB_no1 {x y a b p q c d : Int} (h : may x y a b = false) : huB x y a b p q c d = false := by simp [huB, h]
theorem huB_no2 {x y a b p q c d : Int} (h : may p q c d = false) : huB x y a b p q c d = false := by simp [huB, h]
theorem mtV_no {x y a b p q c d : Int} (h : mtB x y a b p q c d = false) : mtV x y a b p q c d = zero4 := by simp [mtV, h]
theorem huV_no {x y a b p q c d : Int} (h : huB x y a b p q c d = false) : huV x y a b p q c d = zero4 := by simp [huV, h]
theorem mtV_yes {x y a b p q c d : Int} (h : mtB x y a b p q c d = true) : mtV x y a b p q c d = span (max x p) (max y q) (min (x + a - 1) (p + c - 1)) (min (y + b - 1) (q + d - 1)) := by simp [mtV, h]
theorem huV_yes {x y a b p q c d : Int} (h : huB x y a b p q c d = true) : huV x y a b p q c d = span (min x p) (min y q) (max (x + a - 1) (p + c - 1)) (max (y + b - 1) (q + d - 1)) := by simp [huV, h]
abbrev W5 (w : World) (x y a b p q c d : Int) : World := ((w.alloc (.cells #[.int .i64 x, .int .i64 y, .int .i64 a, .int .i64 b] 67)).alloc (.cells #[.int .i64 p, .int .i64 q, .int .i64 c, .int .i64 d] 67)).alloc (.cells #[.int .i64 0, .int .i64 0, .int .i64 0, .int .i64 0] 67)
/-- Four cells of a block, and that they may be written. -/
def Four (w : World) (b : Nat) (u v s t : Int) : Prop := (w.cell? ⟨b, 0, none⟩ = some (.int .i64 u) ∧ w.cell? ⟨b, 1, none⟩ = some (.int .i64 v) ∧ w.cell? ⟨b, 2, none⟩ = some (.int .i64 s) ∧ w.cell? ⟨b, 3, none⟩ = some (.int .i64 t)) ∧ (w.frozen? ⟨b, 0, none⟩ = false ∧ w.frozen? ⟨b, 1, none⟩ = false ∧ w.frozen? ⟨b, 2, none⟩ = false ∧ w.frozen? ⟨b, 3, none⟩ = false) ∧ b < w.heap.size
def Two (w : World) (b : Nat) (u v : Int) : Prop := (w.cell? ⟨b, 0, none⟩ = some (.int .i64 u) ∧ w.cell? ⟨b, 1, none⟩ = some (.int .i64 v)) ∧ (w.frozen? ⟨b, 0, none⟩ = false ∧ w.frozen? ⟨b, 1, none⟩ = false) ∧ b < w.heap.size
theorem w5_cells {w w1 : World} {x y a b p q c d : Int} (h : Below (W5 w x y a b p q c d).heap.size (W5 w x y a b p q c d) w1) :
    Four w1 w.heap.size x y a b ∧ Four w1 (w.heap.size + 1) p q c d ∧ Four w1 (w.heap.size + 1 + 1) 0 0 0 0 := by
  refine ⟨cells4' (bt (box1 _ _) h), cells4'' (bt (box1 _ _) h), ?_⟩
  have := cells4'' (w := w.alloc (.cells #[.int .i64 x, .int .i64 y, .int .i64 a, .int .i64 b] 67)) h
  simpa [Four] using this
theorem w5_below (w : World) (x y a b p q c d : Int) : Below w.heap.size w (W5 w x y a b p q c d) := bt (box2 _ _ _) (box1 _ _)
end Go.Proofs.YtekpamilcpeanaaDoor
namespace Go.Proofs.YtekpamilcpeanaaDoor
open Go.RowKit
set_option linter.unusedVariables false
theorem below_keep {W W' w1 : World} {A : Prop} (hb : Below W'.heap.size W' w1) (h : A ∧ Below W.heap.size W W') : Below W.heap.size W w1 := bt h.2 hb
theorem Two.kept {w w' : World} {b : Nat} {u v : Int} (h : Two w b u v) (hb : Below w.heap.size w w') : Two w' b u v :=
  ⟨(Below.two hb h.2.2 h.1.1 h.1.2 h.2.1.1 h.2.1.2).1, (Below.two hb h.2.2 h.1.1 h.1.2 h.2.1.1 h.2.1.2).2, Nat.lt_of_lt_of_le h.2.2 hb.size⟩
theorem Two.at {w w1 : World} {u v : Int} {t : TypeId} (h : Below (w.alloc (.cells #[.int .i64 u, .int .i64 v] t)).heap.size (w.alloc (.cells #[.int .i64 u, .int .i64 v] t)) w1) : Two w1 w.heap.size u v := cells2 h
theorem Two.atd {w w1 : World} {u v : Int} {t : TypeId} (h : Below (w.alloc (.cells #[.int .i64 u, .int .i64 v] t)).drew.heap.size (w.alloc (.cells #[.int .i64 u, .int .i64 v] t)).drew w1) : Two w1 w.heap.size u v := cells2d h
theorem Two.at2 {w w1 : World} {u v s r : Int} {t t' : TypeId} (h : Below ((w.alloc (.cells #[.int .i64 u, .int .i64 v] t)).alloc (.cells #[.int .i64 s, .int .i64 r] t')).heap.size ((w.alloc (.cells #[.int .i64 u, .int .i64 v] t)).alloc (.cells #[.int .i64 s, .int .i64 r] t')) w1) : Two w1 w.heap.size u v ∧ Two w1 (w.heap.size + 1) s r := ⟨cells2' h, cells2'' h⟩
theorem Two.at2d {w w1 : World} {u v s r : Int} {t t' : TypeId} (h : Below ((w.alloc (.cells #[.int .i64 u, .int .i64 v] t)).alloc (.cells #[.int .i64 s, .int .i64 r] t')).drew.heap.size ((w.alloc (.cells #[.int .i64 u, .int .i64 v] t)).alloc (.cells #[.int .i64 s, .int .i64 r] t')).drew w1) : Two w1 w.heap.size u v ∧ Two w1 (w.heap.size + 1) s r := Two.at2 (bt ((Below.refl _ _).drew) h)
theorem Two.alloc {w : World} {b : Nat} {u v : Int} {o : Obj} (h : Two w b u v) : Two (w.alloc o) b u v := h.kept (box1 _ _)
theorem Two.newAt {w : World} {k : Nat} {u v : Int} {t : TypeId} (hk : k = w.heap.size) : Two (w.alloc (.cells #[.int .i64 u, .int .i64 v] t)) k u v := by
  subst hk; exact Two.at (Below.refl _ _)
theorem Two.set {w : World} {b : Nat} {u v s t : Int} (h : Two w b u v) : Two ((w.setCell ⟨b, 0, none⟩ (.int .i64 s)).setCell ⟨b, 1, none⟩ (.int .i64 t)) b s t := by
  obtain ⟨⟨h0, h1⟩, ⟨f0, f1⟩, hz⟩ := h
  refine ⟨⟨?_, ?_⟩, ⟨?_, ?_⟩, ?_⟩
  · simp [go_sem, h0]
  · simp [go_sem, h1]
  · simpa [go_sem] using f0
  · simpa [go_sem] using f1
  · simpa using hz
theorem Two.other {w : World} {b k : Nat} {u v : Int} {s t : Value} (h : Two w b u v) (hk : ¬ b = k) : Two ((w.setCell ⟨k, 0, none⟩ s).setCell ⟨k, 1, none⟩ t) b u v := by
  obtain ⟨⟨h0, h1⟩, ⟨f0, f1⟩, hz⟩ := h
  have hk' : ¬ k = b := fun e => hk e.symm
  refine ⟨⟨?_, ?_⟩, ⟨?_, ?_⟩, ?_⟩
  · simp [go_sem, h0]
  · simp [go_sem, h1]
  · simpa [go_sem] using f0
  · simpa [go_sem] using f1
  · simpa using hz
theorem Four.kept {w w' : World} {b : Nat} {u v s t : Int} (h : Four w b u v s t) (hb : Below w.heap.size w w') : Four w' b u v s t :=
  ⟨Below.four hb h.2.2 h.1, ⟨(hb.frozen (p := ⟨b, 0, none⟩) h.2.2).trans h.2.1.1, (hb.frozen (p := ⟨b, 1, none⟩) h.2.2).trans h.2.1.2.1, (hb.frozen (p := ⟨b, 2, none⟩) h.2.2).trans h.2.1.2.2.1, (hb.frozen (p := ⟨b, 3, none⟩) h.2.2).trans h.2.1.2.2.2⟩, Nat.lt_of_lt_of_le h.2.2 hb.size⟩
theorem held_below {W W' : World} {A : Prop} (h : A ∧ Below W.heap.size W W') : Below W.heap.size W W' := h.2
theorem set4 {w w1 : World} {a b c d : Value} {n : Nat} (h : Below w.heap.size w w1) (hn : w.heap.size ≤ n) :
    Below w.heap.size w ((((w1.setCell ⟨n, 0, none⟩ a).setCell ⟨n, 1, none⟩ b).setCell ⟨n, 2, none⟩ c).setCell ⟨n, 3, none⟩ d) :=
  (((h.setCell hn _).setCell hn _).setCell hn _).setCell hn _
/-- The two last cells, each in a block of its own. -/
def Ends (w2 wx : World) (s6 s7 : Value) (u v s t : Int) : Prop :=
  ∃ b6 b7 : Nat, s6 = .pointer (some ⟨b6, 0, none⟩) ∧ s7 = .pointer (some ⟨b7, 0, none⟩) ∧ Two wx b6 u v ∧ Two wx b7 s t ∧ ¬ b6 = b7 ∧ (w2.heap.size ≤ b6 ∧ w2.heap.size ≤ b7) ∧ Below w2.heap.size w2 wx
theorem max_if (x y : Int) : (if x < y then y else x) = max x y := by split <;> omega
theorem min_if (x y : Int) : (if y < x then y else x) = min x y := by split <;> omega
theorem mm_near {x p X P : Int} (h1 : -1048576 ≤ x ∧ x ≤ 1048576) (h2 : -1048576 ≤ p ∧ p ≤ 1048576) (h3 : -1048576 ≤ X ∧ X ≤ 1048576) (h4 : -1048576 ≤ P ∧ P ≤ 1048576) :
    ((-1048576 ≤ max x p ∧ max x p ≤ 1048576) ∧ (-1048576 ≤ min x p ∧ min x p ≤ 1048576)) ∧ (-1048576 ≤ max X P ∧ max X P ≤ 1048576) ∧ (-1048576 ≤ min X P ∧ min X P ≤ 1048576) := by omega
theorem may_near {x y a b p q c d : Int} (h : may x y a b = true) (h2 : may p q c d = true) :
    (((-1048576 ≤ max x p ∧ max x p ≤ 1048576) ∧ (-1048576 ≤ min x p ∧ min x p ≤ 1048576)) ∧ (-1048576 ≤ max (x + a - 1) (p + c - 1) ∧ max (x + a - 1) (p + c - 1) ≤ 1048576) ∧ (-1048576 ≤ min (x + a - 1) (p + c - 1) ∧ min (x + a - 1) (p + c - 1) ≤ 1048576)) ∧
    (((-1048576 ≤ max y q ∧ max y q ≤ 1048576) ∧ (-1048576 ≤ min y q ∧ min y q ≤ 1048576)) ∧ (-1048576 ≤ max (y + b - 1) (q + d - 1) ∧ max (y + b - 1) (q + d - 1) ≤ 1048576) ∧ (-1048576 ≤ min (y + b - 1) (q + d - 1) ∧ min (y + b - 1) (q + d - 1) ≤ 1048576)) := by
  have h := (may_iff _ _ _ _).1 h
  have h2 := (may_iff _ _ _ _).1 h2
  exact ⟨mm_near h.1.1 h2.1.1 h.2.2.2.1 h2.2.2.2.1, mm_near h.1.2 h2.1.2 h.2.2.2.2 h2.2.2.2.2⟩
end Go.Proofs.YtekpamilcpeanaaDoor
namespace Go.Proofs.YtekpamilcpeanaaDoor
open Go.RowKit
set_option linter.unusedVariables false
theorem val_int {k : IntKind} {a b : Int} (h : a = b) : Value.int k a = .int k b := by rw [h]
theorem drewN_below {B : Nat} {a w : World} (h : Below B a w) (n : Nat) : Below B a (w.drewN n) := h.trans ⟨rfl, rfl, rfl, Nat.le_refl _, fun _ _ => rfl⟩
theorem Two.set0 {w : World} {b : Nat} {u v s : Int} (h : Two w b u v) : Two (w.setCell ⟨b, 0, none⟩ (.int .i64 s)) b s v := by
  obtain ⟨⟨h0, h1⟩, ⟨f0, f1⟩, hz⟩ := h
  refine ⟨⟨?_, ?_⟩, ⟨?_, ?_⟩, ?_⟩
  · simp [go_sem, h0]
  · simpa [go_sem] using h1
  · simpa [go_sem] using f0
  · simpa [go_sem] using f1
  · simpa using hz
theorem Two.set1 {w : World} {b : Nat} {u v s : Int} (h : Two w b u v) : Two (w.setCell ⟨b, 1, none⟩ (.int .i64 s)) b u s := by
  obtain ⟨⟨h0, h1⟩, ⟨f0, f1⟩, hz⟩ := h
  refine ⟨⟨?_, ?_⟩, ⟨?_, ?_⟩, ?_⟩
  · simpa [go_sem] using h0
  · simp [go_sem, h1]
  · simpa [go_sem] using f0
  · simpa [go_sem] using f1
  · simpa using hz
theorem Two.past {w : World} {b k o : Nat} {u v : Int} {s : Value} (h : Two w b u v) (hk : ¬ b = k) : Two (w.setCell ⟨k, o, none⟩ s) b u v := by
  obtain ⟨⟨h0, h1⟩, ⟨f0, f1⟩, hz⟩ := h
  have hk' : ¬ k = b := fun e => hk e.symm
  refine ⟨⟨?_, ?_⟩, ⟨?_, ?_⟩, ?_⟩
  · simp [go_sem, h0]
  · simp [go_sem, h1]
  · simpa [go_sem] using f0
  · simpa [go_sem] using f1
  · simpa using hz
theorem Four.past {w : World} {b k o : Nat} {u v x y : Int} {s : Value} (h : Four w b u v x y) (hk : ¬ b = k) : Four (w.setCell ⟨k, o, none⟩ s) b u v x y := by
  obtain ⟨⟨h0, h1, h2, h3⟩, ⟨f0, f1, f2, f3⟩, hz⟩ := h
  have hk' : ¬ k = b := fun e => hk e.symm
  refine ⟨⟨?_, ?_, ?_, ?_⟩, ⟨?_, ?_, ?_, ?_⟩, ?_⟩
  · simp [go_sem, h0]
  · simp [go_sem, h1]
  · simp [go_sem, h2]
  · simp [go_sem, h3]
  · simpa [go_sem] using f0
  · simpa [go_sem] using f1
  · simpa [go_sem] using f2
  · simpa [go_sem] using f3
  · simpa using hz
theorem two_eq {w : World} {b : Nat} {u v s t : Int} (h : Two w b u v) (h1 : u = s) (h2 : v = t) : Two w b s t := by rw [← h1, ← h2]; exact h
end Go.Proofs.YtekpamilcpeanaaDoor
