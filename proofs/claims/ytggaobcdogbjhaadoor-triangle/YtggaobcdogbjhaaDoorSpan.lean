/-
  What two rectangles have both, and what has them both, as numbers; the rectangle from a cell to another one.
-/
import Derived.Test.YtggaobcdogbjhaaDoorWithin
namespace Go.Proofs.YtggaobcdogbjhaaDoor
open Go.RowKit
set_option linter.unusedVariables false
def zero4 : Value := .agg #[.int .i64 0, .int .i64 0, .int .i64 0, .int .i64 0]
def span (u v s t : Int) : Value := .agg #[.int .i64 u, .int .i64 v, .int .i64 (s - u + 1), .int .i64 (t - v + 1)]
def mtB (x y a b p q c d : Int) : Bool := may x y a b && (may p q c d && (decide (max x p ≤ min (x + a - 1) (p + c - 1)) && decide (max y q ≤ min (y + b - 1) (q + d - 1))))
def mtV (x y a b p q c d : Int) : Value := if mtB x y a b p q c d = true then span (max x p) (max y q) (min (x + a - 1) (p + c - 1)) (min (y + b - 1) (q + d - 1)) else zero4
def huB (x y a b p q c d : Int) : Bool := may x y a b && (may p q c d && may (min x p) (min y q) (max (x + a - 1) (p + c - 1) - min x p + 1) (max (y + b - 1) (q + d - 1) - min y q + 1))
def huV (x y a b p q c d : Int) : Value := if huB x y a b p q c d = true then span (min x p) (min y q) (max (x + a - 1) (p + c - 1)) (max (y + b - 1) (q + d - 1)) else zero4
theorem may_meet {x y a b p q c d : Int} (h : may x y a b = true) (h2 : may p q c d = true) :
    may (max x p) (max y q) (min (x + a - 1) (p + c - 1) - max x p + 1) (min (y + b - 1) (q + d - 1) - max y q + 1) = (decide (max x p ≤ min (x + a - 1) (p + c - 1)) && decide (max y q ≤ min (y + b - 1) (q + d - 1))) := by
  have h := (may_iff _ _ _ _).1 h
  have h2 := (may_iff _ _ _ _).1 h2
  rw [Bool.eq_iff_iff, may_iff, Bool.and_eq_true, decide_eq_true_iff, decide_eq_true_iff]
  omega
theorem mtB_eq {x y a b p q c d : Int} (h : may x y a b = true) (h2 : may p q c d = true) :
    mtB x y a b p q c d = may (max x p) (max y q) (min (x + a - 1) (p + c - 1) - max x p + 1) (min (y + b - 1) (q + d - 1) - max y q + 1) := by
  rw [may_meet h h2, mtB, h, h2]; simp
theorem huB_eq {x y a b p q c d : Int} (h : may x y a b = true) (h2 : may p q c d = true) :
    huB x y a b p q c d = may (min x p) (min y q) (max (x + a - 1) (p + c - 1) - min x p + 1) (max (y + b - 1) (q + d - 1) - min y q + 1) := by
  rw [huB, h, h2]; simp
theorem mtB_no1 {x y a b p q c d : Int} (h : may x y a b = false) : mtB x y a b p q c d = false := by simp [mtB, h]
theorem mtB_no2 {x y a b p q c d : Int} (h : may p q c d = false) : mtB x y a b p q c d = false := by simp [mtB, h]
theorem huB_no1 {x y a b p q c d : Int} (h : may x y a b = false) : huB x y a b p q c d = false := by simp [huB, h]
theorem huB_no2 {x y a b p q c d : Int} (h : may p q c d = false) : huB x y a b p q c d = false := by simp [huB, h]
theorem mtV_no {x y a b p q c d : Int} (h : mtB x y a b p q c d = false) : mtV x y a b p q c d = zero4 := by simp [mtV, h]
theorem huV_no {x y a b p q c d : Int} (h : huB x y a b p q c d = false) : huV x y a b p q c d = zero4 := by simp [huV, h]
theorem mtV_yes {x y a b p q c d : Int} (h : mtB x y a b p q c d = true) : mtV x y a b p q c d = span (max x p) (max y q) (min (x + a - 1) (p + c - 1)) (min (y + b - 1) (q + d - 1)) := by simp [mtV, h]
theorem huV_yes {x y a b p q c d : Int} (h : huB x y a b p q c d = true) : huV x y a b p q c d = span (min x p) (min y q) (max (x + a - 1) (p + c - 1)) (max (y + b - 1) (q + d - 1)) := by simp [huV, h]
abbrev W5 (w : World) (x y a b p q c d : Int) : World := ((w.alloc (.cells #[.int .i64 x, .int .i64 y, .int .i64 a, .int .i64 b] 31)).alloc (.cells #[.int .i64 p, .int .i64 q, .int .i64 c, .int .i64 d] 31)).alloc (.cells #[.int .i64 0, .int .i64 0, .int .i64 0, .int .i64 0] 31)
/-- Four cells of a block, and that they may be written. -/
def Four (w : World) (b : Nat) (u v s t : Int) : Prop := (w.cell? ⟨b, 0, none⟩ = some (.int .i64 u) ∧ w.cell? ⟨b, 1, none⟩ = some (.int .i64 v) ∧ w.cell? ⟨b, 2, none⟩ = some (.int .i64 s) ∧ w.cell? ⟨b, 3, none⟩ = some (.int .i64 t)) ∧ (w.frozen? ⟨b, 0, none⟩ = false ∧ w.frozen? ⟨b, 1, none⟩ = false ∧ w.frozen? ⟨b, 2, none⟩ = false ∧ w.frozen? ⟨b, 3, none⟩ = false) ∧ b < w.heap.size
def Two (w : World) (b : Nat) (u v : Int) : Prop := (w.cell? ⟨b, 0, none⟩ = some (.int .i64 u) ∧ w.cell? ⟨b, 1, none⟩ = some (.int .i64 v)) ∧ (w.frozen? ⟨b, 0, none⟩ = false ∧ w.frozen? ⟨b, 1, none⟩ = false) ∧ b < w.heap.size
theorem w5_cells {w w1 : World} {x y a b p q c d : Int} (h : Below (W5 w x y a b p q c d).heap.size (W5 w x y a b p q c d) w1) :
    Four w1 w.heap.size x y a b ∧ Four w1 (w.heap.size + 1) p q c d ∧ Four w1 (w.heap.size + 1 + 1) 0 0 0 0 := by
  refine ⟨cells4' (bt (box1 _ _) h), cells4'' (bt (box1 _ _) h), ?_⟩
  have := cells4'' (w := w.alloc (.cells #[.int .i64 x, .int .i64 y, .int .i64 a, .int .i64 b] 31)) h
  simpa [Four] using this
theorem w5_below (w : World) (x y a b p q c d : Int) : Below w.heap.size w (W5 w x y a b p q c d) := bt (box2 _ _ _) (box1 _ _)
end Go.Proofs.YtggaobcdogbjhaaDoor
