/-
  What two rectangles have both, and what has them both, as numbers; the rectangle from a cell to another one.
-/
import Derived.Test.YtankkngjhgpcaaaMay
namespace Go.Proofs.Ytankkngjhgpcaaa
open Go.RowKit
set_option linter.unusedVariables false
theorem cells4' {w w1 : World} {a b c d : Value} {t : TypeId} {o : Obj} (h : Below ((w.alloc (.cells #[a, b, c, d] t)).alloc o).heap.size ((w.alloc (.cells #[a, b, c, d] t)).alloc o) w1) :
    (w1.cell? ⟨w.heap.size, 0, none⟩ = some a ∧ w1.cell? ⟨w.heap.size, 1, none⟩ = some b ∧ w1.cell? ⟨w.heap.size, 2, none⟩ = some c ∧ w1.cell? ⟨w.heap.size, 3, none⟩ = some d) ∧ (w1.frozen? ⟨w.heap.size, 0, none⟩ = false ∧ w1.frozen? ⟨w.heap.size, 1, none⟩ = false ∧ w1.frozen? ⟨w.heap.size, 2, none⟩ = false ∧ w1.frozen? ⟨w.heap.size, 3, none⟩ = false) ∧ w.heap.size < w1.heap.size :=
  cells4 (bt (box1 _ _) h)
theorem may_is {x y a b : Int} {c : Bool} (w : World) (h : may x y a b = c) :
    Calls Try.prog 28 #[.agg #[.int .i64 x, .int .i64 y, .int .i64 a, .int .i64 b]] w fun e w' => e = .returned (.bool c) ∧ Below w.heap.size w w' := by
  subst h; exact may_any x y a b w
theorem refmay_is {x y a b : Int} {c : Bool} (w : World) (h : may x y a b = c) :
    Calls Try.prog 24 #[.agg #[.int .i64 x, .int .i64 y, .int .i64 a, .int .i64 b]] w fun e w' => e = .returned (.bool c) ∧ Below w.heap.size w w' := by
  subst h; exact refmay_any x y a b w
theorem cells4'' {w w1 : World} {a b c d : Value} {t : TypeId} {o : Obj} (h : Below ((w.alloc o).alloc (.cells #[a, b, c, d] t)).heap.size ((w.alloc o).alloc (.cells #[a, b, c, d] t)) w1) :
    (w1.cell? ⟨w.heap.size + 1, 0, none⟩ = some a ∧ w1.cell? ⟨w.heap.size + 1, 1, none⟩ = some b ∧ w1.cell? ⟨w.heap.size + 1, 2, none⟩ = some c ∧ w1.cell? ⟨w.heap.size + 1, 3, none⟩ = some d) ∧ (w1.frozen? ⟨w.heap.size + 1, 0, none⟩ = false ∧ w1.frozen? ⟨w.heap.size + 1, 1, none⟩ = false ∧ w1.frozen? ⟨w.heap.size + 1, 2, none⟩ = false ∧ w1.frozen? ⟨w.heap.size + 1, 3, none⟩ = false) ∧ w.heap.size + 1 < w1.heap.size := by
  have := cells4 h
  simpa using this
def zero4 : Value := .agg #[.int .i64 0, .int .i64 0, .int .i64 0, .int .i64 0]
def span (u v s t : Int) : Value := .agg #[.int .i64 u, .int .i64 v, .int .i64 (s - u + 1), .int .i64 (t - v + 1)]
def mtB (x y a b p q c d : Int) : Bool := may x y a b && (may p q c d && (decide (max x p ≤ min (x + a - 1) (p + c - 1)) && decide (max y q ≤ min (y + b - 1) (q + d - 1))))
def mtV (x y a b p q c d : Int) : Value := if mtB x y a b p q c d = true then span (max x p) (max y q) (min (x + a - 1) (p + c - 1)) (min (y + b - 1) (q + d - 1)) else zero4
def huB (x y a b p q c d : Int) : Bool := may x y a b && (may p q c d && may (min x p) (min y q) (max (x + a - 1) (p + c - 1) - min x p + 1) (max (y + b - 1) (q + d - 1) - min y q + 1))
def huV (x y a b p q c d : Int) : Value := if huB x y a b p q c d = true then span (min x p) (min y q) (max (x + a - 1) (p + c - 1)) (max (y + b - 1) (q + d - 1)) else zero4
theorem may_meet {x y a b p q c d : Int} (h : may x y a b = true) (h2 : may p q c d = true) :
    may (max x p) (max y q) (min (x + a - 1) (p + c - 1) - max x p + 1) (min (y + b - 1) (q + d - 1) - max y q + 1) = (decide (max x p ≤ min (x + a - 1) (p + c - 1)) && decide (max y q ≤ min (y + b - 1) (q + d - 1))) := by
  have h := (may_iff _ _ _ _).1 h
  have h2 := (may_iff _ _ _ _).1 h2
  rw [Bool.eq_iff_iff, may_iff, Bool.and_eq_true, decide_eq_true_iff, decide_eq_true_iff]
  omega
theorem mtB_eq {x y a b p q c d : Int} (h : may x y a b = true) (h2 : may p q c d = true) :
    mtB x y a b p q c d = may (max x p) (max y q) (min (x + a - 1) (p + c - 1) - max x p + 1) (min (y + b - 1) (q + d - 1) - max y q + 1) := by
  rw [may_meet h h2, mtB, h, h2]; simp
theorem huB_eq {x y a b p q c d : Int} (h : may x y a b = true) (h2 : may p q c d = true) :
    huB x y a b p q c d = may (min x p) (min y q) (max (x + a - 1) (p + c - 1) - min x p + 1) (max (y + b - 1) (q + d - 1) - min y q + 1) := by
  rw [huB, h, h2]; simp
theorem mtB_no1 {x y a b p q c d : Int} (h : may x y a b = false) : mtB x y a b p q c d = false := by simp [mtB, h]
theorem mtB_no2 {x y a b p q c d : Int} (h : may p q c d = false) : mtB x y a b p q c d = false := by simp [mtB, h]
theorem huB_no1 {x y a b p q c d : Int} (h : may x y a b = false) : huB x y a b p q c d = false := by simp [huB, h]
theorem huB_no2 {x y a b p q c d : Int} (h : may p q c d = false) : huB x y a b p q c d = false := by simp [huB, h]
theorem mtV_no {x y a b p q c d : Int} (h : mtB x y a b p q c d = false) : mtV x y a b p q c d = zero4 := by simp [mtV, h]
theorem huV_no {x y a b p q c d : Int} (h : huB x y a b p q c d = false) : huV x y a b p q c d = zero4 := by simp [huV, h]
theorem mtV_yes {x y a b p q c d : Int} (h : mtB x y a b p q c d = true) : mtV x y a b p q c d = span (max x p) (max y q) (min (x + a - 1) (p + c - 1)) (min (y + b - 1) (q + d - 1)) := by simp [mtV, h]
theorem huV_yes {x y a b p q c d : Int} (h : huB x y a b p q c d = true) : huV x y a b p q c d = span (min x p) (min y q) (max (x + a - 1) (p + c - 1)) (max (y + b - 1) (q + d - 1)) := by simp [huV, h]
set_option maxHeartbeats 1000000 in
theorem spanned_any (u v s t : Int) (w : World) (hu : -1048576 ≤ u ∧ u ≤ 1048576) (hv : -1048576 ≤ v ∧ v ≤ 1048576) (hs : -1048576 ≤ s ∧ s ≤ 1048576) (ht : -1048576 ≤ t ∧ t ≤ 1048576) :
    Calls Try.prog 30 #[.agg #[.int .i64 u, .int .i64 v], .agg #[.int .i64 s, .int .i64 t]] w fun e w' => e = .returned (.agg #[.int .i64 u, .int .i64 v, .int .i64 (s - u + 1), .int .i64 (t - v + 1)]) ∧ Below w.heap.size w w' := by
  obtain ⟨u0, u1⟩ := hu
  obtain ⟨v0, v1⟩ := hv
  obtain ⟨s0, s1⟩ := hs
  obtain ⟨t0, t1⟩ := ht
  go_enter Try.func30, Try.ntmps30
  go_wp2_with fail
  refine bodyPost_ret (v := .agg #[.int .i64 u, .int .i64 v, .int .i64 (s - u + 1), .int .i64 (t - v + 1)]) (by simp [results, Try.results30, go_sem]) rfl ⟨rfl, ?_⟩
  exact bt (box2 _ _ _) (box1 _ _)
abbrev W5 (w : World) (x y a b p q c d : Int) : World := ((w.alloc (.cells #[.int .i64 x, .int .i64 y, .int .i64 a, .int .i64 b] 34)).alloc (.cells #[.int .i64 p, .int .i64 q, .int .i64 c, .int .i64 d] 34)).alloc (.cells #[.int .i64 0, .int .i64 0, .int .i64 0, .int .i64 0] 34)
/-- Four cells of a block, and that they may be written. -/
def Four (w : World) (b : Nat) (u v s t : Int) : Prop := (w.cell? ⟨b, 0, none⟩ = some (.int .i64 u) ∧ w.cell? ⟨b, 1, none⟩ = some (.int .i64 v) ∧ w.cell? ⟨b, 2, none⟩ = some (.int .i64 s) ∧ w.cell? ⟨b, 3, none⟩ = some (.int .i64 t)) ∧ (w.frozen? ⟨b, 0, none⟩ = false ∧ w.frozen? ⟨b, 1, none⟩ = false ∧ w.frozen? ⟨b, 2, none⟩ = false ∧ w.frozen? ⟨b, 3, none⟩ = false) ∧ b < w.heap.size
def Two (w : World) (b : Nat) (u v : Int) : Prop := (w.cell? ⟨b, 0, none⟩ = some (.int .i64 u) ∧ w.cell? ⟨b, 1, none⟩ = some (.int .i64 v)) ∧ (w.frozen? ⟨b, 0, none⟩ = false ∧ w.frozen? ⟨b, 1, none⟩ = false) ∧ b < w.heap.size
theorem w5_cells {w w1 : World} {x y a b p q c d : Int} (h : Below (W5 w x y a b p q c d).heap.size (W5 w x y a b p q c d) w1) :
    Four w1 w.heap.size x y a b ∧ Four w1 (w.heap.size + 1) p q c d ∧ Four w1 (w.heap.size + 1 + 1) 0 0 0 0 := by
  refine ⟨cells4' (bt (box1 _ _) h), cells4'' (bt (box1 _ _) h), ?_⟩
  have := cells4'' (w := w.alloc (.cells #[.int .i64 x, .int .i64 y, .int .i64 a, .int .i64 b] 34)) h
  simpa [Four] using this
theorem w5_below (w : World) (x y a b p q c d : Int) : Below w.heap.size w (W5 w x y a b p q c d) := bt (box2 _ _ _) (box1 _ _)
end Go.Proofs.Ytankkngjhgpcaaa
