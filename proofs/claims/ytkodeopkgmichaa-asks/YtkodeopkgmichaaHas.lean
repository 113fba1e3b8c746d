/-
  Has of the package.
-/
import Derived.Test.YtkodeopkgmichaaMay
namespace Go.Proofs.Ytkodeopkgmichaa
open Go.RowKit
set_option linter.unusedVariables false
def has (x y a b p q : Int) : Bool := may x y a b && (decide (x ≤ p) && (decide (p ≤ x + a - 1) && (decide (y ≤ q) && decide (q ≤ y + b - 1))))
abbrev WR (w : World) (x y a b p q : Int) : World := (w.alloc (.cells #[.int .i64 x, .int .i64 y, .int .i64 a, .int .i64 b] 34)).alloc (.cells #[.int .i64 p, .int .i64 q] 32)
theorem has_no {x y a b p q : Int} (h : may x y a b = false) : has x y a b p q = false := by simp [has, h]
theorem has_f1 {x y a b p q : Int} (h : ¬ x ≤ p) : has x y a b p q = false := by rw [has, decide_eq_false h]; simp
theorem has_f2 {x y a b p q : Int} (h : ¬ p ≤ x + a - 1) : has x y a b p q = false := by rw [has, decide_eq_false h]; simp
theorem has_f3 {x y a b p q : Int} (h : ¬ y ≤ q) : has x y a b p q = false := by rw [has, decide_eq_false h]; simp
theorem has_f4 {x y a b p q : Int} (h : ¬ q ≤ y + b - 1) : has x y a b p q = false := by rw [has, decide_eq_false h]; simp
theorem has_t {x y a b p q : Int} (h : may x y a b = true) (h1 : x ≤ p) (h2 : p ≤ x + a - 1) (h3 : y ≤ q) : has x y a b p q = decide (q ≤ y + b - 1) := by rw [has, h, decide_eq_true h1, decide_eq_true h2, decide_eq_true h3]; simp
theorem cells4' {w w1 : World} {a b c d : Value} {t : TypeId} {o : Obj} (h : Below ((w.alloc (.cells #[a, b, c, d] t)).alloc o).heap.size ((w.alloc (.cells #[a, b, c, d] t)).alloc o) w1) :
    (w1.cell? ⟨w.heap.size, 0, none⟩ = some a ∧ w1.cell? ⟨w.heap.size, 1, none⟩ = some b ∧ w1.cell? ⟨w.heap.size, 2, none⟩ = some c ∧ w1.cell? ⟨w.heap.size, 3, none⟩ = some d) ∧ (w1.frozen? ⟨w.heap.size, 0, none⟩ = false ∧ w1.frozen? ⟨w.heap.size, 1, none⟩ = false ∧ w1.frozen? ⟨w.heap.size, 2, none⟩ = false ∧ w1.frozen? ⟨w.heap.size, 3, none⟩ = false) ∧ w.heap.size < w1.heap.size :=
  cells4 (bt (box1 _ _) h)
end Go.Proofs.Ytkodeopkgmichaa
