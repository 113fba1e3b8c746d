/-
  Within of the package and of the reference.
-/
import Derived.Test.YtkodeopkgmichaaRefHas
namespace Go.Proofs.Ytkodeopkgmichaa
open Go.RowKit
set_option linter.unusedVariables false
def wi (x y a b p q c d : Int) : Bool := may x y a b && (has p q c d x y && has p q c d (x + a - 1) (y + b - 1))
abbrev WQ (w : World) (x y a b p q c d : Int) : World := (w.alloc (.cells #[.int .i64 x, .int .i64 y, .int .i64 a, .int .i64 b] 34)).alloc (.cells #[.int .i64 p, .int .i64 q, .int .i64 c, .int .i64 d] 34)
theorem may_is {x y a b : Int} {c : Bool} (w : World) (h : may x y a b = c) :
    Calls Try.prog 30 #[.agg #[.int .i64 x, .int .i64 y, .int .i64 a, .int .i64 b]] w fun e w' => e = .returned (.bool c) ∧ Below w.heap.size w w' := by
  subst h; exact may_any x y a b w
theorem refhas_is {x y a b p q : Int} {c : Bool} (w : World) (h : has x y a b p q = c) :
    Calls Try.prog 28 #[.agg #[.int .i64 x, .int .i64 y, .int .i64 a, .int .i64 b], .agg #[.int .i64 p, .int .i64 q]] w fun e w' => e = .returned (.bool c) ∧ Below w.heap.size w w' := by
  subst h; exact refhas_any x y a b p q w
theorem cells4'' {w w1 : World} {a b c d : Value} {t : TypeId} {o : Obj} (h : Below ((w.alloc o).alloc (.cells #[a, b, c, d] t)).heap.size ((w.alloc o).alloc (.cells #[a, b, c, d] t)) w1) :
    (w1.cell? ⟨w.heap.size + 1, 0, none⟩ = some a ∧ w1.cell? ⟨w.heap.size + 1, 1, none⟩ = some b ∧ w1.cell? ⟨w.heap.size + 1, 2, none⟩ = some c ∧ w1.cell? ⟨w.heap.size + 1, 3, none⟩ = some d) ∧ (w1.frozen? ⟨w.heap.size + 1, 0, none⟩ = false ∧ w1.frozen? ⟨w.heap.size + 1, 1, none⟩ = false ∧ w1.frozen? ⟨w.heap.size + 1, 2, none⟩ = false ∧ w1.frozen? ⟨w.heap.size + 1, 3, none⟩ = false) ∧ w.heap.size + 1 < w1.heap.size := by
  have := cells4 h
  simpa using this
theorem wq_cells (w : World) (x y a b p q c d : Int) : ∃ W, WQ w x y a b p q c d = W ∧ Below w.heap.size w W ∧
    ((∀ n : Lat W, n.w.cell? ⟨w.heap.size, 0, none⟩ = some (.int .i64 x)) ∧ (∀ n : Lat W, n.w.cell? ⟨w.heap.size, 1, none⟩ = some (.int .i64 y)) ∧ (∀ n : Lat W, n.w.cell? ⟨w.heap.size, 2, none⟩ = some (.int .i64 a)) ∧ (∀ n : Lat W, n.w.cell? ⟨w.heap.size, 3, none⟩ = some (.int .i64 b))) ∧
    ((∀ n : Lat W, n.w.cell? ⟨w.heap.size + 1, 0, none⟩ = some (.int .i64 p)) ∧ (∀ n : Lat W, n.w.cell? ⟨w.heap.size + 1, 1, none⟩ = some (.int .i64 q)) ∧ (∀ n : Lat W, n.w.cell? ⟨w.heap.size + 1, 2, none⟩ = some (.int .i64 c)) ∧ (∀ n : Lat W, n.w.cell? ⟨w.heap.size + 1, 3, none⟩ = some (.int .i64 d))) :=
  ⟨_, rfl, box2 _ _ _, ⟨fun n => (cells4' n.h).1.1, fun n => (cells4' n.h).1.2.1, fun n => (cells4' n.h).1.2.2.1, fun n => (cells4' n.h).1.2.2.2⟩, fun n => (cells4'' n.h).1.1, fun n => (cells4'' n.h).1.2.1, fun n => (cells4'' n.h).1.2.2.1, fun n => (cells4'' n.h).1.2.2.2⟩
end Go.Proofs.Ytkodeopkgmichaa
