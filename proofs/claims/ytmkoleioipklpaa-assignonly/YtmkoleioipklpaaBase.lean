/-
  Cells as values, whether a number and a cell are near; what the package and the reference tell of it.
-/
import Derived.Test.YtmkoleioipklpaaBa
import Derived.WalkKit
import Derived.ProofKit
namespace Go.Proofs.Ytmkoleioipklpaa
open Go.RowKit
set_option linter.unusedVariables false
def nr (n : Int) : Bool := decide (-1048576 ≤ n ∧ n ≤ 1048576)
def nrC (x y : Int) : Bool := nr x && nr y
theorem nr_iff (n : Int) : nr n = true ↔ (-1048576 ≤ n ∧ n ≤ 1048576) := by simp [nr]
theorem nr_not (n : Int) : nr n = false ↔ ¬ (-1048576 ≤ n ∧ n ≤ 1048576) := by simp only [nr, decide_eq_false_iff_not]
theorem nrC_iff (x y : Int) : nrC x y = true ↔ ((-1048576 ≤ x ∧ x ≤ 1048576) ∧ (-1048576 ≤ y ∧ y ≤ 1048576)) := by rw [nrC, Bool.and_eq_true, nr_iff, nr_iff]
theorem bcell {W w1 : World} (hb : Below W.heap.size W w1) : (∀ b o, b < W.heap.size → w1.cell? ⟨b, o, none⟩ = W.cell? ⟨b, o, none⟩) ∧ (∀ b o, b < W.heap.size → w1.frozen? ⟨b, o, none⟩ = W.frozen? ⟨b, o, none⟩) :=
  ⟨fun b o h => hb.cell (p := ⟨b, o, none⟩) h, fun b o h => hb.frozen (p := ⟨b, o, none⟩) h⟩
/-- A box of two cells, as it lies behind whatever turned nothing old. -/
theorem cells2 {w w1 : World} {a b : Value} {t : TypeId} (h : Below (w.alloc (.cells #[a, b] t)).heap.size (w.alloc (.cells #[a, b] t)) w1) :
    (w1.cell? ⟨w.heap.size, 0, none⟩ = some a ∧ w1.cell? ⟨w.heap.size, 1, none⟩ = some b) ∧ (w1.frozen? ⟨w.heap.size, 0, none⟩ = false ∧ w1.frozen? ⟨w.heap.size, 1, none⟩ = false) ∧ w.heap.size < w1.heap.size := by
  have hz := h.size
  have hl : w.heap.size < (w.alloc (.cells #[a, b] t)).heap.size := by simp
  have h0 := h.cell (p := ⟨w.heap.size, 0, none⟩) hl
  have h1 := h.cell (p := ⟨w.heap.size, 1, none⟩) hl
  have f0 := h.frozen (p := ⟨w.heap.size, 0, none⟩) hl
  have f1 := h.frozen (p := ⟨w.heap.size, 1, none⟩) hl
  exact ⟨⟨by rw [h0]; simp [go_sem], by rw [h1]; simp [go_sem]⟩, ⟨by rw [f0]; simp [go_sem], by rw [f1]; simp [go_sem]⟩, Nat.lt_of_lt_of_le hl hz⟩
theorem cells2' {w w1 : World} {a b : Value} {t : TypeId} {o : Obj} (h : Below ((w.alloc (.cells #[a, b] t)).alloc o).heap.size ((w.alloc (.cells #[a, b] t)).alloc o) w1) :
    (w1.cell? ⟨w.heap.size, 0, none⟩ = some a ∧ w1.cell? ⟨w.heap.size, 1, none⟩ = some b) ∧ (w1.frozen? ⟨w.heap.size, 0, none⟩ = false ∧ w1.frozen? ⟨w.heap.size, 1, none⟩ = false) ∧ w.heap.size < w1.heap.size :=
  cells2 (bt (box1 _ _) h)
theorem cells2'' {w w1 : World} {a b : Value} {t : TypeId} {o : Obj} (h : Below ((w.alloc o).alloc (.cells #[a, b] t)).heap.size ((w.alloc o).alloc (.cells #[a, b] t)) w1) :
    (w1.cell? ⟨w.heap.size + 1, 0, none⟩ = some a ∧ w1.cell? ⟨w.heap.size + 1, 1, none⟩ = some b) ∧ (w1.frozen? ⟨w.heap.size + 1, 0, none⟩ = false ∧ w1.frozen? ⟨w.heap.size + 1, 1, none⟩ = false) ∧ w.heap.size + 1 < w1.heap.size := by
  have := cells2 h
  simpa using this
theorem cells2d {w w1 : World} {a b : Value} {t : TypeId} (h : Below (w.alloc (.cells #[a, b] t)).drew.heap.size (w.alloc (.cells #[a, b] t)).drew w1) :
    (w1.cell? ⟨w.heap.size, 0, none⟩ = some a ∧ w1.cell? ⟨w.heap.size, 1, none⟩ = some b) ∧ (w1.frozen? ⟨w.heap.size, 0, none⟩ = false ∧ w1.frozen? ⟨w.heap.size, 1, none⟩ = false) ∧ w.heap.size < w1.heap.size :=
  cells2 (bt ((Below.refl _ _).drew) h)
theorem box1d (w : World) (o : Obj) : Below w.heap.size w (w.alloc o).drew := (box1 w o).drew
theorem Below.two {W w2 : World} (h : Below W.heap.size W w2) {b : Nat} {u v : Value} (hb : b < W.heap.size) (h0 : W.cell? ⟨b, 0, none⟩ = some u) (h1 : W.cell? ⟨b, 1, none⟩ = some v) (f0 : W.frozen? ⟨b, 0, none⟩ = false) (f1 : W.frozen? ⟨b, 1, none⟩ = false) :
    (w2.cell? ⟨b, 0, none⟩ = some u ∧ w2.cell? ⟨b, 1, none⟩ = some v) ∧ (w2.frozen? ⟨b, 0, none⟩ = false ∧ w2.frozen? ⟨b, 1, none⟩ = false) :=
  ⟨⟨(h.cell (p := ⟨b, 0, none⟩) hb).trans h0, (h.cell (p := ⟨b, 1, none⟩) hb).trans h1⟩, (h.frozen (p := ⟨b, 0, none⟩) hb).trans f0, (h.frozen (p := ⟨b, 1, none⟩) hb).trans f1⟩
theorem set2 {w w1 : World} {a b : Value} {p q : Addr} (h : Below w.heap.size w w1) (hp : w.heap.size ≤ p.block) (hq : w.heap.size ≤ q.block) : Below w.heap.size w ((w1.setCell p a).setCell q b) :=
  (h.setCell hp _).setCell hq _
set_option maxHeartbeats 400000 in
theorem near_num (n : Int) (w : World) : Calls Try.prog 53 #[.int .i64 n] w fun e w' => e = .returned (.bool (nr n)) ∧ w' = w := by
  by_cases h1 : -1048576 ≤ n
  · by_cases h2 : n ≤ 1048576
    · go_enter Try.func53, Try.ntmps53
      go_wp2
      go_ret
      exact ⟨ret_bool (by simp [nr, h1, h2]), rfl⟩
    · go_enter Try.func53, Try.ntmps53
      go_wp2
      go_ret
      exact ⟨ret_bool (by simp [nr, h1, h2]), rfl⟩
  · go_enter Try.func53, Try.ntmps53
    go_wp2
    go_ret
    exact ⟨ret_bool (by rw [eq_comm, nr_not]; omega), rfl⟩
set_option maxHeartbeats 400000 in
theorem refnear_num (n : Int) (w : World) : Calls Try.prog 57 #[.int .i64 n] w fun e w' => e = .returned (.bool (nr n)) ∧ w' = w := by
  by_cases h1 : -1048576 ≤ n
  · by_cases h2 : n ≤ 1048576
    · go_enter Try.func57, Try.ntmps57
      go_wp2
      go_ret
      exact ⟨ret_bool (by simp [nr, h1, h2]), rfl⟩
    · go_enter Try.func57, Try.ntmps57
      go_wp2
      go_ret
      exact ⟨ret_bool (by simp [nr, h1, h2]), rfl⟩
  · go_enter Try.func57, Try.ntmps57
    go_wp2
    go_ret
    exact ⟨ret_bool (by rw [eq_comm, nr_not]; omega), rfl⟩
set_option maxHeartbeats 400000 in
theorem near_any (x y : Int) (w : World) : Calls Try.prog 35 #[.agg #[.int .i64 x, .int .i64 y]] w fun e w' => e = .returned (.bool (nrC x y)) ∧ Below w.heap.size w w' := by
  cases hx : nr x
  all_goals
    go_enter Try.func35, Try.ntmps35
    go_wp2_with (go_at_call 53; refine (near_num _ _).mono ?_; rintro e w' ⟨rfl, rfl⟩)
    go_ret
    exact ⟨ret_bool (by simp [nrC, hx]), box1 _ _⟩
set_option maxHeartbeats 400000 in
theorem refnear_any (x y : Int) (w : World) : Calls Try.prog 37 #[.agg #[.int .i64 x, .int .i64 y]] w fun e w' => e = .returned (.bool (nrC x y)) ∧ Below w.heap.size w w' := by
  cases hx : nr x
  all_goals
    go_enter Try.func37, Try.ntmps37
    go_wp2_with (go_at_call 57; refine (refnear_num _ _).mono ?_; rintro e w' ⟨rfl, rfl⟩)
    go_ret
    exact ⟨ret_bool (by simp [nrC, hx]), box1 _ _⟩
end Go.Proofs.Ytmkoleioipklpaa
