/-
  Rectangles: which may be; their last cells.
-/
import Derived.Test.YtankkngjhgpcaaaBase
namespace Go.Proofs.Ytankkngjhgpcaaa
open Go.RowKit
set_option linter.unusedVariables false
def sd (n : Int) : Bool := decide (1 ≤ n ∧ n ≤ 1048576)
theorem sd_iff (n : Int) : sd n = true ↔ (1 ≤ n ∧ n ≤ 1048576) := by simp [sd]
theorem sd_not (n : Int) : sd n = false ↔ ¬ (1 ≤ n ∧ n ≤ 1048576) := by simp only [sd, decide_eq_false_iff_not]
def may (x y a b : Int) : Bool := nrC x y && (sd a && (sd b && nrC (x + a - 1) (y + b - 1)))
theorem may_parts {x y a b : Int} (h : may x y a b = true) : nrC x y = true ∧ sd a = true ∧ sd b = true ∧ nrC (x + a - 1) (y + b - 1) = true := by simpa [may] using h
theorem may_iff (x y a b : Int) : may x y a b = true ↔ ((-1048576 ≤ x ∧ x ≤ 1048576) ∧ (-1048576 ≤ y ∧ y ≤ 1048576)) ∧ (1 ≤ a ∧ a ≤ 1048576) ∧ (1 ≤ b ∧ b ≤ 1048576) ∧ (-1048576 ≤ x + a - 1 ∧ x + a - 1 ≤ 1048576) ∧ (-1048576 ≤ y + b - 1 ∧ y + b - 1 ≤ 1048576) := by
  simp only [may, Bool.and_eq_true, nrC_iff, sd_iff]
/-- A box of four cells, as it lies behind whatever turned nothing old. -/
theorem cells4 {w w1 : World} {a b c d : Value} {t : TypeId} (h : Below (w.alloc (.cells #[a, b, c, d] t)).heap.size (w.alloc (.cells #[a, b, c, d] t)) w1) :
    (w1.cell? ⟨w.heap.size, 0, none⟩ = some a ∧ w1.cell? ⟨w.heap.size, 1, none⟩ = some b ∧ w1.cell? ⟨w.heap.size, 2, none⟩ = some c ∧ w1.cell? ⟨w.heap.size, 3, none⟩ = some d) ∧ (w1.frozen? ⟨w.heap.size, 0, none⟩ = false ∧ w1.frozen? ⟨w.heap.size, 1, none⟩ = false ∧ w1.frozen? ⟨w.heap.size, 2, none⟩ = false ∧ w1.frozen? ⟨w.heap.size, 3, none⟩ = false) ∧ w.heap.size < w1.heap.size := by
  have hz := h.size
  have hl : w.heap.size < (w.alloc (.cells #[a, b, c, d] t)).heap.size := by simp
  have h0 := h.cell (p := ⟨w.heap.size, 0, none⟩) hl
  have h1 := h.cell (p := ⟨w.heap.size, 1, none⟩) hl
  have h2 := h.cell (p := ⟨w.heap.size, 2, none⟩) hl
  have h3 := h.cell (p := ⟨w.heap.size, 3, none⟩) hl
  have f0 := h.frozen (p := ⟨w.heap.size, 0, none⟩) hl
  have f1 := h.frozen (p := ⟨w.heap.size, 1, none⟩) hl
  have f2 := h.frozen (p := ⟨w.heap.size, 2, none⟩) hl
  have f3 := h.frozen (p := ⟨w.heap.size, 3, none⟩) hl
  exact ⟨⟨by rw [h0]; simp [go_sem], by rw [h1]; simp [go_sem], by rw [h2]; simp [go_sem], by rw [h3]; simp [go_sem]⟩, ⟨by rw [f0]; simp [go_sem], by rw [f1]; simp [go_sem], by rw [f2]; simp [go_sem], by rw [f3]; simp [go_sem]⟩, Nat.lt_of_lt_of_le hl hz⟩
theorem Below.four {W w2 : World} (h : Below W.heap.size W w2) {b : Nat} {u v s t : Value} (hb : b < W.heap.size) (hc : W.cell? ⟨b, 0, none⟩ = some u ∧ W.cell? ⟨b, 1, none⟩ = some v ∧ W.cell? ⟨b, 2, none⟩ = some s ∧ W.cell? ⟨b, 3, none⟩ = some t) :
    w2.cell? ⟨b, 0, none⟩ = some u ∧ w2.cell? ⟨b, 1, none⟩ = some v ∧ w2.cell? ⟨b, 2, none⟩ = some s ∧ w2.cell? ⟨b, 3, none⟩ = some t :=
  ⟨(h.cell (p := ⟨b, 0, none⟩) hb).trans hc.1, (h.cell (p := ⟨b, 1, none⟩) hb).trans hc.2.1, (h.cell (p := ⟨b, 2, none⟩) hb).trans hc.2.2.1, (h.cell (p := ⟨b, 3, none⟩) hb).trans hc.2.2.2⟩
set_option maxHeartbeats 400000 in
theorem side_any (n : Int) (w : World) : Calls Try.prog 34 #[.int .i64 n] w fun e w' => e = .returned (.bool (sd n)) ∧ w' = w := by
  by_cases h1 : 1 ≤ n
  · by_cases h2 : n ≤ 1048576
    · go_enter Try.func34, Try.ntmps34
      go_wp2
      go_ret
      exact ⟨ret_bool (by simp [sd, h1, h2]), rfl⟩
    · go_enter Try.func34, Try.ntmps34
      go_wp2
      go_ret
      exact ⟨ret_bool (by simp [sd, h1, h2]), rfl⟩
  · go_enter Try.func34, Try.ntmps34
    go_wp2
    go_ret
    exact ⟨ret_bool (by rw [eq_comm, sd_not]; omega), rfl⟩
set_option maxHeartbeats 1000000 in
theorem last_any (x y a b : Int) (w : World) (hn : nrC x y = true) (ha : sd a = true) (hb : sd b = true) :
    Calls Try.prog 29 #[.agg #[.int .i64 x, .int .i64 y, .int .i64 a, .int .i64 b]] w fun e w' => e = .returned (.agg #[.int .i64 (x + a - 1), .int .i64 (y + b - 1)]) ∧ Below w.heap.size w w' := by
  obtain ⟨⟨x0, x1⟩, y0, y1⟩ := (nrC_iff x y).1 hn
  obtain ⟨a0, a1⟩ := (sd_iff a).1 ha
  obtain ⟨b0, b1⟩ := (sd_iff b).1 hb
  go_enter Try.func29, Try.ntmps29
  go_wp2_with fail
  refine bodyPost_ret (v := .agg #[.int .i64 (x + a - 1), .int .i64 (y + b - 1)]) (by simp [results, Try.results29, go_sem]) rfl ⟨rfl, ?_⟩
  exact box2 _ _ _
set_option maxHeartbeats 1000000 in
theorem reflast_any (x y a b : Int) (w : World) (hn : nrC x y = true) (ha : sd a = true) (hb : sd b = true) :
    Calls Try.prog 25 #[.agg #[.int .i64 x, .int .i64 y, .int .i64 a, .int .i64 b]] w fun e w' => e = .returned (.agg #[.int .i64 (x + a - 1), .int .i64 (y + b - 1)]) ∧ Below w.heap.size w w' := by
  obtain ⟨⟨x0, x1⟩, y0, y1⟩ := (nrC_iff x y).1 hn
  obtain ⟨a0, a1⟩ := (sd_iff a).1 ha
  obtain ⟨b0, b1⟩ := (sd_iff b).1 hb
  go_enter Try.func25, Try.ntmps25
  go_wp2_with fail
  refine bodyPost_ret (v := .agg #[.int .i64 (x + a - 1), .int .i64 (y + b - 1)]) (by simp [results, Try.results25, go_sem]) rfl ⟨rfl, ?_⟩
  exact box2 _ _ _
end Go.Proofs.Ytankkngjhgpcaaa
