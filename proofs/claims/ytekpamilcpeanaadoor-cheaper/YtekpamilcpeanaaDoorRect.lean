/-
  Rectangles: which may be; their last cells. May of the package and of the reference.
-/
import Derived.Test.YtekpamilcpeanaaDoorBase
namespace Go.Proofs.YtekpamilcpeanaaDoor
open Go.RowKit
set_option linter.unusedVariables false
def sd (n : Int) : Bool := decide (1 ≤ n ∧ n ≤ 1048576)
theorem sd_iff (n : Int) : sd n = true ↔ (1 ≤ n ∧ n ≤ 1048576) := by simp [sd]
theorem sd_not (n : Int) : sd n = false ↔ ¬ (1 ≤ n ∧ n ≤ 1048576) := by simp only [sd, decide_eq_false_iff_not]
def may (x y a b : Int) : Bool := nrC x y && (sd a && (sd b && nrC (x + a - 1) (y + b - 1)))
theorem may_parts {x y a b : Int} (h : may x y a b = true) : nrC x y = true ∧ sd a = true ∧ sd b = true ∧ nrC (x + a - 1) (y + b - 1) = true := by simpa [may] using h
theorem may_iff (x y a b : Int) : may x y a b = true ↔ ((-1048576 ≤ x ∧ x ≤ 1048576) ∧ (-1048576 ≤ y ∧ y ≤ 1048576)) ∧ (1 ≤ a ∧ a ≤ 1048576) ∧ (1 ≤ b ∧ b ≤ 1048576) ∧ (-1048576 ≤ x + a - 1 ∧ x + a - 1 ≤ 1048576) ∧ (-1048576 ≤ y + b - 1 ∧ y + b - 1 ≤ 1048576) := by
  simp only [may, Bool.and_eq_true, nrC_iff, sd_iff]
/-- A box of four cells, as it lies behind whatever turned nothing old. -/
theorem cells4 {w w1 : World} {a b c d : Value} {t : TypeId} (h : Below (w.alloc (.cells #[a, b, c, d] t)).heap.size (w.alloc (.cells #[a, b, c, d] t)) w1) :
    (w1.cell? ⟨w.heap.size, 0, none⟩ = some a ∧ w1.cell? ⟨w.heap.size, 1, none⟩ = some b ∧ w1.cell? ⟨w.heap.size, 2, none⟩ = some c ∧ w1.cell? ⟨w.heap.size, 3, none⟩ = some d) ∧ (w1.frozen? ⟨w.heap.size, 0, none⟩ = false ∧ w1.frozen? ⟨w.heap.size, 1, none⟩ = false ∧ w1.frozen? ⟨w.heap.size, 2, none⟩ = false ∧ w1.frozen? ⟨w.heap.size, 3, none⟩ = false) ∧ w.heap.size < w1.heap.size := by
  have hz := h.size
  have hl : w.heap.size < (w.alloc (.cells #[a, b, c, d] t)).heap.size := by simp
  have h0 := h.cell (p := ⟨w.heap.size, 0, none⟩) hl
  have h1 := h.cell (p := ⟨w.heap.size, 1, none⟩) hl
  have h2 := h.cell (p := ⟨w.heap.size, 2, none⟩) hl
  have h3 := h.cell (p := ⟨w.heap.size, 3, none⟩) hl
  have f0 := h.frozen (p := ⟨w.heap.size, 0, none⟩) hl
  have f1 := h.frozen (p := ⟨w.heap.size, 1, none⟩) hl
  have f2 := h.frozen (p := ⟨w.heap.size, 2, none⟩) hl
  have f3 := h.frozen (p := ⟨w.heap.size, 3, none⟩) hl
  exact ⟨⟨by rw [h0]; simp [go_sem], by rw [h1]; simp [go_sem], by rw [h2]; simp [go_sem], by rw [h3]; simp [go_sem]⟩, ⟨by rw [f0]; simp [go_sem], by rw [f1]; simp [go_sem], by rw [f2]; simp [go_sem], by rw [f3]; simp [go_sem]⟩, Nat.lt_of_lt_of_le hl hz⟩
theorem Below.four {W w2 : World} (h : Below W.heap.size W w2) {b : Nat} {u v s t : Value} (hb : b < W.heap.size) (hc : W.cell? ⟨b, 0, none⟩ = some u ∧ W.cell? ⟨b, 1, none⟩ = some v ∧ W.cell? ⟨b, 2, none⟩ = some s ∧ W.cell? ⟨b, 3, none⟩ = some t) :
    w2.cell? ⟨b, 0, none⟩ = some u ∧ w2.cell? ⟨b, 1, none⟩ = some v ∧ w2.cell? ⟨b, 2, none⟩ = some s ∧ w2.cell? ⟨b, 3, none⟩ = some t :=
  ⟨(h.cell (p := ⟨b, 0, none⟩) hb).trans hc.1, (h.cell (p := ⟨b, 1, none⟩) hb).trans hc.2.1, (h.cell (p := ⟨b, 2, none⟩) hb).trans hc.2.2.1, (h.cell (p := ⟨b, 3, none⟩) hb).trans hc.2.2.2⟩
set_option maxHeartbeats 400000 in
theorem side_any (n : Int) (w : World) : Calls Tryd.prog 95 #[.int .i64 n] w fun e w' => e = .returned (.bool (sd n)) ∧ w' = w := by
  by_cases h1 : 1 ≤ n
  · by_cases h2 : n ≤ 1048576
    · go_enter Tryd.func95, Tryd.ntmps95
      go_wp2
      go_ret
      exact ⟨ret_bool (by simp [sd, h1, h2]), rfl⟩
    · go_enter Tryd.func95, Tryd.ntmps95
      go_wp2
      go_ret
      exact ⟨ret_bool (by simp [sd, h1, h2]), rfl⟩
  · go_enter Tryd.func95, Tryd.ntmps95
    go_wp2
    go_ret
    exact ⟨ret_bool (by rw [eq_comm, sd_not]; omega), rfl⟩
set_option maxHeartbeats 1000000 in
theorem last_any (x y a b : Int) (w : World) (hn : nrC x y = true) (ha : sd a = true) (hb : sd b = true) :
    Calls Tryd.prog 89 #[.agg #[.int .i64 x, .int .i64 y, .int .i64 a, .int .i64 b]] w fun e w' => e = .returned (.agg #[.int .i64 (x + a - 1), .int .i64 (y + b - 1)]) ∧ Below w.heap.size w w' := by
  obtain ⟨⟨x0, x1⟩, y0, y1⟩ := (nrC_iff x y).1 hn
  obtain ⟨a0, a1⟩ := (sd_iff a).1 ha
  obtain ⟨b0, b1⟩ := (sd_iff b).1 hb
  go_enter Tryd.func89, Tryd.ntmps89
  go_wp2_with fail
  refine bodyPost_ret (v := .agg #[.int .i64 (x + a - 1), .int .i64 (y + b - 1)]) (by simp [results, Tryd.results89, go_sem]) rfl ⟨rfl, ?_⟩
  exact box2 _ _ _
set_option maxHeartbeats 1000000 in
theorem reflast_any (x y a b : Int) (w : World) (hn : nrC x y = true) (ha : sd a = true) (hb : sd b = true) :
    Calls Tryd.prog 78 #[.agg #[.int .i64 x, .int .i64 y, .int .i64 a, .int .i64 b]] w fun e w' => e = .returned (.agg #[.int .i64 (x + a - 1), .int .i64 (y + b - 1)]) ∧ Below w.heap.size w w' := by
  obtain ⟨⟨x0, x1⟩, y0, y1⟩ := (nrC_iff x y).1 hn
  obtain ⟨a0, a1⟩ := (sd_iff a).1 ha
  obtain ⟨b0, b1⟩ := (sd_iff b).1 hb
  go_enter Tryd.func78, Tryd.ntmps78
  go_wp2_with fail
  refine bodyPost_ret (v := .agg #[.int .i64 (x + a - 1), .int .i64 (y + b - 1)]) (by simp [results, Tryd.results78, go_sem]) rfl ⟨rfl, ?_⟩
  exact box2 _ _ _
end Go.Proofs.YtekpamilcpeanaaDoor
namespace Go.Proofs.YtekpamilcpeanaaDoor
open Go.RowKit
set_option linter.unusedVariables false
set_option maxHeartbeats 1000000 in
theorem may_no1 (x y a b : Int) (w : World) (h : nrC x y = false) :
    Calls Tryd.prog 85 #[.agg #[.int .i64 x, .int .i64 y, .int .i64 a, .int .i64 b]] w fun e w' => e = .returned (.bool (may x y a b)) ∧ Below w.heap.size w w' := by
  rw [show may x y a b = false by simp [may, h]]
  go_enter Tryd.func85, Tryd.ntmps85
  go_wp2_with fail
  refine (near_any _ _ _).mono ?_
  rintro e w1 ⟨rfl, hb1⟩
  obtain ⟨⟨c0, c1, c2, c3⟩, _, z0⟩ := cells4 hb1
  go_wp2_with fail
  go_ret
  exact ⟨rfl, bt (box1 _ _) hb1⟩
set_option maxHeartbeats 1000000 in
theorem may_no2 (x y a b : Int) (w : World) (h : nrC x y = true) (ha : sd a = false) :
    Calls Tryd.prog 85 #[.agg #[.int .i64 x, .int .i64 y, .int .i64 a, .int .i64 b]] w fun e w' => e = .returned (.bool (may x y a b)) ∧ Below w.heap.size w w' := by
  rw [show may x y a b = false by simp [may, ha]]
  go_enter Tryd.func85, Tryd.ntmps85
  go_wp2_with fail
  refine (near_any _ _ _).mono ?_
  rintro e w1 ⟨rfl, hb1⟩
  obtain ⟨⟨c0, c1, c2, c3⟩, _, z0⟩ := cells4 hb1
  go_wp2_with (go_at_call 95; refine (side_any _ _).mono ?_; rintro e w' ⟨rfl, rfl⟩)
  go_ret
  exact ⟨rfl, bt (box1 _ _) hb1⟩
set_option maxHeartbeats 1000000 in
theorem may_no3 (x y a b : Int) (w : World) (h : nrC x y = true) (ha : sd a = true) (hd : sd b = false) :
    Calls Tryd.prog 85 #[.agg #[.int .i64 x, .int .i64 y, .int .i64 a, .int .i64 b]] w fun e w' => e = .returned (.bool (may x y a b)) ∧ Below w.heap.size w w' := by
  rw [show may x y a b = false by simp [may, hd]]
  go_enter Tryd.func85, Tryd.ntmps85
  go_wp2_with fail
  refine (near_any _ _ _).mono ?_
  rintro e w1 ⟨rfl, hb1⟩
  obtain ⟨⟨c0, c1, c2, c3⟩, _, z0⟩ := cells4 hb1
  go_wp2_with (go_at_call 95; refine (side_any _ _).mono ?_; rintro e w' ⟨rfl, rfl⟩)
  go_ret
  exact ⟨rfl, bt (box1 _ _) hb1⟩
set_option maxHeartbeats 1000000 in
theorem may_yes (x y a b : Int) (w : World) (h : nrC x y = true) (ha : sd a = true) (hd : sd b = true) :
    Calls Tryd.prog 85 #[.agg #[.int .i64 x, .int .i64 y, .int .i64 a, .int .i64 b]] w fun e w' => e = .returned (.bool (may x y a b)) ∧ Below w.heap.size w w' := by
  rw [show may x y a b = nrC (x + a - 1) (y + b - 1) by simp [may, h, ha, hd]]
  go_enter Tryd.func85, Tryd.ntmps85
  go_wp2_with fail
  refine (near_any _ _ _).mono ?_
  rintro e w1 ⟨rfl, hb1⟩
  obtain ⟨⟨c0, c1, c2, c3⟩, _, z0⟩ := cells4 hb1
  go_wp2_with (first | (go_at_call 95; refine (side_any _ _).mono ?_; rintro e w' ⟨rfl, rfl⟩) | (go_at_call 89; refine (last_any _ _ _ _ _ h ha hd).mono ?_; rintro e w2 ⟨rfl, hb2⟩))
  refine (near_any _ _ _).mono ?_
  rintro e w3 ⟨rfl, hb3⟩
  go_wp2_with fail
  go_ret
  exact ⟨rfl, bt (bt (bt (box1 _ _) hb1) hb2) hb3⟩
theorem may_any (x y a b : Int) (w : World) :
    Calls Tryd.prog 85 #[.agg #[.int .i64 x, .int .i64 y, .int .i64 a, .int .i64 b]] w fun e w' => e = .returned (.bool (may x y a b)) ∧ Below w.heap.size w w' := by
  cases h : nrC x y
  · exact may_no1 x y a b w h
  · cases ha : sd a
    · exact may_no2 x y a b w h ha
    · cases hd : sd b
      · exact may_no3 x y a b w h ha hd
      · exact may_yes x y a b w h ha hd
set_option maxHeartbeats 1000000 in
theorem refmay_no1 (x y a b : Int) (w : World) (h : nrC x y = false) :
    Calls Tryd.prog 76 #[.agg #[.int .i64 x, .int .i64 y, .int .i64 a, .int .i64 b]] w fun e w' => e = .returned (.bool (may x y a b)) ∧ Below w.heap.size w w' := by
  rw [show may x y a b = false by simp [may, h]]
  go_enter Tryd.func76, Tryd.ntmps76
  go_wp2_with fail
  refine (refnear_any _ _ _).mono ?_
  rintro e w1 ⟨rfl, hb1⟩
  obtain ⟨⟨c0, c1, c2, c3⟩, _, z0⟩ := cells4 hb1
  go_wp2_with fail
  go_ret
  exact ⟨rfl, bt (box1 _ _) hb1⟩
set_option maxHeartbeats 1000000 in
theorem refmay_no2 (x y a b : Int) (w : World) (h : nrC x y = true) (ha : sd a = false) :
    Calls Tryd.prog 76 #[.agg #[.int .i64 x, .int .i64 y, .int .i64 a, .int .i64 b]] w fun e w' => e = .returned (.bool (may x y a b)) ∧ Below w.heap.size w w' := by
  rw [show may x y a b = false by simp [may, ha]]
  have ha' := (sd_not a).1 ha
  by_cases h1 : 1 ≤ a
  · have h2 : ¬ a ≤ 1048576 := by omega
    go_enter Tryd.func76, Tryd.ntmps76
    go_wp2_with fail
    refine (refnear_any _ _ _).mono ?_
    rintro e w1 ⟨rfl, hb1⟩
    obtain ⟨⟨c0, c1, c2, c3⟩, _, z0⟩ := cells4 hb1
    go_wp2_with fail
    go_ret
    exact ⟨rfl, bt (box1 _ _) hb1⟩
  · go_enter Tryd.func76, Tryd.ntmps76
    go_wp2_with fail
    refine (refnear_any _ _ _).mono ?_
    rintro e w1 ⟨rfl, hb1⟩
    obtain ⟨⟨c0, c1, c2, c3⟩, _, z0⟩ := cells4 hb1
    go_wp2_with fail
    go_ret
    exact ⟨rfl, bt (box1 _ _) hb1⟩
set_option maxHeartbeats 1000000 in
theorem refmay_no3 (x y a b : Int) (w : World) (h : nrC x y = true) (ha : sd a = true) (hd : sd b = false) :
    Calls Tryd.prog 76 #[.agg #[.int .i64 x, .int .i64 y, .int .i64 a, .int .i64 b]] w fun e w' => e = .returned (.bool (may x y a b)) ∧ Below w.heap.size w w' := by
  rw [show may x y a b = false by simp [may, hd]]
  obtain ⟨a0, a1⟩ := (sd_iff a).1 ha
  have hb' := (sd_not b).1 hd
  by_cases h1 : 1 ≤ b
  · have h2 : ¬ b ≤ 1048576 := by omega
    go_enter Tryd.func76, Tryd.ntmps76
    go_wp2_with fail
    refine (refnear_any _ _ _).mono ?_
    rintro e w1 ⟨rfl, hb1⟩
    obtain ⟨⟨c0, c1, c2, c3⟩, _, z0⟩ := cells4 hb1
    go_wp2_with fail
    go_ret
    exact ⟨rfl, bt (box1 _ _) hb1⟩
  · go_enter Tryd.func76, Tryd.ntmps76
    go_wp2_with fail
    refine (refnear_any _ _ _).mono ?_
    rintro e w1 ⟨rfl, hb1⟩
    obtain ⟨⟨c0, c1, c2, c3⟩, _, z0⟩ := cells4 hb1
    go_wp2_with fail
    go_ret
    exact ⟨rfl, bt (box1 _ _) hb1⟩
set_option maxHeartbeats 1000000 in
theorem refmay_yes (x y a b : Int) (w : World) (h : nrC x y = true) (ha : sd a = true) (hd : sd b = true) :
    Calls Tryd.prog 76 #[.agg #[.int .i64 x, .int .i64 y, .int .i64 a, .int .i64 b]] w fun e w' => e = .returned (.bool (may x y a b)) ∧ Below w.heap.size w w' := by
  rw [show may x y a b = nrC (x + a - 1) (y + b - 1) by simp [may, h, ha, hd]]
  obtain ⟨a0, a1⟩ := (sd_iff a).1 ha
  obtain ⟨b0, b1⟩ := (sd_iff b).1 hd
  go_enter Tryd.func76, Tryd.ntmps76
  go_wp2_with fail
  refine (refnear_any _ _ _).mono ?_
  rintro e w1 ⟨rfl, hb1⟩
  obtain ⟨⟨c0, c1, c2, c3⟩, _, z0⟩ := cells4 hb1
  go_wp2_with ((go_at_call 78; refine (reflast_any _ _ _ _ _ h ha hd).mono ?_; rintro e w2 ⟨rfl, hb2⟩))
  refine (refnear_any _ _ _).mono ?_
  rintro e w3 ⟨rfl, hb3⟩
  go_wp2_with fail
  go_ret
  exact ⟨rfl, bt (bt (bt (box1 _ _) hb1) hb2) hb3⟩
theorem refmay_any (x y a b : Int) (w : World) :
    Calls Tryd.prog 76 #[.agg #[.int .i64 x, .int .i64 y, .int .i64 a, .int .i64 b]] w fun e w' => e = .returned (.bool (may x y a b)) ∧ Below w.heap.size w w' := by
  cases h : nrC x y
  · exact refmay_no1 x y a b w h
  · cases ha : sd a
    · exact refmay_no2 x y a b w h ha
    · cases hd : sd b
      · exact refmay_no3 x y a b w h ha hd
      · exact refmay_yes x y a b w h ha hd
end Go.Proofs.YtekpamilcpeanaaDoor
