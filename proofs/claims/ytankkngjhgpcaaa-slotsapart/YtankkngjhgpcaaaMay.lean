/-
  May of the package and of the reference.
-/
import Derived.Test.YtankkngjhgpcaaaRect
namespace Go.Proofs.Ytankkngjhgpcaaa
open Go.RowKit
set_option linter.unusedVariables false
set_option maxHeartbeats 1000000 in
theorem may_no1 (x y a b : Int) (w : World) (h : nrC x y = false) :
    Calls Try.prog 28 #[.agg #[.int .i64 x, .int .i64 y, .int .i64 a, .int .i64 b]] w fun e w' => e = .returned (.bool (may x y a b)) ∧ Below w.heap.size w w' := by
  rw [show may x y a b = false by simp [may, h]]
  go_enter Try.func28, Try.ntmps28
  go_wp2_with fail
  refine (near_any _ _ _).mono ?_
  rintro e w1 ⟨rfl, hb1⟩
  obtain ⟨⟨c0, c1, c2, c3⟩, _, z0⟩ := cells4 hb1
  go_wp2_with fail
  go_ret
  exact ⟨rfl, bt (box1 _ _) hb1⟩
set_option maxHeartbeats 1000000 in
theorem may_no2 (x y a b : Int) (w : World) (h : nrC x y = true) (ha : sd a = false) :
    Calls Try.prog 28 #[.agg #[.int .i64 x, .int .i64 y, .int .i64 a, .int .i64 b]] w fun e w' => e = .returned (.bool (may x y a b)) ∧ Below w.heap.size w w' := by
  rw [show may x y a b = false by simp [may, ha]]
  go_enter Try.func28, Try.ntmps28
  go_wp2_with fail
  refine (near_any _ _ _).mono ?_
  rintro e w1 ⟨rfl, hb1⟩
  obtain ⟨⟨c0, c1, c2, c3⟩, _, z0⟩ := cells4 hb1
  go_wp2_with (go_at_call 34; refine (side_any _ _).mono ?_; rintro e w' ⟨rfl, rfl⟩)
  go_ret
  exact ⟨rfl, bt (box1 _ _) hb1⟩
set_option maxHeartbeats 1000000 in
theorem may_no3 (x y a b : Int) (w : World) (h : nrC x y = true) (ha : sd a = true) (hd : sd b = false) :
    Calls Try.prog 28 #[.agg #[.int .i64 x, .int .i64 y, .int .i64 a, .int .i64 b]] w fun e w' => e = .returned (.bool (may x y a b)) ∧ Below w.heap.size w w' := by
  rw [show may x y a b = false by simp [may, hd]]
  go_enter Try.func28, Try.ntmps28
  go_wp2_with fail
  refine (near_any _ _ _).mono ?_
  rintro e w1 ⟨rfl, hb1⟩
  obtain ⟨⟨c0, c1, c2, c3⟩, _, z0⟩ := cells4 hb1
  go_wp2_with (go_at_call 34; refine (side_any _ _).mono ?_; rintro e w' ⟨rfl, rfl⟩)
  go_ret
  exact ⟨rfl, bt (box1 _ _) hb1⟩
set_option maxHeartbeats 1000000 in
theorem may_yes (x y a b : Int) (w : World) (h : nrC x y = true) (ha : sd a = true) (hd : sd b = true) :
    Calls Try.prog 28 #[.agg #[.int .i64 x, .int .i64 y, .int .i64 a, .int .i64 b]] w fun e w' => e = .returned (.bool (may x y a b)) ∧ Below w.heap.size w w' := by
  rw [show may x y a b = nrC (x + a - 1) (y + b - 1) by simp [may, h, ha, hd]]
  go_enter Try.func28, Try.ntmps28
  go_wp2_with fail
  refine (near_any _ _ _).mono ?_
  rintro e w1 ⟨rfl, hb1⟩
  obtain ⟨⟨c0, c1, c2, c3⟩, _, z0⟩ := cells4 hb1
  go_wp2_with (first | (go_at_call 34; refine (side_any _ _).mono ?_; rintro e w' ⟨rfl, rfl⟩) | (go_at_call 29; refine (last_any _ _ _ _ _ h ha hd).mono ?_; rintro e w2 ⟨rfl, hb2⟩))
  refine (near_any _ _ _).mono ?_
  rintro e w3 ⟨rfl, hb3⟩
  go_wp2_with fail
  go_ret
  exact ⟨rfl, bt (bt (bt (box1 _ _) hb1) hb2) hb3⟩
theorem may_any (x y a b : Int) (w : World) :
    Calls Try.prog 28 #[.agg #[.int .i64 x, .int .i64 y, .int .i64 a, .int .i64 b]] w fun e w' => e = .returned (.bool (may x y a b)) ∧ Below w.heap.size w w' := by
  cases h : nrC x y
  · exact may_no1 x y a b w h
  · cases ha : sd a
    · exact may_no2 x y a b w h ha
    · cases hd : sd b
      · exact may_no3 x y a b w h ha hd
      · exact may_yes x y a b w h ha hd
set_option maxHeartbeats 1000000 in
theorem refmay_no1 (x y a b : Int) (w : World) (h : nrC x y = false) :
    Calls Try.prog 24 #[.agg #[.int .i64 x, .int .i64 y, .int .i64 a, .int .i64 b]] w fun e w' => e = .returned (.bool (may x y a b)) ∧ Below w.heap.size w w' := by
  rw [show may x y a b = false by simp [may, h]]
  go_enter Try.func24, Try.ntmps24
  go_wp2_with fail
  refine (refnear_any _ _ _).mono ?_
  rintro e w1 ⟨rfl, hb1⟩
  obtain ⟨⟨c0, c1, c2, c3⟩, _, z0⟩ := cells4 hb1
  go_wp2_with fail
  go_ret
  exact ⟨rfl, bt (box1 _ _) hb1⟩
set_option maxHeartbeats 1000000 in
theorem refmay_no2 (x y a b : Int) (w : World) (h : nrC x y = true) (ha : sd a = false) :
    Calls Try.prog 24 #[.agg #[.int .i64 x, .int .i64 y, .int .i64 a, .int .i64 b]] w fun e w' => e = .returned (.bool (may x y a b)) ∧ Below w.heap.size w w' := by
  rw [show may x y a b = false by simp [may, ha]]
  have ha' := (sd_not a).1 ha
  by_cases h1 : 1 ≤ a
  · have h2 : ¬ a ≤ 1048576 := by omega
    go_enter Try.func24, Try.ntmps24
    go_wp2_with fail
    refine (refnear_any _ _ _).mono ?_
    rintro e w1 ⟨rfl, hb1⟩
    obtain ⟨⟨c0, c1, c2, c3⟩, _, z0⟩ := cells4 hb1
    go_wp2_with fail
    go_ret
    exact ⟨rfl, bt (box1 _ _) hb1⟩
  · go_enter Try.func24, Try.ntmps24
    go_wp2_with fail
    refine (refnear_any _ _ _).mono ?_
    rintro e w1 ⟨rfl, hb1⟩
    obtain ⟨⟨c0, c1, c2, c3⟩, _, z0⟩ := cells4 hb1
    go_wp2_with fail
    go_ret
    exact ⟨rfl, bt (box1 _ _) hb1⟩
set_option maxHeartbeats 1000000 in
theorem refmay_no3 (x y a b : Int) (w : World) (h : nrC x y = true) (ha : sd a = true) (hd : sd b = false) :
    Calls Try.prog 24 #[.agg #[.int .i64 x, .int .i64 y, .int .i64 a, .int .i64 b]] w fun e w' => e = .returned (.bool (may x y a b)) ∧ Below w.heap.size w w' := by
  rw [show may x y a b = false by simp [may, hd]]
  obtain ⟨a0, a1⟩ := (sd_iff a).1 ha
  have hb' := (sd_not b).1 hd
  by_cases h1 : 1 ≤ b
  · have h2 : ¬ b ≤ 1048576 := by omega
    go_enter Try.func24, Try.ntmps24
    go_wp2_with fail
    refine (refnear_any _ _ _).mono ?_
    rintro e w1 ⟨rfl, hb1⟩
    obtain ⟨⟨c0, c1, c2, c3⟩, _, z0⟩ := cells4 hb1
    go_wp2_with fail
    go_ret
    exact ⟨rfl, bt (box1 _ _) hb1⟩
  · go_enter Try.func24, Try.ntmps24
    go_wp2_with fail
    refine (refnear_any _ _ _).mono ?_
    rintro e w1 ⟨rfl, hb1⟩
    obtain ⟨⟨c0, c1, c2, c3⟩, _, z0⟩ := cells4 hb1
    go_wp2_with fail
    go_ret
    exact ⟨rfl, bt (box1 _ _) hb1⟩
set_option maxHeartbeats 1000000 in
theorem refmay_yes (x y a b : Int) (w : World) (h : nrC x y = true) (ha : sd a = true) (hd : sd b = true) :
    Calls Try.prog 24 #[.agg #[.int .i64 x, .int .i64 y, .int .i64 a, .int .i64 b]] w fun e w' => e = .returned (.bool (may x y a b)) ∧ Below w.heap.size w w' := by
  rw [show may x y a b = nrC (x + a - 1) (y + b - 1) by simp [may, h, ha, hd]]
  obtain ⟨a0, a1⟩ := (sd_iff a).1 ha
  obtain ⟨b0, b1⟩ := (sd_iff b).1 hd
  go_enter Try.func24, Try.ntmps24
  go_wp2_with fail
  refine (refnear_any _ _ _).mono ?_
  rintro e w1 ⟨rfl, hb1⟩
  obtain ⟨⟨c0, c1, c2, c3⟩, _, z0⟩ := cells4 hb1
  go_wp2_with ((go_at_call 25; refine (reflast_any _ _ _ _ _ h ha hd).mono ?_; rintro e w2 ⟨rfl, hb2⟩))
  refine (refnear_any _ _ _).mono ?_
  rintro e w3 ⟨rfl, hb3⟩
  go_wp2_with fail
  go_ret
  exact ⟨rfl, bt (bt (bt (box1 _ _) hb1) hb2) hb3⟩
theorem refmay_any (x y a b : Int) (w : World) :
    Calls Try.prog 24 #[.agg #[.int .i64 x, .int .i64 y, .int .i64 a, .int .i64 b]] w fun e w' => e = .returned (.bool (may x y a b)) ∧ Below w.heap.size w w' := by
  cases h : nrC x y
  · exact refmay_no1 x y a b w h
  · cases ha : sd a
    · exact refmay_no2 x y a b w h ha
    · cases hd : sd b
      · exact refmay_no3 x y a b w h ha hd
      · exact refmay_yes x y a b w h ha hd
end Go.Proofs.Ytankkngjhgpcaaa
