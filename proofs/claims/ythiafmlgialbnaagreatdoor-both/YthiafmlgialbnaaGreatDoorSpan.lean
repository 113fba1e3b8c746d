/-
  Within of the package and of the reference. What two rectangles have both, and what has them both, as numbers; the rectangle from a cell to another one.
-/
import Derived.Test.YthiafmlgialbnaaGreatDoorRefHas
namespace Go.Proofs.YthiafmlgialbnaaGreatDoor
open Go.RowKit
set_option linter.unusedVariables false
def wi (x y a b p q c d : Int) : Bool := may x y a b && (has p q c d x y && has p q c d (x + a - 1) (y + b - 1))
abbrev WQ (w : World) (x y a b p q c d : Int) : World := (w.alloc (.cells #[.int .i64 x, .int .i64 y, .int .i64 a, .int .i64 b] 49)).alloc (.cells #[.int .i64 p, .int .i64 q, .int .i64 c, .int .i64 d] 49)
theorem may_is {x y a b : Int} {c : Bool} (w : World) (h : may x y a b = c) :
    Calls Tryz.prog 25 #[.agg #[.int .i64 x, .int .i64 y, .int .i64 a, .int .i64 b]] w fun e w' => e = .returned (.bool c) ∧ Below w.heap.size w w' := by
  subst h; exact may_any x y a b w
theorem hasc_is {x y a b p q : Int} {c : Bool} (w : World) (h : has x y a b p q = c) :
    Calls Tryz.prog 122 #[.agg #[.int .i64 x, .int .i64 y, .int .i64 a, .int .i64 b], .agg #[.int .i64 p, .int .i64 q]] w fun e w' => e = .returned (.bool c) ∧ Below w.heap.size w w' := by
  subst h; exact hasc_any x y a b p q w
theorem refhas_is {x y a b p q : Int} {c : Bool} (w : World) (h : has x y a b p q = c) :
    Calls Tryz.prog 145 #[.agg #[.int .i64 x, .int .i64 y, .int .i64 a, .int .i64 b], .agg #[.int .i64 p, .int .i64 q]] w fun e w' => e = .returned (.bool c) ∧ Below w.heap.size w w' := by
  subst h; exact refhas_any x y a b p q w
theorem cells4'' {w w1 : World} {a b c d : Value} {t : TypeId} {o : Obj} (h : Below ((w.alloc o).alloc (.cells #[a, b, c, d] t)).heap.size ((w.alloc o).alloc (.cells #[a, b, c, d] t)) w1) :
    (w1.cell? ⟨w.heap.size + 1, 0, none⟩ = some a ∧ w1.cell? ⟨w.heap.size + 1, 1, none⟩ = some b ∧ w1.cell? ⟨w.heap.size + 1, 2, none⟩ = some c ∧ w1.cell? ⟨w.heap.size + 1, 3, none⟩ = some d) ∧ (w1.frozen? ⟨w.heap.size + 1, 0, none⟩ = false ∧ w1.frozen? ⟨w.heap.size + 1, 1, none⟩ = false ∧ w1.frozen? ⟨w.heap.size + 1, 2, none⟩ = false ∧ w1.frozen? ⟨w.heap.size + 1, 3, none⟩ = false) ∧ w.heap.size + 1 < w1.heap.size := by
  have := cells4 h
  simpa using this
theorem wq_cells (w : World) (x y a b p q c d : Int) : ∃ W, WQ w x y a b p q c d = W ∧ Below w.heap.size w W ∧
    ((∀ n : Lat W, n.w.cell? ⟨w.heap.size, 0, none⟩ = some (.int .i64 x)) ∧ (∀ n : Lat W, n.w.cell? ⟨w.heap.size, 1, none⟩ = some (.int .i64 y)) ∧ (∀ n : Lat W, n.w.cell? ⟨w.heap.size, 2, none⟩ = some (.int .i64 a)) ∧ (∀ n : Lat W, n.w.cell? ⟨w.heap.size, 3, none⟩ = some (.int .i64 b))) ∧
    ((∀ n : Lat W, n.w.cell? ⟨w.heap.size + 1, 0, none⟩ = some (.int .i64 p)) ∧ (∀ n : Lat W, n.w.cell? ⟨w.heap.size + 1, 1, none⟩ = some (.int .i64 q)) ∧ (∀ n : Lat W, n.w.cell? ⟨w.heap.size + 1, 2, none⟩ = some (.int .i64 c)) ∧ (∀ n : Lat W, n.w.cell? ⟨w.heap.size + 1, 3, none⟩ = some (.int .i64 d))) :=
  ⟨_, rfl, box2 _ _ _, ⟨fun n => (cells4' n.h).1.1, fun n => (cells4' n.h).1.2.1, fun n => (cells4' n.h).1.2.2.1, fun n => (cells4' n.h).1.2.2.2⟩, fun n => (cells4'' n.h).1.1, fun n => (cells4'' n.h).1.2.1, fun n => (cells4'' n.h).1.2.2.1, fun n => (cells4'' n.h).1.2.2.2⟩
set_option maxHeartbeats 2000000 in
theorem within_0 (x y a b p q c d : Int) (w : World) (h : may x y a b = false) :
    Calls Tryz.prog 113 #[.agg #[.int .i64 x, .int .i64 y, .int .i64 a, .int .i64 b], .agg #[.int .i64 p, .int .i64 q, .int .i64 c, .int .i64 d]] w fun e w' => e = .returned (.bool (wi x y a b p q c d)) ∧ Below w.heap.size w w' := by
  rw [show wi x y a b p q c d = false by simp [wi, h]]
  obtain ⟨W, hW, HB, ⟨c0, c1, c2, c3⟩, e0, e1, e2, e3⟩ := wq_cells w x y a b p q c d
  go_enter Tryz.func113, Tryz.ntmps113
  go_wp2_with fail
  clear hW
  have hne := lat_some W
  refine wp_region_lat (by kernel_rfl) (by kernel_rfl) ?_
  repeat (go_big_quiet_step (first
    | (go_at_call 25; exact calls_lat (may_is _ h))))
  refine wpQuiet_nil ?_
  rintro _ ⟨n, rfl⟩
  go_wp2_with fail
  go_ret
  exact ⟨rfl, HB.trans (n.h.mono HB.size)⟩
set_option maxHeartbeats 2000000 in
theorem within_1 (x y a b p q c d : Int) (w : World) (h : may x y a b = true) (h1 : has p q c d x y = false) :
    Calls Tryz.prog 113 #[.agg #[.int .i64 x, .int .i64 y, .int .i64 a, .int .i64 b], .agg #[.int .i64 p, .int .i64 q, .int .i64 c, .int .i64 d]] w fun e w' => e = .returned (.bool (wi x y a b p q c d)) ∧ Below w.heap.size w w' := by
  rw [show wi x y a b p q c d = false by simp [wi, h1]]
  obtain ⟨W, hW, HB, ⟨c0, c1, c2, c3⟩, e0, e1, e2, e3⟩ := wq_cells w x y a b p q c d
  go_enter Tryz.func113, Tryz.ntmps113
  go_wp2_with fail
  clear hW
  have hne := lat_some W
  refine wp_region_lat (by kernel_rfl) (by kernel_rfl) ?_
  repeat (go_big_quiet_step (first
    | (go_at_call 25; exact calls_lat (may_is _ h))
    | (go_at_call 122; exact calls_lat (hasc_is _ h1))))
  refine wpQuiet_nil ?_
  rintro _ ⟨n, rfl⟩
  go_wp2_with fail
  go_ret
  exact ⟨rfl, HB.trans (n.h.mono HB.size)⟩
set_option maxHeartbeats 2000000 in
theorem within_2 (x y a b p q c d : Int) (w : World) (h : may x y a b = true) (h1 : has p q c d x y = true) (m1 : nrC x y = true) (m2 : sd a = true) (m3 : sd b = true) :
    Calls Tryz.prog 113 #[.agg #[.int .i64 x, .int .i64 y, .int .i64 a, .int .i64 b], .agg #[.int .i64 p, .int .i64 q, .int .i64 c, .int .i64 d]] w fun e w' => e = .returned (.bool (wi x y a b p q c d)) ∧ Below w.heap.size w w' := by
  rw [show wi x y a b p q c d = has p q c d (x + a - 1) (y + b - 1) by simp [wi, h, h1]]
  obtain ⟨W, hW, HB, ⟨c0, c1, c2, c3⟩, e0, e1, e2, e3⟩ := wq_cells w x y a b p q c d
  go_enter Tryz.func113, Tryz.ntmps113
  go_wp2_with fail
  clear hW
  have hne := lat_some W
  refine wp_region_lat (by kernel_rfl) (by kernel_rfl) ?_
  iterate 7 (go_big_quiet_step (first
    | (go_at_call 25; exact calls_lat (may_is _ h))
    | (go_at_call 122; exact calls_lat (hasc_is _ h1))))
  repeat (go_big_quiet_step (first
    | (go_at_call 53; exact calls_lat (last_any _ _ _ _ _ m1 m2 m3))
    | (go_at_call 122; exact calls_lat (hasc_is _ rfl))))
  refine wpQuiet_nil ?_
  rintro _ ⟨n, rfl⟩
  go_wp2_with fail
  go_ret
  exact ⟨rfl, HB.trans (n.h.mono HB.size)⟩
theorem within_any (x y a b p q c d : Int) (w : World) :
    Calls Tryz.prog 113 #[.agg #[.int .i64 x, .int .i64 y, .int .i64 a, .int .i64 b], .agg #[.int .i64 p, .int .i64 q, .int .i64 c, .int .i64 d]] w fun e w' => e = .returned (.bool (wi x y a b p q c d)) ∧ Below w.heap.size w w' := by
  cases h : may x y a b
  · exact within_0 x y a b p q c d w h
  · obtain ⟨m1, m2, m3, _⟩ := may_parts h
    cases h1 : has p q c d x y
    · exact within_1 x y a b p q c d w h h1
    · exact within_2 x y a b p q c d w h h1 m1 m2 m3
set_option maxHeartbeats 2000000 in
theorem refwithin_0 (x y a b p q c d : Int) (w : World) (h : may x y a b = false) :
    Calls Tryz.prog 101 #[.agg #[.int .i64 x, .int .i64 y, .int .i64 a, .int .i64 b], .agg #[.int .i64 p, .int .i64 q, .int .i64 c, .int .i64 d]] w fun e w' => e = .returned (.bool (wi x y a b p q c d)) ∧ Below w.heap.size w w' := by
  rw [show wi x y a b p q c d = false by simp [wi, h]]
  obtain ⟨W, hW, HB, ⟨c0, c1, c2, c3⟩, e0, e1, e2, e3⟩ := wq_cells w x y a b p q c d
  go_enter Tryz.func101, Tryz.ntmps101
  go_wp2_with fail
  clear hW
  have hne := lat_some W
  refine wp_region_lat (by kernel_rfl) (by kernel_rfl) ?_
  repeat (go_big_quiet_step (first
    | (go_at_call 148; exact calls_lat (refmay_is _ h))))
  refine wpQuiet_nil ?_
  rintro _ ⟨n, rfl⟩
  go_wp2_with fail
  go_ret
  exact ⟨rfl, HB.trans (n.h.mono HB.size)⟩
set_option maxHeartbeats 2000000 in
theorem refwithin_1 (x y a b p q c d : Int) (w : World) (h : may x y a b = true) (h1 : has p q c d x y = false) :
    Calls Tryz.prog 101 #[.agg #[.int .i64 x, .int .i64 y, .int .i64 a, .int .i64 b], .agg #[.int .i64 p, .int .i64 q, .int .i64 c, .int .i64 d]] w fun e w' => e = .returned (.bool (wi x y a b p q c d)) ∧ Below w.heap.size w w' := by
  rw [show wi x y a b p q c d = false by simp [wi, h1]]
  obtain ⟨W, hW, HB, ⟨c0, c1, c2, c3⟩, e0, e1, e2, e3⟩ := wq_cells w x y a b p q c d
  go_enter Tryz.func101, Tryz.ntmps101
  go_wp2_with fail
  clear hW
  have hne := lat_some W
  refine wp_region_lat (by kernel_rfl) (by kernel_rfl) ?_
  repeat (go_big_quiet_step (first
    | (go_at_call 148; exact calls_lat (refmay_is _ h))
    | (go_at_call 145; exact calls_lat (refhas_is _ h1))))
  refine wpQuiet_nil ?_
  rintro _ ⟨n, rfl⟩
  go_wp2_with fail
  go_ret
  exact ⟨rfl, HB.trans (n.h.mono HB.size)⟩
set_option maxHeartbeats 2000000 in
theorem refwithin_2 (x y a b p q c d : Int) (w : World) (h : may x y a b = true) (h1 : has p q c d x y = true) (m1 : nrC x y = true) (m2 : sd a = true) (m3 : sd b = true) :
    Calls Tryz.prog 101 #[.agg #[.int .i64 x, .int .i64 y, .int .i64 a, .int .i64 b], .agg #[.int .i64 p, .int .i64 q, .int .i64 c, .int .i64 d]] w fun e w' => e = .returned (.bool (wi x y a b p q c d)) ∧ Below w.heap.size w w' := by
  rw [show wi x y a b p q c d = has p q c d (x + a - 1) (y + b - 1) by simp [wi, h, h1]]
  obtain ⟨W, hW, HB, ⟨c0, c1, c2, c3⟩, e0, e1, e2, e3⟩ := wq_cells w x y a b p q c d
  go_enter Tryz.func101, Tryz.ntmps101
  go_wp2_with fail
  clear hW
  have hne := lat_some W
  refine wp_region_lat (by kernel_rfl) (by kernel_rfl) ?_
  iterate 7 (go_big_quiet_step (first
    | (go_at_call 148; exact calls_lat (refmay_is _ h))
    | (go_at_call 145; exact calls_lat (refhas_is _ h1))))
  repeat (go_big_quiet_step (first
    | (go_at_call 149; exact calls_lat (reflast_any _ _ _ _ _ m1 m2 m3))
    | (go_at_call 145; exact calls_lat (refhas_is _ rfl))))
  refine wpQuiet_nil ?_
  rintro _ ⟨n, rfl⟩
  go_wp2_with fail
  go_ret
  exact ⟨rfl, HB.trans (n.h.mono HB.size)⟩
theorem refwithin_any (x y a b p q c d : Int) (w : World) :
    Calls Tryz.prog 101 #[.agg #[.int .i64 x, .int .i64 y, .int .i64 a, .int .i64 b], .agg #[.int .i64 p, .int .i64 q, .int .i64 c, .int .i64 d]] w fun e w' => e = .returned (.bool (wi x y a b p q c d)) ∧ Below w.heap.size w w' := by
  cases h : may x y a b
  · exact refwithin_0 x y a b p q c d w h
  · obtain ⟨m1, m2, m3, _⟩ := may_parts h
    cases h1 : has p q c d x y
    · exact refwithin_1 x y a b p q c d w h h1
    · exact refwithin_2 x y a b p q c d w h h1 m1 m2 m3
end Go.Proofs.YthiafmlgialbnaaGreatDoor
namespace Go.Proofs.YthiafmlgialbnaaGreatDoor
open Go.RowKit
set_option linter.unusedVariables false
def zero4 : Value := .agg #[.int .i64 0, .int .i64 0, .int .i64 0, .int .i64 0]
def span (u v s t : Int) : Value := .agg #[.int .i64 u, .int .i64 v, .int .i64 (s - u + 1), .int .i64 (t - v + 1)]
def mtB (x y a b p q c d : Int) : Bool := may x y a b && (may p q c d && (decide (max x p ≤ min (x + a - 1) (p + c - 1)) && decide (max y q ≤ min (y + b - 1) (q + d - 1))))
def mtV (x y a b p q c d : Int) : Value := if mtB x y a b p q c d = true then span (max x p) (max y q) (min (x + a - 1) (p + c - 1)) (min (y + b - 1) (q + d - 1)) else zero4
def huB (x y a b p q c d : Int) : Bool := may x y a b && (may p q c d && may (min x p) (min y q) (max (x + a - 1) (p + c - 1) - min x p + 1) (max (y + b - 1) (q + d - 1) - min y q + 1))
def huV (x y a b p q c d : Int) : Value := if huB x y a b p q c d = true then span (min x p) (min y q) (max (x + a - 1) (p + c - 1)) (max (y + b - 1) (q + d - 1)) else zero4
theorem may_meet {x y a b p q c d : Int} (h : may x y a b = true) (h2 : may p q c d = true) :
    may (max x p) (max y q) (min (x + a - 1) (p + c - 1) - max x p + 1) (min (y + b - 1) (q + d - 1) - max y q + 1) = (decide (max x p ≤ min (x + a - 1) (p + c - 1)) && decide (max y q ≤ min (y + b - 1) (q + d - 1))) := by
  have h := (may_iff _ _ _ _).1 h
  have h2 := (may_iff _ _ _ _).1 h2
  rw [Bool.eq_iff_iff, may_iff, Bool.and_eq_true, decide_eq_true_iff, decide_eq_true_iff]
  omega
theorem mtB_eq {x y a b p q c d : Int} (h : may x y a b = true) (h2 : may p q c d = true) :
    mtB x y a b p q c d = may (max x p) (max y q) (min (x + a - 1) (p + c - 1) - max x p + 1) (min (y + b - 1) (q + d - 1) - max y q + 1) := by
  rw [may_meet h h2, mtB, h, h2]; simp
theorem huB_eq {x y a b p q c d : Int} (h : may x y a b = true) (h2 : may p q c d = true) :
    huB x y a b p q c d = may (min x p) (min y q) (max (x + a - 1) (p + c - 1) - min x p + 1) (max (y + b - 1) (q + d - 1) - min y q + 1) := by
  rw [huB, h, h2]; simp
theorem mtB_no1 {x y a b p q c d : Int} (h : may x y a b = false) : mtB x y a b p q c d = false := by simp [mtB, h]
theorem mtB_no2 {x y a b p q c d : Int} (h : may p q c d = false) : mtB x y a b p q c d = false := by simp [mtB, h]
theorem huB_no1 {x y a b p q c d : Int} (h : may x y a b = false) : huB x y a b p q c d = false := by simp [huB, h]
theorem huB_no2 {x y a b p q c d : Int} (h : may p q c d = false) : huB x y a b p q c d = false := by simp [huB, h]
theorem mtV_no {x y a b p q c d : Int} (h : mtB x y a b p q c d = false) : mtV x y a b p q c d = zero4 := by simp [mtV, h]
theorem huV_no {x y a b p q c d : Int} (h : huB x y a b p q c d = false) : huV x y a b p q c d = zero4 := by simp [huV, h]
theorem mtV_yes {x y a b p q c d : Int} (h : mtB x y a b p q c d = true) : mtV x y a b p q c d = span (max x p) (max y q) (min (x + a - 1) (p + c - 1)) (min (y + b - 1) (q + d - 1)) := by simp [mtV, h]
theorem huV_yes {x y a b p q c d : Int} (h : huB x y a b p q c d = true) : huV x y a b p q c d = span (min x p) (min y q) (max (x + a - 1) (p + c - 1)) (max (y + b - 1) (q + d - 1)) := by simp [huV, h]
abbrev W5 (w : World) (x y a b p q c d : Int) : World := ((w.alloc (.cells #[.int .i64 x, .int .i64 y, .int .i64 a, .int .i64 b] 49)).alloc (.cells #[.int .i64 p, .int .i64 q, .int .i64 c, .int .i64 d] 49)).alloc (.cells #[.int .i64 0, .int .i64 0, .int .i64 0, .int .i64 0] 49)
/-- Four cells of a block, and that they may be written. -/
def Four (w : World) (b : Nat) (u v s t : Int) : Prop := (w.cell? ⟨b, 0, none⟩ = some (.int .i64 u) ∧ w.cell? ⟨b, 1, none⟩ = some (.int .i64 v) ∧ w.cell? ⟨b, 2, none⟩ = some (.int .i64 s) ∧ w.cell? ⟨b, 3, none⟩ = some (.int .i64 t)) ∧ (w.frozen? ⟨b, 0, none⟩ = false ∧ w.frozen? ⟨b, 1, none⟩ = false ∧ w.frozen? ⟨b, 2, none⟩ = false ∧ w.frozen? ⟨b, 3, none⟩ = false) ∧ b < w.heap.size
def Two (w : World) (b : Nat) (u v : Int) : Prop := (w.cell? ⟨b, 0, none⟩ = some (.int .i64 u) ∧ w.cell? ⟨b, 1, none⟩ = some (.int .i64 v)) ∧ (w.frozen? ⟨b, 0, none⟩ = false ∧ w.frozen? ⟨b, 1, none⟩ = false) ∧ b < w.heap.size
theorem w5_cells {w w1 : World} {x y a b p q c d : Int} (h : Below (W5 w x y a b p q c d).heap.size (W5 w x y a b p q c d) w1) :
    Four w1 w.heap.size x y a b ∧ Four w1 (w.heap.size + 1) p q c d ∧ Four w1 (w.heap.size + 1 + 1) 0 0 0 0 := by
  refine ⟨cells4' (bt (box1 _ _) h), cells4'' (bt (box1 _ _) h), ?_⟩
  have := cells4'' (w := w.alloc (.cells #[.int .i64 x, .int .i64 y, .int .i64 a, .int .i64 b] 49)) h
  simpa [Four] using this
theorem w5_below (w : World) (x y a b p q c d : Int) : Below w.heap.size w (W5 w x y a b p q c d) := bt (box2 _ _ _) (box1 _ _)
end Go.Proofs.YthiafmlgialbnaaGreatDoor
