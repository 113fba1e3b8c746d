/-
  Within of the package and of the reference.
-/
import Derived.Test.YtekpamilcpeanaaDoorRefHas
namespace Go.Proofs.YtekpamilcpeanaaDoor
open Go.RowKit
set_option linter.unusedVariables false
def wi (x y a b p q c d : Int) : Bool := may x y a b && (has p q c d x y && has p q c d (x + a - 1) (y + b - 1))
abbrev WQ (w : World) (x y a b p q c d : Int) : World := (w.alloc (.cells #[.int .i64 x, .int .i64 y, .int .i64 a, .int .i64 b] 67)).alloc (.cells #[.int .i64 p, .int .i64 q, .int .i64 c, .int .i64 d] 67)
theorem may_is {x y a b : Int} {c : Bool} (w : World) (h : may x y a b = c) :
    Calls Tryd.prog 85 #[.agg #[.int .i64 x, .int .i64 y, .int .i64 a, .int .i64 b]] w fun e w' => e = .returned (.bool c) ∧ Below w.heap.size w w' := by
  subst h; exact may_any x y a b w
theorem hasc_is {x y a b p q : Int} {c : Bool} (w : World) (h : has x y a b p q = c) :
    Calls Tryd.prog 88 #[.agg #[.int .i64 x, .int .i64 y, .int .i64 a, .int .i64 b], .agg #[.int .i64 p, .int .i64 q]] w fun e w' => e = .returned (.bool c) ∧ Below w.heap.size w w' := by
  subst h; exact hasc_any x y a b p q w
theorem refhas_is {x y a b p q : Int} {c : Bool} (w : World) (h : has x y a b p q = c) :
    Calls Tryd.prog 77 #[.agg #[.int .i64 x, .int .i64 y, .int .i64 a, .int .i64 b], .agg #[.int .i64 p, .int .i64 q]] w fun e w' => e = .returned (.bool c) ∧ Below w.heap.size w w' := by
  subst h; exact refhas_any x y a b p q w
theorem cells4'' {w w1 : World} {a b c d : Value} {t : TypeId} {o : Obj} (h : Below ((w.alloc o).alloc (.cells #[a, b, c, d] t)).heap.size ((w.alloc o).alloc (.cells #[a, b, c, d] t)) w1) :
    (w1.cell? ⟨w.heap.size + 1, 0, none⟩ = some a ∧ w1.cell? ⟨w.heap.size + 1, 1, none⟩ = some b ∧ w1.cell? ⟨w.heap.size + 1, 2, none⟩ = some c ∧ w1.cell? ⟨w.heap.size + 1, 3, none⟩ = some d) ∧ (w1.frozen? ⟨w.heap.size + 1, 0, none⟩ = false ∧ w1.frozen? ⟨w.heap.size + 1, 1, none⟩ = false ∧ w1.frozen? ⟨w.heap.size + 1, 2, none⟩ = false ∧ w1.frozen? ⟨w.heap.size + 1, 3, none⟩ = false) ∧ w.heap.size + 1 < w1.heap.size := by
  have := cells4 h
  simpa using this
theorem wq_cells (w : World) (x y a b p q c d : Int) : ∃ W, WQ w x y a b p q c d = W ∧ Below w.heap.size w W ∧
    ((∀ n : Lat W, n.w.cell? ⟨w.heap.size, 0, none⟩ = some (.int .i64 x)) ∧ (∀ n : Lat W, n.w.cell? ⟨w.heap.size, 1, none⟩ = some (.int .i64 y)) ∧ (∀ n : Lat W, n.w.cell? ⟨w.heap.size, 2, none⟩ = some (.int .i64 a)) ∧ (∀ n : Lat W, n.w.cell? ⟨w.heap.size, 3, none⟩ = some (.int .i64 b))) ∧
    ((∀ n : Lat W, n.w.cell? ⟨w.heap.size + 1, 0, none⟩ = some (.int .i64 p)) ∧ (∀ n : Lat W, n.w.cell? ⟨w.heap.size + 1, 1, none⟩ = some (.int .i64 q)) ∧ (∀ n : Lat W, n.w.cell? ⟨w.heap.size + 1, 2, none⟩ = some (.int .i64 c)) ∧ (∀ n : Lat W, n.w.cell? ⟨w.heap.size + 1, 3, none⟩ = some (.int .i64 d))) :=
  ⟨_, rfl, box2 _ _ _, ⟨fun n => (cells4' n.h).1.1, fun n => (cells4' n.h).1.2.1, fun n => (cells4' n.h).1.2.2.1, fun n => (cells4' n.h).1.2.2.2⟩, fun n => (cells4'' n.h).1.1, fun n => (cells4'' n.h).1.2.1, fun n => (cells4'' n.h).1.2.2.1, fun n => (cells4'' n.h).1.2.2.2⟩
set_option maxHeartbeats 2000000 in
theorem within_0 (x y a b p q c d : Int) (w : World) (h : may x y a b = false) :
    Calls Tryd.prog 71 #[.agg #[.int .i64 x, .int .i64 y, .int .i64 a, .int .i64 b], .agg #[.int .i64 p, .int .i64 q, .int .i64 c, .int .i64 d]] w fun e w' => e = .returned (.bool (wi x y a b p q c d)) ∧ Below w.heap.size w w' := by
  rw [show wi x y a b p q c d = false by simp [wi, h]]
  obtain ⟨W, hW, HB, ⟨c0, c1, c2, c3⟩, e0, e1, e2, e3⟩ := wq_cells w x y a b p q c d
  go_enter Tryd.func71, Tryd.ntmps71
  go_wp2_with fail
  clear hW
  have hne := lat_some W
  refine wp_region_lat (by kernel_rfl) (by kernel_rfl) ?_
  repeat (go_big_quiet_step (first
    | (go_at_call 85; exact calls_lat (may_is _ h))))
  refine wpQuiet_nil ?_
  rintro _ ⟨n, rfl⟩
  go_wp2_with fail
  go_ret
  exact ⟨rfl, HB.trans (n.h.mono HB.size)⟩
set_option maxHeartbeats 2000000 in
theorem within_1 (x y a b p q c d : Int) (w : World) (h : may x y a b = true) (h1 : has p q c d x y = false) :
    Calls Tryd.prog 71 #[.agg #[.int .i64 x, .int .i64 y, .int .i64 a, .int .i64 b], .agg #[.int .i64 p, .int .i64 q, .int .i64 c, .int .i64 d]] w fun e w' => e = .returned (.bool (wi x y a b p q c d)) ∧ Below w.heap.size w w' := by
  rw [show wi x y a b p q c d = false by simp [wi, h1]]
  obtain ⟨W, hW, HB, ⟨c0, c1, c2, c3⟩, e0, e1, e2, e3⟩ := wq_cells w x y a b p q c d
  go_enter Tryd.func71, Tryd.ntmps71
  go_wp2_with fail
  clear hW
  have hne := lat_some W
  refine wp_region_lat (by kernel_rfl) (by kernel_rfl) ?_
  repeat (go_big_quiet_step (first
    | (go_at_call 85; exact calls_lat (may_is _ h))
    | (go_at_call 88; exact calls_lat (hasc_is _ h1))))
  refine wpQuiet_nil ?_
  rintro _ ⟨n, rfl⟩
  go_wp2_with fail
  go_ret
  exact ⟨rfl, HB.trans (n.h.mono HB.size)⟩
set_option maxHeartbeats 2000000 in
theorem within_2 (x y a b p q c d : Int) (w : World) (h : may x y a b = true) (h1 : has p q c d x y = true) (m1 : nrC x y = true) (m2 : sd a = true) (m3 : sd b = true) :
    Calls Tryd.prog 71 #[.agg #[.int .i64 x, .int .i64 y, .int .i64 a, .int .i64 b], .agg #[.int .i64 p, .int .i64 q, .int .i64 c, .int .i64 d]] w fun e w' => e = .returned (.bool (wi x y a b p q c d)) ∧ Below w.heap.size w w' := by
  rw [show wi x y a b p q c d = has p q c d (x + a - 1) (y + b - 1) by simp [wi, h, h1]]
  obtain ⟨W, hW, HB, ⟨c0, c1, c2, c3⟩, e0, e1, e2, e3⟩ := wq_cells w x y a b p q c d
  go_enter Tryd.func71, Tryd.ntmps71
  go_wp2_with fail
  clear hW
  have hne := lat_some W
  refine wp_region_lat (by kernel_rfl) (by kernel_rfl) ?_
  iterate 7 (go_big_quiet_step (first
    | (go_at_call 85; exact calls_lat (may_is _ h))
    | (go_at_call 88; exact calls_lat (hasc_is _ h1))))
  repeat (go_big_quiet_step (first
    | (go_at_call 89; exact calls_lat (last_any _ _ _ _ _ m1 m2 m3))
    | (go_at_call 88; exact calls_lat (hasc_is _ rfl))))
  refine wpQuiet_nil ?_
  rintro _ ⟨n, rfl⟩
  go_wp2_with fail
  go_ret
  exact ⟨rfl, HB.trans (n.h.mono HB.size)⟩
theorem within_any (x y a b p q c d : Int) (w : World) :
    Calls Tryd.prog 71 #[.agg #[.int .i64 x, .int .i64 y, .int .i64 a, .int .i64 b], .agg #[.int .i64 p, .int .i64 q, .int .i64 c, .int .i64 d]] w fun e w' => e = .returned (.bool (wi x y a b p q c d)) ∧ Below w.heap.size w w' := by
  cases h : may x y a b
  · exact within_0 x y a b p q c d w h
  · obtain ⟨m1, m2, m3, _⟩ := may_parts h
    cases h1 : has p q c d x y
    · exact within_1 x y a b p q c d w h h1
    · exact within_2 x y a b p q c d w h h1 m1 m2 m3
set_option maxHeartbeats 2000000 in
theorem refwithin_0 (x y a b p q c d : Int) (w : World) (h : may x y a b = false) :
    Calls Tryd.prog 52 #[.agg #[.int .i64 x, .int .i64 y, .int .i64 a, .int .i64 b], .agg #[.int .i64 p, .int .i64 q, .int .i64 c, .int .i64 d]] w fun e w' => e = .returned (.bool (wi x y a b p q c d)) ∧ Below w.heap.size w w' := by
  rw [show wi x y a b p q c d = false by simp [wi, h]]
  obtain ⟨W, hW, HB, ⟨c0, c1, c2, c3⟩, e0, e1, e2, e3⟩ := wq_cells w x y a b p q c d
  go_enter Tryd.func52, Tryd.ntmps52
  go_wp2_with fail
  clear hW
  have hne := lat_some W
  refine wp_region_lat (by kernel_rfl) (by kernel_rfl) ?_
  repeat (go_big_quiet_step (first
    | (go_at_call 76; exact calls_lat (refmay_is _ h))))
  refine wpQuiet_nil ?_
  rintro _ ⟨n, rfl⟩
  go_wp2_with fail
  go_ret
  exact ⟨rfl, HB.trans (n.h.mono HB.size)⟩
set_option maxHeartbeats 2000000 in
theorem refwithin_1 (x y a b p q c d : Int) (w : World) (h : may x y a b = true) (h1 : has p q c d x y = false) :
    Calls Tryd.prog 52 #[.agg #[.int .i64 x, .int .i64 y, .int .i64 a, .int .i64 b], .agg #[.int .i64 p, .int .i64 q, .int .i64 c, .int .i64 d]] w fun e w' => e = .returned (.bool (wi x y a b p q c d)) ∧ Below w.heap.size w w' := by
  rw [show wi x y a b p q c d = false by simp [wi, h1]]
  obtain ⟨W, hW, HB, ⟨c0, c1, c2, c3⟩, e0, e1, e2, e3⟩ := wq_cells w x y a b p q c d
  go_enter Tryd.func52, Tryd.ntmps52
  go_wp2_with fail
  clear hW
  have hne := lat_some W
  refine wp_region_lat (by kernel_rfl) (by kernel_rfl) ?_
  repeat (go_big_quiet_step (first
    | (go_at_call 76; exact calls_lat (refmay_is _ h))
    | (go_at_call 77; exact calls_lat (refhas_is _ h1))))
  refine wpQuiet_nil ?_
  rintro _ ⟨n, rfl⟩
  go_wp2_with fail
  go_ret
  exact ⟨rfl, HB.trans (n.h.mono HB.size)⟩
set_option maxHeartbeats 2000000 in
theorem refwithin_2 (x y a b p q c d : Int) (w : World) (h : may x y a b = true) (h1 : has p q c d x y = true) (m1 : nrC x y = true) (m2 : sd a = true) (m3 : sd b = true) :
    Calls Tryd.prog 52 #[.agg #[.int .i64 x, .int .i64 y, .int .i64 a, .int .i64 b], .agg #[.int .i64 p, .int .i64 q, .int .i64 c, .int .i64 d]] w fun e w' => e = .returned (.bool (wi x y a b p q c d)) ∧ Below w.heap.size w w' := by
  rw [show wi x y a b p q c d = has p q c d (x + a - 1) (y + b - 1) by simp [wi, h, h1]]
  obtain ⟨W, hW, HB, ⟨c0, c1, c2, c3⟩, e0, e1, e2, e3⟩ := wq_cells w x y a b p q c d
  go_enter Tryd.func52, Tryd.ntmps52
  go_wp2_with fail
  clear hW
  have hne := lat_some W
  refine wp_region_lat (by kernel_rfl) (by kernel_rfl) ?_
  iterate 7 (go_big_quiet_step (first
    | (go_at_call 76; exact calls_lat (refmay_is _ h))
    | (go_at_call 77; exact calls_lat (refhas_is _ h1))))
  repeat (go_big_quiet_step (first
    | (go_at_call 78; exact calls_lat (reflast_any _ _ _ _ _ m1 m2 m3))
    | (go_at_call 77; exact calls_lat (refhas_is _ rfl))))
  refine wpQuiet_nil ?_
  rintro _ ⟨n, rfl⟩
  go_wp2_with fail
  go_ret
  exact ⟨rfl, HB.trans (n.h.mono HB.size)⟩
theorem refwithin_any (x y a b p q c d : Int) (w : World) :
    Calls Tryd.prog 52 #[.agg #[.int .i64 x, .int .i64 y, .int .i64 a, .int .i64 b], .agg #[.int .i64 p, .int .i64 q, .int .i64 c, .int .i64 d]] w fun e w' => e = .returned (.bool (wi x y a b p q c d)) ∧ Below w.heap.size w w' := by
  cases h : may x y a b
  · exact refwithin_0 x y a b p q c d w h
  · obtain ⟨m1, m2, m3, _⟩ := may_parts h
    cases h1 : has p q c d x y
    · exact refwithin_1 x y a b p q c d w h h1
    · exact refwithin_2 x y a b p q c d w h h1 m1 m2 m3
end Go.Proofs.YtekpamilcpeanaaDoor
