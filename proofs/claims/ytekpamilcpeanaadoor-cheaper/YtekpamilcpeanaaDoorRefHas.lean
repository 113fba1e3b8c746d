/-
  Has of the reference.
-/
import Derived.Test.YtekpamilcpeanaaDoorHas
import Derived.Test.YtekpamilcpeanaaDoorLat
namespace Go.Proofs.YtekpamilcpeanaaDoor
open Go.RowKit
set_option linter.unusedVariables false
theorem field0 (u v : Int) (w : World) : (Instr.field 23 (.agg #[.int .i64 u, .int .i64 v]) 0).run Tryd.prog w = .ok (.int .i64 u) w := by kernel_rfl
theorem field1 (u v : Int) (w : World) : (Instr.field 23 (.agg #[.int .i64 u, .int .i64 v]) 1).run Tryd.prog w = .ok (.int .i64 v) w := by kernel_rfl
theorem refmay_is {x y a b : Int} {c : Bool} (w : World) (h : may x y a b = c) :
    Calls Tryd.prog 76 #[.agg #[.int .i64 x, .int .i64 y, .int .i64 a, .int .i64 b]] w fun e w' => e = .returned (.bool c) ∧ Below w.heap.size w w' := by
  subst h; exact refmay_any x y a b w
theorem wr_cells (w : World) (x y a b p q : Int) : ∃ W, WR w x y a b p q = W ∧ Below w.heap.size w W ∧
    ((∀ n : Lat W, n.w.cell? ⟨w.heap.size, 0, none⟩ = some (.int .i64 x)) ∧ (∀ n : Lat W, n.w.cell? ⟨w.heap.size, 1, none⟩ = some (.int .i64 y)) ∧ (∀ n : Lat W, n.w.cell? ⟨w.heap.size, 2, none⟩ = some (.int .i64 a)) ∧ (∀ n : Lat W, n.w.cell? ⟨w.heap.size, 3, none⟩ = some (.int .i64 b))) ∧
    (∀ n : Lat W, n.w.cell? ⟨w.heap.size + 1, 0, none⟩ = some (.int .i64 p)) ∧ (∀ n : Lat W, n.w.cell? ⟨w.heap.size + 1, 1, none⟩ = some (.int .i64 q)) :=
  ⟨_, rfl, box2 _ _ _, ⟨fun n => (cells4' n.h).1.1, fun n => (cells4' n.h).1.2.1, fun n => (cells4' n.h).1.2.2.1, fun n => (cells4' n.h).1.2.2.2⟩, fun n => (cells2'' n.h).1.1, fun n => (cells2'' n.h).1.2⟩
set_option maxHeartbeats 2000000 in
theorem refhas_no (x y a b p q : Int) (w : World) (h : may x y a b = false) :
    Calls Tryd.prog 77 #[.agg #[.int .i64 x, .int .i64 y, .int .i64 a, .int .i64 b], .agg #[.int .i64 p, .int .i64 q]] w fun e w' => e = .returned (.bool (has x y a b p q)) ∧ Below w.heap.size w w' := by
  rw [show has x y a b p q = false from has_no h]
  have f0 := field0
  have f1 := field1
  obtain ⟨W, hW, HB, ⟨c0, c1, c2, c3⟩, e0, e1⟩ := wr_cells w x y a b p q
  go_enter Tryd.func77, Tryd.ntmps77
  go_wp2_with fail
  clear hW
  have hne := lat_some W
  refine wp_region_lat (by kernel_rfl) (by kernel_rfl) ?_
  repeat (go_big_quiet_step (first
    | (go_at_call 76; exact calls_lat (refmay_is _ h))
    | (go_at_call 78; exact calls_lat (reflast_any _ _ _ _ _ h h h))))
  refine wpQuiet_nil ?_
  rintro _ ⟨n, rfl⟩
  go_wp2_with fail
  go_ret
  exact ⟨rfl, HB.trans (n.h.mono HB.size)⟩
set_option maxHeartbeats 2000000 in
theorem refhas_1 (x y a b p q : Int) (w : World) (h : may x y a b = true) (h1 : ¬ x ≤ p) :
    Calls Tryd.prog 77 #[.agg #[.int .i64 x, .int .i64 y, .int .i64 a, .int .i64 b], .agg #[.int .i64 p, .int .i64 q]] w fun e w' => e = .returned (.bool (has x y a b p q)) ∧ Below w.heap.size w w' := by
  rw [show has x y a b p q = false from has_f1 h1]
  have hd := decide_eq_false h1
  have f0 := field0
  have f1 := field1
  obtain ⟨W, hW, HB, ⟨c0, c1, c2, c3⟩, e0, e1⟩ := wr_cells w x y a b p q
  go_enter Tryd.func77, Tryd.ntmps77
  go_wp2_with fail
  clear hW
  have hne := lat_some W
  refine wp_region_lat (by kernel_rfl) (by kernel_rfl) ?_
  repeat (go_big_quiet_step (first
    | (go_at_call 76; exact calls_lat (refmay_is _ h))
    | (go_at_call 78; exact calls_lat (reflast_any _ _ _ _ _ h h h))))
  refine wpQuiet_nil ?_
  rintro _ ⟨n, rfl⟩
  go_wp2_with fail
  go_ret
  exact ⟨rfl, HB.trans (n.h.mono HB.size)⟩
set_option maxHeartbeats 2000000 in
theorem refhas_2 (x y a b p q : Int) (w : World) (h : may x y a b = true) (h1 : x ≤ p) (h2 : ¬ y ≤ q) :
    Calls Tryd.prog 77 #[.agg #[.int .i64 x, .int .i64 y, .int .i64 a, .int .i64 b], .agg #[.int .i64 p, .int .i64 q]] w fun e w' => e = .returned (.bool (has x y a b p q)) ∧ Below w.heap.size w w' := by
  rw [show has x y a b p q = false from has_f3 h2]
  have hd := decide_eq_false h2
  have f0 := field0
  have f1 := field1
  obtain ⟨W, hW, HB, ⟨c0, c1, c2, c3⟩, e0, e1⟩ := wr_cells w x y a b p q
  go_enter Tryd.func77, Tryd.ntmps77
  go_wp2_with fail
  clear hW
  have hne := lat_some W
  refine wp_region_lat (by kernel_rfl) (by kernel_rfl) ?_
  repeat (go_big_quiet_step (first
    | (go_at_call 76; exact calls_lat (refmay_is _ h))
    | (go_at_call 78; exact calls_lat (reflast_any _ _ _ _ _ h h h))))
  refine wpQuiet_nil ?_
  rintro _ ⟨n, rfl⟩
  go_wp2_with fail
  go_ret
  exact ⟨rfl, HB.trans (n.h.mono HB.size)⟩
set_option maxHeartbeats 2000000 in
theorem refhas_3 (x y a b p q : Int) (w : World) (h : may x y a b = true) (h1 : x ≤ p) (h2 : y ≤ q) (h3 : ¬ p ≤ x + a - 1) (m1 : nrC x y = true) (m2 : sd a = true) (m3 : sd b = true) :
    Calls Tryd.prog 77 #[.agg #[.int .i64 x, .int .i64 y, .int .i64 a, .int .i64 b], .agg #[.int .i64 p, .int .i64 q]] w fun e w' => e = .returned (.bool (has x y a b p q)) ∧ Below w.heap.size w w' := by
  rw [show has x y a b p q = false from has_f2 h3]
  have hd := decide_eq_false h3
  have f0 := field0
  have f1 := field1
  obtain ⟨W, hW, HB, ⟨c0, c1, c2, c3⟩, e0, e1⟩ := wr_cells w x y a b p q
  go_enter Tryd.func77, Tryd.ntmps77
  go_wp2_with fail
  clear hW
  have hne := lat_some W
  refine wp_region_lat (by kernel_rfl) (by kernel_rfl) ?_
  repeat (go_big_quiet_step (first
    | (go_at_call 76; exact calls_lat (refmay_is _ h))
    | (go_at_call 78; exact calls_lat (reflast_any _ _ _ _ _ m1 m2 m3))))
  refine wpQuiet_nil ?_
  rintro _ ⟨n, rfl⟩
  go_wp2_with fail
  go_ret
  exact ⟨rfl, HB.trans (n.h.mono HB.size)⟩
set_option maxHeartbeats 2000000 in
theorem refhas_4 (x y a b p q : Int) (w : World) (h : may x y a b = true) (h1 : x ≤ p) (h2 : y ≤ q) (h3 : p ≤ x + a - 1) (m1 : nrC x y = true) (m2 : sd a = true) (m3 : sd b = true) :
    Calls Tryd.prog 77 #[.agg #[.int .i64 x, .int .i64 y, .int .i64 a, .int .i64 b], .agg #[.int .i64 p, .int .i64 q]] w fun e w' => e = .returned (.bool (has x y a b p q)) ∧ Below w.heap.size w w' := by
  rw [show has x y a b p q = decide (q ≤ y + b - 1) from has_t h h1 h3 h2]
  have f0 := field0
  have f1 := field1
  obtain ⟨W, hW, HB, ⟨c0, c1, c2, c3⟩, e0, e1⟩ := wr_cells w x y a b p q
  go_enter Tryd.func77, Tryd.ntmps77
  go_wp2_with fail
  clear hW
  have hne := lat_some W
  refine wp_region_lat (by kernel_rfl) (by kernel_rfl) ?_
  repeat (go_big_quiet_step (first
    | (go_at_call 76; exact calls_lat (refmay_is _ h))
    | (go_at_call 78; exact calls_lat (reflast_any _ _ _ _ _ m1 m2 m3))))
  refine wpQuiet_nil ?_
  rintro _ ⟨n, rfl⟩
  go_wp2_with fail
  go_ret
  exact ⟨rfl, HB.trans (n.h.mono HB.size)⟩
theorem refhas_any (x y a b p q : Int) (w : World) :
    Calls Tryd.prog 77 #[.agg #[.int .i64 x, .int .i64 y, .int .i64 a, .int .i64 b], .agg #[.int .i64 p, .int .i64 q]] w fun e w' => e = .returned (.bool (has x y a b p q)) ∧ Below w.heap.size w w' := by
  cases h : may x y a b
  · exact refhas_no x y a b p q w h
  · obtain ⟨m1, m2, m3, _⟩ := may_parts h
    by_cases h1 : x ≤ p
    · by_cases h2 : y ≤ q
      · by_cases h3 : p ≤ x + a - 1
        · exact refhas_4 x y a b p q w h h1 h2 h3 m1 m2 m3
        · exact refhas_3 x y a b p q w h h1 h2 h3 m1 m2 m3
      · exact refhas_2 x y a b p q w h h1 h2
    · exact refhas_1 x y a b p q w h h1
end Go.Proofs.YtekpamilcpeanaaDoor
