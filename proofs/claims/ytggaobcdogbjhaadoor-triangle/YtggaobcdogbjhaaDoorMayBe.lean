/-
  Whether a World was made; which building may be.
-/
import Derived.Test.YtggaobcdogbjhaaDoorStand
import Derived.Test.YtggaobcdogbjhaaDoorWithin
import Derived.WalkSpells
namespace Go.Proofs.YtggaobcdogbjhaaDoor
open Go.RowKit
set_option linter.unusedVariables false
def gs (n most : Int) : Bool := decide (1 ≤ n ∧ n ≤ most)
theorem gside_any (n most : Int) (w : World) : Calls Tryd.prog 38 #[.int .i64 n, .int .i64 most] w fun e w' => e = .returned (.bool (gs n most)) ∧ w' = w := by
  by_cases h1 : 1 ≤ n
  · by_cases h2 : n ≤ most
    · go_enter Tryd.func38, Tryd.ntmps38
      go_wp2
      go_ret
      exact ⟨ret_bool (by simp [gs, h1, h2]), rfl⟩
    · go_enter Tryd.func38, Tryd.ntmps38
      go_wp2
      go_ret
      exact ⟨ret_bool (by simp [gs, h1, h2]), rfl⟩
  · go_enter Tryd.func38, Tryd.ntmps38
    go_wp2
    go_ret
    exact ⟨ret_bool (by rw [eq_comm, gs, decide_eq_false_iff_not]; omega), rfl⟩
theorem made_nil (w : World) : Calls Tryd.prog 26 #[.pointer none] w fun e w' => e = .returned (.bool false) ∧ w' = w := by
  go_enter Tryd.func26, Tryd.ntmps26
  go_wp2
  go_ret
  exact ⟨rfl, rfl⟩
theorem neq_map (b : Nat) (w : World) : (binOp .neq 66 (.map (some b)) (.map none)).run Tryd.prog w = .ok (.bool true) w := by kernel_rfl
theorem neq_map0 (w : World) : (binOp .neq 66 (.map none) (.map none)).run Tryd.prog w = .ok (.bool false) w := by kernel_rfl
theorem made_none (p : Nat) (w : World) (hc : w.cell? ⟨p, 6, none⟩ = some (.map none)) : Calls Tryd.prog 26 #[ptr p] w fun e w' => e = .returned (.bool false) ∧ w' = w := by
  have h1 := neq_map0
  go_enter Tryd.func26, Tryd.ntmps26
  go_wp2
  go_ret
  exact ⟨rfl, rfl⟩
theorem made_yes (p bm : Nat) (w : World) (hc : w.cell? ⟨p, 6, none⟩ = some (.map (some bm))) : Calls Tryd.prog 26 #[ptr p] w fun e w' => e = .returned (.bool true) ∧ w' = w := by
  have h1 := neq_map
  go_enter Tryd.func26, Tryd.ntmps26
  go_wp2
  go_ret
  exact ⟨rfl, rfl⟩
/-- A building that may be, in a map of W times H tiles. -/
def mb (W H : Int) (t : Bd) : Bool := decide (1 ≤ t.id) && (decide (t.id ≤ 2147483647) && (gs t.a 8 && (gs t.b 8 && wi t.x t.y t.a t.b 0 0 W H)))
theorem within_is {x y a b p q c d : Int} {r : Bool} (w : World) (h : wi x y a b p q c d = r) :
    Calls Tryd.prog 49 #[rct x y a b, rct p q c d] w fun e w' => e = .returned (.bool r) ∧ Below w.heap.size w w' := by
  subst h; exact within_any x y a b p q c d w
/-- The box of a building and a World, read in every later world. -/
theorem mb_cells {w : World} {p bm : Nat} {W H : Int} {tv bv ev : Value} (hd : Wd w p W H tv bv bm ev) (t : Bd) : ∃ X, w.alloc (.cells #[.int .i64 t.id, .int .i64 t.x, .int .i64 t.y, .int .i64 t.a, .int .i64 t.b] 71) = X ∧ Below w.heap.size w X ∧
    ((∀ n : Lat X, n.w.cell? ⟨w.heap.size, 0, none⟩ = some (.int .i64 t.id)) ∧ (∀ n : Lat X, n.w.cell? ⟨w.heap.size, 1, none⟩ = some (.int .i64 t.x)) ∧ (∀ n : Lat X, n.w.cell? ⟨w.heap.size, 2, none⟩ = some (.int .i64 t.y)) ∧ (∀ n : Lat X, n.w.cell? ⟨w.heap.size, 3, none⟩ = some (.int .i64 t.a)) ∧ (∀ n : Lat X, n.w.cell? ⟨w.heap.size, 4, none⟩ = some (.int .i64 t.b))) ∧
    ((∀ n : Lat X, n.w.cell? ⟨p, 0, none⟩ = some (.int .i64 0)) ∧ (∀ n : Lat X, n.w.cell? ⟨p, 1, none⟩ = some (.int .i64 0)) ∧ (∀ n : Lat X, n.w.cell? ⟨p, 2, none⟩ = some (.int .i64 W)) ∧ (∀ n : Lat X, n.w.cell? ⟨p, 3, none⟩ = some (.int .i64 H))) := by
  have TX : Turns NoB w (w.alloc (.cells t.cs.toArray 71)) := Turns.of_below (box1 _ _)
  have F : Five (w.alloc (.cells t.cs.toArray 71)) w.heap.size t := heap_alloc_new w _
  have Fn : ∀ n : Lat (w.alloc (.cells t.cs.toArray 71)), Five n.w w.heap.size t := fun n => F.kept (Turns.of_below (S := NoB) n.h) id
  have Dn : ∀ n : Lat (w.alloc (.cells t.cs.toArray 71)), Wd n.w p W H tv bv bm ev := fun n => (hd.kept TX id).kept (Turns.of_below (S := NoB) n.h) id
  exact ⟨_, rfl, box1 _ _, ⟨fun n => (Fn n).c 0, fun n => (Fn n).c 1, fun n => (Fn n).c 2, fun n => (Fn n).c 3, fun n => (Fn n).c 4⟩, fun n => (Dn n).c 0, fun n => (Dn n).c 1, fun n => (Dn n).c 2, fun n => (Dn n).c 3⟩
set_option maxHeartbeats 2000000 in
theorem maybe_0 (p bm : Nat) (W H : Int) (tv bv ev : Value) (t : Bd) (w : World) (hd : Wd w p W H tv bv bm ev) (h1 : ¬ 1 ≤ t.id) :
    Calls Tryd.prog 40 #[ptr p, t.v] w fun e w' => e = .returned (.bool (mb W H t)) ∧ Below w.heap.size w w' := by
  rw [show mb W H t = false by simp [mb, h1]]
  have dh1 := decide_eq_false h1
  obtain ⟨X, hX, HB, ⟨c0, c1, c2, c3, c4⟩, e0, e1, e2, e3⟩ := mb_cells hd t
  go_enter Tryd.func40, Tryd.ntmps40
  go_wp2_with fail
  clear hX hd
  have hne := lat_some X
  refine wp_region_lat (by kernel_rfl) (by kernel_rfl) ?_
  repeat (go_big_quiet_step (first
    | (go_at_call 38; exact calls_lat_same (gside_any _ _ _))
    | (go_at_call 49; exact calls_lat (within_any _ _ _ _ _ _ _ _ _))))
  refine wpQuiet_nil ?_
  rintro _ ⟨n, rfl⟩
  go_wp2_with fail
  go_ret
  exact ⟨rfl, HB.trans (n.h.mono HB.size)⟩
set_option maxHeartbeats 2000000 in
theorem maybe_1 (p bm : Nat) (W H : Int) (tv bv ev : Value) (t : Bd) (w : World) (hd : Wd w p W H tv bv bm ev) (h1 : 1 ≤ t.id) (h2 : ¬ t.id ≤ 2147483647) :
    Calls Tryd.prog 40 #[ptr p, t.v] w fun e w' => e = .returned (.bool (mb W H t)) ∧ Below w.heap.size w w' := by
  rw [show mb W H t = false by simp [mb, h1, h2]]
  have dh1 := decide_eq_true h1
  have dh2 := decide_eq_false h2
  obtain ⟨X, hX, HB, ⟨c0, c1, c2, c3, c4⟩, e0, e1, e2, e3⟩ := mb_cells hd t
  go_enter Tryd.func40, Tryd.ntmps40
  go_wp2_with fail
  clear hX hd
  have hne := lat_some X
  refine wp_region_lat (by kernel_rfl) (by kernel_rfl) ?_
  repeat (go_big_quiet_step (first
    | (go_at_call 38; exact calls_lat_same (gside_any _ _ _))
    | (go_at_call 49; exact calls_lat (within_any _ _ _ _ _ _ _ _ _))))
  refine wpQuiet_nil ?_
  rintro _ ⟨n, rfl⟩
  go_wp2_with fail
  go_ret
  exact ⟨rfl, HB.trans (n.h.mono HB.size)⟩
set_option maxHeartbeats 2000000 in
theorem maybe_2 (p bm : Nat) (W H : Int) (tv bv ev : Value) (t : Bd) (w : World) (hd : Wd w p W H tv bv bm ev) (h1 : 1 ≤ t.id) (h2 : t.id ≤ 2147483647) (h3 : gs t.a 8 = false) :
    Calls Tryd.prog 40 #[ptr p, t.v] w fun e w' => e = .returned (.bool (mb W H t)) ∧ Below w.heap.size w w' := by
  rw [show mb W H t = false by simp [mb, h1, h2, h3]]
  have dh1 := decide_eq_true h1
  have dh2 := decide_eq_true h2
  obtain ⟨X, hX, HB, ⟨c0, c1, c2, c3, c4⟩, e0, e1, e2, e3⟩ := mb_cells hd t
  go_enter Tryd.func40, Tryd.ntmps40
  go_wp2_with fail
  clear hX hd
  have hne := lat_some X
  refine wp_region_lat (by kernel_rfl) (by kernel_rfl) ?_
  repeat (go_big_quiet_step (first
    | (go_at_call 38; exact calls_lat_same (gside_any _ _ _))
    | (go_at_call 49; exact calls_lat (within_any _ _ _ _ _ _ _ _ _))))
  refine wpQuiet_nil ?_
  rintro _ ⟨n, rfl⟩
  go_wp2_with fail
  go_ret
  exact ⟨rfl, HB.trans (n.h.mono HB.size)⟩
set_option maxHeartbeats 2000000 in
theorem maybe_3 (p bm : Nat) (W H : Int) (tv bv ev : Value) (t : Bd) (w : World) (hd : Wd w p W H tv bv bm ev) (h1 : 1 ≤ t.id) (h2 : t.id ≤ 2147483647) (h3 : gs t.a 8 = true) (h4 : gs t.b 8 = false) :
    Calls Tryd.prog 40 #[ptr p, t.v] w fun e w' => e = .returned (.bool (mb W H t)) ∧ Below w.heap.size w w' := by
  rw [show mb W H t = false by simp [mb, h1, h2, h3, h4]]
  have dh1 := decide_eq_true h1
  have dh2 := decide_eq_true h2
  obtain ⟨X, hX, HB, ⟨c0, c1, c2, c3, c4⟩, e0, e1, e2, e3⟩ := mb_cells hd t
  go_enter Tryd.func40, Tryd.ntmps40
  go_wp2_with fail
  clear hX hd
  have hne := lat_some X
  refine wp_region_lat (by kernel_rfl) (by kernel_rfl) ?_
  repeat (go_big_quiet_step (first
    | (go_at_call 38; exact calls_lat_same (gside_any _ _ _))
    | (go_at_call 49; exact calls_lat (within_any _ _ _ _ _ _ _ _ _))))
  refine wpQuiet_nil ?_
  rintro _ ⟨n, rfl⟩
  go_wp2_with fail
  go_ret
  exact ⟨rfl, HB.trans (n.h.mono HB.size)⟩
set_option maxHeartbeats 2000000 in
theorem maybe_4 (p bm : Nat) (W H : Int) (tv bv ev : Value) (t : Bd) (w : World) (hd : Wd w p W H tv bv bm ev) (h1 : 1 ≤ t.id) (h2 : t.id ≤ 2147483647) (h3 : gs t.a 8 = true) (h4 : gs t.b 8 = true) :
    Calls Tryd.prog 40 #[ptr p, t.v] w fun e w' => e = .returned (.bool (mb W H t)) ∧ Below w.heap.size w w' := by
  rw [show mb W H t = wi t.x t.y t.a t.b 0 0 W H by simp [mb, h1, h2, h3, h4]]
  have dh1 := decide_eq_true h1
  have dh2 := decide_eq_true h2
  obtain ⟨X, hX, HB, ⟨c0, c1, c2, c3, c4⟩, e0, e1, e2, e3⟩ := mb_cells hd t
  go_enter Tryd.func40, Tryd.ntmps40
  go_wp2_with fail
  clear hX hd
  have hne := lat_some X
  refine wp_region_lat (by kernel_rfl) (by kernel_rfl) ?_
  repeat (go_big_quiet_step (first
    | (go_at_call 38; exact calls_lat_same (gside_any _ _ _))
    | (go_at_call 49; exact calls_lat (within_any _ _ _ _ _ _ _ _ _))))
  refine wpQuiet_nil ?_
  rintro _ ⟨n, rfl⟩
  go_wp2_with fail
  go_ret
  exact ⟨rfl, HB.trans (n.h.mono HB.size)⟩
theorem maybe_any (p bm : Nat) (W H : Int) (tv bv ev : Value) (t : Bd) (w : World) (hd : Wd w p W H tv bv bm ev) :
    Calls Tryd.prog 40 #[ptr p, t.v] w fun e w' => e = .returned (.bool (mb W H t)) ∧ Below w.heap.size w w' := by
  by_cases h1 : 1 ≤ t.id
  · by_cases h2 : t.id ≤ 2147483647
    · cases h3 : gs t.a 8
      · exact maybe_2 p bm W H tv bv ev t w hd h1 h2 h3
      · cases h4 : gs t.b 8
        · exact maybe_3 p bm W H tv bv ev t w hd h1 h2 h3 h4
        · exact maybe_4 p bm W H tv bv ev t w hd h1 h2 h3 h4
    · exact maybe_1 p bm W H tv bv ev t w hd h1 h2
  · exact maybe_0 p bm W H tv bv ev t w hd h1
end Go.Proofs.YtggaobcdogbjhaaDoor
