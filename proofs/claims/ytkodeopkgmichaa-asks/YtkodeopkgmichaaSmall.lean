/-
  The small functions: made, isSmall, New, At, Len, Cells, onCells, touching of a small rectangle.
-/
import Derived.Test.YtkodeopkgmichaaFeet
namespace Go.Proofs.Ytkodeopkgmichaa
open Go.RowKit Go.Shelf
set_option linter.unusedVariables false
attribute [local go_sem] Oper.semAt_some
theorem neq_map (b : Nat) (w : World) : (binOp .neq 59 (.map (some b)) (.map none)).run Try.prog w = .ok (.bool true) w := by kernel_rfl
theorem neq_map0 (w : World) : (binOp .neq 59 (.map none) (.map none)).run Try.prog w = .ok (.bool false) w := by kernel_rfl
set_option maxHeartbeats 400000 in
theorem made_yes (p fm : Nat) (w : World) (h : w.cell? ⟨p, 0, none⟩ = some (.map (some fm))) : Calls Try.prog 27 #[ptr p] w fun e w' => e = .returned (.bool true) ∧ w' = w := by
  have h1 := neq_map
  go_enter Try.func27, Try.ntmps27
  go_wp2
  go_ret
  exact ⟨rfl, rfl⟩
set_option maxHeartbeats 400000 in
theorem made_zero (p : Nat) (w : World) (h : w.cell? ⟨p, 0, none⟩ = some (.map none)) : Calls Try.prog 27 #[ptr p] w fun e w' => e = .returned (.bool false) ∧ w' = w := by
  have h1 := neq_map0
  go_enter Try.func27, Try.ntmps27
  go_wp2
  go_ret
  exact ⟨rfl, rfl⟩
set_option maxHeartbeats 400000 in
theorem made_nil (w : World) : Calls Try.prog 27 #[.pointer none] w fun e w' => e = .returned (.bool false) ∧ w' = w := by
  go_enter Try.func27, Try.ntmps27
  go_wp2
  go_ret
  exact ⟨rfl, rfl⟩
def sm (a b : Int) : Bool := decide (a ≤ 4) && decide (b ≤ 4)
set_option maxHeartbeats 400000 in
theorem small_any (x y a b : Int) (w : World) : Calls Try.prog 37 #[rct x y a b] w fun e w' => e = .returned (.bool (sm a b)) ∧ Below w.heap.size w w' := by
  by_cases ha : a ≤ 4
  · go_enter Try.func37, Try.ntmps37
    go_wp2
    go_ret
    exact ⟨ret_bool (by simp [sm, ha]), box1 _ _⟩
  · go_enter Try.func37, Try.ntmps37
    go_wp2
    go_ret
    exact ⟨ret_bool (by rw [sm, decide_eq_false (by omega)]; rfl), box1 _ _⟩
theorem small_is {x y a b : Int} {c : Bool} (w : World) (h : sm a b = c) : Calls Try.prog 37 #[rct x y a b] w fun e w' => e = .returned (.bool c) ∧ Below w.heap.size w w' := by subst h; exact small_any x y a b w
theorem run_makeMap59 (w : World) : (Instr.makeMap 59 none).run Try.prog w = .ok (.map (some w.heap.size)) (w.alloc (.map #[] 0)) := by kernel_rfl
theorem run_makeMap60 (w : World) : (Instr.makeMap 60 none).run Try.prog w = .ok (.map (some w.heap.size)) (w.alloc (.map #[] 0)) := by kernel_rfl
set_option maxHeartbeats 400000 in
theorem new_any (w : World) : Calls Try.prog 8 #[] w fun e w' => e = .returned (ptr (w.heap.size + 1 + 1)) ∧ Below w.heap.size w w' ∧ Ix w' (w.heap.size + 1 + 1) w.heap.size (w.heap.size + 1) 0 0 (fun _ => none) (fun _ _ => none) := by
  have hm1 := fun w => run_makeMap59 w
  have hm2 := fun w => run_makeMap60 w
  go_enter Try.func8, Try.ntmps8
  go_wp2
  go_ret
  refine ⟨rfl, bt (box2 _ _ _) (box1 _ _), ?_⟩
  have h1 := Feet.made w
  have h2 := Who.made (w.alloc (.map #[] 0))
  rw [World.size_alloc] at h2
  have T1 : Below (w.alloc (.map #[] 0)).heap.size (w.alloc (.map #[] 0)) (((w.alloc (.map #[] 0)).alloc (.map #[] 0)).alloc (.cells #[.map (some w.heap.size), .map (some (w.heap.size + 1))] 62)) := box2 _ _ _
  have T2 : Below ((w.alloc (.map #[] 0)).alloc (.map #[] 0)).heap.size ((w.alloc (.map #[] 0)).alloc (.map #[] 0)) (((w.alloc (.map #[] 0)).alloc (.map #[] 0)).alloc (.cells #[.map (some w.heap.size), .map (some (w.heap.size + 1))] 62)) := box1 _ _
  have hc := cells2 (w := (w.alloc (.map #[] 0)).alloc (.map #[] 0)) (a := .map (some w.heap.size)) (b := .map (some (w.heap.size + 1))) (t := 62) (Below.refl _ _)
  simp only [World.size_alloc] at hc
  exact ⟨hc.1.1, hc.1.2, h1.upto T1 (by simp), h2.upto T2 (by simp), by omega⟩
set_option maxHeartbeats 400000 in
theorem len_any (p fm bm n m : Nat) (g : Int → Option Rc) (f : Int → Int → Option Int) (w : World) (h : Ix w p fm bm n m g f) : Calls Try.prog 23 #[ptr p] w fun e w' => e = .returned (.int .i64 n) ∧ w' = w := by
  have HM := hide (made_yes p fm w h.c0)
  have c0 := h.c0
  have hl := h.feet.len
  clear h
  go_enter Try.func23, Try.ntmps23
  go_wp2_with (go_at_call 27; refine HM.out.mono ?_; rintro e w' ⟨rfl, rfl⟩)
  go_ret
  exact ⟨rfl, rfl⟩
set_option maxHeartbeats 1000000 in
theorem at_any (p fm bm n m : Nat) (g : Int → Option Rc) (f : Int → Int → Option Int) (x y : Int) (hx : W64 x) (hy : W64 y) (w : World) (h : Ix w p fm bm n m g f) :
    Calls Try.prog 11 #[ptr p, cel x y] w fun e w' => e = .returned (.tuple #[.int .i64 ((f x y).getD 0), .bool (f x y).isSome]) ∧ Below w.heap.size w w' := by
  have B0 : Below w.heap.size w (w.alloc (.cells #[.int .i64 x, .int .i64 y] 32)) := box1 _ _
  have h0 := h.kept B0
  have bX : Two (w.alloc (.cells #[.int .i64 x, .int .i64 y] 32)) w.heap.size x y := Two.newAt rfl
  obtain ⟨X, hX⟩ : ∃ X, w.alloc (.cells #[.int .i64 x, .int .i64 y] 32) = X := ⟨_, rfl⟩
  rw [hX] at B0 h0 bX
  have HM := hide (made_yes p fm X h0.c0)
  obtain ⟨d0, d1⟩ := bX.lat
  have c6 : ∀ n : Lat X, n.w.cell? ⟨p, 1, none⟩ = some (.map (some bm)) := fun n => (h0.kept n.h).c1
  have hlook : ∀ m : Lat X, (Instr.lookup 60 (.map (some bm)) (cel x y) true).run Try.prog m.w = .ok (.tuple #[.int .i64 ((f x y).getD 0), .bool (f x y).isSome]) m.w := fun m => (h0.kept m.h).who.look hx hy
  obtain ⟨z, hz⟩ : ∃ z, (f x y).getD 0 = z := ⟨_, rfl⟩
  obtain ⟨b, hb⟩ : ∃ b, (f x y).isSome = b := ⟨_, rfl⟩
  rw [hz, hb] at hlook ⊢
  have hne := lat_some X
  clear hz hb h0 h bX
  go_enter Try.func11, Try.ntmps11
  go_wp2_with (go_at_call 27; refine HM.out.mono ?_; rintro e w1 ⟨rfl, rfl⟩)
  clear hX
  refine wp_region_lat (by kernel_rfl) (by kernel_rfl) ?_
  repeat (go_big_quiet_step (fail))
  refine wpQuiet_nil ?_
  rintro _ ⟨n, rfl⟩
  go_wp2_with fail
  go_ret2
  exact ⟨rfl, B0.trans (n.h.mono B0.size)⟩
set_option maxHeartbeats 1000000 in
theorem cells_any (x y a b : Int) (w : World) :
    Calls Try.prog 51 #[rct x y a b] w fun e w' => e = .returned (.func (.func 63) #[] #[ptr w.heap.size]) ∧ w' = w.alloc (.cells #[.int .i64 x, .int .i64 y, .int .i64 a, .int .i64 b] 34) := by
  go_enter Try.func51, Try.ntmps51
  go_wp2_with fail
  go_ret
  exact ⟨rfl, rfl⟩
/-- What onCells hands back: a function over two boxes, the rectangle and the index. -/
def OnC (w : World) (p : Nat) (x y a b : Int) (v : Value) (w' : World) : Prop :=
  ∃ h, v = .func (.func 60) #[] #[ptr (h + 1), ptr h] ∧ w.heap.size ≤ h ∧ Boxed w' h 24 (ptr p) ∧ Four w' (h + 1) x y a b ∧ Below w.heap.size w w'
set_option maxHeartbeats 1000000 in
theorem onCells_any (p : Nat) (x y a b : Int) (w : World) : Calls Try.prog 48 #[ptr p, rct x y a b] w fun e w' => ∃ v, e = .returned v ∧ OnC w p x y a b v w' := by
  go_enter Try.func48, Try.ntmps48
  go_wp2_with fail
  go_ret
  refine ⟨_, rfl, w.heap.size, rfl, Nat.le_refl _, (Boxed.new w 24 (ptr p)).alloc _, ?_, box2 _ _ _⟩
  simp [Four, go_sem]
set_option maxHeartbeats 1000000 in
theorem touching_small (p : Nat) (x y a b : Int) (w : World) (hs : sm a b = true) : Calls Try.prog 33 #[ptr p, rct x y a b] w fun e w' => ∃ v, e = .returned v ∧ OnC w p x y a b v w' := by
  go_enter Try.func33, Try.ntmps33
  go_wp2_with fail
  refine (small_is _ hs).mono ?_
  rintro e w1 ⟨rfl, hb1⟩
  obtain ⟨⟨c0, c1, c2, c3⟩, _, z0⟩ := cells4 hb1
  go_wp2_with fail
  refine (onCells_any p x y a b w1).mono ?_
  rintro e w2 ⟨v, rfl, h, rfl, h1, h2, h3, h4⟩
  go_wp2_with fail
  go_ret
  have B := bt (box1 w (.cells #[.int .i64 x, .int .i64 y, .int .i64 a, .int .i64 b] 34)) hb1
  exact ⟨_, rfl, h, rfl, Nat.le_trans B.size h1, h2, h3, bt B h4⟩
end Go.Proofs.Ytkodeopkgmichaa
