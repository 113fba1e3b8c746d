/-
  A World that nobody made: what it tells.
-/
import Derived.Test.YtobjadfchpgjeaaMayBe
namespace Go.Proofs.Ytobjadfchpgjeaa
open Go.RowKit
set_option linter.unusedVariables false
/-- Nobody's World: none, or all zero. -/
def Nob (w : World) (v : Value) : Prop := v = .pointer none ∨ ∃ p, v = ptr p ∧ w.heap[p]? = some (.cells #[.int .i64 0, .int .i64 0, .int .i64 0, .int .i64 0, .slice none 0 0, .slice none 0 0, .map none, .slice none 0 0] 71 (0, 0))
theorem Nob.kept {w w' : World} {v : Value} (h : Nob w v) (hb : Below w.heap.size w w') : Nob w' v := by
  rcases h with h | ⟨p, h, hp⟩
  · exact .inl h
  · exact .inr ⟨p, h, (hb.block p (Array.getElem?_eq_some_iff.1 hp).1).trans hp⟩
theorem nob_made {w : World} {v : Value} (h : Nob w v) : Calls Try.prog 36 #[v] w fun e w' => e = .returned (.bool false) ∧ w' = w := by
  rcases h with rfl | ⟨p, rfl, hp⟩
  · exact made_nil w
  · exact made_none p w (cell_of_row w p 6 _ _ _ hp)
theorem nob_lat {w : World} {v : Value} (h : Nob w v) (n : Lat w) : Calls Try.prog 36 #[v] n.w fun e w' => e = .returned (.bool false) ∧ w' = n.w := nob_made (h.kept n.h)
set_option maxHeartbeats 1000000 in
theorem nob_at {w : World} {v : Value} (x y : Int) (h : Nob w v) : Calls Try.prog 13 #[v, cel x y] w fun e w' => e = .returned (.tuple #[.int .i64 0, .bool false]) ∧ Below w.heap.size w w' := by
  have HM := fun wx (hb : Below w.heap.size w wx) => hide (nob_made (h.kept hb))
  rcases h with rfl | ⟨p, rfl, -⟩
  all_goals
    go_enter Try.func13, Try.ntmps13
    go_wp2_with (go_at_call 36; refine (HM _ (by first | exact Below.refl _ _ | exact box1 _ _ | exact box2 _ _ _)).out.mono ?_; rintro e w1 ⟨rfl, rfl⟩)
    go_ret2
    exact ⟨rfl, by first | exact Below.refl _ _ | exact box1 _ _ | exact box2 _ _ _⟩
set_option maxHeartbeats 1000000 in
theorem nob_find {w : World} {v : Value} (i : Int) (h : Nob w v) : Calls Try.prog 15 #[v, .int .i64 i] w fun e w' => e = .returned (.tuple #[.agg #[.int .i64 0, .int .i64 0, .int .i64 0, .int .i64 0], .bool false]) ∧ Below w.heap.size w w' := by
  have HM := fun wx (hb : Below w.heap.size w wx) => hide (nob_made (h.kept hb))
  rcases h with rfl | ⟨p, rfl, -⟩
  all_goals
    go_enter Try.func15, Try.ntmps15
    go_wp2_with (go_at_call 36; refine (HM _ (by first | exact Below.refl _ _ | exact box1 _ _ | exact box2 _ _ _)).out.mono ?_; rintro e w1 ⟨rfl, rfl⟩)
    refine bodyPost_ret (v := .tuple #[.agg #[.int .i64 0, .int .i64 0, .int .i64 0, .int .i64 0], .bool false]) (by simp [results, Try.results15, go_sem]) rfl ⟨rfl, ?_⟩
    first | exact Below.refl _ _ | exact box1 _ _ | exact box2 _ _ _
set_option maxHeartbeats 1000000 in
theorem nob_raze {w : World} {v : Value} (i : Int) (h : Nob w v) : Calls Try.prog 22 #[v, .int .i64 i] w fun e w' => e = .returned (.tuple #[.agg #[.int .i64 0, .int .i64 0, .int .i64 0, .int .i64 0], .int .i64 1]) ∧ Below w.heap.size w w' := by
  have HM := fun wx (hb : Below w.heap.size w wx) => hide (nob_made (h.kept hb))
  rcases h with rfl | ⟨p, rfl, -⟩
  all_goals
    go_enter Try.func22, Try.ntmps22
    go_wp2_with (go_at_call 36; refine (HM _ (by first | exact Below.refl _ _ | exact box1 _ _ | exact box2 _ _ _)).out.mono ?_; rintro e w1 ⟨rfl, rfl⟩)
    refine bodyPost_ret (v := .tuple #[.agg #[.int .i64 0, .int .i64 0, .int .i64 0, .int .i64 0], .int .i64 1]) (by simp [results, Try.results22, go_sem]) rfl ⟨rfl, ?_⟩
    first | exact Below.refl _ _ | exact box1 _ _ | exact box2 _ _ _
set_option maxHeartbeats 1000000 in
theorem nob_may {w : World} {v : Value} (t : Bd) (h : Nob w v) : Calls Try.prog 28 #[v, t.v] w fun e w' => e = .returned (.int .i64 1) ∧ Below w.heap.size w w' := by
  have HM := fun wx (hb : Below w.heap.size w wx) => hide (nob_made (h.kept hb))
  rcases h with rfl | ⟨p, rfl, -⟩
  all_goals
    go_enter Try.func28, Try.ntmps28
    go_wp2_with (go_at_call 36; refine (HM _ (by first | exact Below.refl _ _ | exact box1 _ _ | exact box2 _ _ _)).out.mono ?_; rintro e w1 ⟨rfl, rfl⟩)
    go_ret
    exact ⟨rfl, by first | exact Below.refl _ _ | exact box1 _ _ | exact box2 _ _ _⟩
set_option maxHeartbeats 1000000 in
theorem nob_all {w : World} {v : Value} (h : Nob w v) : Calls Try.prog 29 #[v] w fun e w' => e = .returned (.agg #[.int .i64 0, .int .i64 0, .int .i64 0, .int .i64 0]) ∧ Below w.heap.size w w' := by
  have HM := fun wx (hb : Below w.heap.size w wx) => hide (nob_made (h.kept hb))
  rcases h with rfl | ⟨p, rfl, -⟩
  all_goals
    go_enter Try.func29, Try.ntmps29
    go_wp2_with (go_at_call 36; refine (HM _ (by first | exact Below.refl _ _ | exact box1 _ _ | exact box2 _ _ _)).out.mono ?_; rintro e w1 ⟨rfl, rfl⟩)
    refine bodyPost_ret (v := .agg #[.int .i64 0, .int .i64 0, .int .i64 0, .int .i64 0]) (by simp [results, Try.results29, go_sem]) rfl ⟨rfl, ?_⟩
    first | exact Below.refl _ _ | exact box1 _ _ | exact box2 _ _ _
set_option maxHeartbeats 1000000 in
theorem nob_epoch {w : World} {v : Value} (h : Nob w v) : Calls Try.prog 25 #[v] w fun e w' => e = .returned (.int .i64 0) ∧ Below w.heap.size w w' := by
  have HM := fun wx (hb : Below w.heap.size w wx) => hide (nob_made (h.kept hb))
  rcases h with rfl | ⟨p, rfl, -⟩
  all_goals
    go_enter Try.func25, Try.ntmps25
    go_wp2_with (go_at_call 36; refine (HM _ (by first | exact Below.refl _ _ | exact box1 _ _ | exact box2 _ _ _)).out.mono ?_; rintro e w1 ⟨rfl, rfl⟩)
    go_ret
    exact ⟨rfl, by first | exact Below.refl _ _ | exact box1 _ _ | exact box2 _ _ _⟩
set_option maxHeartbeats 1000000 in
theorem nob_dirty {w : World} {v : Value} (h : Nob w v) : Calls Try.prog 18 #[v, .int .i64 0] w fun e w' => e = .returned (.slice none 0 0) ∧ Below w.heap.size w w' := by
  have HM := fun wx (hb : Below w.heap.size w wx) => hide (nob_made (h.kept hb))
  rcases h with rfl | ⟨p, rfl, -⟩
  all_goals
    go_enter Try.func18, Try.ntmps18
    go_wp2_with (go_at_call 36; refine (HM _ (by first | exact Below.refl _ _ | exact box1 _ _ | exact box2 _ _ _)).out.mono ?_; rintro e w1 ⟨rfl, rfl⟩)
    go_ret
    exact ⟨rfl, by first | exact Below.refl _ _ | exact box1 _ _ | exact box2 _ _ _⟩
set_option maxHeartbeats 1000000 in
theorem nob_copy {w : World} {v : Value} (h : Nob w v) : Calls Try.prog 20 #[v] w fun e w' => e = .returned (.pointer none) ∧ Below w.heap.size w w' := by
  have HM := fun wx (hb : Below w.heap.size w wx) => hide (nob_made (h.kept hb))
  rcases h with rfl | ⟨p, rfl, -⟩
  all_goals
    go_enter Try.func20, Try.ntmps20
    go_wp2_with (go_at_call 36; refine (HM _ (by first | exact Below.refl _ _ | exact box1 _ _ | exact box2 _ _ _)).out.mono ?_; rintro e w1 ⟨rfl, rfl⟩)
    go_ret
    exact ⟨rfl, by first | exact Below.refl _ _ | exact box1 _ _ | exact box2 _ _ _⟩
set_option maxHeartbeats 1000000 in
theorem nob_map {w : World} {v : Value} (h : Nob w v) : Calls Try.prog 21 #[v] w fun e w' => e = .returned (.agg #[.int .i64 0, .int .i64 0, .slice none 0 0, .slice none 0 0]) ∧ Below w.heap.size w w' := by
  have HM := fun wx (hb : Below w.heap.size w wx) => hide (nob_made (h.kept hb))
  rcases h with rfl | ⟨p, rfl, -⟩
  all_goals
    go_enter Try.func21, Try.ntmps21
    go_wp2_with (go_at_call 36; refine (HM _ (by first | exact Below.refl _ _ | exact box1 _ _ | exact box2 _ _ _)).out.mono ?_; rintro e w1 ⟨rfl, rfl⟩)
    refine bodyPost_ret (v := .agg #[.int .i64 0, .int .i64 0, .slice none 0 0, .slice none 0 0]) (by simp [results, Try.results21, go_sem]) rfl ⟨rfl, ?_⟩
    first | exact Below.refl _ _ | exact box1 _ _ | exact box2 _ _ _
set_option maxHeartbeats 1000000 in
theorem nob_place {w : World} {v : Value} (t : Bd) (h : Nob w v) : Calls Try.prog 23 #[v, t.v] w fun e w' => e = .returned (.int .i64 1) ∧ Below w.heap.size w w' := by
  have HM := hide (nob_may t (h.kept (box1 w (.cells #[.int .i64 t.id, .int .i64 t.x, .int .i64 t.y, .int .i64 t.a, .int .i64 t.b] 55))))
  rcases h with rfl | ⟨p, rfl, -⟩
  all_goals
    go_enter Try.func23, Try.ntmps23
    go_wp2_with (go_at_call 28; refine HM.out.mono ?_; rintro e w1 ⟨rfl, hb1⟩)
    go_ret
    exact ⟨rfl, bt (box1 _ _) hb1⟩
set_option maxHeartbeats 1000000 in
theorem nob_terrain {w : World} {v : Value} (x y : Int) (h : Nob w v) : Calls Try.prog 11 #[v, cel x y] w fun e w' => e = .returned (.tuple #[.int .i64 0, .bool false]) ∧ Below w.heap.size w w' := by
  have HM := hide (h.kept (box1 w (.cells #[.int .i64 x, .int .i64 y] 38)))
  rcases h with rfl | ⟨p, rfl, -⟩
  all_goals
    go_enter Try.func11, Try.ntmps11
    go_wp2_with fail
    have hne := lat_some (w.alloc (.cells #[.int .i64 x, .int .i64 y] 38))
    refine wp_region_lat (by kernel_rfl) (by kernel_rfl) ?_
    repeat (go_big_quiet_step (first | (go_at_call 36; exact calls_lat_same (nob_lat HM.out _))))
    refine wpQuiet_nil ?_
    rintro _ ⟨n, rfl⟩
    go_wp2_with fail
    go_ret2
    exact ⟨rfl, bt (box1 _ _) n.h⟩
theorem nob_buildings {w : World} {v : Value} (h : Nob w v) : Calls Try.prog 30 #[v] w fun e w' => e = .returned (.func (.func 54) #[] #[ptr w.heap.size]) ∧ w' = w.alloc (.cells #[v] 27) := by
  rcases h with rfl | ⟨p, rfl, -⟩
  all_goals
    go_enter Try.func30, Try.ntmps30
    go_wp2_with fail
    go_ret
    exact ⟨rfl, rfl⟩
end Go.Proofs.Ytobjadfchpgjeaa
