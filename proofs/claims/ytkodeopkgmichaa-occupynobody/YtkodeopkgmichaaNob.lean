/-
  An index that nobody made: what it tells.
-/
import Derived.Test.YtkodeopkgmichaaFree
namespace Go.Proofs.Ytkodeopkgmichaa
open Go.RowKit Go.Shelf
set_option linter.unusedVariables false
attribute [local go_sem] Oper.semAt_some
/-- Nobody's index: none, or all zero. -/
def Nob (w : World) (v : Value) : Prop := v = .pointer none ∨ ∃ p, v = ptr p ∧ w.heap[p]? = some (.cells #[.map none, .map none] 62 (0, 0))
theorem Nob.kept {w w' : World} {v : Value} (h : Nob w v) (hb : Below w.heap.size w w') : Nob w' v := by
  rcases h with h | ⟨p, h, hp⟩
  · exact .inl h
  · exact .inr ⟨p, h, (hb.block p (Array.getElem?_eq_some_iff.1 hp).1).trans hp⟩
theorem nob_made {w : World} {v : Value} (h : Nob w v) : Calls Try.prog 27 #[v] w fun e w' => e = .returned (.bool false) ∧ w' = w := by
  rcases h with rfl | ⟨p, rfl, hp⟩
  · exact made_nil w
  · exact made_zero p w (cell_of_row w p 0 _ _ _ hp)
set_option maxHeartbeats 1000000 in
theorem nob_at {w : World} {v : Value} (x y : Int) (h : Nob w v) : Calls Try.prog 11 #[v, cel x y] w fun e w' => e = .returned (.tuple #[.int .i64 0, .bool false]) ∧ Below w.heap.size w w' := by
  have HM := fun wx (hb : Below w.heap.size w wx) => hide (nob_made (h.kept hb))
  rcases h with rfl | ⟨p, rfl, -⟩
  all_goals
    go_enter Try.func11, Try.ntmps11
    go_wp2_with (go_at_call 27; refine (HM _ (by first | exact Below.refl _ _ | exact box1 _ _ | exact box2 _ _ _)).out.mono ?_; rintro e w1 ⟨rfl, rfl⟩)
    go_ret2
    exact ⟨rfl, by first | exact Below.refl _ _ | exact box1 _ _ | exact box2 _ _ _⟩
set_option maxHeartbeats 1000000 in
theorem nob_find {w : World} {v : Value} (i : Int) (h : Nob w v) : Calls Try.prog 13 #[v, .int .i64 i] w fun e w' => e = .returned (.tuple #[.agg #[.int .i64 0, .int .i64 0, .int .i64 0, .int .i64 0], .bool false]) ∧ Below w.heap.size w w' := by
  have HM := fun wx (hb : Below w.heap.size w wx) => hide (nob_made (h.kept hb))
  rcases h with rfl | ⟨p, rfl, -⟩
  all_goals
    go_enter Try.func13, Try.ntmps13
    go_wp2_with (go_at_call 27; refine (HM _ (by first | exact Below.refl _ _ | exact box1 _ _ | exact box2 _ _ _)).out.mono ?_; rintro e w1 ⟨rfl, rfl⟩)
    refine bodyPost_ret (v := .tuple #[.agg #[.int .i64 0, .int .i64 0, .int .i64 0, .int .i64 0], .bool false]) (by simp [results, Try.results13, go_sem]) rfl ⟨rfl, ?_⟩
    first | exact Below.refl _ _ | exact box1 _ _ | exact box2 _ _ _
set_option maxHeartbeats 1000000 in
theorem nob_put {w : World} {v : Value} (i x y a b : Int) (h : Nob w v) : Calls Try.prog 19 #[v, .int .i64 i, rct x y a b] w fun e w' => e = .returned (.int .i64 1) ∧ Below w.heap.size w w' := by
  have HM := fun wx (hb : Below w.heap.size w wx) => hide (nob_made (h.kept hb))
  rcases h with rfl | ⟨p, rfl, -⟩
  all_goals
    go_enter Try.func19, Try.ntmps19
    go_wp2_with (go_at_call 27; refine (HM _ (by first | exact Below.refl _ _ | exact box1 _ _ | exact box2 _ _ _)).out.mono ?_; rintro e w1 ⟨rfl, rfl⟩)
    go_ret
    exact ⟨rfl, by first | exact Below.refl _ _ | exact box1 _ _ | exact box2 _ _ _⟩
set_option maxHeartbeats 1000000 in
theorem nob_move {w : World} {v : Value} (i x y : Int) (h : Nob w v) : Calls Try.prog 17 #[v, .int .i64 i, cel x y] w fun e w' => e = .returned (.int .i64 1) ∧ Below w.heap.size w w' := by
  have HM := fun wx (hb : Below w.heap.size w wx) => hide (nob_made (h.kept hb))
  rcases h with rfl | ⟨p, rfl, -⟩
  all_goals
    go_enter Try.func17, Try.ntmps17
    go_wp2_with (go_at_call 27; refine (HM _ (by first | exact Below.refl _ _ | exact box1 _ _ | exact box2 _ _ _)).out.mono ?_; rintro e w1 ⟨rfl, rfl⟩)
    go_ret
    exact ⟨rfl, by first | exact Below.refl _ _ | exact box1 _ _ | exact box2 _ _ _⟩
set_option maxHeartbeats 1000000 in
theorem nob_take {w : World} {v : Value} (i : Int) (h : Nob w v) : Calls Try.prog 18 #[v, .int .i64 i] w fun e w' => e = .returned (.int .i64 1) ∧ Below w.heap.size w w' := by
  have HM := fun wx (hb : Below w.heap.size w wx) => hide (nob_made (h.kept hb))
  rcases h with rfl | ⟨p, rfl, -⟩
  all_goals
    go_enter Try.func18, Try.ntmps18
    go_wp2_with (go_at_call 27; refine (HM _ (by first | exact Below.refl _ _ | exact box1 _ _ | exact box2 _ _ _)).out.mono ?_; rintro e w1 ⟨rfl, rfl⟩)
    go_ret
    exact ⟨rfl, by first | exact Below.refl _ _ | exact box1 _ _ | exact box2 _ _ _⟩
set_option maxHeartbeats 1000000 in
theorem nob_len {w : World} {v : Value} (h : Nob w v) : Calls Try.prog 23 #[v] w fun e w' => e = .returned (.int .i64 0) ∧ Below w.heap.size w w' := by
  have HM := fun wx (hb : Below w.heap.size w wx) => hide (nob_made (h.kept hb))
  rcases h with rfl | ⟨p, rfl, -⟩
  all_goals
    go_enter Try.func23, Try.ntmps23
    go_wp2_with (go_at_call 27; refine (HM _ (by first | exact Below.refl _ _ | exact box1 _ _ | exact box2 _ _ _)).out.mono ?_; rintro e w1 ⟨rfl, rfl⟩)
    go_ret
    exact ⟨rfl, by first | exact Below.refl _ _ | exact box1 _ _ | exact box2 _ _ _⟩
set_option maxHeartbeats 1000000 in
theorem nob_within {w : World} {v : Value} (x y a b : Int) (h : Nob w v) : Calls Try.prog 15 #[v, rct x y a b] w fun e w' => e = .returned (.slice none 0 0) ∧ Below w.heap.size w w' := by
  have HM := fun wx (hb : Below w.heap.size w wx) => hide (nob_made (h.kept hb))
  rcases h with rfl | ⟨p, rfl, -⟩
  all_goals
    go_enter Try.func15, Try.ntmps15
    go_wp2_with (go_at_call 27; refine (HM _ (by first | exact Below.refl _ _ | exact box1 _ _ | exact box2 _ _ _)).out.mono ?_; rintro e w1 ⟨rfl, rfl⟩)
    go_ret
    exact ⟨rfl, by first | exact Below.refl _ _ | exact box1 _ _ | exact box2 _ _ _⟩
set_option maxRecDepth 100000 in
set_option maxHeartbeats 1000000 in
theorem nob_free {w : World} {v : Value} (x y a b i : Int) (h : Nob w v) : Calls Try.prog 22 #[v, rct x y a b, .int .i64 i] w fun e w' => e = .returned (.bool false) ∧ Below w.heap.size w w' := by
  obtain ⟨X, hX, B0, z0, F0, I0, R0⟩ := wf_boxes w x y a b i
  have HM := hide (nob_made (h.kept B0))
  have cR := R0.cell
  have fR := R0.frozen
  rcases h with rfl | ⟨p, rfl, -⟩
  all_goals
    refine (callsIn_wide (n := 10)).1 ?_
    refine callsIn_of_wp_marks Try.func22 rfl trivial ?_ rfl
    simp only [Try.ntmps22, List.size_toArray, List.length_cons, List.length_nil, Nat.reduceAdd, Nat.reduceSub, Array.replicate_succ, Array.replicate_zero, List.push_toArray, List.append_toArray, List.nil_append, List.cons_append]
    gi_wp2_with fail
    refine ⟨trivial, ?_⟩
    refine (callsIn_wide.2 HM.out).mono ?_
    rintro e w1 ⟨rfl, rfl⟩
    clear hX
    gi_wp2_with fail
    refine ⟨trivial, ?_⟩
    gi_wp2_with fail
    have hc5 := (R0.set (.bool false)).cell
    refine ⟨.bool false, ?_, rfl, B0.setCell (p := ⟨w.heap.size + 1 + 1, 0, none⟩) (by simp; omega) _⟩
    simp [results, Try.f22, go_sem, hc5]
set_option maxHeartbeats 1000000 in
theorem all_fn (o : Option Addr) (w : World) : Calls Try.prog 20 #[.pointer o] w fun e w' => e = .returned (.func (.func 38) #[] #[ptr w.heap.size]) ∧ w' = w.alloc (.cells #[.pointer o] 24) := by
  go_enter Try.func20, Try.ntmps20
  go_wp2_with fail
  go_ret
  exact ⟨rfl, rfl⟩
structure Un where
  id : Int
  r : Rc
abbrev encU (u : Un) : Array Value := #[.int .i64 u.id, u.r.v]
set_option maxRecDepth 100000 in
set_option maxHeartbeats 1000000 in
theorem nob_stops (n B N : Nat) (v : Value) (w : World) (hB : Boxed w B 24 v) (h : Nob w v) :
    SeqStopsK Fence.wide n Try.prog 38 #[ptr B] encU (KB B) (fun xs => xs = []) (fun pre => pre = []) N w := fun l J Jx W hW hJ hJx hY h0 => by
  have cB := (boxed_upto hB hW hB.lt).cell
  have HM := hide (nob_made (h.kept hW))
  refine callsIn_of_wp Try.func38 rfl trivial ?_ rfl
  simp only [Try.ntmps38, List.size_toArray, List.length_cons, List.length_nil, Nat.reduceAdd, Nat.reduceSub, Array.replicate_succ, Array.replicate_zero, List.push_toArray, List.append_toArray, List.nil_append, List.cons_append]
  gi_wp2_with fail
  refine ⟨trivial, fun h => (by cases h), ?_⟩
  refine (callsIn_wide.2 HM.out).mono ?_
  rintro e w1 ⟨rfl, rfl⟩
  gi_wp2_with fail
  refine bodyPost_ret (results_none rfl _ _ _) rfl ?_
  exact ⟨⟨_, rfl⟩, .inl ⟨[], rfl, h0⟩⟩
end Go.Proofs.Ytkodeopkgmichaa
