/-
  Step at any number; the reference's Turn and Step; Back, Cost; which directions go over a corner.
-/
import Derived.Test.YthacppifndakjaaDoorStep
namespace Go.Proofs.YthacppifndakjaaDoor
open Go.RowKit
set_option linter.unusedVariables false
theorem step_any (x y d : Int) (w : World) (ho : Offs w) :
    Calls Tryd.prog 45 #[.agg #[.int .i64 x, .int .i64 y], .int .i64 d] w fun e w' => e = .returned (.tuple #[.agg #[.int .i64 (sX x y d), .int .i64 (sY x y d)], .bool (sB x y d)]) ∧ Below w.heap.size w w' := by
  cases h : isD d
  · exact step_no1 x y d w h
  · cases hn : nrC x y
    · exact step_no2 x y d w h hn
    · obtain ⟨h0, h1⟩ := (isD_iff d).1 h
      obtain ⟨k, rfl⟩ := Int.eq_ofNat_of_zero_le h0
      cases hm : nrC (x + dX k) (y + dY k)
      · exact step_off x y k w (by omega) ho hn hm
      · exact step_yes x y k w (by omega) ho hn hm
set_option maxHeartbeats 1000000 in
theorem turn_yes (k : Nat) (w : World) (hk : k < 8) : Calls Tryd.prog 68 #[.int .i64 k] w fun e w' => e = .returned (.tuple #[.int .i64 (dX k), .int .i64 (dY k), .bool true]) ∧ w' = w := by
  match k, hk with
  | 0, _ | 1, _ | 2, _ | 3, _ | 4, _ | 5, _ | 6, _ | 7, _ =>
    go_enter Tryd.func68, Tryd.ntmps68
    go_wp2
    exact bodyPost_ret (v := .tuple #[.int .i64 (dX _), .int .i64 (dY _), .bool true]) (by simp [results, Tryd.results68, go_sem, dX, dY]) rfl ⟨rfl, rfl⟩
set_option maxHeartbeats 1000000 in
theorem turn_no (d : Int) (w : World) (h : isD d = false) : Calls Tryd.prog 68 #[.int .i64 d] w fun e w' => e = .returned (.tuple #[.int .i64 0, .int .i64 0, .bool false]) ∧ w' = w := by
  have h' := (isD_not d).1 h
  have h0 : ¬ d = 0 := by omega
  have h1 : ¬ d = 1 := by omega
  have h2 : ¬ d = 2 := by omega
  have h3 : ¬ d = 3 := by omega
  have h4 : ¬ d = 4 := by omega
  have h5 : ¬ d = 5 := by omega
  have h6 : ¬ d = 6 := by omega
  have h7 : ¬ d = 7 := by omega
  clear h' h
  go_enter Tryd.func68, Tryd.ntmps68
  go_wp2
  exact bodyPost_ret (v := .tuple #[.int .i64 0, .int .i64 0, .bool false]) (by simp [results, Tryd.results68, go_sem]) rfl ⟨rfl, rfl⟩
set_option maxHeartbeats 1000000 in
theorem refstep_no1 (x y d : Int) (w : World) (h : isD d = false) :
    Calls Tryd.prog 43 #[.agg #[.int .i64 x, .int .i64 y], .int .i64 d] w fun e w' => e = .returned (.tuple #[.agg #[.int .i64 (sX x y d), .int .i64 (sY x y d)], .bool (sB x y d)]) ∧ Below w.heap.size w w' := by
  have h3 := sB_no1 (x := x) (y := y) h
  rw [sX_no h3, sY_no h3, h3]
  clear h3
  go_enter Tryd.func43, Tryd.ntmps43
  go_wp2_with (go_at_call 68; refine (turn_no _ _ h).mono ?_; rintro e w' ⟨rfl, rfl⟩)
  refine bodyPost_ret (v := .tuple #[.agg #[.int .i64 0, .int .i64 0], .bool false]) (by simp [results, Tryd.results43, go_sem]) rfl ⟨rfl, ?_⟩
  exact box2 _ _ _
set_option maxHeartbeats 1000000 in
theorem refstep_no2 (x y : Int) (k : Nat) (w : World) (hk : k < 8) (hn : nrC x y = false) :
    Calls Tryd.prog 43 #[.agg #[.int .i64 x, .int .i64 y], .int .i64 k] w fun e w' => e = .returned (.tuple #[.agg #[.int .i64 (sX x y k), .int .i64 (sY x y k)], .bool (sB x y k)]) ∧ Below w.heap.size w w' := by
  have h3 := sB_no2 (d := k) hn
  rw [sX_no h3, sY_no h3, h3]
  clear h3
  go_enter Tryd.func43, Tryd.ntmps43
  go_wp2_with (first | (go_at_call 68; refine (turn_yes _ _ hk).mono ?_; rintro e w' ⟨rfl, rfl⟩) | (go_at_call 53; refine (refnear_any _ _ _).mono ?_; rintro e w1 ⟨rfl, hb⟩; obtain ⟨⟨e0, e1⟩, ⟨f0, f1⟩, z1⟩ := cells2'' hb))
  refine bodyPost_ret (v := .tuple #[.agg #[.int .i64 0, .int .i64 0], .bool false]) (by simp [results, Tryd.results43, go_sem, e0, e1]) rfl ⟨rfl, ?_⟩
  exact set2 (bt (box2 _ _ _) hb) (by simp) (by simp)
set_option maxHeartbeats 1000000 in
theorem refstep_off (x y : Int) (k : Nat) (w : World) (hk : k < 8) (hn : nrC x y = true) (hm : nrC (x + dX k) (y + dY k) = false) :
    Calls Tryd.prog 43 #[.agg #[.int .i64 x, .int .i64 y], .int .i64 k] w fun e w' => e = .returned (.tuple #[.agg #[.int .i64 (sX x y k), .int .i64 (sY x y k)], .bool (sB x y k)]) ∧ Below w.heap.size w w' := by
  have h : isD (k : Int) = true := (isD_iff _).2 (by omega)
  have h3 : sB x y k = false := by simp [sB, h, hn, hm]
  rw [sX_no h3, sY_no h3, h3]
  clear h3 h
  obtain ⟨⟨x0, x1⟩, y0, y1⟩ := (nrC_iff x y).1 hn
  obtain ⟨dx0, dx1⟩ := dX_range k
  obtain ⟨dy0, dy1⟩ := dY_range k
  go_enter Tryd.func43, Tryd.ntmps43
  go_wp2_with (first | (go_at_call 68; refine (turn_yes _ _ hk).mono ?_; rintro e w' ⟨rfl, rfl⟩) | (go_at_call 53; refine (refnear_any _ _ _).mono ?_; rintro e w1 ⟨rfl, hb⟩; obtain ⟨⟨c0, c1⟩, _, z0⟩ := cells2' hb; obtain ⟨⟨e0, e1⟩, ⟨f0, f1⟩, z1⟩ := cells2'' hb; have HB := hide (bt (box2 w _ _) hb); clear hb))
  refine (refnear_any _ _ _).mono ?_
  rintro e w2 ⟨rfl, hb2⟩
  obtain ⟨⟨g0, g1⟩, ⟨gf0, gf1⟩, z2⟩ := cells2 hb2
  have HB2 := hide (bt (box1 _ _) hb2)
  obtain ⟨⟨e2, e3⟩, f2, f3⟩ := Below.two HB2.out z1 e0 e1 f0 f1
  clear hb2 e0 e1 f0 f1
  go_wp2_with fail
  refine bodyPost_ret (v := .tuple #[.agg #[.int .i64 0, .int .i64 0], .bool false]) (by simp [results, Tryd.results43, go_sem, e2, e3]) rfl ⟨rfl, ?_⟩
  exact set2 (bt HB.out HB2.out) (by simp) (by simp)
set_option maxHeartbeats 1000000 in
theorem refstep_yes (x y : Int) (k : Nat) (w : World) (hk : k < 8) (hn : nrC x y = true) (hm : nrC (x + dX k) (y + dY k) = true) :
    Calls Tryd.prog 43 #[.agg #[.int .i64 x, .int .i64 y], .int .i64 k] w fun e w' => e = .returned (.tuple #[.agg #[.int .i64 (sX x y k), .int .i64 (sY x y k)], .bool (sB x y k)]) ∧ Below w.heap.size w w' := by
  have h : isD (k : Int) = true := (isD_iff _).2 (by omega)
  have h3 : sB x y k = true := by simp [sB, h, hn, hm]
  rw [sX_yes h3, sY_yes h3, h3, Int.toNat_natCast]
  clear h3 h
  obtain ⟨⟨x0, x1⟩, y0, y1⟩ := (nrC_iff x y).1 hn
  obtain ⟨dx0, dx1⟩ := dX_range k
  obtain ⟨dy0, dy1⟩ := dY_range k
  go_enter Tryd.func43, Tryd.ntmps43
  go_wp2_with (first | (go_at_call 68; refine (turn_yes _ _ hk).mono ?_; rintro e w' ⟨rfl, rfl⟩) | (go_at_call 53; refine (refnear_any _ _ _).mono ?_; rintro e w1 ⟨rfl, hb⟩; obtain ⟨⟨c0, c1⟩, _, z0⟩ := cells2' hb; obtain ⟨⟨e0, e1⟩, ⟨f0, f1⟩, z1⟩ := cells2'' hb; have HB := hide (bt (box2 w _ _) hb); clear hb))
  refine (refnear_any _ _ _).mono ?_
  rintro e w2 ⟨rfl, hb2⟩
  obtain ⟨⟨g0, g1⟩, ⟨gf0, gf1⟩, z2⟩ := cells2 hb2
  have HB2 := hide (bt (box1 _ _) hb2)
  obtain ⟨⟨e2, e3⟩, f2, f3⟩ := Below.two HB2.out z1 e0 e1 f0 f1
  clear hb2 e0 e1 f0 f1
  go_wp2_with fail
  refine bodyPost_ret (v := .tuple #[.agg #[.int .i64 (x + dX k), .int .i64 (y + dY k)], .bool true]) (by simp [results, Tryd.results43, go_sem, e2, e3]) rfl ⟨rfl, ?_⟩
  exact set2 (bt HB.out HB2.out) (by simp) (by simp)
theorem refstep_any (x y d : Int) (w : World) :
    Calls Tryd.prog 43 #[.agg #[.int .i64 x, .int .i64 y], .int .i64 d] w fun e w' => e = .returned (.tuple #[.agg #[.int .i64 (sX x y d), .int .i64 (sY x y d)], .bool (sB x y d)]) ∧ Below w.heap.size w w' := by
  cases h : isD d
  · exact refstep_no1 x y d w h
  · obtain ⟨h0, h1⟩ := (isD_iff d).1 h
    obtain ⟨k, rfl⟩ := Int.eq_ofNat_of_zero_le h0
    cases hn : nrC x y
    · exact refstep_no2 x y k w (by omega) hn
    · cases hm : nrC (x + dX k) (y + dY k)
      · exact refstep_off x y k w (by omega) hn hm
      · exact refstep_yes x y k w (by omega) hn hm
def oc (d : Int) : Bool := decide (4 ≤ d)
set_option maxHeartbeats 400000 in
theorem corner_any (d : Int) (w : World) : Calls Tryd.prog 70 #[.int .i64 d] w fun e w' => e = .returned (.bool (oc d)) ∧ w' = w := by
  go_enter Tryd.func70, Tryd.ntmps70
  go_wp2
  go_ret
  exact ⟨rfl, rfl⟩
def bkN (k : Nat) : Nat := match k with
  | 0 => 2 | 1 => 3 | 2 => 0 | 3 => 1 | 4 => 6 | 5 => 7 | 6 => 4 | 7 => 5 | _ => 0
def bk (d : Int) : Int := if isD d = true then (bkN d.toNat : Int) else -1
set_option maxHeartbeats 1000000 in
theorem refback_any (d : Int) (w : World) : Calls Tryd.prog 26 #[.int .i64 d] w fun e w' => e = .returned (.int .i64 (bk d)) ∧ w' = w := by
  cases h : isD d
  · rw [show bk d = -1 by simp [bk, h]]
    have h' := (isD_not d).1 h
    by_cases h0 : d < 0
    all_goals
      go_enter Tryd.func26, Tryd.ntmps26
      go_wp2
      go_ret
      exact ⟨rfl, rfl⟩
  · obtain ⟨h0, h1⟩ := (isD_iff d).1 h
    obtain ⟨k, rfl⟩ := Int.eq_ofNat_of_zero_le h0
    have hk : k < 8 := by omega
    clear h0 h1
    match k, hk, h with
    | 0, _, h | 1, _, h | 2, _, h | 3, _, h | 4, _, h | 5, _, h | 6, _, h | 7, _, h =>
      go_enter Tryd.func26, Tryd.ntmps26
      go_wp2
      go_ret
      exact ⟨rfl, rfl⟩
def co (d : Int) : Int := if isD d = true then (if oc d = true then 14 else 10) else 0
set_option maxHeartbeats 1000000 in
theorem cost_any (d : Int) (w : World) : Calls Tryd.prog 48 #[.int .i64 d] w fun e w' => e = .returned (.int .i64 (co d)) ∧ w' = w := by
  cases h : isD d
  · rw [show co d = 0 by simp [co, h]]
    go_enter Tryd.func48, Tryd.ntmps48
    go_wp2_with (go_at_call 69; refine (isdir_any _ _).mono ?_; rintro e w' ⟨rfl, rfl⟩)
    go_ret
    exact ⟨rfl, rfl⟩
  · cases hc : oc d
    · rw [show co d = 10 by simp [co, h, hc]]
      go_enter Tryd.func48, Tryd.ntmps48
      go_wp2_with (first | (go_at_call 69; refine (isdir_any _ _).mono ?_; rintro e w' ⟨rfl, rfl⟩) | (go_at_call 70; refine (corner_any _ _).mono ?_; rintro e w' ⟨rfl, rfl⟩))
      go_ret
      exact ⟨rfl, rfl⟩
    · rw [show co d = 14 by simp [co, h, hc]]
      go_enter Tryd.func48, Tryd.ntmps48
      go_wp2_with (first | (go_at_call 69; refine (isdir_any _ _).mono ?_; rintro e w' ⟨rfl, rfl⟩) | (go_at_call 70; refine (corner_any _ _).mono ?_; rintro e w' ⟨rfl, rfl⟩))
      go_ret
      exact ⟨rfl, rfl⟩
set_option maxHeartbeats 1000000 in
theorem refcost_any (d : Int) (w : World) : Calls Tryd.prog 49 #[.int .i64 d] w fun e w' => e = .returned (.int .i64 (co d)) ∧ w' = w := by
  cases h : isD d
  · rw [show co d = 0 by simp [co, h]]
    have h' := (isD_not d).1 h
    by_cases h0 : d < 0
    all_goals
      go_enter Tryd.func49, Tryd.ntmps49
      go_wp2
      go_ret
      exact ⟨rfl, rfl⟩
  · obtain ⟨h0, h1⟩ := (isD_iff d).1 h
    by_cases h4 : 4 ≤ d
    · rw [show co d = 14 by simp [co, h, oc, h4]]
      go_enter Tryd.func49, Tryd.ntmps49
      go_wp2
      go_ret
      exact ⟨rfl, rfl⟩
    · rw [show co d = 10 by simp [co, h, oc, h4]]
      go_enter Tryd.func49, Tryd.ntmps49
      go_wp2
      go_ret
      exact ⟨rfl, rfl⟩
end Go.Proofs.YthacppifndakjaaDoor
