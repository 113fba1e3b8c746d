/-
  The document's Turn, Step, Sides.
-/
import Derived.Test.YtekpamilcpeanaaDoorSides
import Derived.Test.YtekpamilcpeanaaDoorRefMeet
import Derived.RegionTactic
import Derived.BigRegion
set_option linter.unusedSimpArgs false
namespace Go.Proofs.YtekpamilcpeanaaDoor
open Go.RowKit
set_option linter.unusedVariables false
set_option maxHeartbeats 1000000 in
theorem turn_yes (k : Nat) (w : World) (hk : k < 8) : Calls Tryd.prog 67 #[.int .i64 k] w fun e w' => e = .returned (.tuple #[.int .i64 (dX k), .int .i64 (dY k), .bool true]) ∧ w' = w := by
  match k, hk with
  | 0, _ | 1, _ | 2, _ | 3, _ | 4, _ | 5, _ | 6, _ | 7, _ =>
    go_enter Tryd.func67, Tryd.ntmps67
    go_wp2
    exact bodyPost_ret (v := .tuple #[.int .i64 (dX _), .int .i64 (dY _), .bool true]) (by simp [results, Tryd.results67, go_sem, dX, dY]) rfl ⟨rfl, rfl⟩
set_option maxHeartbeats 1000000 in
theorem turn_no (d : Int) (w : World) (h : isD d = false) : Calls Tryd.prog 67 #[.int .i64 d] w fun e w' => e = .returned (.tuple #[.int .i64 0, .int .i64 0, .bool false]) ∧ w' = w := by
  have h' := (isD_not d).1 h
  have h0 : ¬ d = 0 := by omega
  have h1 : ¬ d = 1 := by omega
  have h2 : ¬ d = 2 := by omega
  have h3 : ¬ d = 3 := by omega
  have h4 : ¬ d = 4 := by omega
  have h5 : ¬ d = 5 := by omega
  have h6 : ¬ d = 6 := by omega
  have h7 : ¬ d = 7 := by omega
  clear h' h
  go_enter Tryd.func67, Tryd.ntmps67
  go_wp2
  exact bodyPost_ret (v := .tuple #[.int .i64 0, .int .i64 0, .bool false]) (by simp [results, Tryd.results67, go_sem]) rfl ⟨rfl, rfl⟩
set_option maxHeartbeats 1000000 in
theorem refstep_no1 (x y d : Int) (w : World) (h : isD d = false) :
    Calls Tryd.prog 45 #[.agg #[.int .i64 x, .int .i64 y], .int .i64 d] w fun e w' => e = .returned (.tuple #[.agg #[.int .i64 (sX x y d), .int .i64 (sY x y d)], .bool (sB x y d)]) ∧ Below w.heap.size w w' := by
  have h3 := sB_no1 (x := x) (y := y) h
  rw [sX_no h3, sY_no h3, h3]
  clear h3
  go_enter Tryd.func45, Tryd.ntmps45
  go_wp2_with (go_at_call 67; refine (turn_no _ _ h).mono ?_; rintro e w' ⟨rfl, rfl⟩)
  refine bodyPost_ret (v := .tuple #[.agg #[.int .i64 0, .int .i64 0], .bool false]) (by simp [results, Tryd.results45, go_sem]) rfl ⟨rfl, ?_⟩
  exact box2 _ _ _
set_option maxHeartbeats 1000000 in
theorem refstep_no2 (x y : Int) (k : Nat) (w : World) (hk : k < 8) (hn : nrC x y = false) :
    Calls Tryd.prog 45 #[.agg #[.int .i64 x, .int .i64 y], .int .i64 k] w fun e w' => e = .returned (.tuple #[.agg #[.int .i64 (sX x y k), .int .i64 (sY x y k)], .bool (sB x y k)]) ∧ Below w.heap.size w w' := by
  have h3 := sB_no2 (d := k) hn
  rw [sX_no h3, sY_no h3, h3]
  clear h3
  go_enter Tryd.func45, Tryd.ntmps45
  go_wp2_with (first | (go_at_call 67; refine (turn_yes _ _ hk).mono ?_; rintro e w' ⟨rfl, rfl⟩) | (go_at_call 12; refine (refnear_any _ _ _).mono ?_; rintro e w1 ⟨rfl, hb⟩; obtain ⟨⟨e0, e1⟩, ⟨f0, f1⟩, z1⟩ := cells2'' hb))
  refine bodyPost_ret (v := .tuple #[.agg #[.int .i64 0, .int .i64 0], .bool false]) (by simp [results, Tryd.results45, go_sem, e0, e1]) rfl ⟨rfl, ?_⟩
  exact set2 (bt (box2 _ _ _) hb) (by simp) (by simp)
set_option maxHeartbeats 1000000 in
theorem refstep_off (x y : Int) (k : Nat) (w : World) (hk : k < 8) (hn : nrC x y = true) (hm : nrC (x + dX k) (y + dY k) = false) :
    Calls Tryd.prog 45 #[.agg #[.int .i64 x, .int .i64 y], .int .i64 k] w fun e w' => e = .returned (.tuple #[.agg #[.int .i64 (sX x y k), .int .i64 (sY x y k)], .bool (sB x y k)]) ∧ Below w.heap.size w w' := by
  have h : isD (k : Int) = true := (isD_iff _).2 (by omega)
  have h3 : sB x y k = false := by simp [sB, h, hn, hm]
  rw [sX_no h3, sY_no h3, h3]
  clear h3 h
  obtain ⟨⟨x0, x1⟩, y0, y1⟩ := (nrC_iff x y).1 hn
  obtain ⟨dx0, dx1⟩ := dX_range k
  obtain ⟨dy0, dy1⟩ := dY_range k
  go_enter Tryd.func45, Tryd.ntmps45
  go_wp2_with (first | (go_at_call 67; refine (turn_yes _ _ hk).mono ?_; rintro e w' ⟨rfl, rfl⟩) | (go_at_call 12; refine (refnear_any _ _ _).mono ?_; rintro e w1 ⟨rfl, hb⟩; obtain ⟨⟨c0, c1⟩, _, z0⟩ := cells2' hb; obtain ⟨⟨e0, e1⟩, ⟨f0, f1⟩, z1⟩ := cells2'' hb; have HB := hide (bt (box2 w _ _) hb); clear hb))
  refine (refnear_any _ _ _).mono ?_
  rintro e w2 ⟨rfl, hb2⟩
  obtain ⟨⟨g0, g1⟩, ⟨gf0, gf1⟩, z2⟩ := cells2 hb2
  have HB2 := hide (bt (box1 _ _) hb2)
  obtain ⟨⟨e2, e3⟩, f2, f3⟩ := Below.two HB2.out z1 e0 e1 f0 f1
  clear hb2 e0 e1 f0 f1
  go_wp2_with fail
  refine bodyPost_ret (v := .tuple #[.agg #[.int .i64 0, .int .i64 0], .bool false]) (by simp [results, Tryd.results45, go_sem, e2, e3]) rfl ⟨rfl, ?_⟩
  exact set2 (bt HB.out HB2.out) (by simp) (by simp)
set_option maxHeartbeats 1000000 in
theorem refstep_yes (x y : Int) (k : Nat) (w : World) (hk : k < 8) (hn : nrC x y = true) (hm : nrC (x + dX k) (y + dY k) = true) :
    Calls Tryd.prog 45 #[.agg #[.int .i64 x, .int .i64 y], .int .i64 k] w fun e w' => e = .returned (.tuple #[.agg #[.int .i64 (sX x y k), .int .i64 (sY x y k)], .bool (sB x y k)]) ∧ Below w.heap.size w w' := by
  have h : isD (k : Int) = true := (isD_iff _).2 (by omega)
  have h3 : sB x y k = true := by simp [sB, h, hn, hm]
  rw [sX_yes h3, sY_yes h3, h3, Int.toNat_natCast]
  clear h3 h
  obtain ⟨⟨x0, x1⟩, y0, y1⟩ := (nrC_iff x y).1 hn
  obtain ⟨dx0, dx1⟩ := dX_range k
  obtain ⟨dy0, dy1⟩ := dY_range k
  go_enter Tryd.func45, Tryd.ntmps45
  go_wp2_with (first | (go_at_call 67; refine (turn_yes _ _ hk).mono ?_; rintro e w' ⟨rfl, rfl⟩) | (go_at_call 12; refine (refnear_any _ _ _).mono ?_; rintro e w1 ⟨rfl, hb⟩; obtain ⟨⟨c0, c1⟩, _, z0⟩ := cells2' hb; obtain ⟨⟨e0, e1⟩, ⟨f0, f1⟩, z1⟩ := cells2'' hb; have HB := hide (bt (box2 w _ _) hb); clear hb))
  refine (refnear_any _ _ _).mono ?_
  rintro e w2 ⟨rfl, hb2⟩
  obtain ⟨⟨g0, g1⟩, ⟨gf0, gf1⟩, z2⟩ := cells2 hb2
  have HB2 := hide (bt (box1 _ _) hb2)
  obtain ⟨⟨e2, e3⟩, f2, f3⟩ := Below.two HB2.out z1 e0 e1 f0 f1
  clear hb2 e0 e1 f0 f1
  go_wp2_with fail
  refine bodyPost_ret (v := .tuple #[.agg #[.int .i64 (x + dX k), .int .i64 (y + dY k)], .bool true]) (by simp [results, Tryd.results45, go_sem, e2, e3]) rfl ⟨rfl, ?_⟩
  exact set2 (bt HB.out HB2.out) (by simp) (by simp)
theorem refstep_any (x y d : Int) (w : World) :
    Calls Tryd.prog 45 #[.agg #[.int .i64 x, .int .i64 y], .int .i64 d] w fun e w' => e = .returned (.tuple #[.agg #[.int .i64 (sX x y d), .int .i64 (sY x y d)], .bool (sB x y d)]) ∧ Below w.heap.size w w' := by
  cases h : isD d
  · exact refstep_no1 x y d w h
  · obtain ⟨h0, h1⟩ := (isD_iff d).1 h
    obtain ⟨k, rfl⟩ := Int.eq_ofNat_of_zero_le h0
    cases hn : nrC x y
    · exact refstep_no2 x y k w (by omega) hn
    · cases hm : nrC (x + dX k) (y + dY k)
      · exact refstep_off x y k w (by omega) hn hm
      · exact refstep_yes x y k w (by omega) hn hm
theorem oc_lt {d : Int} (h : oc d = false) : d < 4 := by simpa [oc] using h
theorem oc_ge {d : Int} (h : oc d = true) : ¬ d < 4 := by simpa [oc] using h
set_option maxHeartbeats 1000000 in
theorem refsides_no (x y d : Int) (w : World) (h : siB x y d = false) :
    Calls Tryd.prog 56 #[.agg #[.int .i64 x, .int .i64 y], .int .i64 d] w fun e w' => e = .returned (sidesV x y d) ∧ Below w.heap.size w w' := by
  rw [sidesV_no h]
  cases hs : sB x y d
  · go_enter Tryd.func56, Tryd.ntmps56
    go_wp2_with (go_at_call 45; refine (refstep_any _ _ _ _).mono ?_; rintro e w1 ⟨rfl, hb1⟩; obtain ⟨⟨⟨c0, c1⟩, _, z0⟩, ⟨⟨e0, e1⟩, ⟨f0, f1⟩, z1⟩, ⟨g0, g1⟩, ⟨k0, k1⟩, z2⟩ := w3_cells hb1; have Hb := hide (bt (w3_below _ _ _) hb1); clear hb1)
    obtain ⟨W, hW, hBW, n0, n1, nz⟩ := named2 w1 (.int .i64 (sX x y d)) (.int .i64 (sY x y d)) 23
    rw [hW]
    obtain ⟨⟨e2, e3⟩, f2, f3⟩ := Below.two hBW z1 e0 e1 f0 f1
    obtain ⟨⟨g2, g3⟩, k2, k3⟩ := Below.two hBW z2 g0 g1 k0 k1
    have HB := hide (bt Hb.out hBW)
    clear hW hBW e0 e1 f0 f1 g0 g1 k0 k1 c0 c1 Hb n0 n1
    go_region
    go_wp2_with fail
    refine bodyPost_ret (v := .tuple #[.agg #[.int .i64 0, .int .i64 0], .agg #[.int .i64 0, .int .i64 0], .bool false]) (by simp [results, Tryd.results56, go_sem, *]) rfl ⟨rfl, ?_⟩
    exact (set2 (set2 HB.out (by simp) (by simp)) (by simp; omega) (by simp; omega)).drew
  · have hc : oc d = false := by simpa [siB, hs] using h
    have hl := oc_lt hc
    go_enter Tryd.func56, Tryd.ntmps56
    go_wp2_with (go_at_call 45; refine (refstep_any _ _ _ _).mono ?_; rintro e w1 ⟨rfl, hb1⟩; obtain ⟨⟨⟨c0, c1⟩, _, z0⟩, ⟨⟨e0, e1⟩, ⟨f0, f1⟩, z1⟩, ⟨g0, g1⟩, ⟨k0, k1⟩, z2⟩ := w3_cells hb1; have Hb := hide (bt (w3_below _ _ _) hb1); clear hb1)
    obtain ⟨W, hW, hBW, n0, n1, nz⟩ := named2 w1 (.int .i64 (sX x y d)) (.int .i64 (sY x y d)) 23
    rw [hW]
    obtain ⟨⟨e2, e3⟩, f2, f3⟩ := Below.two hBW z1 e0 e1 f0 f1
    obtain ⟨⟨g2, g3⟩, k2, k3⟩ := Below.two hBW z2 g0 g1 k0 k1
    have HB := hide (bt Hb.out hBW)
    clear hW hBW e0 e1 f0 f1 g0 g1 k0 k1 c0 c1 Hb n0 n1
    go_region
    go_wp2_with fail
    refine bodyPost_ret (v := .tuple #[.agg #[.int .i64 0, .int .i64 0], .agg #[.int .i64 0, .int .i64 0], .bool false]) (by simp [results, Tryd.results56, go_sem, *]) rfl ⟨rfl, ?_⟩
    exact (set2 (set2 HB.out (by simp) (by simp)) (by simp; omega) (by simp; omega)).drew
set_option maxHeartbeats 1000000 in
theorem refsides_yes (x y : Int) (k : Nat) (w : World) (hk : k < 8) (h : siB x y k = true) :
    Calls Tryd.prog 56 #[.agg #[.int .i64 x, .int .i64 y], .int .i64 k] w fun e w' => e = .returned (sidesV x y k) ∧ Below w.heap.size w w' := by
  rw [sidesV_yes h, Int.toNat_natCast]
  have h2 : sB x y k = true ∧ oc k = true := by simpa [siB] using h
  obtain ⟨hs, hc⟩ := h2
  have hl := oc_ge hc
  have hn : nrC x y = true := by
    cases e : nrC x y
    · rw [sB_no2 e] at hs; cases hs
    · rfl
  have wx : IntKind.i64.wrap (x + dX k) = x + dX k := by
    obtain ⟨⟨x0, x1⟩, y0, y1⟩ := (nrC_iff x y).1 hn
    obtain ⟨dx0, dx1⟩ := dX_range k
    exact wrap_id (by omega) (by omega)
  have wy : IntKind.i64.wrap (y + dY k) = y + dY k := by
    obtain ⟨⟨x0, x1⟩, y0, y1⟩ := (nrC_iff x y).1 hn
    obtain ⟨dx0, dx1⟩ := dY_range k
    exact wrap_id (by omega) (by omega)
  clear h hc
  go_enter Tryd.func56, Tryd.ntmps56
  go_wp2_with (first | (go_at_call 67; refine (turn_yes _ _ hk).mono ?_; rintro e w' ⟨rfl, rfl⟩) | (go_at_call 45; refine (refstep_any _ _ _ _).mono ?_; rintro e w1 ⟨rfl, hb1⟩; obtain ⟨⟨⟨c0, c1⟩, _, z0⟩, ⟨⟨e0, e1⟩, ⟨f0, f1⟩, z1⟩, ⟨g0, g1⟩, ⟨k0, k1⟩, z2⟩ := w3_cells hb1; have Hb := hide (bt (w3_below _ _ _) hb1); clear hb1))
  obtain ⟨W, hW, hBW, n0, n1, nz⟩ := named2 w1 (.int .i64 (sX x y k)) (.int .i64 (sY x y k)) 23
  rw [hW]
  obtain ⟨⟨e2, e3⟩, f2, f3⟩ := Below.two hBW z1 e0 e1 f0 f1
  obtain ⟨⟨g2, g3⟩, k2, k3⟩ := Below.two hBW z2 g0 g1 k0 k1
  have c2 := (hBW.cell (p := ⟨w.heap.size, 0, none⟩) z0).trans c0
  have c3 := (hBW.cell (p := ⟨w.heap.size, 1, none⟩) z0).trans c1
  have HB := hide (bt Hb.out hBW)
  have q5 : ¬ w.heap.size = w.heap.size + 1 + 1 := by omega
  have q6 : ¬ w.heap.size + 1 + 1 = w.heap.size := by omega
  clear hW hBW e0 e1 f0 f1 g0 g1 k0 k1 c0 c1 Hb n0 n1
  go_region_held3 (fun w' => (w'.cell? ⟨w.heap.size, 0, none⟩ = some (.int .i64 x) ∧ w'.cell? ⟨w.heap.size, 1, none⟩ = some (.int .i64 y))) (go_keep) (fail)
  go_wp2_with fail
  refine bodyPost_ret (v := .tuple #[.agg #[.int .i64 (x + dX k), .int .i64 y], .agg #[.int .i64 x, .int .i64 (y + dY k)], .bool true]) (by simp [results, Tryd.results56, go_sem, *]) rfl ⟨rfl, ?_⟩
  exact (set2 (set2 HB.out (by simp) (by simp)) (by simp; omega) (by simp; omega)).drew
theorem siB_dir {x y d : Int} (h : siB x y d = true) : 0 ≤ d ∧ d < 8 := by
  have h2 : sB x y d = true ∧ oc d = true := by simpa [siB] using h
  cases e : isD d
  · rw [sB_no1 e] at h2; cases h2.1
  · exact (isD_iff d).1 e
theorem refsides_any (x y d : Int) (w : World) :
    Calls Tryd.prog 56 #[.agg #[.int .i64 x, .int .i64 y], .int .i64 d] w fun e w' => e = .returned (sidesV x y d) ∧ Below w.heap.size w w' := by
  cases h : siB x y d
  · exact refsides_no x y d w h
  · obtain ⟨h0, h1⟩ := siB_dir h
    obtain ⟨k, rfl⟩ := Int.eq_ofNat_of_zero_le h0
    exact refsides_yes x y k w (by omega) h
end Go.Proofs.YtekpamilcpeanaaDoor
