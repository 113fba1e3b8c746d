/-
  The reference's Sides.
-/
import Derived.Test.YthacppifndakjaaDoorSides
import Derived.RegionTactic
import Derived.BigRegion
namespace Go.Proofs.YthacppifndakjaaDoor
open Go.RowKit
set_option linter.unusedVariables false
theorem oc_lt {d : Int} (h : oc d = false) : d < 4 := by simpa [oc] using h
theorem oc_ge {d : Int} (h : oc d = true) : ¬ d < 4 := by simpa [oc] using h
set_option maxHeartbeats 1000000 in
theorem refsides_no (x y d : Int) (w : World) (h : siB x y d = false) :
    Calls Tryd.prog 44 #[.agg #[.int .i64 x, .int .i64 y], .int .i64 d] w fun e w' => e = .returned (sidesV x y d) ∧ Below w.heap.size w w' := by
  rw [sidesV_no h]
  cases hs : sB x y d
  · go_enter Tryd.func44, Tryd.ntmps44
    go_wp2_with (go_at_call 43; refine (refstep_any _ _ _ _).mono ?_; rintro e w1 ⟨rfl, hb1⟩; obtain ⟨⟨⟨c0, c1⟩, _, z0⟩, ⟨⟨e0, e1⟩, ⟨f0, f1⟩, z1⟩, ⟨g0, g1⟩, ⟨k0, k1⟩, z2⟩ := w3_cells hb1; have Hb := hide (bt (w3_below _ _ _) hb1); clear hb1)
    obtain ⟨W, hW, hBW, n0, n1, nz⟩ := named2 w1 (.int .i64 (sX x y d)) (.int .i64 (sY x y d)) 25
    rw [hW]
    obtain ⟨⟨e2, e3⟩, f2, f3⟩ := Below.two hBW z1 e0 e1 f0 f1
    obtain ⟨⟨g2, g3⟩, k2, k3⟩ := Below.two hBW z2 g0 g1 k0 k1
    have HB := hide (bt Hb.out hBW)
    clear hW hBW e0 e1 f0 f1 g0 g1 k0 k1 c0 c1 Hb n0 n1
    go_region
    go_wp2_with fail
    refine bodyPost_ret (v := .tuple #[.agg #[.int .i64 0, .int .i64 0], .agg #[.int .i64 0, .int .i64 0], .bool false]) (by simp [results, Tryd.results44, go_sem, *]) rfl ⟨rfl, ?_⟩
    exact (set2 (set2 HB.out (by simp) (by simp)) (by simp; omega) (by simp; omega)).drew
  · have hc : oc d = false := by simpa [siB, hs] using h
    have hl := oc_lt hc
    go_enter Tryd.func44, Tryd.ntmps44
    go_wp2_with (go_at_call 43; refine (refstep_any _ _ _ _).mono ?_; rintro e w1 ⟨rfl, hb1⟩; obtain ⟨⟨⟨c0, c1⟩, _, z0⟩, ⟨⟨e0, e1⟩, ⟨f0, f1⟩, z1⟩, ⟨g0, g1⟩, ⟨k0, k1⟩, z2⟩ := w3_cells hb1; have Hb := hide (bt (w3_below _ _ _) hb1); clear hb1)
    obtain ⟨W, hW, hBW, n0, n1, nz⟩ := named2 w1 (.int .i64 (sX x y d)) (.int .i64 (sY x y d)) 25
    rw [hW]
    obtain ⟨⟨e2, e3⟩, f2, f3⟩ := Below.two hBW z1 e0 e1 f0 f1
    obtain ⟨⟨g2, g3⟩, k2, k3⟩ := Below.two hBW z2 g0 g1 k0 k1
    have HB := hide (bt Hb.out hBW)
    clear hW hBW e0 e1 f0 f1 g0 g1 k0 k1 c0 c1 Hb n0 n1
    go_region
    go_wp2_with fail
    refine bodyPost_ret (v := .tuple #[.agg #[.int .i64 0, .int .i64 0], .agg #[.int .i64 0, .int .i64 0], .bool false]) (by simp [results, Tryd.results44, go_sem, *]) rfl ⟨rfl, ?_⟩
    exact (set2 (set2 HB.out (by simp) (by simp)) (by simp; omega) (by simp; omega)).drew
set_option maxHeartbeats 1000000 in
theorem refsides_yes (x y : Int) (k : Nat) (w : World) (hk : k < 8) (h : siB x y k = true) :
    Calls Tryd.prog 44 #[.agg #[.int .i64 x, .int .i64 y], .int .i64 k] w fun e w' => e = .returned (sidesV x y k) ∧ Below w.heap.size w w' := by
  rw [sidesV_yes h, Int.toNat_natCast]
  have h2 : sB x y k = true ∧ oc k = true := by simpa [siB] using h
  obtain ⟨hs, hc⟩ := h2
  have hl := oc_ge hc
  have hn : nrC x y = true := by
    cases e : nrC x y
    · rw [sB_no2 e] at hs; cases hs
    · rfl
  have wx : IntKind.i64.wrap (x + dX k) = x + dX k := by
    obtain ⟨⟨x0, x1⟩, y0, y1⟩ := (nrC_iff x y).1 hn
    obtain ⟨dx0, dx1⟩ := dX_range k
    exact wrap_id (by omega) (by omega)
  have wy : IntKind.i64.wrap (y + dY k) = y + dY k := by
    obtain ⟨⟨x0, x1⟩, y0, y1⟩ := (nrC_iff x y).1 hn
    obtain ⟨dx0, dx1⟩ := dY_range k
    exact wrap_id (by omega) (by omega)
  clear h hc
  go_enter Tryd.func44, Tryd.ntmps44
  go_wp2_with (first | (go_at_call 68; refine (turn_yes _ _ hk).mono ?_; rintro e w' ⟨rfl, rfl⟩) | (go_at_call 43; refine (refstep_any _ _ _ _).mono ?_; rintro e w1 ⟨rfl, hb1⟩; obtain ⟨⟨⟨c0, c1⟩, _, z0⟩, ⟨⟨e0, e1⟩, ⟨f0, f1⟩, z1⟩, ⟨g0, g1⟩, ⟨k0, k1⟩, z2⟩ := w3_cells hb1; have Hb := hide (bt (w3_below _ _ _) hb1); clear hb1))
  obtain ⟨W, hW, hBW, n0, n1, nz⟩ := named2 w1 (.int .i64 (sX x y k)) (.int .i64 (sY x y k)) 25
  rw [hW]
  obtain ⟨⟨e2, e3⟩, f2, f3⟩ := Below.two hBW z1 e0 e1 f0 f1
  obtain ⟨⟨g2, g3⟩, k2, k3⟩ := Below.two hBW z2 g0 g1 k0 k1
  have c2 := (hBW.cell (p := ⟨w.heap.size, 0, none⟩) z0).trans c0
  have c3 := (hBW.cell (p := ⟨w.heap.size, 1, none⟩) z0).trans c1
  have HB := hide (bt Hb.out hBW)
  have q5 : ¬ w.heap.size = w.heap.size + 1 + 1 := by omega
  have q6 : ¬ w.heap.size + 1 + 1 = w.heap.size := by omega
  clear hW hBW e0 e1 f0 f1 g0 g1 k0 k1 c0 c1 Hb n0 n1
  go_region_held3 (fun w' => (w'.cell? ⟨w.heap.size, 0, none⟩ = some (.int .i64 x) ∧ w'.cell? ⟨w.heap.size, 1, none⟩ = some (.int .i64 y))) (go_keep) (fail)
  go_wp2_with fail
  refine bodyPost_ret (v := .tuple #[.agg #[.int .i64 (x + dX k), .int .i64 y], .agg #[.int .i64 x, .int .i64 (y + dY k)], .bool true]) (by simp [results, Tryd.results44, go_sem, *]) rfl ⟨rfl, ?_⟩
  exact (set2 (set2 HB.out (by simp) (by simp)) (by simp; omega) (by simp; omega)).drew
theorem siB_dir {x y d : Int} (h : siB x y d = true) : 0 ≤ d ∧ d < 8 := by
  have h2 : sB x y d = true ∧ oc d = true := by simpa [siB] using h
  cases e : isD d
  · rw [sB_no1 e] at h2; cases h2.1
  · exact (isD_iff d).1 e
theorem refsides_any (x y d : Int) (w : World) :
    Calls Tryd.prog 44 #[.agg #[.int .i64 x, .int .i64 y], .int .i64 d] w fun e w' => e = .returned (sidesV x y d) ∧ Below w.heap.size w w' := by
  cases h : siB x y d
  · exact refsides_no x y d w h
  · obtain ⟨h0, h1⟩ := siB_dir h
    obtain ⟨k, rfl⟩ := Int.eq_ofNat_of_zero_le h0
    exact refsides_yes x y k w (by omega) h
end Go.Proofs.YthacppifndakjaaDoor
