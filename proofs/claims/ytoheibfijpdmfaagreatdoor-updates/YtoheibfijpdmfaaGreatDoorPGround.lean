/-
  The document's Turn, Step, Sides. The document's ground: where a shape stands, cell by cell of a world (Of, Stands). The document's ground: Stands, Steps. Legal steps over a ground are steps among joined cells; how many cells have no number yet; a stack's last one taken off. The document's Labels: the numbers of all cells' parts, by a search with a stack.
-/
import Derived.Test.YtoheibfijpdmfaaGreatDoorStep
import Derived.Test.YtoheibfijpdmfaaGreatDoorRefMeet
import Derived.RegionTactic
import Derived.BigRegion
import Derived.Test.YtoheibfijpdmfaaGreatDoorPMake
set_option linter.unusedSimpArgs false
namespace Go.Proofs.YtoheibfijpdmfaaGreatDoor
open Go.RowKit
set_option linter.unusedSectionVars false
variable [DecCn : ∀ (St : Nat → Bool) (Ad : Nat → Nat → Prop) (k i : Nat), Decidable (Cn St Ad k i)]
set_option linter.unusedVariables false
set_option maxHeartbeats 1000000 in
theorem turn_yes (k : Nat) (w : World) (hk : k < 8) : Calls Tryz.prog 83 #[.int .i64 k] w fun e w' => e = .returned (.tuple #[.int .i64 (dX k), .int .i64 (dY k), .bool true]) ∧ w' = w := by
  match k, hk with
  | 0, _ | 1, _ | 2, _ | 3, _ | 4, _ | 5, _ | 6, _ | 7, _ =>
    go_enter Tryz.func83, Tryz.ntmps83
    go_wp2
    exact bodyPost_ret (v := .tuple #[.int .i64 (dX _), .int .i64 (dY _), .bool true]) (by simp [results, Tryz.results83, go_sem, dX, dY]) rfl ⟨rfl, rfl⟩
set_option maxHeartbeats 1000000 in
theorem turn_no (d : Int) (w : World) (h : isD d = false) : Calls Tryz.prog 83 #[.int .i64 d] w fun e w' => e = .returned (.tuple #[.int .i64 0, .int .i64 0, .bool false]) ∧ w' = w := by
  have h' := (isD_not d).1 h
  have h0 : ¬ d = 0 := by omega
  have h1 : ¬ d = 1 := by omega
  have h2 : ¬ d = 2 := by omega
  have h3 : ¬ d = 3 := by omega
  have h4 : ¬ d = 4 := by omega
  have h5 : ¬ d = 5 := by omega
  have h6 : ¬ d = 6 := by omega
  have h7 : ¬ d = 7 := by omega
  clear h' h
  go_enter Tryz.func83, Tryz.ntmps83
  go_wp2
  exact bodyPost_ret (v := .tuple #[.int .i64 0, .int .i64 0, .bool false]) (by simp [results, Tryz.results83, go_sem]) rfl ⟨rfl, rfl⟩
set_option maxHeartbeats 1000000 in
theorem refstep_no1 (x y d : Int) (w : World) (h : isD d = false) :
    Calls Tryz.prog 53 #[.agg #[.int .i64 x, .int .i64 y], .int .i64 d] w fun e w' => e = .returned (.tuple #[.agg #[.int .i64 (sX x y d), .int .i64 (sY x y d)], .bool (sB x y d)]) ∧ Below w.heap.size w w' := by
  have h3 := sB_no1 (x := x) (y := y) h
  rw [sX_no h3, sY_no h3, h3]
  clear h3
  go_enter Tryz.func53, Tryz.ntmps53
  go_wp2_with (go_at_call 83; refine (turn_no _ _ h).mono ?_; rintro e w' ⟨rfl, rfl⟩)
  refine bodyPost_ret (v := .tuple #[.agg #[.int .i64 0, .int .i64 0], .bool false]) (by simp [results, Tryz.results53, go_sem]) rfl ⟨rfl, ?_⟩
  exact box2 _ _ _
set_option maxHeartbeats 1000000 in
theorem refstep_no2 (x y : Int) (k : Nat) (w : World) (hk : k < 8) (hn : nrC x y = false) :
    Calls Tryz.prog 53 #[.agg #[.int .i64 x, .int .i64 y], .int .i64 k] w fun e w' => e = .returned (.tuple #[.agg #[.int .i64 (sX x y k), .int .i64 (sY x y k)], .bool (sB x y k)]) ∧ Below w.heap.size w w' := by
  have h3 := sB_no2 (d := k) hn
  rw [sX_no h3, sY_no h3, h3]
  clear h3
  go_enter Tryz.func53, Tryz.ntmps53
  go_wp2_with (first | (go_at_call 83; refine (turn_yes _ _ hk).mono ?_; rintro e w' ⟨rfl, rfl⟩) | (go_at_call 84; refine (refnear_any _ _ _).mono ?_; rintro e w1 ⟨rfl, hb⟩; obtain ⟨⟨e0, e1⟩, ⟨f0, f1⟩, z1⟩ := cells2'' hb))
  refine bodyPost_ret (v := .tuple #[.agg #[.int .i64 0, .int .i64 0], .bool false]) (by simp [results, Tryz.results53, go_sem, e0, e1]) rfl ⟨rfl, ?_⟩
  exact set2 (bt (box2 _ _ _) hb) (by simp) (by simp)
set_option maxHeartbeats 1000000 in
theorem refstep_off (x y : Int) (k : Nat) (w : World) (hk : k < 8) (hn : nrC x y = true) (hm : nrC (x + dX k) (y + dY k) = false) :
    Calls Tryz.prog 53 #[.agg #[.int .i64 x, .int .i64 y], .int .i64 k] w fun e w' => e = .returned (.tuple #[.agg #[.int .i64 (sX x y k), .int .i64 (sY x y k)], .bool (sB x y k)]) ∧ Below w.heap.size w w' := by
  have h : isD (k : Int) = true := (isD_iff _).2 (by omega)
  have h3 : sB x y k = false := by simp [sB, h, hn, hm]
  rw [sX_no h3, sY_no h3, h3]
  clear h3 h
  obtain ⟨⟨x0, x1⟩, y0, y1⟩ := (nrC_iff x y).1 hn
  obtain ⟨dx0, dx1⟩ := dX_range k
  obtain ⟨dy0, dy1⟩ := dY_range k
  go_enter Tryz.func53, Tryz.ntmps53
  go_wp2_with (first | (go_at_call 83; refine (turn_yes _ _ hk).mono ?_; rintro e w' ⟨rfl, rfl⟩) | (go_at_call 84; refine (refnear_any _ _ _).mono ?_; rintro e w1 ⟨rfl, hb⟩; obtain ⟨⟨c0, c1⟩, _, z0⟩ := cells2' hb; obtain ⟨⟨e0, e1⟩, ⟨f0, f1⟩, z1⟩ := cells2'' hb; have HB := hide (bt (box2 w _ _) hb); clear hb))
  refine (refnear_any _ _ _).mono ?_
  rintro e w2 ⟨rfl, hb2⟩
  obtain ⟨⟨g0, g1⟩, ⟨gf0, gf1⟩, z2⟩ := cells2 hb2
  have HB2 := hide (bt (box1 _ _) hb2)
  obtain ⟨⟨e2, e3⟩, f2, f3⟩ := Below.two HB2.out z1 e0 e1 f0 f1
  clear hb2 e0 e1 f0 f1
  go_wp2_with fail
  refine bodyPost_ret (v := .tuple #[.agg #[.int .i64 0, .int .i64 0], .bool false]) (by simp [results, Tryz.results53, go_sem, e2, e3]) rfl ⟨rfl, ?_⟩
  exact set2 (bt HB.out HB2.out) (by simp) (by simp)
set_option maxHeartbeats 1000000 in
theorem refstep_yes (x y : Int) (k : Nat) (w : World) (hk : k < 8) (hn : nrC x y = true) (hm : nrC (x + dX k) (y + dY k) = true) :
    Calls Tryz.prog 53 #[.agg #[.int .i64 x, .int .i64 y], .int .i64 k] w fun e w' => e = .returned (.tuple #[.agg #[.int .i64 (sX x y k), .int .i64 (sY x y k)], .bool (sB x y k)]) ∧ Below w.heap.size w w' := by
  have h : isD (k : Int) = true := (isD_iff _).2 (by omega)
  have h3 : sB x y k = true := by simp [sB, h, hn, hm]
  rw [sX_yes h3, sY_yes h3, h3, Int.toNat_natCast]
  clear h3 h
  obtain ⟨⟨x0, x1⟩, y0, y1⟩ := (nrC_iff x y).1 hn
  obtain ⟨dx0, dx1⟩ := dX_range k
  obtain ⟨dy0, dy1⟩ := dY_range k
  go_enter Tryz.func53, Tryz.ntmps53
  go_wp2_with (first | (go_at_call 83; refine (turn_yes _ _ hk).mono ?_; rintro e w' ⟨rfl, rfl⟩) | (go_at_call 84; refine (refnear_any _ _ _).mono ?_; rintro e w1 ⟨rfl, hb⟩; obtain ⟨⟨c0, c1⟩, _, z0⟩ := cells2' hb; obtain ⟨⟨e0, e1⟩, ⟨f0, f1⟩, z1⟩ := cells2'' hb; have HB := hide (bt (box2 w _ _) hb); clear hb))
  refine (refnear_any _ _ _).mono ?_
  rintro e w2 ⟨rfl, hb2⟩
  obtain ⟨⟨g0, g1⟩, ⟨gf0, gf1⟩, z2⟩ := cells2 hb2
  have HB2 := hide (bt (box1 _ _) hb2)
  obtain ⟨⟨e2, e3⟩, f2, f3⟩ := Below.two HB2.out z1 e0 e1 f0 f1
  clear hb2 e0 e1 f0 f1
  go_wp2_with fail
  refine bodyPost_ret (v := .tuple #[.agg #[.int .i64 (x + dX k), .int .i64 (y + dY k)], .bool true]) (by simp [results, Tryz.results53, go_sem, e2, e3]) rfl ⟨rfl, ?_⟩
  exact set2 (bt HB.out HB2.out) (by simp) (by simp)
theorem refstep_any (x y d : Int) (w : World) :
    Calls Tryz.prog 53 #[.agg #[.int .i64 x, .int .i64 y], .int .i64 d] w fun e w' => e = .returned (.tuple #[.agg #[.int .i64 (sX x y d), .int .i64 (sY x y d)], .bool (sB x y d)]) ∧ Below w.heap.size w w' := by
  cases h : isD d
  · exact refstep_no1 x y d w h
  · obtain ⟨h0, h1⟩ := (isD_iff d).1 h
    obtain ⟨k, rfl⟩ := Int.eq_ofNat_of_zero_le h0
    cases hn : nrC x y
    · exact refstep_no2 x y k w (by omega) hn
    · cases hm : nrC (x + dX k) (y + dY k)
      · exact refstep_off x y k w (by omega) hn hm
      · exact refstep_yes x y k w (by omega) hn hm
def oc (d : Int) : Bool := decide (4 ≤ d)
def siB (x y d : Int) : Bool := sB x y d && oc d
def siX (x y d : Int) : Int := if siB x y d = true then x + dX d.toNat else 0
def siY (x y d : Int) : Int := if siB x y d = true then y + dY d.toNat else 0
def si0 (x y d z : Int) : Int := if siB x y d = true then z else 0
abbrev sidesV (x y d : Int) : Value := .tuple #[.agg #[.int .i64 (siX x y d), .int .i64 (si0 x y d y)], .agg #[.int .i64 (si0 x y d x), .int .i64 (siY x y d)], .bool (siB x y d)]
theorem sidesV_no {x y d : Int} (h : siB x y d = false) : sidesV x y d = .tuple #[.agg #[.int .i64 0, .int .i64 0], .agg #[.int .i64 0, .int .i64 0], .bool false] := by simp [sidesV, siX, siY, si0, h]
theorem sidesV_yes {x y d : Int} (h : siB x y d = true) : sidesV x y d = .tuple #[.agg #[.int .i64 (x + dX d.toNat), .int .i64 y], .agg #[.int .i64 x, .int .i64 (y + dY d.toNat)], .bool true] := by simp [sidesV, siX, siY, si0, h]
abbrev W3 (w : World) (x y : Int) : World := ((w.alloc (.cells #[.int .i64 x, .int .i64 y] 46)).alloc (.cells #[.int .i64 0, .int .i64 0] 46)).alloc (.cells #[.int .i64 0, .int .i64 0] 46)
theorem w3_below (w : World) (x y : Int) : Below w.heap.size w (W3 w x y) := bt (box2 _ _ _) (box1 _ _)
theorem w3_cells {w w1 : World} {x y : Int} (h : Below (W3 w x y).heap.size (W3 w x y) w1) :
    ((w1.cell? ⟨w.heap.size, 0, none⟩ = some (.int .i64 x) ∧ w1.cell? ⟨w.heap.size, 1, none⟩ = some (.int .i64 y)) ∧ (w1.frozen? ⟨w.heap.size, 0, none⟩ = false ∧ w1.frozen? ⟨w.heap.size, 1, none⟩ = false) ∧ w.heap.size < w1.heap.size) ∧
    ((w1.cell? ⟨w.heap.size + 1, 0, none⟩ = some (.int .i64 0) ∧ w1.cell? ⟨w.heap.size + 1, 1, none⟩ = some (.int .i64 0)) ∧ (w1.frozen? ⟨w.heap.size + 1, 0, none⟩ = false ∧ w1.frozen? ⟨w.heap.size + 1, 1, none⟩ = false) ∧ w.heap.size + 1 < w1.heap.size) ∧
    ((w1.cell? ⟨w.heap.size + 1 + 1, 0, none⟩ = some (.int .i64 0) ∧ w1.cell? ⟨w.heap.size + 1 + 1, 1, none⟩ = some (.int .i64 0)) ∧ (w1.frozen? ⟨w.heap.size + 1 + 1, 0, none⟩ = false ∧ w1.frozen? ⟨w.heap.size + 1 + 1, 1, none⟩ = false) ∧ w.heap.size + 1 + 1 < w1.heap.size) := by
  refine ⟨cells2' (bt (box1 _ _) h), cells2'' (bt (box1 _ _) h), ?_⟩
  have := cells2'' (w := w.alloc (.cells #[.int .i64 x, .int .i64 y] 46)) h
  simpa using this
theorem named2 (w1 : World) (a b : Value) (t : TypeId) : ∃ W, w1.alloc (.cells #[a, b] t) = W ∧ Below w1.heap.size w1 W ∧ W.cell? ⟨w1.heap.size, 0, none⟩ = some a ∧ W.cell? ⟨w1.heap.size, 1, none⟩ = some b ∧ w1.heap.size < W.heap.size := by
  obtain ⟨⟨h0, h1⟩, _, hz⟩ := cells2 (Below.refl (w1.alloc (.cells #[a, b] t)).heap.size (w1.alloc (.cells #[a, b] t)))
  exact ⟨_, rfl, box1 _ _, h0, h1, hz⟩
theorem oc_lt {d : Int} (h : oc d = false) : d < 4 := by simpa [oc] using h
theorem oc_ge {d : Int} (h : oc d = true) : ¬ d < 4 := by simpa [oc] using h
set_option maxHeartbeats 1000000 in
theorem refsides_no (x y d : Int) (w : World) (h : siB x y d = false) :
    Calls Tryz.prog 55 #[.agg #[.int .i64 x, .int .i64 y], .int .i64 d] w fun e w' => e = .returned (sidesV x y d) ∧ Below w.heap.size w w' := by
  rw [sidesV_no h]
  cases hs : sB x y d
  · go_enter Tryz.func55, Tryz.ntmps55
    go_wp2_with (go_at_call 53; refine (refstep_any _ _ _ _).mono ?_; rintro e w1 ⟨rfl, hb1⟩; obtain ⟨⟨⟨c0, c1⟩, _, z0⟩, ⟨⟨e0, e1⟩, ⟨f0, f1⟩, z1⟩, ⟨g0, g1⟩, ⟨k0, k1⟩, z2⟩ := w3_cells hb1; have Hb := hide (bt (w3_below _ _ _) hb1); clear hb1)
    obtain ⟨W, hW, hBW, n0, n1, nz⟩ := named2 w1 (.int .i64 (sX x y d)) (.int .i64 (sY x y d)) 46
    rw [hW]
    obtain ⟨⟨e2, e3⟩, f2, f3⟩ := Below.two hBW z1 e0 e1 f0 f1
    obtain ⟨⟨g2, g3⟩, k2, k3⟩ := Below.two hBW z2 g0 g1 k0 k1
    have HB := hide (bt Hb.out hBW)
    clear hW hBW e0 e1 f0 f1 g0 g1 k0 k1 c0 c1 Hb n0 n1
    go_region
    go_wp2_with fail
    refine bodyPost_ret (v := .tuple #[.agg #[.int .i64 0, .int .i64 0], .agg #[.int .i64 0, .int .i64 0], .bool false]) (by simp [results, Tryz.results55, go_sem, *]) rfl ⟨rfl, ?_⟩
    exact (set2 (set2 HB.out (by simp) (by simp)) (by simp; omega) (by simp; omega)).drew
  · have hc : oc d = false := by simpa [siB, hs] using h
    have hl := oc_lt hc
    go_enter Tryz.func55, Tryz.ntmps55
    go_wp2_with (go_at_call 53; refine (refstep_any _ _ _ _).mono ?_; rintro e w1 ⟨rfl, hb1⟩; obtain ⟨⟨⟨c0, c1⟩, _, z0⟩, ⟨⟨e0, e1⟩, ⟨f0, f1⟩, z1⟩, ⟨g0, g1⟩, ⟨k0, k1⟩, z2⟩ := w3_cells hb1; have Hb := hide (bt (w3_below _ _ _) hb1); clear hb1)
    obtain ⟨W, hW, hBW, n0, n1, nz⟩ := named2 w1 (.int .i64 (sX x y d)) (.int .i64 (sY x y d)) 46
    rw [hW]
    obtain ⟨⟨e2, e3⟩, f2, f3⟩ := Below.two hBW z1 e0 e1 f0 f1
    obtain ⟨⟨g2, g3⟩, k2, k3⟩ := Below.two hBW z2 g0 g1 k0 k1
    have HB := hide (bt Hb.out hBW)
    clear hW hBW e0 e1 f0 f1 g0 g1 k0 k1 c0 c1 Hb n0 n1
    go_region
    go_wp2_with fail
    refine bodyPost_ret (v := .tuple #[.agg #[.int .i64 0, .int .i64 0], .agg #[.int .i64 0, .int .i64 0], .bool false]) (by simp [results, Tryz.results55, go_sem, *]) rfl ⟨rfl, ?_⟩
    exact (set2 (set2 HB.out (by simp) (by simp)) (by simp; omega) (by simp; omega)).drew
set_option maxHeartbeats 1000000 in
theorem refsides_yes (x y : Int) (k : Nat) (w : World) (hk : k < 8) (h : siB x y k = true) :
    Calls Tryz.prog 55 #[.agg #[.int .i64 x, .int .i64 y], .int .i64 k] w fun e w' => e = .returned (sidesV x y k) ∧ Below w.heap.size w w' := by
  rw [sidesV_yes h, Int.toNat_natCast]
  have h2 : sB x y k = true ∧ oc k = true := by simpa [siB] using h
  obtain ⟨hs, hc⟩ := h2
  have hl := oc_ge hc
  have hn : nrC x y = true := by
    cases e : nrC x y
    · rw [sB_no2 e] at hs; cases hs
    · rfl
  have wx : IntKind.i64.wrap (x + dX k) = x + dX k := by
    obtain ⟨⟨x0, x1⟩, y0, y1⟩ := (nrC_iff x y).1 hn
    obtain ⟨dx0, dx1⟩ := dX_range k
    exact wrap_id (by omega) (by omega)
  have wy : IntKind.i64.wrap (y + dY k) = y + dY k := by
    obtain ⟨⟨x0, x1⟩, y0, y1⟩ := (nrC_iff x y).1 hn
    obtain ⟨dx0, dx1⟩ := dY_range k
    exact wrap_id (by omega) (by omega)
  clear h hc
  go_enter Tryz.func55, Tryz.ntmps55
  go_wp2_with (first | (go_at_call 83; refine (turn_yes _ _ hk).mono ?_; rintro e w' ⟨rfl, rfl⟩) | (go_at_call 53; refine (refstep_any _ _ _ _).mono ?_; rintro e w1 ⟨rfl, hb1⟩; obtain ⟨⟨⟨c0, c1⟩, _, z0⟩, ⟨⟨e0, e1⟩, ⟨f0, f1⟩, z1⟩, ⟨g0, g1⟩, ⟨k0, k1⟩, z2⟩ := w3_cells hb1; have Hb := hide (bt (w3_below _ _ _) hb1); clear hb1))
  obtain ⟨W, hW, hBW, n0, n1, nz⟩ := named2 w1 (.int .i64 (sX x y k)) (.int .i64 (sY x y k)) 46
  rw [hW]
  obtain ⟨⟨e2, e3⟩, f2, f3⟩ := Below.two hBW z1 e0 e1 f0 f1
  obtain ⟨⟨g2, g3⟩, k2, k3⟩ := Below.two hBW z2 g0 g1 k0 k1
  have c2 := (hBW.cell (p := ⟨w.heap.size, 0, none⟩) z0).trans c0
  have c3 := (hBW.cell (p := ⟨w.heap.size, 1, none⟩) z0).trans c1
  have HB := hide (bt Hb.out hBW)
  have q5 : ¬ w.heap.size = w.heap.size + 1 + 1 := by omega
  have q6 : ¬ w.heap.size + 1 + 1 = w.heap.size := by omega
  clear hW hBW e0 e1 f0 f1 g0 g1 k0 k1 c0 c1 Hb n0 n1
  go_region_held3 (fun w' => (w'.cell? ⟨w.heap.size, 0, none⟩ = some (.int .i64 x) ∧ w'.cell? ⟨w.heap.size, 1, none⟩ = some (.int .i64 y))) (go_keep) (fail)
  go_wp2_with fail
  refine bodyPost_ret (v := .tuple #[.agg #[.int .i64 (x + dX k), .int .i64 y], .agg #[.int .i64 x, .int .i64 (y + dY k)], .bool true]) (by simp [results, Tryz.results55, go_sem, *]) rfl ⟨rfl, ?_⟩
  exact (set2 (set2 HB.out (by simp) (by simp)) (by simp; omega) (by simp; omega)).drew
theorem siB_dir {x y d : Int} (h : siB x y d = true) : 0 ≤ d ∧ d < 8 := by
  have h2 : sB x y d = true ∧ oc d = true := by simpa [siB] using h
  cases e : isD d
  · rw [sB_no1 e] at h2; cases h2.1
  · exact (isD_iff d).1 e
theorem refsides_any (x y d : Int) (w : World) :
    Calls Tryz.prog 55 #[.agg #[.int .i64 x, .int .i64 y], .int .i64 d] w fun e w' => e = .returned (sidesV x y d) ∧ Below w.heap.size w w' := by
  cases h : siB x y d
  · exact refsides_no x y d w h
  · obtain ⟨h0, h1⟩ := siB_dir h
    obtain ⟨k, rfl⟩ := Int.eq_ofNat_of_zero_le h0
    exact refsides_yes x y k w (by omega) h
end Go.Proofs.YtoheibfijpdmfaaGreatDoor
set_option linter.unusedSimpArgs false
namespace Go.Proofs.YtoheibfijpdmfaaGreatDoor
open Go.RowKit Go.Shelf
set_option linter.unusedSectionVars false
variable [DecCn : ∀ (St : Nat → Bool) (Ad : Nat → Nat → Prop) (k i : Nat), Decidable (Cn St Ad k i)]
set_option linter.unusedVariables false
def cB (b : Bool) : List Value := [.bool b]
theorem cB_len (b : Bool) : (cB b).length = 1 := rfl
/-- The ground as a value. -/
abbrev gdv (wd ht : Nat) (iv : Value) : Value := .agg #[.int .i64 (wd : Nat), .int .i64 (ht : Nat), iv]
/-- A ground in a block of its own. -/
def GB (w : World) (B wd ht : Nat) (iv : Value) : Prop := w.heap[B]? = some (.cells #[.int .i64 (wd : Nat), .int .i64 (ht : Nat), iv] 41 (0, 0))
theorem GB.lt {w : World} {B wd ht : Nat} {iv : Value} (h : GB w B wd ht iv) : B < w.heap.size := (Array.getElem?_eq_some_iff.1 h).1
theorem GB.upto {w w' : World} {B wd ht : Nat} {iv : Value} (h : GB w B wd ht iv) (hb : Below w.heap.size w w') : GB w' B wd ht iv := (hb.block B h.lt).trans h
theorem GB.kept {S : Nat → Prop} {w w' : World} {B wd ht : Nat} {iv : Value} (h : GB w B wd ht iv) (ht' : Turns S w w') (hs : ¬ S B) : GB w' B wd ht iv := ht'.same hs h
theorem GB.c {w : World} {B wd ht : Nat} {iv : Value} (h : GB w B wd ht iv) : (w.cell? ⟨B, 0, none⟩ = some (.int .i64 (wd : Nat)) ∧ w.cell? ⟨B, 1, none⟩ = some (.int .i64 (ht : Nat))) ∧ w.cell? ⟨B, 2, none⟩ = some iv := ⟨⟨cell_of_row w B 0 _ _ _ h, cell_of_row w B 1 _ _ _ h⟩, cell_of_row w B 2 _ _ _ h⟩
theorem GB.fz {w : World} {B wd ht : Nat} {iv : Value} (h : GB w B wd ht iv) (j : Nat) : w.frozen? ⟨B, j, none⟩ = false := by
  have h' : w.heap[B]? = _ := h
  simp [World.frozen?, h']
theorem GB.set {w : World} {B wd ht : Nat} {iv : Value} (h : GB w B wd ht iv) (u : Value) : GB (w.setCell ⟨B, 2, none⟩ u) B wd ht u := by
  have h' : w.heap[B]? = _ := h
  unfold GB
  simp [World.setCell, Array.getElem?_modify, h']
theorem GB.all {w : World} {B a b : Nat} {iv : Value} (h : GB w B a b iv) (x y : Nat) (v : Value) : GB (((w.setCell ⟨B, 0, none⟩ (.int .i64 (x : Nat))).setCell ⟨B, 1, none⟩ (.int .i64 (y : Nat))).setCell ⟨B, 2, none⟩ v) B x y v := by
  have h' : w.heap[B]? = _ := h
  unfold GB
  simp [World.setCell, Array.getElem?_modify, h']
theorem set3 {S : Nat → Prop} (w : World) (B : Nat) (hS : S B) (x y z : Value) : Turns S w (((w.setCell ⟨B, 0, none⟩ x).setCell ⟨B, 1, none⟩ y).setCell ⟨B, 2, none⟩ z) := ((Turns.set (S := S) w (p := ⟨B, 0, none⟩) hS x).trans ((Turns.set (S := S) _ (p := ⟨B, 1, none⟩) hS y).mono (fun _ _ h => .inl h))).trans ((Turns.set (S := S) _ (p := ⟨B, 2, none⟩) hS z).mono (fun _ _ h => .inl h))
theorem GB.new (w : World) (wd ht : Nat) (iv : Value) : GB (w.alloc (.cells #[.int .i64 (wd : Nat), .int .i64 (ht : Nat), iv] 41)) w.heap.size wd ht iv := heap_alloc_new w _
theorem info4b : (Tryz.prog.info? 4).map (fun i => (i.zero, i.size, i.bytes)) = some (some (.bool false), 1, 1) := by kernel_rfl
/-- What Of keeps: so many cells told. -/
structure Og (w0 W : World) (B wd ht : Nat) (cl : Int) (s : Nat) (f : Nat → Bool) (iv : Value) (k : Nat) : Prop where
  gb : GB W B wd ht iv
  row : Rw 4 1 cB W iv ((List.range k).map f)
  bl : Below w0.heap.size w0 W
  own : ∀ g, iv.ownBlock = some g → w0.heap.size + 2 ≤ g
  hB : w0.heap.size + 2 ≤ B
  sh : Two W w0.heap.size cl (s : Nat)
  res : GB W (w0.heap.size + 1) 0 0 (.slice none 0 0)
section
variable {w0 W W' : World} {B wd ht : Nat} {cl : Int} {s : Nat} {f : Nat → Bool} {iv : Value} {k : Nat}
theorem Og.upto (h : Og w0 W B wd ht cl s f iv k) (hb : Below W.heap.size W W') : Og w0 W' B wd ht cl s f iv k := ⟨h.gb.upto hb, h.row.upto hb, bt h.bl hb, h.own, h.hB, h.sh.kept hb, h.res.upto hb⟩
theorem Og.grow {v' : Value} (h : Og w0 W B wd ht cl s f iv k) (hown : W'.ownsRow 0 4 1 v' (k + 1) (((List.range k).map f).flatMap cB ++ [.bool (f k)])) (hgrow : W.grownBy W' iv.ownBlock) (hloc : v'.ownBlock = iv.ownBlock ∨ v'.ownBlock = some W.heap.size) :
    GB W' B wd ht iv ∧ Two W' w0.heap.size cl (s : Nat) ∧ Og w0 (W'.setCell ⟨B, 2, none⟩ v') B wd ht cl s f v' (k + 1) := by
  obtain ⟨h1, hrow, hbl, how, hB, hsh, hres⟩ := h
  have T : Turns (fun k => iv.ownBlock = some k) W W' := Turns.of_grown hgrow (fun k e => e)
  have P' := h1.kept T (fun e => hrow.ne e h1 (by decide) rfl)
  have TS : Turns (fun k => k = B) W' (W'.setCell ⟨B, 2, none⟩ v') := Turns.set (S := fun k => k = B) W' (p := ⟨B, 2, none⟩) rfl _
  have hR : Rw 4 1 cB W' v' ((List.range (k + 1)).map f) := by
    unfold Rw
    rw [List.range_succ, List.map_append, List.length_append, List.flatMap_append]
    simpa [cB] using hown
  have hR2 := hR.kept TS (fun g hg e => hR.ne hg P' (by decide) e)
  have S' := two_kept hsh T (fun e => by have := how _ e; omega)
  refine ⟨P', S', P'.set v', hR2, ?_, fun g hg => ?_, hB, two_kept S' TS (by omega), (hres.kept T (fun e => by have := how _ e; omega)).kept TS (by omega)⟩
  · have b1 : Below w0.heap.size W W' := T.below (fun k e => by have := how k e; omega) hbl.size
    exact (hbl.trans b1).setCell (p := ⟨B, 2, none⟩) (by simp; omega) _
  rcases hloc with e | e
  · exact how g (by rw [← e]; exact hg)
  · rw [e] at hg; cases hg; have := hres.lt; omega
end
theorem cB_new (w : World) (b : Bool) : ∀ i u, ([.bool b] : List Value)[i]? = some u → (w.alloc (.cells #[.bool b] 4)).cell? ((⟨w.heap.size, 0, none⟩ : Addr).add i) = some u := by
  intro i u hu
  rw [Addr.add_lit, Nat.zero_add, cell_of_row _ w.heap.size i _ _ _ (heap_alloc_new w _)]
  simpa using hu
theorem cB_one (b : Bool) : ∀ u ∈ ([.bool b] : List Value), u.oneCell' = true := by
  intro u hu
  simp at hu
  subst hu
  rfl
set_option maxRecDepth 100000 in
set_option maxHeartbeats 8000000 in
theorem of_gr {w : World} {r wd ht N : Nat} {tl : List Nat} {L : List Bd} (cl : Int) (s : Nat) (hw : Rl w r wd ht tl L) (hwd : (1 ≤ wd ∧ wd ≤ 128) ∧ 1 ≤ ht ∧ ht ≤ 128) (hN : N = wd * ht) (hs : 1 ≤ s ∧ s ≤ 4) :
    Calls Tryz.prog 7 #[ptr r, shv cl (s : Nat)] w fun e w' => ∃ iv, e = .returned (gdv wd ht iv) ∧ Rw 4 1 cB w' iv ((List.range N).map (stI (carB wd ht tl (whoF L) cl) wd N s)) ∧ Below w.heap.size w w' := by
  have hN2 : N ≤ 16384 := by have := Nat.mul_le_mul hwd.1.2 hwd.2.2; omega
  have hgs : gs (wd : Int) 128 = true ∧ gs (ht : Int) 128 = true := by constructor <;> (simp only [gs, decide_eq_true_eq]; omega)
  obtain ⟨f, hf⟩ : ∃ f, f = stI (carB wd ht tl (whoF L) cl) wd N s := ⟨_, rfl⟩
  have HSt : Hid (∀ wx, Below w.heap.size w wx → ∀ x y : Nat, x < wd → y < ht → Calls Tryz.prog 21 #[ptr r, shv cl (s : Nat), cel (x : Nat) (y : Nat)] wx fun e w' => e = .returned (.bool (f (y * wd + x))) ∧ Below wx.heap.size wx w') := hide fun wx hx x y h1 h2 => by
    have h3 := refstands_any r wd ht tl L cl (s : Nat) (x : Nat) (y : Nat) wx (hw.kept hx)
    have e := idx_mod (y := y) h1
    have h4 : f (y * wd + x) = stB wd ht tl (whoF L) cl (s : Nat) (x : Nat) (y : Nat) := by
      rw [st_sq hgs.1 hgs.2 tl (whoF L) cl _ _ hs.1 hs.2, hf, stI, e.1, e.2, decide_eq_true (by rw [hN]; exact idx_lt h1 h2), Bool.true_and]
    rw [h4]; exact h3
  have HAl := hide (refall_is (hw.kept (bt (box1 w (.cells #[.int .i64 cl, .int .i64 (s : Nat)] 27)) (box1 _ (.cells #[.int .i64 0, .int .i64 0, .slice none 0 0] 41)))))
  rw [← hf]
  have HN := hide hN
  obtain ⟨X, hX⟩ : ∃ X, (w.alloc (.cells #[.int .i64 cl, .int .i64 (s : Nat)] 27)).alloc (.cells #[.int .i64 0, .int .i64 0, .slice none 0 0] 41) = X := ⟨_, rfl⟩
  have B0 : Below w.heap.size w X := hX ▸ box2 _ _ _
  have bX : Two X w.heap.size cl (s : Nat) := hX ▸ (Two.newAt rfl).alloc
  have gX : GB X (w.heap.size + 1) 0 0 (.slice none 0 0) := by
    rw [← hX]
    have := GB.new (w.alloc (.cells #[.int .i64 cl, .int .i64 (s : Nat)] 27)) 0 0 (.slice none 0 0)
    simpa using this
  rw [hX] at HAl
  have HX := hide hX
  have hmax := hN2
  clear hX hw hf hN
  go_enter Tryz.func7, Tryz.ntmps7
  go_wp2_with fail
  rw [HX.out]
  refine HAl.out.mono ?_
  rintro e w1 ⟨rfl, hb1⟩
  have b1 := bX.kept hb1
  have g1 := gX.upto hb1
  have B1 := bt B0 hb1
  clear bX gX HAl HX hb1
  have F2 : Four (w1.alloc (.cells #[.int .i64 0, .int .i64 0, .int .i64 wd, .int .i64 ht] 48)) w1.heap.size 0 0 wd ht := cells4 (Below.refl _ _)
  have B2 : Below w1.heap.size w1 (w1.alloc (.cells #[.int .i64 0, .int .i64 0, .int .i64 wd, .int .i64 ht] 48)) := box1 _ _
  obtain ⟨⟨f0, f1, f2, f3⟩, -, -⟩ := id F2
  have G3 : GB ((w1.alloc (.cells #[.int .i64 0, .int .i64 0, .int .i64 wd, .int .i64 ht] 48)).alloc (.cells #[.int .i64 wd, .int .i64 ht, .slice none 0 0] 41)) (w1.heap.size + 1) wd ht (.slice none 0 0) := by
    have := GB.new (w1.alloc (.cells #[.int .i64 0, .int .i64 0, .int .i64 wd, .int .i64 ht] 48)) wd ht (.slice none 0 0)
    simpa using this
  go_wp2_with fail
  have B3 := bt (bt B1 B2) (box1 (w1.alloc (.cells #[.int .i64 0, .int .i64 0, .int .i64 wd, .int .i64 ht] 48)) (.cells #[.int .i64 wd, .int .i64 ht, .slice none 0 0] 41))
  have T3 := (b1.kept B2).kept (box1 (w1.alloc (.cells #[.int .i64 0, .int .i64 0, .int .i64 wd, .int .i64 ht] 48)) (.cells #[.int .i64 wd, .int .i64 ht, .slice none 0 0] 41))
  have g3 := (g1.upto B2).upto (box1 (w1.alloc (.cells #[.int .i64 0, .int .i64 0, .int .i64 wd, .int .i64 ht] 48)) (.cells #[.int .i64 wd, .int .i64 ht, .slice none 0 0] 41))
  obtain ⟨V, hV⟩ : ∃ V, (w1.alloc (.cells #[.int .i64 0, .int .i64 0, .int .i64 wd, .int .i64 ht] 48)).alloc (.cells #[.int .i64 wd, .int .i64 ht, .slice none 0 0] 41) = V := ⟨_, rfl⟩
  rw [hV] at G3 B3 T3 g3
  try rw [hV]
  obtain ⟨B, hB⟩ : ∃ B, w1.heap.size + 1 = B := ⟨_, rfl⟩
  rw [hB] at G3
  try rw [hB]
  have zB1 := B1.size
  have zg := g1.lt
  have I0 : Og w V B wd ht cl s f (.slice none 0 0) 0 := ⟨G3, Rw.nil _ _ _ _, B3, (fun g hg => by cases hg), by omega, T3, g3⟩
  have HI0 := hide I0
  have hwI : (1 : Int) ≤ (wd : Nat) ∧ ((wd : Nat) : Int) ≤ 128 := by omega
  have hhI : (1 : Int) ≤ (ht : Nat) ∧ ((ht : Nat) : Int) ≤ 128 := by omega
  obtain ⟨fi, hfi, hz9, h1, h8⟩ := info_parts info4b
  have hBw : w.heap.size + 2 ≤ B := by omega
  clear I0 G3 B3 T3 g3 hB f0 f1 f2 f3 F2 B2 B1 b1 g1 hV zB1 zg
  go_loopw [7] (fun d wr => ∃ (y : Nat) (iv : Value), d = .int .i64 (y : Nat) ∧ y ≤ ht ∧ Og w wr B wd ht cl s f iv (y * wd)) (fun d _ => ht - (intOf d).toNat)
  case atStart => exact ⟨0, _, rfl, Nat.zero_le _, by rw [Nat.zero_mul]; exact HI0.out⟩
  case round =>
    obtain ⟨y, iv, rfl, hy, hI⟩ := hrel
    clear HI0
    rename World => wo
    obtain ⟨⟨c0, c1⟩, c2⟩ := hI.gb.c
    by_cases hlt : y < ht
    · have hli : ((y : Nat) : Int) < (ht : Nat) := by omega
      have hyI : (0 : Int) ≤ (y : Nat) ∧ ((y : Nat) : Int) ≤ 128 := by omega
      have HI := hide hI
      clear hI c0 c2
      go_wp2_with fail
      go_loopw [8] (fun d wr => ∃ (x : Nat) (iv : Value), d = .int .i64 (x : Nat) ∧ x ≤ wd ∧ Og w wr B wd ht cl s f iv (y * wd + x)) (fun d _ => wd - (intOf d).toNat)
      case atStart => exact ⟨0, _, rfl, Nat.zero_le _, HI.out⟩
      case round =>
        obtain ⟨x, iv, rfl, hx, hI⟩ := hrel
        clear HI c1
        obtain ⟨⟨c0, c1⟩, c2⟩ := hI.gb.c
        by_cases hltx : x < wd
        · have hlx : ((x : Nat) : Int) < (wd : Nat) := by omega
          have hxI : (0 : Int) ≤ (x : Nat) ∧ ((x : Nat) : Int) ≤ 128 := by omega
          have hkN : y * wd + x < N := by rw [HN.out]; exact idx_lt hltx hlt
          obtain ⟨fk, hfk⟩ : ∃ fk, f (y * wd + x) = fk := ⟨_, rfl⟩
          have HStk : Hid (∀ wx, Below w.heap.size w wx → Calls Tryz.prog 21 #[ptr r, shv cl (s : Nat), cel (x : Nat) (y : Nat)] wx fun e w' => e = .returned (.bool fk) ∧ Below wx.heap.size wx w') := hide fun wx hx => by rw [← hfk]; exact HSt.out wx hx x y hltx hlt
          have HFk := hide hfk
          have HI := hide hI
          have HId := hide (hI.upto (Below.refl _ wr).drew)
          have HSx : Hid (∀ wx, Two wx w.heap.size cl (s : Nat) → wx.cell? ⟨w.heap.size, 0, none⟩ = some (.int .i64 cl) ∧ wx.cell? ⟨w.heap.size, 1, none⟩ = some (.int .i64 (s : Nat))) := hide fun wx h => h.1
          have hlen : ((List.range (y * wd + x)).map f).length = y * wd + x := by simp
          have hm1 : ((List.range (y * wd + x)).map f).length + 1 ≤ maxLen := by rw [hlen]; unfold maxLen; omega
          have hm2 : (((List.range (y * wd + x)).map f).length + 1) * 1 ≤ 140737488355328 := by rw [hlen]; omega
          have Hlen := hide hlen
          clear hI hfk hlen c1
          go_wp2_with fail
          clear c0
          refine wp_only ?_
          refine wp_region_held_drew (S := fun wx => wx.cell? ⟨w.heap.size, 0, none⟩ = some (.int .i64 cl) ∧ wx.cell? ⟨w.heap.size, 1, none⟩ = some (.int .i64 (s : Nat))) (by kernel_rfl) (HSx.out _ HId.out.sh) (fun hHeld => ?_)
          refine wpAnyH_take (i := 0) (v := ?_) rfl (by kernel_rfl) (by kernel_rfl) (by kernel_rfl) (fun _ _ _ h => h.elim) (Or.inl ⟨by rfl, ?_⟩) (by assumption) ?_
          rotate_left
          · intro wx hSw
            try dsimp only at hSw
            go_simp
            try with_reducible rfl
          try simp only [Act.put, List.getElem_toArray, List.getElem_cons_zero, List.getElem_cons_succ, List.setIfInBounds_toArray, List.set_cons_zero, List.set_cons_succ]
          refine wpAnyH_take (i := 2) (v := ?_) rfl (by kernel_rfl) (by kernel_rfl) (by kernel_rfl) (fun _ _ _ h => h.elim) (Or.inl ⟨by rfl, ?_⟩) (by assumption) ?_
          rotate_left
          · intro wx hSw
            try dsimp only at hSw
            go_simp
            try with_reducible rfl
          try simp only [Act.put, List.getElem_toArray, List.getElem_cons_zero, List.getElem_cons_succ, List.setIfInBounds_toArray, List.set_cons_zero, List.set_cons_succ]
          refine wpAnyH_take (i := 3) (v := ?_) rfl (by kernel_rfl) (by kernel_rfl) (by kernel_rfl) (fun _ _ _ h => h.elim) (Or.inl ⟨by rfl, ?_⟩) (by assumption) ?_
          rotate_left
          · intro wx hSw
            try dsimp only at hSw
            go_simp
            try with_reducible rfl
          try simp only [Act.put, List.getElem_toArray, List.getElem_cons_zero, List.getElem_cons_succ, List.setIfInBounds_toArray, List.set_cons_zero, List.set_cons_succ]
          refine wpAnyH_take (i := 4) (v := ?_) rfl (by kernel_rfl) (by kernel_rfl) (by kernel_rfl) (fun _ _ _ h => h.elim) (Or.inl ⟨by rfl, ?_⟩) (by assumption) ?_
          rotate_left
          · intro wx hSw
            try dsimp only at hSw
            go_simp
            try with_reducible rfl
          try simp only [Act.put, List.getElem_toArray, List.getElem_cons_zero, List.getElem_cons_succ, List.setIfInBounds_toArray, List.set_cons_zero, List.set_cons_succ]
          refine wpAnyH_take (i := 5) (v := ?_) rfl (by kernel_rfl) (by kernel_rfl) (by kernel_rfl) (fun _ _ _ h => h.elim) (Or.inl ⟨by rfl, ?_⟩) (by assumption) ?_
          rotate_left
          · intro wx hSw
            try dsimp only at hSw
            go_simp
            try with_reducible rfl
          try simp only [Act.put, List.getElem_toArray, List.getElem_cons_zero, List.getElem_cons_succ, List.setIfInBounds_toArray, List.set_cons_zero, List.set_cons_succ]
          refine wpAnyH_take (i := 6) (v := ?_) rfl (by kernel_rfl) (by kernel_rfl) (by kernel_rfl) (fun _ _ _ h => h.elim) (Or.inl ⟨by rfl, ?_⟩) (by assumption) ?_
          rotate_left
          · intro wx hSw
            try dsimp only at hSw
            go_simp
            try with_reducible rfl
          try simp only [Act.put, List.getElem_toArray, List.getElem_cons_zero, List.getElem_cons_succ, List.setIfInBounds_toArray, List.set_cons_zero, List.set_cons_succ]
          refine wpAnyH_ready (rs := [1, 7]) (by kernel_rfl) (by simp) ?_
          refine AllReadyH.cons rfl (fun K hK => ?_) ?_
          · go_simp
            refine hK.out _ _ ?_ (fun hHeld => ?_)
            · first | with_reducible exact HSx.out _ HI3.out.sh | with_reducible exact HSx.out _ HI2.out.sh | with_reducible exact HSx.out _ HS4.out | with_reducible exact HSx.out _ HG5.out.sh | with_reducible exact HSx.out _ HId.out.sh
            clear hK K
            try simp only [Act.put, List.getElem_toArray, List.getElem_cons_zero, List.getElem_cons_succ, List.setIfInBounds_toArray, List.set_cons_zero, List.set_cons_succ]
            refine wpAnyH_ready (rs := [7]) (by kernel_rfl) (by simp) ?_
            refine AllReadyH.cons rfl (fun K hK => ?_) ?_
            · go_simp
              refine (HStk.out _ HId.out.bl).mono ?_
              rintro e w2 ⟨rfl, hb2⟩
              have HI2 := hide (HId.out.upto hb2)
              have c22 := HI2.out.gb.c.2
              have c23 := (HI2.out.upto (box1 w2 (.cells #[.bool fk] 4))).gb.c.2
              have HI3 := hide (HI2.out.upto (box1 w2 (.cells #[.bool fk] 4)))
              clear hb2
              refine hK.out _ _ ?_ (fun hHeld => ?_)
              · first | with_reducible exact HSx.out _ HI3.out.sh | with_reducible exact HSx.out _ HI2.out.sh | with_reducible exact HSx.out _ HS4.out | with_reducible exact HSx.out _ HG5.out.sh | with_reducible exact HSx.out _ HId.out.sh
              clear hK K
              try simp only [Act.put, List.getElem_toArray, List.getElem_cons_zero, List.getElem_cons_succ, List.setIfInBounds_toArray, List.set_cons_zero, List.set_cons_succ]
              refine wpAnyH_ready (rs := [8]) (by kernel_rfl) (by simp) ?_
              refine AllReadyH.cons rfl (fun K hK => ?_) ?_
              · go_simp
                refine hK.out _ _ ?_ (fun hHeld => ?_)
                · first | with_reducible exact HSx.out _ HI3.out.sh | with_reducible exact HSx.out _ HI2.out.sh | with_reducible exact HSx.out _ HS4.out | with_reducible exact HSx.out _ HG5.out.sh | with_reducible exact HSx.out _ HId.out.sh
                clear hK K
                try simp only [Act.put, List.getElem_toArray, List.getElem_cons_zero, List.getElem_cons_succ, List.setIfInBounds_toArray, List.set_cons_zero, List.set_cons_succ]
                refine wpAnyH_ready (rs := [9]) (by kernel_rfl) (by simp) ?_
                refine AllReadyH.cons rfl (fun K hK => ?_) ?_
                · refine step_append_row rfl _ _ 39 rfl 4 fi (.bool false) 1 1 Tryz.underlying39 hfi hz9 h1 h8 rfl (by decide) iv _ _ (by simp [Act.eval]) HI3.out.row ⟨w2.heap.size, 0, none⟩ 1 1 [.bool fk] (by simp [Act.eval]) rfl (cB_new w2 fk) (cB_one fk) hm1 hm2 ?_
                  intro v4 w4 hown hgrow hloc
                  obtain ⟨P4, S4, G5⟩ := HI3.out.grow (by rw [HFk.out]; rw [Hlen.out] at hown; exact hown) hgrow hloc
                  obtain ⟨g4, cap4, hv4⟩ := row_form hown
                  rw [Hlen.out] at hv4
                  subst hv4
                  have f4 := P4.fz 2
                  have c4 := P4.c.2
                  have HP4 := hide P4
                  have HS4 := hide S4
                  have HG5 := hide G5
                  clear hown hgrow hloc P4 S4 G5
                  refine hK.out _ _ ?_ (fun hHeld => ?_)
                  · first | with_reducible exact HSx.out _ HI3.out.sh | with_reducible exact HSx.out _ HI2.out.sh | with_reducible exact HSx.out _ HS4.out | with_reducible exact HSx.out _ HG5.out.sh | with_reducible exact HSx.out _ HId.out.sh
                  clear hK K
                  try simp only [Act.put, List.getElem_toArray, List.getElem_cons_zero, List.getElem_cons_succ, List.setIfInBounds_toArray, List.set_cons_zero, List.set_cons_succ]
                  refine wpAnyH_take (i := 10) (v := ?_) rfl (by kernel_rfl) (by kernel_rfl) (by kernel_rfl) (fun _ _ _ h => h.elim) (Or.inl ⟨by rfl, ?_⟩) (by assumption) ?_
                  rotate_left
                  · intro wx hSw
                    try dsimp only at hSw
                    go_simp
                    try with_reducible rfl
                  try simp only [Act.put, List.getElem_toArray, List.getElem_cons_zero, List.getElem_cons_succ, List.setIfInBounds_toArray, List.set_cons_zero, List.set_cons_succ]
                  refine wpAnyH_ready (rs := [11]) (by kernel_rfl) (by simp) ?_
                  refine AllReadyH.cons rfl (fun K hK => ?_) ?_
                  · go_simp
                    refine hK.out _ _ ?_ (fun hHeld => ?_)
                    · first | with_reducible exact HSx.out _ HI3.out.sh | with_reducible exact HSx.out _ HI2.out.sh | with_reducible exact HSx.out _ HS4.out | with_reducible exact HSx.out _ HG5.out.sh | with_reducible exact HSx.out _ HId.out.sh
                    clear hK K
                    try simp only [Act.put, List.getElem_toArray, List.getElem_cons_zero, List.getElem_cons_succ, List.setIfInBounds_toArray, List.set_cons_zero, List.set_cons_succ]
                    refine wpAnyH_done (by kernel_rfl) ?_ _
                    dsimp only [Only, Exit.then]
                    go_wp2_with fail
                    go_roundw
                    case rel => exact ⟨x + 1, _, by go_num, by omega, HG5.out⟩
                    case measure => simp [intOf]; omega
              
                  exact AllReadyH.nil
                exact AllReadyH.nil
              exact AllReadyH.nil
            exact AllReadyH.nil
          refine AllReadyH.cons rfl (fun K hK => ?_) ?_
          · go_simp
            refine (HStk.out _ HId.out.bl).mono ?_
            rintro e w2 ⟨rfl, hb2⟩
            have HI2 := hide (HId.out.upto hb2)
            have c22 := HI2.out.gb.c.2
            have c23 := (HI2.out.upto (box1 w2 (.cells #[.bool fk] 4))).gb.c.2
            have HI3 := hide (HI2.out.upto (box1 w2 (.cells #[.bool fk] 4)))
            clear hb2
            refine hK.out _ _ ?_ (fun hHeld => ?_)
            · first | with_reducible exact HSx.out _ HI3.out.sh | with_reducible exact HSx.out _ HI2.out.sh | with_reducible exact HSx.out _ HS4.out | with_reducible exact HSx.out _ HG5.out.sh | with_reducible exact HSx.out _ HId.out.sh
            clear hK K
            try simp only [Act.put, List.getElem_toArray, List.getElem_cons_zero, List.getElem_cons_succ, List.setIfInBounds_toArray, List.set_cons_zero, List.set_cons_succ]
            refine wpAnyH_ready (rs := [1, 8]) (by kernel_rfl) (by simp) ?_
            refine AllReadyH.cons rfl (fun K hK => ?_) ?_
            · go_simp
              refine hK.out _ _ ?_ (fun hHeld => ?_)
              · first | with_reducible exact HSx.out _ HI3.out.sh | with_reducible exact HSx.out _ HI2.out.sh | with_reducible exact HSx.out _ HS4.out | with_reducible exact HSx.out _ HG5.out.sh | with_reducible exact HSx.out _ HId.out.sh
              clear hK K
              try simp only [Act.put, List.getElem_toArray, List.getElem_cons_zero, List.getElem_cons_succ, List.setIfInBounds_toArray, List.set_cons_zero, List.set_cons_succ]
              refine wpAnyH_ready (rs := [8]) (by kernel_rfl) (by simp) ?_
              refine AllReadyH.cons rfl (fun K hK => ?_) ?_
              · go_simp
                refine hK.out _ _ ?_ (fun hHeld => ?_)
                · first | with_reducible exact HSx.out _ HI3.out.sh | with_reducible exact HSx.out _ HI2.out.sh | with_reducible exact HSx.out _ HS4.out | with_reducible exact HSx.out _ HG5.out.sh | with_reducible exact HSx.out _ HId.out.sh
                clear hK K
                try simp only [Act.put, List.getElem_toArray, List.getElem_cons_zero, List.getElem_cons_succ, List.setIfInBounds_toArray, List.set_cons_zero, List.set_cons_succ]
                refine wpAnyH_ready (rs := [9]) (by kernel_rfl) (by simp) ?_
                refine AllReadyH.cons rfl (fun K hK => ?_) ?_
                · refine step_append_row rfl _ _ 39 rfl 4 fi (.bool false) 1 1 Tryz.underlying39 hfi hz9 h1 h8 rfl (by decide) iv _ _ (by simp [Act.eval]) HI3.out.row ⟨w2.heap.size, 0, none⟩ 1 1 [.bool fk] (by simp [Act.eval]) rfl (cB_new w2 fk) (cB_one fk) hm1 hm2 ?_
                  intro v4 w4 hown hgrow hloc
                  obtain ⟨P4, S4, G5⟩ := HI3.out.grow (by rw [HFk.out]; rw [Hlen.out] at hown; exact hown) hgrow hloc
                  obtain ⟨g4, cap4, hv4⟩ := row_form hown
                  rw [Hlen.out] at hv4
                  subst hv4
                  have f4 := P4.fz 2
                  have c4 := P4.c.2
                  have HP4 := hide P4
                  have HS4 := hide S4
                  have HG5 := hide G5
                  clear hown hgrow hloc P4 S4 G5
                  refine hK.out _ _ ?_ (fun hHeld => ?_)
                  · first | with_reducible exact HSx.out _ HI3.out.sh | with_reducible exact HSx.out _ HI2.out.sh | with_reducible exact HSx.out _ HS4.out | with_reducible exact HSx.out _ HG5.out.sh | with_reducible exact HSx.out _ HId.out.sh
                  clear hK K
                  try simp only [Act.put, List.getElem_toArray, List.getElem_cons_zero, List.getElem_cons_succ, List.setIfInBounds_toArray, List.set_cons_zero, List.set_cons_succ]
                  refine wpAnyH_take (i := 10) (v := ?_) rfl (by kernel_rfl) (by kernel_rfl) (by kernel_rfl) (fun _ _ _ h => h.elim) (Or.inl ⟨by rfl, ?_⟩) (by assumption) ?_
                  rotate_left
                  · intro wx hSw
                    try dsimp only at hSw
                    go_simp
                    try with_reducible rfl
                  try simp only [Act.put, List.getElem_toArray, List.getElem_cons_zero, List.getElem_cons_succ, List.setIfInBounds_toArray, List.set_cons_zero, List.set_cons_succ]
                  refine wpAnyH_ready (rs := [11]) (by kernel_rfl) (by simp) ?_
                  refine AllReadyH.cons rfl (fun K hK => ?_) ?_
                  · go_simp
                    refine hK.out _ _ ?_ (fun hHeld => ?_)
                    · first | with_reducible exact HSx.out _ HI3.out.sh | with_reducible exact HSx.out _ HI2.out.sh | with_reducible exact HSx.out _ HS4.out | with_reducible exact HSx.out _ HG5.out.sh | with_reducible exact HSx.out _ HId.out.sh
                    clear hK K
                    try simp only [Act.put, List.getElem_toArray, List.getElem_cons_zero, List.getElem_cons_succ, List.setIfInBounds_toArray, List.set_cons_zero, List.set_cons_succ]
                    refine wpAnyH_done (by kernel_rfl) ?_ _
                    dsimp only [Only, Exit.then]
                    go_wp2_with fail
                    go_roundw
                    case rel => exact ⟨x + 1, _, by go_num, by omega, HG5.out⟩
                    case measure => simp [intOf]; omega
              
                  exact AllReadyH.nil
                exact AllReadyH.nil
              exact AllReadyH.nil
            refine AllReadyH.cons rfl (fun K hK => ?_) ?_
            · go_simp
              refine hK.out _ _ ?_ (fun hHeld => ?_)
              · first | with_reducible exact HSx.out _ HI3.out.sh | with_reducible exact HSx.out _ HI2.out.sh | with_reducible exact HSx.out _ HS4.out | with_reducible exact HSx.out _ HG5.out.sh | with_reducible exact HSx.out _ HId.out.sh
              clear hK K
              try simp only [Act.put, List.getElem_toArray, List.getElem_cons_zero, List.getElem_cons_succ, List.setIfInBounds_toArray, List.set_cons_zero, List.set_cons_succ]
              refine wpAnyH_ready (rs := [1]) (by kernel_rfl) (by simp) ?_
              refine AllReadyH.cons rfl (fun K hK => ?_) ?_
              · go_simp
                refine hK.out _ _ ?_ (fun hHeld => ?_)
                · first | with_reducible exact HSx.out _ HI3.out.sh | with_reducible exact HSx.out _ HI2.out.sh | with_reducible exact HSx.out _ HS4.out | with_reducible exact HSx.out _ HG5.out.sh | with_reducible exact HSx.out _ HId.out.sh
                clear hK K
                try simp only [Act.put, List.getElem_toArray, List.getElem_cons_zero, List.getElem_cons_succ, List.setIfInBounds_toArray, List.set_cons_zero, List.set_cons_succ]
                refine wpAnyH_ready (rs := [9]) (by kernel_rfl) (by simp) ?_
                refine AllReadyH.cons rfl (fun K hK => ?_) ?_
                · refine step_append_row rfl _ _ 39 rfl 4 fi (.bool false) 1 1 Tryz.underlying39 hfi hz9 h1 h8 rfl (by decide) iv _ _ (by simp [Act.eval]) HI3.out.row ⟨w2.heap.size, 0, none⟩ 1 1 [.bool fk] (by simp [Act.eval]) rfl (cB_new w2 fk) (cB_one fk) hm1 hm2 ?_
                  intro v4 w4 hown hgrow hloc
                  obtain ⟨P4, S4, G5⟩ := HI3.out.grow (by rw [HFk.out]; rw [Hlen.out] at hown; exact hown) hgrow hloc
                  obtain ⟨g4, cap4, hv4⟩ := row_form hown
                  rw [Hlen.out] at hv4
                  subst hv4
                  have f4 := P4.fz 2
                  have c4 := P4.c.2
                  have HP4 := hide P4
                  have HS4 := hide S4
                  have HG5 := hide G5
                  clear hown hgrow hloc P4 S4 G5
                  refine hK.out _ _ ?_ (fun hHeld => ?_)
                  · first | with_reducible exact HSx.out _ HI3.out.sh | with_reducible exact HSx.out _ HI2.out.sh | with_reducible exact HSx.out _ HS4.out | with_reducible exact HSx.out _ HG5.out.sh | with_reducible exact HSx.out _ HId.out.sh
                  clear hK K
                  try simp only [Act.put, List.getElem_toArray, List.getElem_cons_zero, List.getElem_cons_succ, List.setIfInBounds_toArray, List.set_cons_zero, List.set_cons_succ]
                  refine wpAnyH_take (i := 10) (v := ?_) rfl (by kernel_rfl) (by kernel_rfl) (by kernel_rfl) (fun _ _ _ h => h.elim) (Or.inl ⟨by rfl, ?_⟩) (by assumption) ?_
                  rotate_left
                  · intro wx hSw
                    try dsimp only at hSw
                    go_simp
                    try with_reducible rfl
                  try simp only [Act.put, List.getElem_toArray, List.getElem_cons_zero, List.getElem_cons_succ, List.setIfInBounds_toArray, List.set_cons_zero, List.set_cons_succ]
                  refine wpAnyH_ready (rs := [11]) (by kernel_rfl) (by simp) ?_
                  refine AllReadyH.cons rfl (fun K hK => ?_) ?_
                  · go_simp
                    refine hK.out _ _ ?_ (fun hHeld => ?_)
                    · first | with_reducible exact HSx.out _ HI3.out.sh | with_reducible exact HSx.out _ HI2.out.sh | with_reducible exact HSx.out _ HS4.out | with_reducible exact HSx.out _ HG5.out.sh | with_reducible exact HSx.out _ HId.out.sh
                    clear hK K
                    try simp only [Act.put, List.getElem_toArray, List.getElem_cons_zero, List.getElem_cons_succ, List.setIfInBounds_toArray, List.set_cons_zero, List.set_cons_succ]
                    refine wpAnyH_done (by kernel_rfl) ?_ _
                    dsimp only [Only, Exit.then]
                    go_wp2_with fail
                    go_roundw
                    case rel => exact ⟨x + 1, _, by go_num, by omega, HG5.out⟩
                    case measure => simp [intOf]; omega
              
                  exact AllReadyH.nil
                exact AllReadyH.nil
              exact AllReadyH.nil
            exact AllReadyH.nil
          exact AllReadyH.nil
        · have hlx : ¬ ((x : Nat) : Int) < (wd : Nat) := by omega
          have hxe : x = wd := by omega
          subst hxe
          have HI := hide hI
          clear hI
          go_wp2_with fail
          go_roundw
          case rel => exact ⟨y + 1, iv, by go_num, by omega, by rw [Nat.succ_mul]; exact HI.out⟩
          case measure => simp [intOf]; omega
    · have hli : ¬ ((y : Nat) : Int) < (ht : Nat) := by omega
      have hye : y = ht := by omega
      subst hye
      obtain ⟨⟨r0, r1⟩, r2⟩ := hI.res.c
      have rf0 := hI.res.fz 0
      have rf1 := hI.res.fz 1
      have rf2 := hI.res.fz 2
      have HI := hide hI
      have G9 := hI.res.all wd y iv
      have T9 := set3 (S := fun k => k = w.heap.size + 1) wo (w.heap.size + 1) rfl (.int .i64 (wd : Nat)) (.int .i64 (y : Nat)) iv
      have R9 := hI.row.kept T9 (fun g hg e => by have := hI.own g hg; omega)
      have B9 : Below w.heap.size wo _ := T9.below (B := w.heap.size) (fun k e => by omega) hI.bl.size
      have HR9 : Hid (Rw 4 1 cB (((wo.setCell ⟨w.heap.size + 1, 0, none⟩ (.int .i64 (wd : Nat))).setCell ⟨w.heap.size + 1, 1, none⟩ (.int .i64 (y : Nat))).setCell ⟨w.heap.size + 1, 2, none⟩ iv) iv ((List.range N).map f)) := hide (by rw [HN.out, Nat.mul_comm]; exact R9)
      have HB9 := hide (hI.bl.trans B9)
      obtain ⟨⟨q0, q1⟩, q2⟩ := G9.c
      obtain ⟨a9, cap9, hiv, -, -⟩ := hI.row.form cB_len
      rw [List.length_map, List.length_range] at hiv
      clear hI T9 R9 B9 G9
      subst hiv
      go_wp2_with fail
      refine bodyPost_ret (v := gdv wd y _) (by simp [results, Tryz.results7, go_sem, q0, q1, q2]) rfl ⟨_, rfl, HR9.out, HB9.out⟩
end Go.Proofs.YtoheibfijpdmfaaGreatDoor
set_option linter.unusedSimpArgs false
namespace Go.Proofs.YtoheibfijpdmfaaGreatDoor
open Go.RowKit Go.Shelf
set_option linter.unusedSectionVars false
variable [DecCn : ∀ (St : Nat → Bool) (Ad : Nat → Nat → Prop) (k i : Nat), Decidable (Cn St Ad k i)]
set_option linter.unusedVariables false
/-- Where the ground says that one stands. -/
def gS (wd ht : Nat) (St : Nat → Bool) (x y : Int) : Bool := decide ((0 ≤ x ∧ x < (wd : Nat)) ∧ 0 ≤ y ∧ y < (ht : Nat)) && St (y.toNat * wd + x.toNat)
/-- A step is legal. -/
def lg (S : Int → Int → Bool) (x y d : Int) : Bool := sB x y d && (S x y && (S (sX x y d) (sY x y d) && (!siB x y d || (S (siX x y d) (si0 x y d y) && S (si0 x y d x) (siY x y d)))))
/-- A ground that lies somewhere: its slice reads as St. -/
def Gd (w : World) (wd ht N : Nat) (St : Nat → Bool) (iv : Value) : Prop := Rw 4 1 cB w iv ((List.range N).map St)
theorem Gd.upto {w w' : World} {wd ht N : Nat} {St : Nat → Bool} {iv : Value} (h : Gd w wd ht N St iv) (hb : Below w.heap.size w w') : Gd w' wd ht N St iv := Rw.upto h hb
theorem Gd.form {w : World} {wd ht N : Nat} {St : Nat → Bool} {iv : Value} (h : Gd w wd ht N St iv) : ∃ a cap, iv = .slice a N cap ∧ ∀ k, k < N → ∃ g, a = some ⟨g, 0, none⟩ ∧ g < w.heap.size ∧ w.cell? ⟨g, k, none⟩ = some (.bool (St k)) := by
  obtain ⟨a, cap, h1, -, h3⟩ := Rw.form cB_len h
  rw [List.length_map, List.length_range] at h1
  refine ⟨a, cap, h1, fun k hk => ?_⟩
  obtain ⟨g, e1, e2, e3⟩ := h3 k (St k) (by rw [List.getElem?_map, List.getElem?_range hk]; rfl)
  exact ⟨g, e1, e2, by simpa using e3 0 _ rfl⟩
set_option maxRecDepth 100000 in
set_option maxHeartbeats 4000000 in
theorem gstands_any {w : World} {wd ht N : Nat} {St : Nat → Bool} {iv : Value} (x y : Int) (h : Gd w wd ht N St iv) (hw : wd ≤ 128 ∧ ht ≤ 128) (hN : N = wd * ht) :
    Calls Tryz.prog 54 #[gdv wd ht iv, cel x y] w fun e w' => e = .returned (.bool (gS wd ht St x y)) ∧ Below w.heap.size w w' := by
  have hN2 : N ≤ 16384 := by have := Nat.mul_le_mul hw.1 hw.2; omega
  obtain ⟨a, cap, rfl, hcs⟩ := h.form
  obtain ⟨X, hX⟩ : ∃ X, (w.alloc (.cells #[.int .i64 (wd : Nat), .int .i64 (ht : Nat), .slice a N cap] 41)).alloc (.cells #[.int .i64 x, .int .i64 y] 46) = X := ⟨_, rfl⟩
  have B0 : Below w.heap.size w X := hX ▸ box2 _ _ _
  have gX : GB X w.heap.size wd ht (.slice a N cap) := by rw [← hX]; exact (GB.new w wd ht _).upto (box1 _ _)
  have tX : Two X (w.heap.size + 1) x y := by rw [← hX]; exact Two.newAt (by simp)
  obtain ⟨⟨g0, g1⟩, g2⟩ := gX.c
  obtain ⟨⟨t0, t1⟩, -, -⟩ := id tX
  have HN := hide hN
  have HB0 := hide B0
  clear B0 gX tX hN
  by_cases h1 : 0 ≤ x
  · by_cases h2 : x < (wd : Nat)
    · by_cases h3 : 0 ≤ y
      · by_cases h4 : y < (ht : Nat)
        · obtain ⟨Xn, rfl⟩ := Int.eq_ofNat_of_zero_le h1
          obtain ⟨Yn, rfl⟩ := Int.eq_ofNat_of_zero_le h3
          have hk : Yn * wd + Xn < N := by rw [HN.out]; exact idx_lt (by omega) (by omega)
          obtain ⟨g, rfl, hg, hc⟩ := hcs _ hk
          obtain ⟨k, hke⟩ : ∃ k, Yn * wd + Xn = k := ⟨_, rfl⟩
          obtain ⟨b, hb⟩ : ∃ b, St k = b := ⟨_, rfl⟩
          have hgs : gS wd ht St (Xn : Nat) (Yn : Nat) = b := by
            rw [gS, decide_eq_true ⟨⟨h1, h2⟩, h3, h4⟩, Bool.true_and, Int.toNat_natCast, Int.toNat_natCast, hke, hb]
          rw [hke] at hk
          rw [hke, hb] at hc
          obtain ⟨z, hz⟩ : ∃ z : Int, IntKind.i64.wrap (((Yn : Nat) : Int) * ((wd : Nat) : Int)) = z := ⟨_, rfl⟩
          have hz2 : IntKind.i64.wrap (z + ((Xn : Nat) : Int)) = (k : Nat) := by
            rw [← hz, show ((Yn : Nat) : Int) * ((wd : Nat) : Int) = ((Yn * wd : Nat) : Int) by push_cast; rfl, wrap_nat (by omega), show ((Yn * wd : Nat) : Int) + ((Xn : Nat) : Int) = ((Yn * wd + Xn : Nat) : Int) by push_cast; rfl, hke]
            exact wrap_nat (by omega)
          have cX : X.cell? ⟨g, k, none⟩ = some (.bool b) := (HB0.out.cell (p := ⟨g, k, none⟩) hg).trans hc
          have hkI : (0 : Int) ≤ (k : Nat) ∧ ((k : Nat) : Int) < (N : Nat) ∧ ((N : Nat) : Int) ≤ 16384 := by omega
          have k1 := hkI.1
          have k2 := hkI.2.1
          rw [hgs]
          clear hcs hc hg hke hb hgs
          go_enter Tryz.func54, Tryz.ntmps54
          go_wp2_with fail
          go_ret
          exact ⟨rfl, HB0.out⟩
        · have e : gS wd ht St x y = false := by rw [gS, decide_eq_false (fun h => h4 h.2.2)]; rfl
          rw [e]
          clear hcs e
          go_enter Tryz.func54, Tryz.ntmps54
          go_wp2_with fail
          go_ret
          exact ⟨rfl, HB0.out⟩
      · have e : gS wd ht St x y = false := by rw [gS, decide_eq_false (fun h => h3 h.2.1)]; rfl
        rw [e]
        clear hcs e
        go_enter Tryz.func54, Tryz.ntmps54
        go_wp2_with fail
        go_ret
        exact ⟨rfl, HB0.out⟩
    · have e : gS wd ht St x y = false := by rw [gS, decide_eq_false (fun h => h2 h.1.2)]; rfl
      rw [e]
      clear hcs e
      go_enter Tryz.func54, Tryz.ntmps54
      go_wp2_with fail
      go_ret
      exact ⟨rfl, HB0.out⟩
  · have e : gS wd ht St x y = false := by rw [gS, decide_eq_false (fun h => h1 h.1.1)]; rfl
    rw [e]
    clear hcs e
    go_enter Tryz.func54, Tryz.ntmps54
    go_wp2_with fail
    go_ret
    exact ⟨rfl, HB0.out⟩
/-- What lies while Steps goes on: the ground, the cell, the answer. -/
structure Gx (w W : World) (wd ht : Nat) (iv : Value) (x y : Int) : Prop where
  gb : GB W w.heap.size wd ht iv
  fr : Two W (w.heap.size + 1) x y
  res : Two W (w.heap.size + 1 + 1) 0 0
  bl : Below w.heap.size w W
theorem Gx.upto {w W W' : World} {wd ht : Nat} {iv : Value} {x y : Int} (h : Gx w W wd ht iv x y) (hb : Below W.heap.size W W') : Gx w W' wd ht iv x y := ⟨h.gb.upto hb, h.fr.kept hb, h.res.kept hb, bt h.bl hb⟩
/-- The answer is laid: what is read, and that nothing else turned. -/
theorem Gx.answer {w W : World} {wd ht : Nat} {iv : Value} {x y : Int} (h : Gx w W wd ht iv x y) (u v : Int) : (((W.setCell ⟨w.heap.size + 1 + 1, 0, none⟩ (.int .i64 u)).setCell ⟨w.heap.size + 1 + 1, 1, none⟩ (.int .i64 v)).cell? ⟨w.heap.size + 1 + 1, 0, none⟩ = some (.int .i64 u) ∧ ((W.setCell ⟨w.heap.size + 1 + 1, 0, none⟩ (.int .i64 u)).setCell ⟨w.heap.size + 1 + 1, 1, none⟩ (.int .i64 v)).cell? ⟨w.heap.size + 1 + 1, 1, none⟩ = some (.int .i64 v)) ∧ Below w.heap.size w ((W.setCell ⟨w.heap.size + 1 + 1, 0, none⟩ (.int .i64 u)).setCell ⟨w.heap.size + 1 + 1, 1, none⟩ (.int .i64 v)) := by
  have y0 := h.res.set (s := u) (t := v)
  exact ⟨y0.1, (h.bl.setCell (p := ⟨w.heap.size + 1 + 1, 0, none⟩) (by simp; omega) _).setCell (p := ⟨w.heap.size + 1 + 1, 1, none⟩) (by simp; omega) _⟩
set_option maxRecDepth 100000 in
set_option maxHeartbeats 8000000 in
theorem gsteps_of {w : World} {wd ht : Nat} {iv : Value} (S : Int → Int → Bool) (x y d : Int) (a : Option Addr) (n cap : Nat) (hiv : iv = .slice a n cap)
    (HS : ∀ wx, Below w.heap.size w wx → ∀ x y, Calls Tryz.prog 54 #[gdv wd ht iv, cel x y] wx fun e w' => e = .returned (.bool (S x y)) ∧ Below wx.heap.size wx w') :
    Calls Tryz.prog 22 #[gdv wd ht iv, cel x y, .int .i64 d] w fun e w' => e = .returned (.tuple #[cel (if lg S x y d = true then sX x y d else 0) (if lg S x y d = true then sY x y d else 0), .bool (lg S x y d)]) ∧ Below w.heap.size w w' := by
  subst hiv
  obtain ⟨X, hX⟩ : ∃ X, ((w.alloc (.cells #[.int .i64 (wd : Nat), .int .i64 (ht : Nat), .slice a n cap] 41)).alloc (.cells #[.int .i64 x, .int .i64 y] 46)).alloc (.cells #[.int .i64 0, .int .i64 0] 46) = X := ⟨_, rfl⟩
  have B0 : Below w.heap.size w X := by rw [← hX]; exact bt (box2 _ _ _) (box1 _ _)
  have G0 : Gx w X wd ht (.slice a n cap) x y := by
    refine ⟨?_, ?_, ?_, B0⟩
    · rw [← hX]; exact ((GB.new w wd ht _).upto (box1 _ _)).upto (box1 _ _)
    · rw [← hX]; exact (Two.newAt (by simp)).alloc
    · rw [← hX]; exact Two.newAt (by simp)
  have HT : Hid (∀ wx, Calls Tryz.prog 53 #[cel x y, .int .i64 d] wx fun e w' => e = .returned (.tuple #[cel (sX x y d) (sY x y d), .bool (sB x y d)]) ∧ Below wx.heap.size wx w') := hide fun wx => refstep_any x y d wx
  have HD : Hid (∀ wx, Calls Tryz.prog 55 #[cel x y, .int .i64 d] wx fun e w' => e = .returned (.tuple #[cel (siX x y d) (si0 x y d y), cel (si0 x y d x) (siY x y d), .bool (siB x y d)]) ∧ Below wx.heap.size wx w') := hide fun wx => refsides_any x y d wx
  unfold lg
  obtain ⟨tx, htx⟩ : ∃ tx, sX x y d = tx := ⟨_, rfl⟩
  obtain ⟨ty, hty⟩ : ∃ ty, sY x y d = ty := ⟨_, rfl⟩
  obtain ⟨ax, hax⟩ : ∃ ax, siX x y d = ax := ⟨_, rfl⟩
  obtain ⟨ay, hay⟩ : ∃ ay, si0 x y d y = ay := ⟨_, rfl⟩
  obtain ⟨bx, hbx⟩ : ∃ bx, si0 x y d x = bx := ⟨_, rfl⟩
  obtain ⟨bY, hby⟩ : ∃ bY, siY x y d = bY := ⟨_, rfl⟩
  rw [htx, hty] at HT
  rw [hax, hay, hbx, hby] at HD
  rw [htx, hty, hax, hay, hbx, hby]
  clear htx hty hax hay hbx hby
  obtain ⟨r, hr⟩ : ∃ r, (sB x y d && (S x y && (S tx ty && (!siB x y d || (S ax ay && S bx bY))))) = r := ⟨_, rfl⟩
  rw [hr]
  obtain ⟨ox, hox⟩ : ∃ ox, (if r = true then tx else 0) = ox := ⟨_, rfl⟩
  obtain ⟨oy, hoy⟩ : ∃ oy, (if r = true then ty else 0) = oy := ⟨_, rfl⟩
  rw [hox, hoy]
  have Hr := hide hr
  have Hox := hide hox
  have Hoy := hide hoy
  clear hr hox hoy
  have HS' : Hid (∀ wx (b : Bool) u v, Below w.heap.size w wx → S u v = b → Calls Tryz.prog 54 #[gdv wd ht (.slice a n cap), cel u v] wx fun e w' => e = .returned (.bool b) ∧ Below wx.heap.size wx w') := hide fun wx b u v hb he => he ▸ HS wx hb u v
  clear HS
  have HG0 := hide G0
  obtain ⟨⟨t0, t1⟩, -, -⟩ := G0.fr
  have HX := hide hX
  clear hX G0 B0
  cases g1 : sB x y d
  · rw [g1] at HT
    have Hg1 := hide g1
    clear g1 HD HS'
    go_enter Tryz.func22, Tryz.ntmps22
    go_wp2_with fail
    rw [HX.out]
    refine (HT.out _).mono ?_
    rintro e w1 ⟨rfl, hb1⟩
    have HG1 := hide ((HG0.out.upto hb1).upto (box1 w1 (.cells #[.int .i64 tx, .int .i64 ty] 46)))
    clear hb1 t0 t1 HX HG0 HT
    obtain ⟨⟨a0, a1⟩, aB⟩ := HG1.out.answer 0 0
    obtain ⟨⟨r0, r1⟩, ⟨rf0, rf1⟩, -⟩ := HG1.out.res
    have HAB := hide aB
    clear aB
    go_wp2_with fail
    refine bodyPost_ret (v := .tuple #[cel 0 0, .bool false]) (by simp [results, Tryz.results22, go_sem, a0, a1]) rfl ⟨by rw [← Hox.out, ← Hoy.out, ← Hr.out]; simp [Hg1.out], HAB.out⟩
  rw [g1] at HT
  have Hg1 := hide g1
  clear g1
  go_enter Tryz.func22, Tryz.ntmps22
  go_wp2_with fail
  rw [HX.out]
  refine (HT.out _).mono ?_
  rintro e w1 ⟨rfl, hb1⟩
  have HG1 := hide ((HG0.out.upto hb1).upto (box1 w1 (.cells #[.int .i64 tx, .int .i64 ty] 46)))
  have b1 : Two (w1.alloc (.cells #[.int .i64 tx, .int .i64 ty] 46)) w1.heap.size tx ty := Two.newAt rfl
  have Hb1 := hide b1
  obtain ⟨⟨s0, s1⟩, -, -⟩ := HG1.out.fr
  obtain ⟨⟨g0, g9⟩, g2⟩ := HG1.out.gb.c
  clear hb1 t0 t1 HX HG0 HT b1
  cases q1 : S x y
  · have Hq := hide q1
    clear q1
    go_wp2_with fail
    refine (HS'.out _ _ _ _ HG1.out.bl Hq.out).mono ?_
    rintro e w2 ⟨rfl, hb2⟩
    have HG2 := hide (HG1.out.upto hb2)
    clear hb2 s0 s1 g0 g9 g2 HG1 Hb1 HS' HD
    obtain ⟨⟨a0, a1⟩, aB⟩ := HG2.out.answer 0 0
    obtain ⟨⟨r0, r1⟩, ⟨rf0, rf1⟩, -⟩ := HG2.out.res
    have HAB := hide aB
    clear aB
    go_wp2_with fail
    refine bodyPost_ret (v := .tuple #[cel 0 0, .bool false]) (by simp [results, Tryz.results22, go_sem, a0, a1]) rfl ⟨by rw [← Hox.out, ← Hoy.out, ← Hr.out]; simp [Hg1.out, Hq.out], HAB.out⟩
  have Hq1 := hide q1
  clear q1
  go_wp2_with fail
  refine (HS'.out _ _ _ _ HG1.out.bl Hq1.out).mono ?_
  rintro e w2 ⟨rfl, hb2⟩
  have HG2 := hide (HG1.out.upto hb2)
  have Hb2 := hide (Hb1.out.kept hb2)
  obtain ⟨⟨u0, u1⟩, -, -⟩ := Hb2.out
  obtain ⟨⟨v0, v9⟩, v2⟩ := HG2.out.gb.c
  clear hb2 s0 s1 g0 g9 g2 HG1 Hb1
  cases q2 : S tx ty
  · have Hq := hide q2
    clear q2
    go_wp2_with fail
    refine (HS'.out _ _ _ _ HG2.out.bl Hq.out).mono ?_
    rintro e w3 ⟨rfl, hb3⟩
    have HG3 := hide (HG2.out.upto hb3)
    clear hb3 u0 u1 v0 v9 v2 HG2 Hb2 HS' HD
    obtain ⟨⟨a0, a1⟩, aB⟩ := HG3.out.answer 0 0
    obtain ⟨⟨r0, r1⟩, ⟨rf0, rf1⟩, -⟩ := HG3.out.res
    have HAB := hide aB
    clear aB
    go_wp2_with fail
    refine bodyPost_ret (v := .tuple #[cel 0 0, .bool false]) (by simp [results, Tryz.results22, go_sem, a0, a1]) rfl ⟨by rw [← Hox.out, ← Hoy.out, ← Hr.out]; simp [Hg1.out, Hq1.out, Hq.out], HAB.out⟩
  have Hq2 := hide q2
  clear q2
  go_wp2_with fail
  refine (HS'.out _ _ _ _ HG2.out.bl Hq2.out).mono ?_
  rintro e w3 ⟨rfl, hb3⟩
  have HG3 := hide (HG2.out.upto hb3)
  have Hb3 := hide (Hb2.out.kept hb3)
  obtain ⟨⟨s0, s1⟩, -, -⟩ := HG3.out.fr
  clear hb3 u0 u1 v0 v9 v2 HG2 Hb2
  go_wp2_with fail
  refine (HD.out _).mono ?_
  rintro e w4 ⟨rfl, hb4⟩
  have B4 := bt hb4 (box2 w4 (.cells #[.int .i64 ax, .int .i64 ay] 46) (.cells #[.int .i64 bx, .int .i64 bY] 46))
  have HG4 := hide (HG3.out.upto B4)
  have Hb4 := hide (Hb3.out.kept B4)
  have A4 : Two ((w4.alloc (.cells #[.int .i64 ax, .int .i64 ay] 46)).alloc (.cells #[.int .i64 bx, .int .i64 bY] 46)) w4.heap.size ax ay := (Two.newAt rfl).alloc
  have C4 : Two ((w4.alloc (.cells #[.int .i64 ax, .int .i64 ay] 46)).alloc (.cells #[.int .i64 bx, .int .i64 bY] 46)) (w4.heap.size + 1) bx bY := Two.newAt (by simp)
  have HA4 := hide A4
  have HC4 := hide C4
  obtain ⟨⟨u0, u1⟩, -, -⟩ := A4
  obtain ⟨⟨v0, v9⟩, v2⟩ := HG4.out.gb.c
  clear hb4 s0 s1 HG3 Hb3 HD B4 C4
  cases q3 : siB x y d
  · rw [q3] at Hr
    clear q3 u0 u1 v0 v9 v2 HS'
    obtain ⟨⟨a0, a1⟩, aB⟩ := HG4.out.answer tx ty
    obtain ⟨⟨r0, r1⟩, ⟨rf0, rf1⟩, -⟩ := HG4.out.res
    obtain ⟨⟨b0, b1⟩, -, -⟩ := Hb4.out
    have HAB := hide aB
    clear aB
    go_wp2_with fail
    refine bodyPost_ret (v := .tuple #[cel tx ty, .bool true]) (by simp [results, Tryz.results22, go_sem, a0, a1]) rfl ⟨by rw [← Hox.out, ← Hoy.out, ← Hr.out]; simp [Hg1.out, Hq1.out, Hq2.out], HAB.out⟩
  rw [q3] at Hr
  clear q3
  cases q4 : S ax ay
  · have Hq := hide q4
    clear q4
    go_wp2_with fail
    refine (HS'.out _ _ _ _ HG4.out.bl Hq.out).mono ?_
    rintro e w5 ⟨rfl, hb5⟩
    have HG5 := hide (HG4.out.upto hb5)
    clear hb5 u0 u1 v0 v9 v2 HG4 Hb4 HS' HA4 HC4
    obtain ⟨⟨a0, a1⟩, aB⟩ := HG5.out.answer 0 0
    obtain ⟨⟨r0, r1⟩, ⟨rf0, rf1⟩, -⟩ := HG5.out.res
    have HAB := hide aB
    clear aB
    go_wp2_with fail
    refine bodyPost_ret (v := .tuple #[cel 0 0, .bool false]) (by simp [results, Tryz.results22, go_sem, a0, a1]) rfl ⟨by rw [← Hox.out, ← Hoy.out, ← Hr.out]; simp [Hg1.out, Hq1.out, Hq2.out, Hq.out], HAB.out⟩
  have Hq4 := hide q4
  clear q4
  go_wp2_with fail
  refine (HS'.out _ _ _ _ HG4.out.bl Hq4.out).mono ?_
  rintro e w5 ⟨rfl, hb5⟩
  have HG5 := hide (HG4.out.upto hb5)
  have Hb5 := hide (Hb4.out.kept hb5)
  obtain ⟨⟨p0, p1⟩, -, -⟩ := HC4.out.kept hb5
  obtain ⟨⟨k0, k9⟩, k2⟩ := HG5.out.gb.c
  clear hb5 u0 u1 v0 v9 v2 HG4 Hb4 HA4 HC4
  cases q5 : S bx bY
  · have Hq := hide q5
    clear q5
    go_wp2_with fail
    refine (HS'.out _ _ _ _ HG5.out.bl Hq.out).mono ?_
    rintro e w6 ⟨rfl, hb6⟩
    have HG6 := hide (HG5.out.upto hb6)
    clear hb6 p0 p1 k0 k9 k2 HG5 Hb5 HS'
    obtain ⟨⟨a0, a1⟩, aB⟩ := HG6.out.answer 0 0
    obtain ⟨⟨r0, r1⟩, ⟨rf0, rf1⟩, -⟩ := HG6.out.res
    have HAB := hide aB
    clear aB
    go_wp2_with fail
    refine bodyPost_ret (v := .tuple #[cel 0 0, .bool false]) (by simp [results, Tryz.results22, go_sem, a0, a1]) rfl ⟨by rw [← Hox.out, ← Hoy.out, ← Hr.out]; simp [Hg1.out, Hq1.out, Hq2.out, Hq4.out, Hq.out], HAB.out⟩
  have Hq5 := hide q5
  clear q5
  go_wp2_with fail
  refine (HS'.out _ _ _ _ HG5.out.bl Hq5.out).mono ?_
  rintro e w6 ⟨rfl, hb6⟩
  have HG6 := hide (HG5.out.upto hb6)
  have Hb6 := hide (Hb5.out.kept hb6)
  clear hb6 p0 p1 k0 k9 k2 HG5 Hb5 HS'
  obtain ⟨⟨a0, a1⟩, aB⟩ := HG6.out.answer tx ty
  obtain ⟨⟨r0, r1⟩, ⟨rf0, rf1⟩, -⟩ := HG6.out.res
  obtain ⟨⟨b0, b1⟩, -, -⟩ := Hb6.out
  have HAB := hide aB
  clear aB
  go_wp2_with fail
  refine bodyPost_ret (v := .tuple #[cel tx ty, .bool true]) (by simp [results, Tryz.results22, go_sem, a0, a1]) rfl ⟨by rw [← Hox.out, ← Hoy.out, ← Hr.out]; simp [Hg1.out, Hq1.out, Hq2.out, Hq4.out, Hq5.out], HAB.out⟩
end Go.Proofs.YtoheibfijpdmfaaGreatDoor
set_option linter.unusedSimpArgs false
namespace Go.Proofs.YtoheibfijpdmfaaGreatDoor
open Go.RowKit Go.Shelf
set_option linter.unusedSectionVars false
variable [DecCn : ∀ (St : Nat → Bool) (Ad : Nat → Nat → Prop) (k i : Nat), Decidable (Cn St Ad k i)]
set_option linter.unusedVariables false
theorem gS_at {wd ht : Nat} {St : Nat → Bool} {x y : Int} (h : gS wd ht St x y = true) : ∃ j : Nat, j = y.toNat * wd + x.toNat ∧ j < wd * ht ∧ ((j % wd : Nat) : Int) = x ∧ ((j / wd : Nat) : Int) = y ∧ St j = true := by
  rw [gS, Bool.and_eq_true, decide_eq_true_eq] at h
  obtain ⟨⟨⟨a1, a2⟩, a3, a4⟩, hs⟩ := h
  obtain ⟨X, rfl⟩ := Int.eq_ofNat_of_zero_le a1
  obtain ⟨Y, rfl⟩ := Int.eq_ofNat_of_zero_le a3
  have hX : X < wd := by omega
  have hY : Y < ht := by omega
  have e := idx_mod (y := Y) hX
  exact ⟨Y * wd + X, by simp, idx_lt hX hY, by rw [e.1], by rw [e.2], by simpa using hs⟩
theorem gS_of {wd ht : Nat} {St : Nat → Bool} {j : Nat} (hwd : 1 ≤ wd) (hj : j < wd * ht) (hs : St j = true) : gS wd ht St ((j % wd : Nat) : Int) ((j / wd : Nat) : Int) = true := by
  have h1 : j % wd < wd := Nat.mod_lt _ (by omega)
  have h2 : j / wd < ht := by rw [Nat.div_lt_iff_lt_mul (by omega), Nat.mul_comm]; exact hj
  rw [gS, Int.toNat_natCast, Int.toNat_natCast, Nat.mul_comm, Nat.div_add_mod, hs, Bool.and_true, decide_eq_true_eq]
  generalize j % wd = X at *
  generalize j / wd = Y at *
  omega
theorem ad_of_int {wd a j : Nat} (h : (((j % wd : Nat) : Int) = ((a % wd : Nat) : Int) + 1 ∧ ((j / wd : Nat) : Int) = ((a / wd : Nat) : Int)) ∨ (((j % wd : Nat) : Int) = ((a % wd : Nat) : Int) - 1 ∧ ((j / wd : Nat) : Int) = ((a / wd : Nat) : Int)) ∨ (((j % wd : Nat) : Int) = ((a % wd : Nat) : Int) ∧ ((j / wd : Nat) : Int) = ((a / wd : Nat) : Int) + 1) ∨ (((j % wd : Nat) : Int) = ((a % wd : Nat) : Int) ∧ ((j / wd : Nat) : Int) = ((a / wd : Nat) : Int) - 1)) : adI wd a j := by
  unfold adI
  omega
/-- A legal step leads to a cell that is joined. -/
theorem lg_cn {wd ht N : Nat} {St : Nat → Bool} (hwd : (1 ≤ wd ∧ wd ≤ 128) ∧ 1 ≤ ht ∧ ht ≤ 128) (hN : N = wd * ht) {c d : Nat} (hc : St c = true) (hcN : c < N) (hd : d < 8) (hl : lg (gS wd ht St) ((c % wd : Nat) : Int) ((c / wd : Nat) : Int) (d : Nat) = true) :
    ∃ j, j < N ∧ nbr wd c j d ∧ St j = true ∧ Cn St (adI wd) c j ∧ sX ((c % wd : Nat) : Int) ((c / wd : Nat) : Int) (d : Nat) = ((j % wd : Nat) : Int) ∧ sY ((c % wd : Nat) : Int) ((c / wd : Nat) : Int) (d : Nat) = ((j / wd : Nat) : Int) := by
  obtain ⟨n1, n2, n3⟩ := step_near hwd (by rw [← hN]; exact hcN) (a := c) hd
  simp only [lg, Bool.and_eq_true] at hl
  obtain ⟨-, -, hs, hcor⟩ := hl
  rw [n2, n3] at hs
  obtain ⟨j, -, hj, j1, j2, js⟩ := gS_at hs
  refine ⟨j, by rw [hN]; exact hj, ⟨j1, j2⟩, js, ?_, n2.trans j1.symm, n3.trans j2.symm⟩
  by_cases h4 : d < 4
  · exact .step _ _ _ (.refl c hc) (nbr_ad h4 ⟨j1, j2⟩) js
  · have hsi : siB ((c % wd : Nat) : Int) ((c / wd : Nat) : Int) (d : Nat) = true := by
      simp only [siB, n1, oc, Bool.true_and, decide_eq_true_eq]; omega
    rw [hsi] at hcor
    simp only [Bool.not_true, Bool.false_or, Bool.and_eq_true, siX, si0, siY, hsi, if_true, Int.toNat_natCast] at hcor
    obtain ⟨m, -, hm, m1, m2, ms⟩ := gS_at hcor.1
    have a1 : adI wd c m := ad_of_int (by
      rw [m1, m2]
      match d, h4, hd with
      | 4, _, _ => simp [dX]
      | 5, _, _ => simp [dX]; omega
      | 6, _, _ => simp [dX]; omega
      | 7, _, _ => simp [dX])
    have a2 : adI wd m j := ad_of_int (by
      rw [m1, m2, j1, j2]
      match d, h4, hd with
      | 4, _, _ => simp [dY]
      | 5, _, _ => simp [dY]
      | 6, _, _ => simp [dY]; omega
      | 7, _, _ => simp [dY]; omega)
    exact .step _ _ _ (.step _ _ _ (.refl c hc) a1 ms) a2 js
/-- A straight step to where one stands is legal. -/
theorem lg_yes {wd ht N : Nat} {St : Nat → Bool} (hwd : (1 ≤ wd ∧ wd ≤ 128) ∧ 1 ≤ ht ∧ ht ≤ 128) (hN : N = wd * ht) {c d j : Nat} (hc : St c = true) (hcN : c < N) (hd : d < 4) (hn : nbr wd c j d) (hj : St j = true) (hjN : j < N) :
    lg (gS wd ht St) ((c % wd : Nat) : Int) ((c / wd : Nat) : Int) (d : Nat) = true := by
  obtain ⟨n1, n2, n3⟩ := step_near hwd (by rw [← hN]; exact hcN) (a := c) (show d < 8 by omega)
  have hsi : siB ((c % wd : Nat) : Int) ((c / wd : Nat) : Int) (d : Nat) = false := by
    have : oc (d : Int) = false := by simp [oc]; omega
    simp [siB, this]
  have e : sX ((c % wd : Nat) : Int) ((c / wd : Nat) : Int) (d : Nat) = ((j % wd : Nat) : Int) ∧ sY ((c % wd : Nat) : Int) ((c / wd : Nat) : Int) (d : Nat) = ((j / wd : Nat) : Int) := ⟨n2.trans hn.1.symm, n3.trans hn.2.symm⟩
  simp only [lg, hsi, Bool.not_false, Bool.true_or, Bool.and_true, e.1, e.2, n1, Bool.true_and, gS_of hwd.1.1 (by rw [← hN]; exact hcN) hc, gS_of hwd.1.1 (by rw [← hN]; exact hjN) hj]
/-- How many cells of a block hold 0. -/
def isZ : Value → Bool
  | .int _ z => z == 0
  | _ => false
def zN (w : World) (b : Nat) : Nat := match w.heap[b]? with
  | some (.cells c _ _) => (c.toList.filter isZ).length
  | _ => 0
theorem filter_map_len {α β : Type} (f : α → β) (p : β → Bool) : ∀ l : List α, ((l.map f).filter p).length = (l.filter (fun a => p (f a))).length
  | [] => rfl
  | a :: l => by
    rw [List.map_cons, List.filter_cons, List.filter_cons]
    have := filter_map_len f p l
    split <;> simp [this]
theorem zN_of {w : World} {b n : Nat} {L : Nat → Nat} (h : Nms w b n L) : zN w b = cntP n (fun k => decide (L k = 0)) := by
  have h' : w.heap[b]? = _ := h
  unfold zN cntP
  rw [h']
  simp only
  rw [filter_map_len]
  congr 1
  refine List.filter_congr (fun k _ => ?_)
  simp only [isZ]
  rw [Bool.eq_iff_iff, beq_iff_eq, decide_eq_true_eq]
  omega
theorem cntP_less {P Q : Nat → Bool} {j : Nat} : ∀ {N : Nat}, j < N → P j = true → Q j = false → (∀ i, i ≠ j → Q i = P i) → cntP N Q + 1 = cntP N P
  | 0, h, _, _, _ => by omega
  | N + 1, h, hp, hq, he => by
    rw [cntP_succ, cntP_succ]
    by_cases e : j = N
    · subst e
      rw [hp, hq, cntP_congr (fun i hi => he i (by omega))]
      simp
    · have := cntP_less (N := N) (by omega) hp hq he
      rw [he N (fun x => e x.symm)]
      omega
/-- One more has a number. -/
theorem zN_push {w w' : World} {b n : Nat} {L : Nat → Nat} {m j : Nat} {V : List Nat} (hm : 1 ≤ m) (hj : j < n) (h0 : ov L m V j = 0) (h : Nms w b n (ov L m V)) (h' : Nms w' b n (ov L m (V ++ [j]))) : zN w' b + 1 = zN w b := by
  rw [zN_of h, zN_of h']
  refine cntP_less hj (by simp [h0]) ?_ (fun i hi => ?_)
  · rw [ov_push, if_pos rfl]; simp; omega
  · rw [ov_push, if_neg hi]
theorem zN_same {w w' : World} {b n : Nat} {L : Nat → Nat} (h : Nms w b n L) (h' : Nms w' b n L) : zN w' b = zN w b := by rw [zN_of h, zN_of h']
theorem zN_le {w : World} {b n : Nat} {L : Nat → Nat} (h : Nms w b n L) : zN w b ≤ n := by rw [zN_of h]; exact cntP_le _ _
def lenOf : Value → Nat
  | .slice _ n _ => n
  | _ => 0
theorem Rw.pop {α : Type} {t k : Nat} {cs : α → List Value} {w : World} {a : Option Addr} {cap : Nat} {l : List α} {x : α} (hk : ∀ a, (cs a).length = k) (h : Rw t k cs w (.slice a (l.length + 1) cap) (l ++ [x])) : Rw t k cs w (.slice a l.length cap) l := by
  have hl : (l.flatMap cs).length = l.length * k := by
    clear h
    induction l with
    | nil => simp
    | cons y r ih => rw [List.flatMap_cons, List.length_append, ih, hk, List.length_cons, Nat.succ_mul]; omega
  refine ⟨hl, ?_⟩
  rcases h.2 with ⟨e, h0⟩ | ⟨g, cap', cur, e, hb, hg, hn, hm, hs, ht⟩
  · simp at h0
  · right
    have hll : (l ++ [x]).length = l.length + 1 := by simp
    rw [hll] at e hn ht
    injection e with e1 e2 e3
    refine ⟨g, cap', cur, by rw [e1, e3], hb, hg, by omega, hm, hs, ?_⟩
    have h3 : l.length * k ≤ (l.length + 1) * k := Nat.mul_le_mul_right k (by omega)
    have h2 := congrArg (List.take (l.length * k)) ht
    rw [List.take_take, Nat.min_eq_left h3, List.flatMap_append, List.take_append_of_le_length (by omega), List.take_of_length_le (l := l.flatMap cs) (by omega)] at h2
    exact h2
end Go.Proofs.YtoheibfijpdmfaaGreatDoor
set_option linter.unusedSimpArgs false
namespace Go.Proofs.YtoheibfijpdmfaaGreatDoor
open Go.RowKit Go.Shelf
set_option linter.unusedSectionVars false
variable [DecCn : ∀ (St : Nat → Bool) (Ad : Nat → Nat → Prop) (k i : Nat), Decidable (Cn St Ad k i)]
set_option linter.unusedVariables false
/-- What Labels keeps. -/
structure Ll (w W : World) (wd ht N b : Nat) (iv : Value) (M : Nat → Nat) : Prop where
  gb : GB W w.heap.size wd ht iv
  nm : Nms W b N M
  bl : Below w.heap.size w W
  hb : w.heap.size < b
section
variable {w W W' : World} {wd ht N b : Nat} {iv : Value} {M : Nat → Nat} {n : Nat} {V : List Nat} {tv : Value} {td : List Nat}
theorem Ll.upto (h : Ll w W wd ht N b iv M) (hb : Below W.heap.size W W') : Ll w W' wd ht N b iv M := ⟨h.gb.upto hb, h.nm.upto hb, bt h.bl hb, h.hb⟩
theorem Ll.mark {j : Nat} (h : Ll w W wd ht N b iv (ov M n V)) (hj : j < N) : Ll w (W.setCell ⟨b, j, none⟩ (.int .i64 (n : Nat))) wd ht N b iv (ov M n (V ++ [j])) :=
  ⟨h.gb.kept (Turns.set (S := fun k => k = b) W (p := ⟨b, j, none⟩) rfl _) (by have := h.hb; omega), (h.nm.set hj n).congr (fun k _ => (ov_push M n V j k).symm), h.bl.setCell (p := ⟨b, j, none⟩) (by have := h.hb; simp; omega) _, h.hb⟩
/-- With the stack. -/
structure Lt (w W : World) (wd ht N b : Nat) (iv : Value) (M : Nat → Nat) (tv : Value) (td : List Nat) : Prop where
  ll : Ll w W wd ht N b iv M
  row : Rw 46 2 (cA wd) W tv td
  own : ∀ g, tv.ownBlock = some g → w.heap.size ≤ g
theorem Lt.upto (h : Lt w W wd ht N b iv M tv td) (hb : Below W.heap.size W W') : Lt w W' wd ht N b iv M tv td := ⟨h.ll.upto hb, h.row.upto hb, h.own⟩
theorem Lt.mark {j : Nat} (h : Lt w W wd ht N b iv (ov M n V) tv td) (hj : j < N) : Lt w (W.setCell ⟨b, j, none⟩ (.int .i64 (n : Nat))) wd ht N b iv (ov M n (V ++ [j])) tv td :=
  ⟨h.ll.mark hj, h.row.kept (Turns.set (S := fun k => k = b) W (p := ⟨b, j, none⟩) rfl _) (fun g hg e => h.row.ne hg h.ll.nm (by decide) e), h.own⟩
theorem Lt.push {v' : Value} {j : Nat} (h : Lt w W wd ht N b iv M tv td) (hown : W'.ownsRow 0 46 2 v' (td.length + 1) (td.flatMap (cA wd) ++ cA wd j)) (hgrow : W.grownBy W' tv.ownBlock) (hloc : v'.ownBlock = tv.ownBlock ∨ v'.ownBlock = some W.heap.size) : Lt w W' wd ht N b iv M v' (td ++ [j]) := by
  obtain ⟨⟨h1, h2, h3, h4⟩, hrow, how⟩ := h
  have T : Turns (fun k => tv.ownBlock = some k) W W' := Turns.of_grown hgrow (fun k e => e)
  refine ⟨⟨h1.kept T (fun e => hrow.ne e h1 (by decide) rfl), h2.kept T (fun e => hrow.ne e h2 (by decide) rfl), h3.trans (T.below (fun k e => how k e) h3.size), h4⟩, ?_, fun g hg => ?_⟩
  · unfold Rw
    rw [List.length_append, List.flatMap_append]
    simpa using hown
  · rcases hloc with e | e
    · exact how g (by rw [← e]; exact hg)
    · rw [e] at hg; cases hg; exact h3.size
end
/-- The neighbours in the straight directions below d are met. -/
def Dm (St : Nat → Bool) (wd c d : Nat) (V : List Nat) : Prop := ∀ j e, e < d → e < 4 → nbr wd c j e → St j = true → j ∈ V
theorem Dm.next {St : Nat → Bool} {wd c d : Nat} {V : List Nat} (h : Dm St wd c d V) (hd : d < 4 → ∀ j, nbr wd c j d → St j = true → j ∈ V) : Dm St wd c (d + 1) V := fun j e he h4 hn hs => by
  by_cases h1 : e = d
  · subst h1; exact hd h4 j hn hs
  · exact h j e (by omega) h4 hn hs
theorem Dm.more {St : Nat → Bool} {wd c d : Nat} {V : List Nat} (h : Dm St wd c d V) (x : Nat) : Dm St wd c d (V ++ [x]) := fun j e he h4 hn hs => List.mem_append_left _ (h j e he h4 hn hs)
theorem Dm.all {St : Nat → Bool} {wd c : Nat} {V : List Nat} (h : Dm St wd c 8 V) : ∀ j, adI wd c j → St j = true → j ∈ V := fun j hj hs => by
  obtain ⟨d, hd, hn⟩ := ad_nbr hj
  exact h j d (by omega) hd hn hs
/-- The stack as it is: something, and its last one. -/
theorem last_of {l : List Nat} {n : Nat} (h : l.length = n + 1) : ∃ r c, l = r ++ [c] ∧ r.length = n := by
  refine ⟨l.dropLast, l.getLast (by intro e; subst e; simp at h), (List.dropLast_concat_getLast _).symm, by simp [h]⟩
set_option maxRecDepth 100000 in
set_option maxHeartbeats 16000000 in
theorem labels_any {w : World} {wd ht N : Nat} {St : Nat → Bool} {iv : Value} (h : Gd w wd ht N St iv) (hwd : (1 ≤ wd ∧ wd ≤ 128) ∧ 1 ≤ ht ∧ ht ≤ 128) (hN : N = wd * ht) (hSN : ∀ i, St i = true → i < N) :
    Calls Tryz.prog 8 #[gdv wd ht iv] w fun e w' => ∃ b, e = .returned (sl b N) ∧ Nms w' b N (lb St (adI wd) N).1 ∧ Below w.heap.size w w' ∧ w.heap.size ≤ b := by
  have hN2 : N ≤ 16384 := by have := Nat.mul_le_mul hwd.1.2 hwd.2.2; omega
  have hw : wd ≤ 128 ∧ ht ≤ 128 := ⟨hwd.1.2, hwd.2.2⟩
  have hmul : IntKind.i64.wrap ((wd : Int) * (ht : Int)) = (N : Nat) := by
    rw [show (wd : Int) * (ht : Int) = ((wd * ht : Nat) : Int) by push_cast; rfl, ← hN]
    exact wrap_nat hN2
  have hmk := make_nums N hN2
  have HGd : Hid (∀ wx, Below w.heap.size w wx → Gd wx wd ht N St iv) := hide fun wx hx => h.upto hx
  obtain ⟨a0, cap0, hiv, -⟩ := h.form
  subst hiv
  have HSt : Hid (∀ wx, Below w.heap.size w wx → ∀ x y d, Calls Tryz.prog 22 #[gdv wd ht (.slice a0 N cap0), cel x y, .int .i64 d] wx fun e w' => e = .returned (.tuple #[cel (if lg (gS wd ht St) x y d = true then sX x y d else 0) (if lg (gS wd ht St) x y d = true then sY x y d else 0), .bool (lg (gS wd ht St) x y d)]) ∧ Below wx.heap.size wx w') := hide fun wx hx x y d =>
    gsteps_of (gS wd ht St) x y d a0 N cap0 rfl (fun wy hy u v => gstands_any u v (HGd.out wy (bt hx hy)) hw hN)
  have HA := hide (adI_symm wd)
  obtain ⟨X, hX⟩ : ∃ X, (w.alloc (.cells #[.int .i64 (wd : Nat), .int .i64 (ht : Nat), (.slice a0 N cap0)] 41)).alloc (.cells (Array.replicate N (.int .i64 0)) 3) = X := ⟨_, rfl⟩
  have B0 : Below w.heap.size w X := hX ▸ box2 _ _ _
  have L0 : Ll w X wd ht N (w.heap.size + 1) (.slice a0 N cap0) (lb St (adI wd) 0).1 := by
    refine ⟨?_, ?_, B0, by omega⟩
    · rw [← hX]; exact (GB.new w wd ht _).upto (box1 _ _)
    · have := made_nums N (w.alloc (.cells #[.int .i64 (wd : Nat), .int .i64 (ht : Nat), (.slice a0 N cap0)] 41))
      rw [hX, World.size_alloc] at this
      exact this
  have HL0 := hide L0
  have HN := hide hN
  have HSN := hide hSN
  have HX := hide hX
  have gA : (w.alloc (.cells #[.int .i64 (wd : Nat), .int .i64 (ht : Nat), (.slice a0 N cap0)] 41)).cell? ⟨w.heap.size, 0, none⟩ = some (.int .i64 (wd : Nat)) ∧ (w.alloc (.cells #[.int .i64 (wd : Nat), .int .i64 (ht : Nat), (.slice a0 N cap0)] 41)).cell? ⟨w.heap.size, 1, none⟩ = some (.int .i64 (ht : Nat)) := (GB.new w wd ht (.slice a0 N cap0)).c.1
  obtain ⟨gA0, gA1⟩ := gA
  have hwI : (1 : Int) ≤ (wd : Nat) ∧ ((wd : Nat) : Int) ≤ 128 := by omega
  have hwd0 : ¬ wd = 0 := by omega
  obtain ⟨fi, hfi, hz9, h1, h8⟩ := info_parts info41
  have hNI : ((N : Nat) : Int) ≤ 16384 := by omega
  clear hX L0 hN hSN h B0
  go_enter Tryz.func8, Tryz.ntmps8
  go_wp2_with fail
  rw [HX.out]
  clear gA0 gA1 hmk hmul
  go_loopw [4, 5] (fun n d wr => ∃ i : Nat, d = .int .i64 (i : Nat) ∧ n = .int .i64 ((lb St (adI wd) i).2.length : Nat) ∧ i ≤ N ∧ Ll w wr wd ht N (w.heap.size + 1) (.slice a0 N cap0) (lb St (adI wd) i).1) (fun _ d _ => N - (intOf d).toNat)
  case atStart => exact ⟨0, rfl, rfl, Nat.zero_le _, HL0.out⟩
  case round =>
    obtain ⟨i, rfl, rfl, hi, hL⟩ := hrel
    clear HL0 HX
    rename World => wo
    have hnl : (lb St (adI wd) i).2.length ≤ i := lb_len i
    by_cases hlt : i < N
    · have hli : ((i : Nat) : Int) < (N : Nat) := by omega
      have hiI : (0 : Int) ≤ (i : Nat) ∧ ((i : Nat) : Int) ≤ 16384 := by omega
      obtain ⟨a1, cap1, hiv1, hcs⟩ := (HGd.out wo hL.bl).form
      obtain ⟨g, hga, hgl, hcg⟩ := hcs i hlt
      obtain ⟨sb, hsb⟩ : ∃ sb, St i = sb := ⟨_, rfl⟩
      obtain ⟨u, hu⟩ : ∃ u, (lb St (adI wd) i).1 i = u := ⟨_, rfl⟩
      have hcu := hL.nm.c hlt
      rw [hsb] at hcg
      rw [hu] at hcu
      obtain ⟨nl, hnle⟩ : ∃ nl, (lb St (adI wd) i).2.length = nl := ⟨_, rfl⟩
      have Hnle := hide hnle
      have Hu := hide hu
      have Hsb := hide hsb
      have hnlI : (0 : Int) ≤ (nl : Nat) ∧ ((nl : Nat) : Int) < 16384 := by omega
      obtain ⟨⟨c0, c1⟩, c2⟩ := hL.gb.c
      injection hiv1 with e1 e2 e3
      rw [hga] at e1
      rw [e1] at c2
      have HL := hide hL
      rw [hnle]
      clear hL hcs hu hsb hnle hnl hga e1 e2 e3
      by_cases hnew : sb = true ∧ u = 0
      · obtain ⟨rfl, rfl⟩ := hnew
        have hnz : (0 : Int) ≤ ((nl : Nat) : Int) := by omega
        have fz := HL.out.nm.fz i
        obtain ⟨w1, hw1⟩ : ∃ w1, wo.setCell ⟨w.heap.size + 1, i, none⟩ (.int .i64 (((nl : Nat) : Int) + 1)) = w1 := ⟨_, rfl⟩
        have L1 : Ll w w1 wd ht N (w.heap.size + 1) (.slice a0 N cap0) (ov (lb St (adI wd) i).1 (nl + 1) [i]) := by
          rw [← hw1]
          have h9 : Ll w wo wd ht N (w.heap.size + 1) (.slice a0 N cap0) (ov (lb St (adI wd) i).1 (nl + 1) []) := ⟨HL.out.gb, HL.out.nm.congr (fun k _ => by simp [ov]), HL.out.bl, HL.out.hb⟩
          exact h9.mark hlt
        have HL1 := hide L1
        have HW1 := hide hw1
        obtain ⟨⟨d0, d1⟩, d2⟩ := L1.gb.c
        obtain ⟨kx, hkx⟩ : ∃ kx : Int, ((i % wd : Nat) : Int) = kx := ⟨_, rfl⟩
        obtain ⟨ky, hky⟩ : ∃ ky : Int, ((i / wd : Nat) : Int) = ky := ⟨_, rfl⟩
        have hrem : (i : Int).tmod (wd : Int) = kx := hkx
        have hrem2 : (i : Int) % (wd : Int) = kx := by rw [← hkx]; exact (Int.natCast_emod i wd).symm
        have hquo : IntKind.i64.wrap ((i : Int) / (wd : Int)) = ky := by
          rw [← hky, ← Int.natCast_ediv]
          exact wrap_nat (Nat.le_trans (Nat.div_le_self i wd) (by omega))
        have HKx := hide hkx
        have HKy := hide hky
        clear hw1 L1 hkx hky
        go_wp2_with fail
        try rw [HW1.out]
        clear hcg hcu c0 c1 c2 fz
        refine wp_only ?_
        have L1d : Ll w w1.drew wd ht N (w.heap.size + 1) (.slice a0 N cap0) (ov (lb St (adI wd) i).1 (nl + 1) [i]) := HL1.out.upto (Below.refl _ w1).drew
        have HL1d := hide L1d
        have HSx : Hid (∀ wx M, Ll w wx wd ht N (w.heap.size + 1) (.slice a0 N cap0) M → wx.cell? ⟨w.heap.size, 0, none⟩ = some (.int .i64 (wd : Nat))) := hide fun wx M h => h.gb.c.1.1
        clear L1d d0 d1 d2
        refine wp_region_held_drew (S := fun wx => wx.cell? ⟨w.heap.size, 0, none⟩ = some (.int .i64 (wd : Nat))) (by kernel_rfl) (HSx.out _ _ HL1d.out) (fun hHeld => ?_)
        refine wpAnyH_take (i := 0) (v := ?_) rfl (by kernel_rfl) (by kernel_rfl) (by kernel_rfl) (fun _ _ _ h => h.elim) (Or.inl ⟨by rfl, ?_⟩) (by assumption) ?_
        rotate_left
        · intro wx hSw
          try dsimp only at hSw
          go_simp
          try with_reducible rfl
        try simp only [Act.put, List.getElem_toArray, List.getElem_cons_zero, List.getElem_cons_succ, List.setIfInBounds_toArray, List.set_cons_zero, List.set_cons_succ]
        refine wpAnyH_take (i := 1) (v := ?_) rfl (by kernel_rfl) (by kernel_rfl) (by kernel_rfl) (fun _ _ _ h => h.elim) (Or.inl ⟨by rfl, ?_⟩) (by assumption) ?_
        rotate_left
        · intro wx hSw
          try dsimp only at hSw
          go_simp
          try with_reducible rfl
        try simp only [Act.put, List.getElem_toArray, List.getElem_cons_zero, List.getElem_cons_succ, List.setIfInBounds_toArray, List.set_cons_zero, List.set_cons_succ]
        refine wpAnyH_take (i := 2) (v := ?_) rfl (by kernel_rfl) (by kernel_rfl) (by kernel_rfl) (fun _ _ _ h => h.elim) (Or.inl ⟨by rfl, ?_⟩) (by assumption) ?_
        rotate_left
        · intro wx hSw
          try dsimp only at hSw
          go_simp
          try with_reducible rfl
        try simp only [Act.put, List.getElem_toArray, List.getElem_cons_zero, List.getElem_cons_succ, List.setIfInBounds_toArray, List.set_cons_zero, List.set_cons_succ]
        refine wpAnyH_take (i := 3) (v := ?_) rfl (by kernel_rfl) (by kernel_rfl) (by kernel_rfl) (fun _ _ _ h => h.elim) (Or.inl ⟨by rfl, ?_⟩) (by assumption) ?_
        rotate_left
        · intro wx hSw
          try dsimp only at hSw
          go_simp
          try with_reducible rfl
        try simp only [Act.put, List.getElem_toArray, List.getElem_cons_zero, List.getElem_cons_succ, List.setIfInBounds_toArray, List.set_cons_zero, List.set_cons_succ]
        refine wpAnyH_take (i := 4) (v := ?_) rfl (by kernel_rfl) (by kernel_rfl) (by kernel_rfl) (fun _ _ _ h => h.elim) (Or.inl ⟨by rfl, ?_⟩) (by assumption) ?_
        rotate_left
        · intro wx hSw
          try dsimp only at hSw
          go_simp
          try with_reducible rfl
        try simp only [Act.put, List.getElem_toArray, List.getElem_cons_zero, List.getElem_cons_succ, List.setIfInBounds_toArray, List.set_cons_zero, List.set_cons_succ]
        refine wpAnyH_take (i := 5) (v := ?_) rfl (by kernel_rfl) (by kernel_rfl) (by kernel_rfl) (fun _ _ _ h => h.elim) (Or.inl ⟨by rfl, ?_⟩) (by assumption) ?_
        rotate_left
        · intro wx hSw
          try dsimp only at hSw
          go_simp
          try with_reducible rfl
        try simp only [Act.put, List.getElem_toArray, List.getElem_cons_zero, List.getElem_cons_succ, List.setIfInBounds_toArray, List.set_cons_zero, List.set_cons_succ]
        refine wpAnyH_take (i := 6) (v := ?_) rfl (by kernel_rfl) (by kernel_rfl) (by kernel_rfl) (fun _ _ _ h => h.elim) (Or.inl ⟨by rfl, ?_⟩) (by assumption) ?_
        rotate_left
        · intro wx hSw
          try dsimp only at hSw
          go_simp
          try with_reducible rfl
        try simp only [Act.put, List.getElem_toArray, List.getElem_cons_zero, List.getElem_cons_succ, List.setIfInBounds_toArray, List.set_cons_zero, List.set_cons_succ]
        refine wpAnyH_take (i := 7) (v := ?_) rfl (by kernel_rfl) (by kernel_rfl) (by kernel_rfl) (fun _ _ _ h => h.elim) (Or.inl ⟨by rfl, ?_⟩) (by assumption) ?_
        rotate_left
        · intro wx hSw
          try dsimp only at hSw
          go_simp
          try with_reducible rfl
        try simp only [Act.put, List.getElem_toArray, List.getElem_cons_zero, List.getElem_cons_succ, List.setIfInBounds_toArray, List.set_cons_zero, List.set_cons_succ]
        refine wpAnyH_take (i := 8) (v := ?_) rfl (by kernel_rfl) (by kernel_rfl) (by kernel_rfl) (fun _ _ _ h => h.elim) (Or.inl ⟨by rfl, ?_⟩) (by assumption) ?_
        rotate_left
        · intro wx hSw
          try dsimp only at hSw
          go_simp
          try with_reducible rfl
        try simp only [Act.put, List.getElem_toArray, List.getElem_cons_zero, List.getElem_cons_succ, List.setIfInBounds_toArray, List.set_cons_zero, List.set_cons_succ]
        refine wpAnyH_ready (rs := [9]) (by kernel_rfl) (by simp) ?_
        refine AllReadyH.cons rfl (fun K hK => ?_) ?_
        · go_simp
          have HL2d := hide (HL1.out.upto ((box1 w1 (.cells #[.int .i64 kx, .int .i64 ky] 46)).drew))
          refine hK.out _ _ ?_ (fun hHeld => ?_)
          · first | with_reducible exact HSx.out _ _ HL1d.out | with_reducible exact HSx.out _ _ HL2d.out
          clear hK K
          try simp only [Act.put, List.getElem_toArray, List.getElem_cons_zero, List.getElem_cons_succ, List.setIfInBounds_toArray, List.set_cons_zero, List.set_cons_succ]
          refine wpAnyH_ready (rs := [10]) (by kernel_rfl) (by simp) ?_
          refine AllReadyH.cons rfl (fun K hK => ?_) ?_
          · go_simp
            refine hK.out _ _ ?_ (fun hHeld => ?_)
            · first | with_reducible exact HSx.out _ _ HL1d.out | with_reducible exact HSx.out _ _ HL2d.out
            clear hK K
            try simp only [Act.put, List.getElem_toArray, List.getElem_cons_zero, List.getElem_cons_succ, List.setIfInBounds_toArray, List.set_cons_zero, List.set_cons_succ]
            refine wpAnyH_done (by kernel_rfl) ?_ _
            dsimp only [Only, Exit.then]
            have T3 : Lt w (w1.alloc (.cells #[.int .i64 kx, .int .i64 ky] 46)).drew wd ht N (w.heap.size + 1) (.slice a0 N cap0) (ov (lb St (adI wd) i).1 (nl + 1) [i]) (.slice (some ⟨w1.heap.size, 0, none⟩) 1 1) [i] := by
              refine ⟨HL1.out.upto ((box1 w1 (.cells #[.int .i64 kx, .int .i64 ky] 46)).drew), ?_, fun g hg => by cases hg; exact HL1.out.bl.size⟩
              rw [← HKx.out, ← HKy.out]
              exact ⟨rfl, .inr ⟨w1.heap.size, 1, _, rfl, Nat.zero_le _, heap_alloc_new w1 _, Nat.le_refl _, by decide, rfl, rfl⟩⟩
            have D3 : Df St (adI wd) i [i] [i] none := Df.start Hsb.out
            have HT3 := hide T3
            have HD3 := hide D3
            clear T3 D3 hHeld
            go_wp2_with fail
            go_loopw [6] (fun tv wr => ∃ V td, Lt w wr wd ht N (w.heap.size + 1) (.slice a0 N cap0) (ov (lb St (adI wd) i).1 (nl + 1) V) tv td ∧ Df St (adI wd) i V td none ∧ 2 * zN wr (w.heap.size + 1) + td.length ≤ 32769) (fun tv wr => 2 * zN wr (w.heap.size + 1) + lenOf tv)
            case atStart => exact ⟨_, _, HT3.out, HD3.out, by have := zN_le HT3.out.ll.nm; simp only [List.length_singleton]; omega⟩
            case round =>
              obtain ⟨V, td, hT, hD, hZ⟩ := hrel
              clear HT3 HD3
              rename World => wm
              obtain ⟨a6, cap6, htv, hcap6, hcs⟩ := hT.row.form (cA_len wd)
              subst htv
              have hVN : V.length ≤ N := hD.len HSN.out
              by_cases h0 : td.length = 0
              · have htd : td = [] := List.eq_nil_of_length_eq_zero h0
                subst htd
                have hdn := hD.done
                have e2 := ov_lb (St := St) (Ad := adI wd) (k := i) Hsb.out Hu.out hdn
                rw [Hnle.out] at e2
                have e3 := (lb_new (St := St) (Ad := adI wd) (k := i) Hsb.out Hu.out).2.2
                have HLn : Hid (Ll w wm wd ht N (w.heap.size + 1) (.slice a0 N cap0) (lb St (adI wd) (i + 1)).1) := hide (by rw [← e2]; exact hT.ll)
                have Hl3 : Hid ((lb St (adI wd) (i + 1)).2.length = nl + 1) := hide (by rw [e3, List.length_append, Hnle.out]; rfl)
                clear hT hD hdn e2 e3 hcs
                go_wp2_with fail
                go_roundw
                case rel => exact ⟨i + 1, by go_num, by rw [Hl3.out]; push_cast; rfl, by omega, HLn.out⟩
                case measure => simp [intOf]; omega
              · obtain ⟨rd, c, rfl, -⟩ := last_of (show td.length = (td.length - 1) + 1 by omega)
                obtain ⟨g, hga, hgs, hcc⟩ := hcs rd.length c (by simp)
                subst hga
                obtain ⟨m, hm⟩ : ∃ m, rd.length = m := ⟨_, rfl⟩
                have hlm : (rd ++ [c]).length = m + 1 := by simp [hm]
                obtain ⟨hcV, hDp⟩ := hD.pop
                have hcN : c < N := HSN.out c (hD.cn c hcV).right
                obtain ⟨cx, hcx⟩ : ∃ cx : Int, ((c % wd : Nat) : Int) = cx := ⟨_, rfl⟩
                obtain ⟨cy, hcy⟩ : ∃ cy : Int, ((c / wd : Nat) : Int) = cy := ⟨_, rfl⟩
                rw [hm] at hcc
                have k0 : wm.cell? ⟨g, m * 2, none⟩ = some (.int .i64 cx) := by rw [← hcx]; exact hcc 0 _ rfl
                have k1 : wm.cell? ⟨g, m * 2 + 1, none⟩ = some (.int .i64 cy) := by rw [← hcy]; exact hcc 1 _ rfl
                have hmN : m + 1 ≤ 32769 := by omega
                have hmI : (0 : Int) ≤ (m : Nat) ∧ ((m : Nat) : Int) ≤ 32769 := by omega
                obtain ⟨M0, hM0⟩ : ∃ M0, 2 * zN wm (w.heap.size + 1) + (m + 1) = M0 := ⟨_, rfl⟩
                have hM0b : M0 ≤ 32769 := by omega
                rw [hlm] at hT hcap6
                have hTp : Lt w wm wd ht N (w.heap.size + 1) (.slice a0 N cap0) (ov (lb St (adI wd) i).1 (nl + 1) V) (.slice (some ⟨g, 0, none⟩) m cap6) rd := ⟨hT.ll, by have h9 := hT.row; rw [← hm] at h9 ⊢; exact h9.pop (cA_len wd), fun g' hg' => hT.own g' hg'⟩
                have HTp := hide hTp
                have HDp := hide hDp
                have HcV := hide hcV
                have Hcx := hide hcx
                have Hcy := hide hcy
                have HM0 := hide hM0
                have hcapI : ((m : Nat) : Int) + 1 ≤ (cap6 : Nat) := by omega
                have Hm := hide hm
                have hbl := HTp.out.ll.bl.size
                have hgb := HTp.out.ll.nm.lt
                rw [hlm]
                have hgl : g < wm.heap.size := hgs
                clear hT hD hcV hDp hcx hcy hM0 hTp hcs hcc hm hZ h0 hgs
                go_wp2_with fail
                have BB : Below wm.heap.size wm (wm.alloc (.cells #[.int .i64 cx, .int .i64 cy] 46)) := box1 _ _
                have HIn : Hid (Lt w (wm.alloc (.cells #[.int .i64 cx, .int .i64 cy] 46)) wd ht N (w.heap.size + 1) (.slice a0 N cap0) (ov (lb St (adI wd) i).1 (nl + 1) V) (.slice (some ⟨g, 0, none⟩) m cap6) rd ∧ Two (wm.alloc (.cells #[.int .i64 cx, .int .i64 cy] 46)) wm.heap.size cx cy ∧ 2 * zN (wm.alloc (.cells #[.int .i64 cx, .int .i64 cy] 46)) (w.heap.size + 1) + rd.length < M0) := hide ⟨HTp.out.upto BB, Two.newAt rfl, by rw [zN_same HTp.out.ll.nm (HTp.out.upto BB).ll.nm, Hm.out]; have := HM0.out; omega⟩
                obtain ⟨Bc, hBc⟩ : ∃ Bc, wm.heap.size = Bc := ⟨_, rfl⟩
                obtain ⟨wn, hwn⟩ : ∃ wn, wm.alloc (.cells #[.int .i64 cx, .int .i64 cy] 46) = wn := ⟨_, rfl⟩
                rw [hwn, hBc] at HIn
                rw [hwn, hBc]
                have Hbc : Hid (w.heap.size + 1 < Bc) := hide (by omega)
                have hgB : g ≠ Bc := by omega
                have HTpl : Hid (zN wm (w.heap.size + 1) = zN wm (w.heap.size + 1)) := hide rfl
                clear BB hBc hwn hbl hgb hgl k0 k1 HTp
                go_loopw [6, 8] (fun tv d wr => ∃ (e : Nat) (V td : List Nat), d = .int .i64 (e : Nat) ∧ e ≤ 8 ∧ Lt w wr wd ht N (w.heap.size + 1) (.slice a0 N cap0) (ov (lb St (adI wd) i).1 (nl + 1) V) tv td ∧ Df St (adI wd) i V td (some c) ∧ c ∈ V ∧ Dm St wd c e V ∧ Two wr Bc cx cy ∧ (∀ g, tv.ownBlock = some g → g ≠ Bc) ∧ 2 * zN wr (w.heap.size + 1) + td.length < M0) (fun _ d _ => 8 - (intOf d).toNat)
                case atStart => exact ⟨0, V, rd, rfl, by omega, HIn.out.1, HDp.out, HcV.out, fun j e he => by omega, HIn.out.2.1, fun g' hg' => by simp [Value.ownBlock] at hg'; subst hg'; exact hgB, HIn.out.2.2⟩
                case round =>
                  obtain ⟨e, V, td, rfl, he8, hT, hD, hcV, hDm, hTc, hoc, hM⟩ := hrel
                  clear HIn
                  obtain ⟨a6, cap6, htv, hcap6, -⟩ := hT.row.form (cA_len wd)
                  have hVN : V.length ≤ N := hD.len HSN.out
                  have htV : td.length ≤ 32768 := by have := zN_le hT.ll.nm; omega
                  subst htv
                  obtain ⟨⟨k0, k1⟩, -, -⟩ := id hTc
                  obtain ⟨⟨g0, g1⟩, g2⟩ := hT.ll.gb.c
                  have HTt := hide hT
                  have HDf := hide hD
                  have HcV := hide hcV
                  have HDm := hide hDm
                  have HTc := hide hTc
                  have Hoc := hide hoc
                  have HM := hide hM
                  clear hT hD hcV hDm hTc hoc hM
                  by_cases hlt8 : e < 8
                  · have hlI : ((e : Nat) : Int) < 8 := by omega
                    obtain ⟨r, hr⟩ : ∃ r, lg (gS wd ht St) cx cy (e : Nat) = r := ⟨_, rfl⟩
                    obtain ⟨ox, hox⟩ : ∃ ox, (if r = true then sX cx cy (e : Nat) else 0) = ox := ⟨_, rfl⟩
                    obtain ⟨oy, hoy⟩ : ∃ oy, (if r = true then sY cx cy (e : Nat) else 0) = oy := ⟨_, rfl⟩
                    have HSp : Hid (∀ wx, Below w.heap.size w wx → Calls Tryz.prog 22 #[gdv wd ht (.slice a0 N cap0), cel cx cy, .int .i64 (e : Nat)] wx fun e' w' => e' = .returned (.tuple #[cel ox oy, .bool r]) ∧ Below wx.heap.size wx w') := hide fun wx hx => by
                      have := HSt.out wx hx cx cy (e : Nat)
                      rw [hr, hox, hoy] at this
                      exact this
                    have Hr := hide hr
                    have Hox := hide hox
                    have Hoy := hide hoy
                    clear hr hox hoy
                    go_wp2_with fail
                    refine (HSp.out _ HTt.out.ll.bl).mono ?_
                    rintro e' w4 ⟨rfl, hb4⟩
                    have B4 := bt hb4 (box1 w4 (.cells #[.int .i64 ox, .int .i64 oy] 46))
                    have HT4 := hide (HTt.out.upto B4)
                    have HTc4 := hide (HTc.out.kept B4)
                    have hz4 : zN (w4.alloc (.cells #[.int .i64 ox, .int .i64 oy] 46)) (w.heap.size + 1) = zN wr (w.heap.size + 1) := zN_same HTt.out.ll.nm HT4.out.ll.nm
                    have HM4 : Hid (2 * zN (w4.alloc (.cells #[.int .i64 ox, .int .i64 oy] 46)) (w.heap.size + 1) + td.length < M0) := hide (by rw [hz4]; exact HM.out)
                    have zB : Bc < w4.heap.size := Nat.lt_of_lt_of_le HTc.out.2.2 hb4.size
                    have b9 : Two (w4.alloc (.cells #[.int .i64 ox, .int .i64 oy] 46)) w4.heap.size ox oy := Two.newAt rfl
                    have hwb : w.heap.size + 1 < w4.heap.size := Nat.lt_of_lt_of_le HTt.out.ll.nm.lt hb4.size
                    clear hb4 B4 hz4 k0 k1 g0 g1 g2 HSp HTt HTc HM
                    cases r
                    · have hDn : Dm St wd c (e + 1) V := HDm.out.next fun h4 j hj hs => by
                        exfalso
                        have h9 := lg_yes hwd HN.out (HDf.out.cn c HcV.out).right hcN h4 hj hs (HSN.out j hs)
                        rw [Hcx.out, Hcy.out, Hr.out] at h9
                        cases h9
                      have HDn := hide hDn
                      clear hDn b9
                      go_wp2_with fail
                      go_roundw
                      case rel => exact ⟨e + 1, V, td, by go_num, by omega, HT4.out, HDf.out, HcV.out, HDn.out, HTc4.out, Hoc.out, HM4.out⟩
                      case measure => simp [intOf]; omega
                    · have hlg := Hr.out
                      rw [← Hcx.out, ← Hcy.out] at hlg
                      obtain ⟨j, hjN, hjn, hjs, hjc, hjx, hjy⟩ := lg_cn hwd HN.out (HDf.out.cn c HcV.out).right hcN hlt8 hlg
                      rw [Hcx.out, Hcy.out] at hjx hjy
                      have ex : ((j % wd : Nat) : Int) = ox := by rw [← Hox.out, if_pos rfl]; exact hjx.symm
                      have ey : ((j / wd : Nat) : Int) = oy := by rw [← Hoy.out, if_pos rfl]; exact hjy.symm
                      have e0 : j / wd * wd + j % wd = j := by rw [Nat.mul_comm]; exact Nat.div_add_mod j wd
                      obtain ⟨z, hz⟩ : ∃ z : Int, IntKind.i64.wrap (oy * ((wd : Nat) : Int)) = z := ⟨_, rfl⟩
                      have hz2 : IntKind.i64.wrap (z + ox) = (j : Nat) := by
                        rw [← hz, ← ex, ← ey, show ((j / wd : Nat) : Int) * ((wd : Nat) : Int) = ((j / wd * wd : Nat) : Int) by push_cast; rfl, wrap_nat (by omega), show ((j / wd * wd : Nat) : Int) + ((j % wd : Nat) : Int) = ((j / wd * wd + j % wd : Nat) : Int) by push_cast; rfl, e0]
                        exact wrap_nat (by omega)
                      obtain ⟨u, hu⟩ : ∃ u, ov (lb St (adI wd) i).1 (nl + 1) V j = u := ⟨_, rfl⟩
                      have cu := HT4.out.ll.nm.c hjN
                      rw [hu] at cu
                      have fu := HT4.out.ll.nm.fz j
                      have hjI : (0 : Int) ≤ (j : Nat) ∧ ((j : Nat) : Int) < (N : Nat) := by omega
                      have hcnj : Cn St (adI wd) i j := (HDf.out.cn c HcV.out).trans hjc
                      have hov := ov_zero (l := V) HA.out Hu.out hcnj
                      rw [Hnle.out, hu] at hov
                      have hone : ∀ j', nbr wd c j' e → j' = j := fun j' hj' => idx_eq (wd := wd) (by have := hj'.1.trans hjn.1.symm; omega) (by have := hj'.2.trans hjn.2.symm; omega)
                      obtain ⟨⟨o0, o1⟩, -, -⟩ := id b9
                      obtain ⟨⟨g0, g1⟩, g2⟩ := HT4.out.ll.gb.c
                      have Hex := hide ex
                      have Hey := hide ey
                      have Hhu := hide hu
                      have Hb9 := hide b9
                      clear hlg hjx hjy ex ey e0 hu b9 hjn
                      by_cases hu0 : u = 0
                      · have hjV : j ∉ V := hov.1 hu0
                        have HDp := hide (HDf.out.push HcV.out hjc hjV)
                        have HDn : Hid (Dm St wd c (e + 1) (V ++ [j])) := hide ((HDm.out.more j).next fun _ j' hj' _ => by rw [hone j' hj']; simp)
                        have HcV2 : Hid (c ∈ V ++ [j]) := hide (List.mem_append_left _ HcV.out)
                        subst hu0
                        have HT5 := hide (HT4.out.mark (j := j) hjN)
                        have HTc5 := hide (HTc4.out.past (k := w.heap.size + 1) (o := j) (s := .int .i64 ((nl + 1 : Nat) : Nat)) (by have := Hbc.out; omega))
                        have Hb10 := hide (Hb9.out.past (k := w.heap.size + 1) (o := j) (s := .int .i64 ((nl + 1 : Nat) : Nat)) (by omega))
                        have hz5 := zN_push (m := nl + 1) (by omega) hjN Hhu.out HT4.out.ll.nm HT5.out.ll.nm
                        obtain ⟨⟨p0, p1⟩, -, -⟩ := Hb10.out
                        have hE : (w4.alloc (.cells #[.int .i64 ox, .int .i64 oy] 46)).setCell ⟨w.heap.size + 1, j, none⟩ (.int .i64 ((nl + 1 : Nat) : Nat)) = (w4.setCell ⟨w.heap.size + 1, j, none⟩ (.int .i64 (((nl : Nat) : Int) + 1))).alloc (.cells #[.int .i64 ox, .int .i64 oy] 46) := World.setCell_alloc_past _ _ _ _ hwb
                        have zw5 : w4.heap.size + 1 = ((w4.setCell ⟨w.heap.size + 1, j, none⟩ (.int .i64 (((nl : Nat) : Int) + 1))).alloc (.cells #[.int .i64 ox, .int .i64 oy] 46)).heap.size := by simp [World.setCell]
                        rw [hE] at HT5 HTc5 Hb10 hz5 p0 p1
                        have hown := (HT5.out.upto (box1 ((w4.setCell ⟨w.heap.size + 1, j, none⟩ (.int .i64 (((nl : Nat) : Int) + 1))).alloc (.cells #[.int .i64 ox, .int .i64 oy] 46)) (.cells #[.int .i64 ox, .int .i64 oy] 46))).row
                        have HT6 := hide (HT5.out.upto (box1 ((w4.setCell ⟨w.heap.size + 1, j, none⟩ (.int .i64 (((nl : Nat) : Int) + 1))).alloc (.cells #[.int .i64 ox, .int .i64 oy] 46)) (.cells #[.int .i64 ox, .int .i64 oy] 46)))
                        have HTc6 := hide (HTc5.out.alloc (o := .cells #[.int .i64 ox, .int .i64 oy] 46))
                        have hz6 : zN (((w4.setCell ⟨w.heap.size + 1, j, none⟩ (.int .i64 (((nl : Nat) : Int) + 1))).alloc (.cells #[.int .i64 ox, .int .i64 oy] 46)).alloc (.cells #[.int .i64 ox, .int .i64 oy] 46)) (w.heap.size + 1) = zN ((w4.setCell ⟨w.heap.size + 1, j, none⟩ (.int .i64 (((nl : Nat) : Int) + 1))).alloc (.cells #[.int .i64 ox, .int .i64 oy] 46)) (w.heap.size + 1) := zN_same HT5.out.ll.nm HT6.out.ll.nm
                        have HOw := hide hown
                        have hnw : ∀ i u, (cA wd j)[i]? = some u → (((w4.setCell ⟨w.heap.size + 1, j, none⟩ (.int .i64 (((nl : Nat) : Int) + 1))).alloc (.cells #[.int .i64 ox, .int .i64 oy] 46)).alloc (.cells #[.int .i64 ox, .int .i64 oy] 46)).cell? ((⟨w4.heap.size + 1, 0, none⟩ : Addr).add i) = some u := by
                          have := cA_new ((w4.setCell ⟨w.heap.size + 1, j, none⟩ (.int .i64 (((nl : Nat) : Int) + 1))).alloc (.cells #[.int .i64 ox, .int .i64 oy] 46)) wd j 46
                          rw [Hex.out, Hey.out, ← zw5] at this
                          exact this
                        have Hnw := hide hnw
                        have hm1 : td.length + 1 ≤ maxLen := by unfold maxLen; omega
                        have hm2 : (td.length + 1) * 16 ≤ 140737488355328 := by omega
                        have HM6 : Hid (2 * zN (((w4.setCell ⟨w.heap.size + 1, j, none⟩ (.int .i64 (((nl : Nat) : Int) + 1))).alloc (.cells #[.int .i64 ox, .int .i64 oy] 46)).alloc (.cells #[.int .i64 ox, .int .i64 oy] 46)) (w.heap.size + 1) + (td.length + 1) < M0) := hide (by have := HM4.out; omega)
                        have HzB : Hid (Bc < ((w4.setCell ⟨w.heap.size + 1, j, none⟩ (.int .i64 (((nl : Nat) : Int) + 1))).alloc (.cells #[.int .i64 ox, .int .i64 oy] 46)).heap.size) := hide (by omega)
                        clear hown hnw hE hz5 hz6 hov hone zw5 HDm HDf
                        go_wp2_with (at_builtin; go_loud (refine wpList_append_own_at _ rfl _ _ 73 rfl 0 46 fi (cel 0 0) 2 16 Tryz.underlying73 hfi hz9 h1 h8 rfl (by decide) (.slice a6 td.length cap6) td.length _ rfl HOw.out ⟨w4.heap.size + 1, 0, none⟩ 1 1 (cA wd j) rfl rfl Hnw.out (cA_one wd j) hm1 hm2 (Nat.zero_le _) ?_); intro v' w9 hown9 hgrow9 hnil9 hloc9; have HT9 := hide (HT6.out.push hown9 hgrow9 hloc9); have HTc9 := hide (two_kept HTc6.out (Turns.of_grown (S := fun k => (Value.slice a6 td.length cap6).ownBlock = some k) hgrow9 (fun k e => e)) (fun e => Hoc.out _ e rfl)); have Hoc9 : Hid (∀ g, v'.ownBlock = some g → g ≠ Bc) := hide (fun g hg => by rcases hloc9 with q | q; exact Hoc.out g (by rw [← q]; exact hg); rw [q] at hg; cases hg; have := HzB.out; simp; omega); have HM9 : Hid (2 * zN w9 (w.heap.size + 1) + (td.length + 1) < M0) := hide (by rw [zN_same HT6.out.ll.nm HT9.out.ll.nm]; exact HM6.out); clear hown9 hgrow9 hnil9 hloc9)
                        go_roundw
                        case rel => exact ⟨e + 1, V ++ [j], td ++ [j], by go_num, by omega, HT9.out, HDp.out, HcV2.out, HDn.out, HTc9.out, Hoc9.out, by rw [List.length_append]; exact HM9.out⟩
                        case measure => simp [intOf]; omega
                      · have hjV : j ∈ V := Decidable.byContradiction fun h => hu0 (hov.2 h)
                        have HDn : Hid (Dm St wd c (e + 1) V) := hide (HDm.out.next fun _ j' hj' _ => by rw [hone j' hj']; exact hjV)
                        have hu1 : ¬ ((u : Nat) : Int) = 0 := by omega
                        clear hov hone hjV
                        go_wp2_with fail
                        go_roundw
                        case rel => exact ⟨e + 1, V, td, by go_num, by omega, HT4.out, HDf.out, HcV.out, HDn.out, HTc4.out, Hoc.out, HM4.out⟩
                        case measure => simp [intOf]; omega
                  · have hlI : ¬ ((e : Nat) : Int) < 8 := by omega
                    have he : e = 8 := by omega
                    subst he
                    have HDb := hide (HDf.out.back HDm.out.all)
                    clear k0 k1 g0 g1 g2
                    go_wp2_with fail
                    go_roundw
                    case rel => exact ⟨V, td, HTt.out, HDb.out, by have := HM.out; omega⟩
                    case measure => have := HM.out; have := HM0.out; simp only [lenOf]; omega
            
          exact AllReadyH.nil
        exact AllReadyH.nil
      · have hold : lb St (adI wd) (i + 1) = lb St (adI wd) i := lb_old (by rw [Hsb.out, Hu.out]; exact hnew)
        have HO := hide hold
        clear hold
        cases sb
        · clear hcu hnew
          go_wp2_with fail
          go_roundw
          case rel => exact ⟨i + 1, by go_num, by rw [HO.out, Hnle.out], by omega, by rw [HO.out]; exact HL.out⟩
          case measure => simp [intOf]; omega
        · have hu0 : (0 : Int) < (u : Nat) := by
            have : ¬ u = 0 := fun e => hnew ⟨rfl, e⟩
            omega
          clear hnew
          go_wp2_with fail
          go_roundw
          case rel => exact ⟨i + 1, by go_num, by rw [HO.out, Hnle.out], by omega, by rw [HO.out]; exact HL.out⟩
          case measure => simp [intOf]; omega
    · have hie : i = N := by omega
      subst hie
      have hli : ¬ ((i : Nat) : Int) < (i : Nat) := by omega
      have HL := hide hL
      clear hL
      go_wp2_with fail
      go_ret
      exact ⟨_, rfl, HL.out.nm, HL.out.bl, by omega⟩
end Go.Proofs.YtoheibfijpdmfaaGreatDoor
