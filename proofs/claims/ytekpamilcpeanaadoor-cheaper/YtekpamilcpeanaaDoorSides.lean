/-
  Sides of the package and of the reference.
-/
import Derived.Test.YtekpamilcpeanaaDoorStep
namespace Go.Proofs.YtekpamilcpeanaaDoor
open Go.RowKit
set_option linter.unusedVariables false
theorem step_any (x y d : Int) (w : World) (ho : Offs w) :
    Calls Tryd.prog 57 #[.agg #[.int .i64 x, .int .i64 y], .int .i64 d] w fun e w' => e = .returned (.tuple #[.agg #[.int .i64 (sX x y d), .int .i64 (sY x y d)], .bool (sB x y d)]) ∧ Below w.heap.size w w' := by
  cases h : isD d
  · exact step_no1 x y d w h
  · cases hn : nrC x y
    · exact step_no2 x y d w h hn
    · obtain ⟨h0, h1⟩ := (isD_iff d).1 h
      obtain ⟨k, rfl⟩ := Int.eq_ofNat_of_zero_le h0
      cases hm : nrC (x + dX k) (y + dY k)
      · exact step_off x y k w (by omega) ho hn hm
      · exact step_yes x y k w (by omega) ho hn hm
def oc (d : Int) : Bool := decide (4 ≤ d)
set_option maxHeartbeats 400000 in
theorem corner_any (d : Int) (w : World) : Calls Tryd.prog 93 #[.int .i64 d] w fun e w' => e = .returned (.bool (oc d)) ∧ w' = w := by
  go_enter Tryd.func93, Tryd.ntmps93
  go_wp2
  go_ret
  exact ⟨rfl, rfl⟩
def siB (x y d : Int) : Bool := sB x y d && oc d
def siX (x y d : Int) : Int := if siB x y d = true then x + dX d.toNat else 0
def siY (x y d : Int) : Int := if siB x y d = true then y + dY d.toNat else 0
def si0 (x y d z : Int) : Int := if siB x y d = true then z else 0
abbrev sidesV (x y d : Int) : Value := .tuple #[.agg #[.int .i64 (siX x y d), .int .i64 (si0 x y d y)], .agg #[.int .i64 (si0 x y d x), .int .i64 (siY x y d)], .bool (siB x y d)]
theorem sidesV_no {x y d : Int} (h : siB x y d = false) : sidesV x y d = .tuple #[.agg #[.int .i64 0, .int .i64 0], .agg #[.int .i64 0, .int .i64 0], .bool false] := by simp [sidesV, siX, siY, si0, h]
theorem sidesV_yes {x y d : Int} (h : siB x y d = true) : sidesV x y d = .tuple #[.agg #[.int .i64 (x + dX d.toNat), .int .i64 y], .agg #[.int .i64 x, .int .i64 (y + dY d.toNat)], .bool true] := by simp [sidesV, siX, siY, si0, h]
abbrev W3 (w : World) (x y : Int) : World := ((w.alloc (.cells #[.int .i64 x, .int .i64 y] 23)).alloc (.cells #[.int .i64 0, .int .i64 0] 23)).alloc (.cells #[.int .i64 0, .int .i64 0] 23)
theorem w3_below (w : World) (x y : Int) : Below w.heap.size w (W3 w x y) := bt (box2 _ _ _) (box1 _ _)
theorem w3_cells {w w1 : World} {x y : Int} (h : Below (W3 w x y).heap.size (W3 w x y) w1) :
    ((w1.cell? ⟨w.heap.size, 0, none⟩ = some (.int .i64 x) ∧ w1.cell? ⟨w.heap.size, 1, none⟩ = some (.int .i64 y)) ∧ (w1.frozen? ⟨w.heap.size, 0, none⟩ = false ∧ w1.frozen? ⟨w.heap.size, 1, none⟩ = false) ∧ w.heap.size < w1.heap.size) ∧
    ((w1.cell? ⟨w.heap.size + 1, 0, none⟩ = some (.int .i64 0) ∧ w1.cell? ⟨w.heap.size + 1, 1, none⟩ = some (.int .i64 0)) ∧ (w1.frozen? ⟨w.heap.size + 1, 0, none⟩ = false ∧ w1.frozen? ⟨w.heap.size + 1, 1, none⟩ = false) ∧ w.heap.size + 1 < w1.heap.size) ∧
    ((w1.cell? ⟨w.heap.size + 1 + 1, 0, none⟩ = some (.int .i64 0) ∧ w1.cell? ⟨w.heap.size + 1 + 1, 1, none⟩ = some (.int .i64 0)) ∧ (w1.frozen? ⟨w.heap.size + 1 + 1, 0, none⟩ = false ∧ w1.frozen? ⟨w.heap.size + 1 + 1, 1, none⟩ = false) ∧ w.heap.size + 1 + 1 < w1.heap.size) := by
  refine ⟨cells2' (bt (box1 _ _) h), cells2'' (bt (box1 _ _) h), ?_⟩
  have := cells2'' (w := w.alloc (.cells #[.int .i64 x, .int .i64 y] 23)) h
  simpa using this
theorem named2 (w1 : World) (a b : Value) (t : TypeId) : ∃ W, w1.alloc (.cells #[a, b] t) = W ∧ Below w1.heap.size w1 W ∧ W.cell? ⟨w1.heap.size, 0, none⟩ = some a ∧ W.cell? ⟨w1.heap.size, 1, none⟩ = some b ∧ w1.heap.size < W.heap.size := by
  obtain ⟨⟨h0, h1⟩, _, hz⟩ := cells2 (Below.refl (w1.alloc (.cells #[a, b] t)).heap.size (w1.alloc (.cells #[a, b] t)))
  exact ⟨_, rfl, box1 _ _, h0, h1, hz⟩
set_option maxHeartbeats 1000000 in
theorem sides_no (x y d : Int) (w : World) (ho : Offs w) (h : siB x y d = false) :
    Calls Tryd.prog 74 #[.agg #[.int .i64 x, .int .i64 y], .int .i64 d] w fun e w' => e = .returned (sidesV x y d) ∧ Below w.heap.size w w' := by
  rw [sidesV_no h]
  cases hs : sB x y d
  · go_enter Tryd.func74, Tryd.ntmps74
    go_wp2_with (go_at_call 57; refine (step_any _ _ _ _ (ho.kept (w3_below _ _ _))).mono ?_; rintro e w1 ⟨rfl, hb1⟩; obtain ⟨⟨⟨c0, c1⟩, _, z0⟩, ⟨⟨e0, e1⟩, ⟨f0, f1⟩, z1⟩, ⟨g0, g1⟩, ⟨k0, k1⟩, z2⟩ := w3_cells hb1; have Hb := hide (bt (w3_below _ _ _) hb1); clear hb1)
    refine bodyPost_ret (v := .tuple #[.agg #[.int .i64 0, .int .i64 0], .agg #[.int .i64 0, .int .i64 0], .bool false]) (by simp [results, Tryd.results74, go_sem, *]) rfl ⟨rfl, ?_⟩
    exact (set2 (set2 Hb.out (by simp) (by simp)) (by simp; omega) (by simp; omega)).alloc (by simp; omega) _
  · have hc : oc d = false := by simpa [siB, hs] using h
    go_enter Tryd.func74, Tryd.ntmps74
    go_wp2_with (first | (go_at_call 93; refine (corner_any _ _).mono ?_; rintro e w' ⟨rfl, rfl⟩) | (go_at_call 57; refine (step_any _ _ _ _ (ho.kept (w3_below _ _ _))).mono ?_; rintro e w1 ⟨rfl, hb1⟩; obtain ⟨⟨⟨c0, c1⟩, _, z0⟩, ⟨⟨e0, e1⟩, ⟨f0, f1⟩, z1⟩, ⟨g0, g1⟩, ⟨k0, k1⟩, z2⟩ := w3_cells hb1; have Hb := hide (bt (w3_below _ _ _) hb1); clear hb1))
    refine bodyPost_ret (v := .tuple #[.agg #[.int .i64 0, .int .i64 0], .agg #[.int .i64 0, .int .i64 0], .bool false]) (by simp [results, Tryd.results74, go_sem, *]) rfl ⟨rfl, ?_⟩
    exact (set2 (set2 Hb.out (by simp) (by simp)) (by simp; omega) (by simp; omega)).alloc (by simp; omega) _
set_option maxHeartbeats 1000000 in
theorem sides_yes (x y d : Int) (w : World) (ho : Offs w) (h : siB x y d = true) :
    Calls Tryd.prog 74 #[.agg #[.int .i64 x, .int .i64 y], .int .i64 d] w fun e w' => e = .returned (sidesV x y d) ∧ Below w.heap.size w w' := by
  rw [sidesV_yes h]
  have h2 : sB x y d = true ∧ oc d = true := by simpa [siB] using h
  obtain ⟨hs, hc⟩ := h2
  have hx := hide (sX_yes hs)
  have hy := hide (sY_yes hs)
  rw [← hx.out, ← hy.out]
  clear h
  go_enter Tryd.func74, Tryd.ntmps74
  go_wp2_with (first | (go_at_call 93; refine (corner_any _ _).mono ?_; rintro e w' ⟨rfl, rfl⟩) | (go_at_call 57; refine (step_any _ _ _ _ (ho.kept (w3_below _ _ _))).mono ?_; rintro e w1 ⟨rfl, hb1⟩; obtain ⟨⟨⟨c0, c1⟩, _, z0⟩, ⟨⟨e0, e1⟩, ⟨f0, f1⟩, z1⟩, ⟨g0, g1⟩, ⟨k0, k1⟩, z2⟩ := w3_cells hb1; have Hb := hide (bt (w3_below _ _ _) hb1); clear hb1))
  obtain ⟨W, hW, hBW, n0, n1, nz⟩ := named2 w1 (.int .i64 (sX x y d)) (.int .i64 (sY x y d)) 23
  rw [hW]
  obtain ⟨⟨e2, e3⟩, f2, f3⟩ := Below.two hBW z1 e0 e1 f0 f1
  obtain ⟨⟨g2, g3⟩, k2, k3⟩ := Below.two hBW z2 g0 g1 k0 k1
  have c2 := (hBW.cell (p := ⟨w.heap.size, 0, none⟩) z0).trans c0
  have c3 := (hBW.cell (p := ⟨w.heap.size, 1, none⟩) z0).trans c1
  have HB := hide (bt Hb.out hBW)
  have q1 : ¬ w.heap.size + 1 = w1.heap.size := by omega
  have q2 : ¬ w.heap.size + 1 + 1 = w1.heap.size := by omega
  have q3 : ¬ w1.heap.size = w.heap.size + 1 := by omega
  have q4 : ¬ w1.heap.size = w.heap.size + 1 + 1 := by omega
  have q5 : ¬ w.heap.size = w.heap.size + 1 + 1 := by omega
  have q6 : ¬ w.heap.size + 1 + 1 = w.heap.size := by omega
  clear hW hBW e0 e1 f0 f1 g0 g1 k0 k1 c0 c1 Hb
  go_region_held3 (fun w' => (w'.cell? ⟨w.heap.size, 0, none⟩ = some (.int .i64 x) ∧ w'.cell? ⟨w.heap.size, 1, none⟩ = some (.int .i64 y)) ∧ (w'.cell? ⟨w1.heap.size, 0, none⟩ = some (.int .i64 (sX x y d)) ∧ w'.cell? ⟨w1.heap.size, 1, none⟩ = some (.int .i64 (sY x y d)))) (go_keep) (fail)
  go_wp2_with fail
  refine bodyPost_ret (v := .tuple #[.agg #[.int .i64 (sX x y d), .int .i64 y], .agg #[.int .i64 x, .int .i64 (sY x y d)], .bool true]) (by simp [results, Tryd.results74, go_sem, *]) rfl ⟨rfl, ?_⟩
  exact (set2 (set2 HB.out (by simp) (by simp)) (by simp; omega) (by simp; omega)).drew
theorem sides_any (x y d : Int) (w : World) (ho : Offs w) :
    Calls Tryd.prog 74 #[.agg #[.int .i64 x, .int .i64 y], .int .i64 d] w fun e w' => e = .returned (sidesV x y d) ∧ Below w.heap.size w w' := by
  cases h : siB x y d
  · exact sides_no x y d w ho h
  · exact sides_yes x y d w ho h
def co (d : Int) : Int := if isD d = true then (if oc d = true then 14 else 10) else 0
end Go.Proofs.YtekpamilcpeanaaDoor
