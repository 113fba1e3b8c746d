/-
  Apart and Octile: what they tell.
-/
import Derived.Test.YtekpamilcpeanaaDoorRPath
import Derived.Deep.RegionHeld3
namespace Go.Proofs.YtekpamilcpeanaaDoor
open Go.RowKit Go.Shelf
set_option linter.unusedVariables false
set_option linter.unusedSimpArgs false
def amt (a : Int) : Int := if a < 0 then -a else a
def octN (x y : Int) : Int := 14 * min (amt x) (amt y) + 10 * (max (amt x) (amt y) - min (amt x) (amt y))
theorem run_max_int4 {P : Program} {w : World} (ts : Array TypeId) (t : TypeId) (k k1 k2 k3 : IntKind) (x y z u : Int) : (Builtin.max_ ts t #[.int k x, .int k1 y, .int k2 z, .int k3 u]).run P w = .ok (.int k (max (max (max x y) z) u)) w := by
  simp [Builtin.max_, Builtin.max2, max_if]
attribute [local go_sem] run_max_int4
theorem wrap_in {n : Int} (h0 : -9223372036854775808 ≤ n) (h1 : n ≤ 9223372036854775807) : IntKind.i64.wrap n = n := by rw [IntKind.wrap_i64]; omega
theorem amt_near {a c : Int} (h : -1048576 ≤ a ∧ a ≤ 1048576) (h2 : -1048576 ≤ c ∧ c ≤ 1048576) : 0 ≤ amt (a - c) ∧ amt (a - c) ≤ 2097152 := by unfold amt; split <;> omega
def apN (a b c d : Int) : Int := if (nrC a b && nrC c d) = true then max (amt (a - c)) (amt (b - d)) else 0
def ocN (a b c d : Int) : Int := if (nrC a b && nrC c d) = true then octN (a - c) (b - d) else 0
theorem apN_no1 {a b c d : Int} (h : nrC a b = false) : apN a b c d = 0 := by simp [apN, h]
theorem apN_no2 {a b c d : Int} (h : nrC c d = false) : apN a b c d = 0 := by simp [apN, h]
theorem apN_yes {a b c d : Int} (h : nrC a b = true) (h2 : nrC c d = true) : apN a b c d = max (amt (a - c)) (amt (b - d)) := by simp [apN, h, h2]
theorem ocN_no1 {a b c d : Int} (h : nrC a b = false) : ocN a b c d = 0 := by simp [ocN, h]
theorem ocN_no2 {a b c d : Int} (h : nrC c d = false) : ocN a b c d = 0 := by simp [ocN, h]
theorem ocN_yes {a b c d : Int} (h : nrC a b = true) (h2 : nrC c d = true) : ocN a b c d = octN (a - c) (b - d) := by simp [ocN, h, h2]
set_option maxHeartbeats 1000000 in
theorem apart_no1 (a b c d : Int) (w : World) (h : nrC a b = false) :
    Calls Tryd.prog 25 #[.agg #[.int .i64 a, .int .i64 b], .agg #[.int .i64 c, .int .i64 d]] w fun e w' => e = .returned (.int .i64 (apN a b c d)) ∧ Below w.heap.size w w' := by
  rw [apN_no1 h]
  go_enter Tryd.func25, Tryd.ntmps25
  go_wp2_with (go_at_call 24; refine (near_any _ _ _).mono ?_; rintro e w1 ⟨rfl, hb1⟩)
  go_ret
  exact ⟨rfl, bt (box2 _ _ _) hb1⟩
set_option maxHeartbeats 1000000 in
theorem apart_no2 (a b c d : Int) (w : World) (h : nrC a b = true) (h2 : nrC c d = false) :
    Calls Tryd.prog 25 #[.agg #[.int .i64 a, .int .i64 b], .agg #[.int .i64 c, .int .i64 d]] w fun e w' => e = .returned (.int .i64 (apN a b c d)) ∧ Below w.heap.size w w' := by
  rw [apN_no2 h2]
  go_enter Tryd.func25, Tryd.ntmps25
  go_wp2_with fail
  refine (near_any _ _ _).mono ?_
  rintro e w1 ⟨rfl, hb1⟩
  obtain ⟨⟨e0, e1⟩, _, z1⟩ := cells2'' hb1
  go_wp2_with fail
  refine (near_any _ _ _).mono ?_
  rintro e w2 ⟨rfl, hb2⟩
  go_wp2_with fail
  go_ret
  exact ⟨rfl, bt (bt (box2 _ _ _) hb1) hb2⟩
theorem ap_arith (a b c d m : Int) (h : m = max (a - c) (max (c - a) (max (b - d) (d - b)))) : m = max (amt (a - c)) (amt (b - d)) := by unfold amt; omega
set_option maxHeartbeats 1000000 in
theorem apart_yes (a b c d : Int) (w : World) (h : nrC a b = true) (h2 : nrC c d = true) :
    Calls Tryd.prog 25 #[.agg #[.int .i64 a, .int .i64 b], .agg #[.int .i64 c, .int .i64 d]] w fun e w' => e = .returned (.int .i64 (apN a b c d)) ∧ Below w.heap.size w w' := by
  rw [apN_yes h h2]
  obtain ⟨⟨a0, a1⟩, b0, b1⟩ := (nrC_iff a b).1 h
  obtain ⟨⟨cc0, cc1⟩, d0, d1⟩ := (nrC_iff c d).1 h2
  go_enter Tryd.func25, Tryd.ntmps25
  go_wp2_with fail
  refine (near_any _ _ _).mono ?_
  rintro e w1 ⟨rfl, hb1⟩
  obtain ⟨⟨c0, c1⟩, ⟨f0, f1⟩, z0⟩ := cells2' hb1
  obtain ⟨⟨e0, e1⟩, ⟨g0, g1⟩, z1⟩ := cells2'' hb1
  have B1 := hide (bt (box2 _ _ _) hb1)
  clear hb1
  go_wp2_with fail
  refine (near_any _ _ _).mono ?_
  rintro e w2 ⟨rfl, hb2⟩
  obtain ⟨⟨k0, k1⟩, _⟩ := Below.two hb2 z0 c0 c1 f0 f1
  obtain ⟨⟨l0, l1⟩, _⟩ := Below.two hb2 z1 e0 e1 g0 g1
  have B2 := hide hb2
  clear hb2 c0 c1 e0 e1
  go_wp2_with fail
  go_ret
  exact ⟨ret_int (ap_arith _ _ _ _ _ rfl), bt B1.out B2.out⟩
theorem apart_any (a b c d : Int) (w : World) :
    Calls Tryd.prog 25 #[.agg #[.int .i64 a, .int .i64 b], .agg #[.int .i64 c, .int .i64 d]] w fun e w' => e = .returned (.int .i64 (apN a b c d)) ∧ Below w.heap.size w w' := by
  cases h : nrC a b
  · exact apart_no1 a b c d w h
  · cases h2 : nrC c d
    · exact apart_no2 a b c d w h h2
    · exact apart_yes a b c d w h h2
set_option maxHeartbeats 400000 in
theorem abs_any (a : Int) (w : World) (ha : -9223372036854775807 ≤ a ∧ a ≤ 9223372036854775807) :
    Calls Tryd.prog 22 #[.int .i64 a] w fun e w' => e = .returned (.int .i64 (amt a)) ∧ w' = w := by
  obtain ⟨h0, h1⟩ := ha
  by_cases h : a < 0
  · rw [show amt a = -a by unfold amt; rw [if_pos h]]
    go_enter Tryd.func22, Tryd.ntmps22
    go_wp2
    go_ret
    exact ⟨rfl, rfl⟩
  · rw [show amt a = a by unfold amt; rw [if_neg h]]
    go_enter Tryd.func22, Tryd.ntmps22
    go_wp2
    go_ret
    exact ⟨rfl, rfl⟩
set_option maxHeartbeats 1000000 in
theorem refapart_no1 (a b c d : Int) (w : World) (h : nrC a b = false) :
    Calls Tryd.prog 7 #[.agg #[.int .i64 a, .int .i64 b], .agg #[.int .i64 c, .int .i64 d]] w fun e w' => e = .returned (.int .i64 (apN a b c d)) ∧ Below w.heap.size w w' := by
  rw [apN_no1 h]
  go_enter Tryd.func7, Tryd.ntmps7
  go_wp2_with (go_at_call 12; refine (refnear_any _ _ _).mono ?_; rintro e w1 ⟨rfl, hb1⟩)
  go_ret
  exact ⟨rfl, bt (box2 _ _ _) hb1⟩
set_option maxHeartbeats 1000000 in
theorem refapart_no2 (a b c d : Int) (w : World) (h : nrC a b = true) (h2 : nrC c d = false) :
    Calls Tryd.prog 7 #[.agg #[.int .i64 a, .int .i64 b], .agg #[.int .i64 c, .int .i64 d]] w fun e w' => e = .returned (.int .i64 (apN a b c d)) ∧ Below w.heap.size w w' := by
  rw [apN_no2 h2]
  go_enter Tryd.func7, Tryd.ntmps7
  go_wp2_with fail
  refine (refnear_any _ _ _).mono ?_
  rintro e w1 ⟨rfl, hb1⟩
  obtain ⟨⟨e0, e1⟩, _, z1⟩ := cells2'' hb1
  go_wp2_with fail
  refine (refnear_any _ _ _).mono ?_
  rintro e w2 ⟨rfl, hb2⟩
  go_wp2_with fail
  go_ret
  exact ⟨rfl, bt (bt (box2 _ _ _) hb1) hb2⟩
set_option maxHeartbeats 1000000 in
theorem refapart_yes (a b c d : Int) (w : World) (h : nrC a b = true) (h2 : nrC c d = true) :
    Calls Tryd.prog 7 #[.agg #[.int .i64 a, .int .i64 b], .agg #[.int .i64 c, .int .i64 d]] w fun e w' => e = .returned (.int .i64 (apN a b c d)) ∧ Below w.heap.size w w' := by
  rw [apN_yes h h2]
  obtain ⟨⟨a0, a1⟩, b0, b1⟩ := (nrC_iff a b).1 h
  obtain ⟨⟨cc0, cc1⟩, d0, d1⟩ := (nrC_iff c d).1 h2
  have wx : IntKind.i64.wrap (a - c) = a - c := wrap_in (by omega) (by omega)
  have wy : IntKind.i64.wrap (b - d) = b - d := wrap_in (by omega) (by omega)
  go_enter Tryd.func7, Tryd.ntmps7
  go_wp2_with fail
  refine (refnear_any _ _ _).mono ?_
  rintro e w1 ⟨rfl, hb1⟩
  obtain ⟨⟨c0, c1⟩, ⟨f0, f1⟩, z0⟩ := cells2' hb1
  obtain ⟨⟨e0, e1⟩, ⟨g0, g1⟩, z1⟩ := cells2'' hb1
  have B1 := hide (bt (box2 _ _ _) hb1)
  clear hb1
  go_wp2_with fail
  refine (refnear_any _ _ _).mono ?_
  rintro e w2 ⟨rfl, hb2⟩
  obtain ⟨⟨k0, k1⟩, _⟩ := Below.two hb2 z0 c0 c1 f0 f1
  obtain ⟨⟨l0, l1⟩, _⟩ := Below.two hb2 z1 e0 e1 g0 g1
  have B2 := hide hb2
  clear hb2 c0 c1 e0 e1
  go_wp2_with fail
  go_region_held3 (fun w' => (w'.cell? ⟨w.heap.size, 0, none⟩ = some (.int .i64 a) ∧ w'.cell? ⟨w.heap.size, 1, none⟩ = some (.int .i64 b)) ∧ (w'.cell? ⟨w.heap.size + 1, 0, none⟩ = some (.int .i64 c) ∧ w'.cell? ⟨w.heap.size + 1, 1, none⟩ = some (.int .i64 d))) (go_keep)
    ((go_at_call 22; refine (abs_any _ _ (by omega)).mono ?_; rintro e w' ⟨rfl, rfl⟩))
  by_cases hlt : amt (a - c) < amt (b - d)
  · go_wp2_with fail
    go_ret
    exact ⟨ret_int (by omega), (bt B1.out B2.out).drew⟩
  · go_wp2_with fail
    go_ret
    exact ⟨ret_int (by omega), (bt B1.out B2.out).drew⟩
theorem refapart_any (a b c d : Int) (w : World) :
    Calls Tryd.prog 7 #[.agg #[.int .i64 a, .int .i64 b], .agg #[.int .i64 c, .int .i64 d]] w fun e w' => e = .returned (.int .i64 (apN a b c d)) ∧ Below w.heap.size w w' := by
  cases h : nrC a b
  · exact refapart_no1 a b c d w h
  · cases h2 : nrC c d
    · exact refapart_no2 a b c d w h h2
    · exact refapart_yes a b c d w h h2
theorem oct_near {a b c d : Int} (h : nrC a b = true) (h2 : nrC c d = true) : 0 ≤ octN (a - c) (b - d) ∧ octN (a - c) (b - d) ≤ 29360128 := by
  rw [nrC_iff] at h h2
  unfold octN amt
  split <;> split <;> omega
set_option maxHeartbeats 1000000 in
theorem refoctilec_no1 (a b c d : Int) (w : World) (h : nrC a b = false) :
    Calls Tryd.prog 14 #[.agg #[.int .i64 a, .int .i64 b], .agg #[.int .i64 c, .int .i64 d]] w fun e w' => e = .returned (.int .i64 (ocN a b c d)) ∧ Below w.heap.size w w' := by
  rw [ocN_no1 h]
  go_enter Tryd.func14, Tryd.ntmps14
  go_wp2_with (go_at_call 12; refine (refnear_any _ _ _).mono ?_; rintro e w1 ⟨rfl, hb1⟩)
  go_ret
  exact ⟨rfl, bt (box2 _ _ _) hb1⟩
set_option maxHeartbeats 1000000 in
theorem refoctilec_no2 (a b c d : Int) (w : World) (h : nrC a b = true) (h2 : nrC c d = false) :
    Calls Tryd.prog 14 #[.agg #[.int .i64 a, .int .i64 b], .agg #[.int .i64 c, .int .i64 d]] w fun e w' => e = .returned (.int .i64 (ocN a b c d)) ∧ Below w.heap.size w w' := by
  rw [ocN_no2 h2]
  go_enter Tryd.func14, Tryd.ntmps14
  go_wp2_with fail
  refine (refnear_any _ _ _).mono ?_
  rintro e w1 ⟨rfl, hb1⟩
  obtain ⟨⟨e0, e1⟩, _, z1⟩ := cells2'' hb1
  go_wp2_with fail
  refine (refnear_any _ _ _).mono ?_
  rintro e w2 ⟨rfl, hb2⟩
  go_wp2_with fail
  go_ret
  exact ⟨rfl, bt (bt (box2 _ _ _) hb1) hb2⟩
set_option maxHeartbeats 1000000 in
theorem refoctilec_yes (a b c d : Int) (w : World) (h : nrC a b = true) (h2 : nrC c d = true) :
    Calls Tryd.prog 14 #[.agg #[.int .i64 a, .int .i64 b], .agg #[.int .i64 c, .int .i64 d]] w fun e w' => e = .returned (.int .i64 (ocN a b c d)) ∧ Below w.heap.size w w' := by
  rw [ocN_yes h h2]
  obtain ⟨⟨a0, a1⟩, b0, b1⟩ := (nrC_iff a b).1 h
  obtain ⟨⟨cc0, cc1⟩, d0, d1⟩ := (nrC_iff c d).1 h2
  have HO := hide (oct_near h h2)
  have wx : IntKind.i64.wrap (a - c) = a - c := wrap_in (by omega) (by omega)
  have wy : IntKind.i64.wrap (b - d) = b - d := wrap_in (by omega) (by omega)
  go_enter Tryd.func14, Tryd.ntmps14
  go_wp2_with fail
  refine (refnear_any _ _ _).mono ?_
  rintro e w1 ⟨rfl, hb1⟩
  obtain ⟨⟨c0, c1⟩, ⟨f0, f1⟩, z0⟩ := cells2' hb1
  obtain ⟨⟨e0, e1⟩, ⟨g0, g1⟩, z1⟩ := cells2'' hb1
  have B1 := hide (bt (box2 _ _ _) hb1)
  clear hb1
  go_wp2_with fail
  refine (refnear_any _ _ _).mono ?_
  rintro e w2 ⟨rfl, hb2⟩
  obtain ⟨⟨k0, k1⟩, _⟩ := Below.two hb2 z0 c0 c1 f0 f1
  obtain ⟨⟨l0, l1⟩, _⟩ := Below.two hb2 z1 e0 e1 g0 g1
  have B2 := hide hb2
  clear hb2 c0 c1 e0 e1
  go_wp2_with fail
  go_region_held3 (fun w' => (w'.cell? ⟨w.heap.size, 0, none⟩ = some (.int .i64 a) ∧ w'.cell? ⟨w.heap.size, 1, none⟩ = some (.int .i64 b)) ∧ (w'.cell? ⟨w.heap.size + 1, 0, none⟩ = some (.int .i64 c) ∧ w'.cell? ⟨w.heap.size + 1, 1, none⟩ = some (.int .i64 d))) (go_keep)
    ((go_at_call 22; refine (abs_any _ _ (by omega)).mono ?_; rintro e w' ⟨rfl, rfl⟩))
  obtain ⟨m0, m1⟩ := amt_near ⟨a0, a1⟩ ⟨cc0, cc1⟩
  obtain ⟨n0, n1⟩ := amt_near ⟨b0, b1⟩ ⟨d0, d1⟩
  by_cases hlt : amt (b - d) < amt (a - c)
  · go_wp2_with fail
    go_ret
    exact ⟨ret_int (by unfold octN; omega), (bt B1.out B2.out).drew⟩
  · go_wp2_with fail
    go_ret
    exact ⟨ret_int (by unfold octN; omega), (bt B1.out B2.out).drew⟩
theorem refoctilec_any (a b c d : Int) (w : World) :
    Calls Tryd.prog 14 #[.agg #[.int .i64 a, .int .i64 b], .agg #[.int .i64 c, .int .i64 d]] w fun e w' => e = .returned (.int .i64 (ocN a b c d)) ∧ Below w.heap.size w w' := by
  cases h : nrC a b
  · exact refoctilec_no1 a b c d w h
  · cases h2 : nrC c d
    · exact refoctilec_no2 a b c d w h h2
    · exact refoctilec_yes a b c d w h h2
theorem octN_nonneg (x y : Int) : 0 ≤ octN x y := by
  unfold octN amt
  split <;> split <;> omega
theorem octN_le {x y : Int} (hx : -4194304 ≤ x ∧ x ≤ 4194304) (hy : -4194304 ≤ y ∧ y ≤ 4194304) : octN x y ≤ 1099511627776 := by
  unfold octN amt
  split <;> split <;> omega
theorem octN_step : ∀ (t : Fin 8) (x y : Int), octN x y ≤ co ((t.val : Nat) : Int) + octN (x + dX t.val) (y + dY t.val) := by
  intro t x y
  have hc : co ((t.val : Nat) : Int) = if dX t.val = 0 ∨ dY t.val = 0 then 10 else 14 := by revert t; decide
  have h1 := dX_range t.val
  have h2 := dY_range t.val
  rw [hc]
  generalize dX t.val = a at *
  generalize dY t.val = b at *
  unfold octN amt
  split <;> split <;> split <;> split <;> split <;> omega
end Go.Proofs.YtekpamilcpeanaaDoor
