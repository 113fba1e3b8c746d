/-
  The document's Octile.
-/
import Derived.Test.YtmkoleioipklpaaOct
import Derived.Deep.RegionHeld3
namespace Go.Proofs.Ytmkoleioipklpaa
open Go.RowKit
set_option linter.unusedVariables false
set_option linter.unusedSimpArgs false
set_option maxHeartbeats 400000 in
theorem abs_any (a : Int) (w : World) (ha : -9223372036854775807 ≤ a ∧ a ≤ 9223372036854775807) :
    Calls Try.prog 38 #[.int .i64 a] w fun e w' => e = .returned (.int .i64 (amt a)) ∧ w' = w := by
  obtain ⟨h0, h1⟩ := ha
  by_cases h : a < 0
  · rw [show amt a = -a by unfold amt; rw [if_pos h]]
    go_enter Try.func38, Try.ntmps38
    go_wp2
    go_ret
    exact ⟨rfl, rfl⟩
  · rw [show amt a = a by unfold amt; rw [if_neg h]]
    go_enter Try.func38, Try.ntmps38
    go_wp2
    go_ret
    exact ⟨rfl, rfl⟩
theorem oct_nearR {a b c d : Int} (h : nrC a b = true) (h2 : nrC c d = true) : 0 ≤ octN (a - c) (b - d) ∧ octN (a - c) (b - d) ≤ 29360128 := by
  rw [nrC_iff] at h h2
  unfold octN amt
  split <;> split <;> omega
set_option maxHeartbeats 1000000 in
theorem refoctilec_no1 (a b c d : Int) (w : World) (h : nrC a b = false) :
    Calls Try.prog 25 #[.agg #[.int .i64 a, .int .i64 b], .agg #[.int .i64 c, .int .i64 d]] w fun e w' => e = .returned (.int .i64 (ocN a b c d)) ∧ Below w.heap.size w w' := by
  rw [ocN_no1 h]
  go_enter Try.func25, Try.ntmps25
  go_wp2_with (go_at_call 37; refine (refnear_any _ _ _).mono ?_; rintro e w1 ⟨rfl, hb1⟩)
  go_ret
  exact ⟨rfl, bt (box2 _ _ _) hb1⟩
set_option maxHeartbeats 1000000 in
theorem refoctilec_no2 (a b c d : Int) (w : World) (h : nrC a b = true) (h2 : nrC c d = false) :
    Calls Try.prog 25 #[.agg #[.int .i64 a, .int .i64 b], .agg #[.int .i64 c, .int .i64 d]] w fun e w' => e = .returned (.int .i64 (ocN a b c d)) ∧ Below w.heap.size w w' := by
  rw [ocN_no2 h2]
  go_enter Try.func25, Try.ntmps25
  go_wp2_with fail
  refine (refnear_any _ _ _).mono ?_
  rintro e w1 ⟨rfl, hb1⟩
  obtain ⟨⟨e0, e1⟩, _, z1⟩ := cells2'' hb1
  go_wp2_with fail
  refine (refnear_any _ _ _).mono ?_
  rintro e w2 ⟨rfl, hb2⟩
  go_wp2_with fail
  go_ret
  exact ⟨rfl, bt (bt (box2 _ _ _) hb1) hb2⟩
set_option maxHeartbeats 1000000 in
theorem refoctilec_yes (a b c d : Int) (w : World) (h : nrC a b = true) (h2 : nrC c d = true) :
    Calls Try.prog 25 #[.agg #[.int .i64 a, .int .i64 b], .agg #[.int .i64 c, .int .i64 d]] w fun e w' => e = .returned (.int .i64 (ocN a b c d)) ∧ Below w.heap.size w w' := by
  rw [ocN_yes h h2]
  obtain ⟨⟨a0, a1⟩, b0, b1⟩ := (nrC_iff a b).1 h
  obtain ⟨⟨cc0, cc1⟩, d0, d1⟩ := (nrC_iff c d).1 h2
  have HO := hide (oct_nearR h h2)
  have wx : IntKind.i64.wrap (a - c) = a - c := wrap_in (by omega) (by omega)
  have wy : IntKind.i64.wrap (b - d) = b - d := wrap_in (by omega) (by omega)
  go_enter Try.func25, Try.ntmps25
  go_wp2_with fail
  refine (refnear_any _ _ _).mono ?_
  rintro e w1 ⟨rfl, hb1⟩
  obtain ⟨⟨c0, c1⟩, ⟨f0, f1⟩, z0⟩ := cells2' hb1
  obtain ⟨⟨e0, e1⟩, ⟨g0, g1⟩, z1⟩ := cells2'' hb1
  have B1 := hide (bt (box2 _ _ _) hb1)
  clear hb1
  go_wp2_with fail
  refine (refnear_any _ _ _).mono ?_
  rintro e w2 ⟨rfl, hb2⟩
  obtain ⟨⟨k0, k1⟩, _⟩ := Below.two hb2 z0 c0 c1 f0 f1
  obtain ⟨⟨l0, l1⟩, _⟩ := Below.two hb2 z1 e0 e1 g0 g1
  have B2 := hide hb2
  clear hb2 c0 c1 e0 e1
  go_wp2_with fail
  go_region_held3 (fun w' => (w'.cell? ⟨w.heap.size, 0, none⟩ = some (.int .i64 a) ∧ w'.cell? ⟨w.heap.size, 1, none⟩ = some (.int .i64 b)) ∧ (w'.cell? ⟨w.heap.size + 1, 0, none⟩ = some (.int .i64 c) ∧ w'.cell? ⟨w.heap.size + 1, 1, none⟩ = some (.int .i64 d))) (go_keep)
    ((go_at_call 38; refine (abs_any _ _ (by omega)).mono ?_; rintro e w' ⟨rfl, rfl⟩))
  obtain ⟨m0, m1⟩ := amt_near ⟨a0, a1⟩ ⟨cc0, cc1⟩
  obtain ⟨n0, n1⟩ := amt_near ⟨b0, b1⟩ ⟨d0, d1⟩
  by_cases hlt : amt (b - d) < amt (a - c)
  · go_wp2_with fail
    go_ret
    exact ⟨ret_int (by unfold octN; omega), (bt B1.out B2.out).drew⟩
  · go_wp2_with fail
    go_ret
    exact ⟨ret_int (by unfold octN; omega), (bt B1.out B2.out).drew⟩
theorem refoctilec_any (a b c d : Int) (w : World) :
    Calls Try.prog 25 #[.agg #[.int .i64 a, .int .i64 b], .agg #[.int .i64 c, .int .i64 d]] w fun e w' => e = .returned (.int .i64 (ocN a b c d)) ∧ Below w.heap.size w w' := by
  cases h : nrC a b
  · exact refoctilec_no1 a b c d w h
  · cases h2 : nrC c d
    · exact refoctilec_no2 a b c d w h h2
    · exact refoctilec_yes a b c d w h h2
end Go.Proofs.Ytmkoleioipklpaa
