/-
  Octile of the package and of the reference.
-/
import Derived.Test.YtmkoleioipklpaaFixed
namespace Go.Proofs.Ytmkoleioipklpaa
open Go.RowKit
set_option linter.unusedVariables false
theorem wrap_in {n : Int} (h0 : -9223372036854775808 ≤ n) (h1 : n ≤ 9223372036854775807) : IntKind.i64.wrap n = n := by rw [IntKind.wrap_i64]; omega
theorem amt_near {a c : Int} (h : -1048576 ≤ a ∧ a ≤ 1048576) (h2 : -1048576 ≤ c ∧ c ≤ 1048576) : 0 ≤ amt (a - c) ∧ amt (a - c) ≤ 2097152 := by unfold amt; split <;> omega
def ocN (a b c d : Int) : Int := if (nrC a b && nrC c d) = true then octN (a - c) (b - d) else 0
theorem ocN_no1 {a b c d : Int} (h : nrC a b = false) : ocN a b c d = 0 := by simp [ocN, h]
theorem ocN_no2 {a b c d : Int} (h : nrC c d = false) : ocN a b c d = 0 := by simp [ocN, h]
theorem ocN_yes {a b c d : Int} (h : nrC a b = true) (h2 : nrC c d = true) : ocN a b c d = octN (a - c) (b - d) := by simp [ocN, h, h2]
theorem oct_near {a b c d : Int} (h : nrC a b = true) (h2 : nrC c d = true) : told (octN (a - c) (b - d)) = octN (a - c) (b - d) := by
  have h := (nrC_iff a b).1 h
  have h2 := (nrC_iff c d).1 h2
  have m1 := amt_near h.1 h2.1
  have m2 := amt_near h.2 h2.2
  apply told_of
  apply fit_of <;> (unfold octN; omega)
set_option maxHeartbeats 1000000 in
theorem octilec_no1 (a b c d : Int) (w : World) (h : nrC a b = false) :
    Calls Try.prog 23 #[.agg #[.int .i64 a, .int .i64 b], .agg #[.int .i64 c, .int .i64 d]] w fun e w' => e = .returned (.int .i64 (ocN a b c d)) ∧ Below w.heap.size w w' := by
  rw [ocN_no1 h]
  go_enter Try.func23, Try.ntmps23
  go_wp2_with (go_at_call 35; refine (near_any _ _ _).mono ?_; rintro e w1 ⟨rfl, hb1⟩)
  go_ret
  exact ⟨rfl, bt (box2 _ _ _) hb1⟩
set_option maxHeartbeats 1000000 in
theorem octilec_no2 (a b c d : Int) (w : World) (h : nrC a b = true) (h2 : nrC c d = false) :
    Calls Try.prog 23 #[.agg #[.int .i64 a, .int .i64 b], .agg #[.int .i64 c, .int .i64 d]] w fun e w' => e = .returned (.int .i64 (ocN a b c d)) ∧ Below w.heap.size w w' := by
  rw [ocN_no2 h2]
  go_enter Try.func23, Try.ntmps23
  go_wp2_with fail
  refine (near_any _ _ _).mono ?_
  rintro e w1 ⟨rfl, hb1⟩
  obtain ⟨⟨e0, e1⟩, _, z1⟩ := cells2'' hb1
  go_wp2_with fail
  refine (near_any _ _ _).mono ?_
  rintro e w2 ⟨rfl, hb2⟩
  go_wp2_with fail
  go_ret
  exact ⟨rfl, bt (bt (box2 _ _ _) hb1) hb2⟩
set_option maxHeartbeats 1000000 in
theorem octilec_yes (a b c d : Int) (w : World) (h : nrC a b = true) (h2 : nrC c d = true) :
    Calls Try.prog 23 #[.agg #[.int .i64 a, .int .i64 b], .agg #[.int .i64 c, .int .i64 d]] w fun e w' => e = .returned (.int .i64 (ocN a b c d)) ∧ Below w.heap.size w w' := by
  rw [ocN_yes h h2]
  obtain ⟨⟨a0, a1⟩, b0, b1⟩ := (nrC_iff a b).1 h
  obtain ⟨⟨cc0, cc1⟩, d0, d1⟩ := (nrC_iff c d).1 h2
  have HO := hide (oct_near h h2)
  have wx : IntKind.i64.wrap (a - c) = a - c := wrap_in (by omega) (by omega)
  have wy : IntKind.i64.wrap (b - d) = b - d := wrap_in (by omega) (by omega)
  go_enter Try.func23, Try.ntmps23
  go_wp2_with fail
  refine (near_any _ _ _).mono ?_
  rintro e w1 ⟨rfl, hb1⟩
  obtain ⟨⟨c0, c1⟩, ⟨f0, f1⟩, z0⟩ := cells2' hb1
  obtain ⟨⟨e0, e1⟩, ⟨g0, g1⟩, z1⟩ := cells2'' hb1
  have B1 := hide (bt (box2 _ _ _) hb1)
  clear hb1
  go_wp2_with fail
  refine (near_any _ _ _).mono ?_
  rintro e w2 ⟨rfl, hb2⟩
  obtain ⟨⟨k0, k1⟩, _⟩ := Below.two hb2 z0 c0 c1 f0 f1
  obtain ⟨⟨l0, l1⟩, _⟩ := Below.two hb2 z1 e0 e1 g0 g1
  have B2 := hide hb2
  clear hb2 c0 c1 e0 e1
  go_wp2_with (go_at_call 36; refine (octile_any _ _ _ (by omega) (by omega)).mono ?_; rintro e w' ⟨rfl, rfl⟩)
  go_ret
  exact ⟨ret_int HO.out, bt B1.out B2.out⟩
theorem octilec_any (a b c d : Int) (w : World) :
    Calls Try.prog 23 #[.agg #[.int .i64 a, .int .i64 b], .agg #[.int .i64 c, .int .i64 d]] w fun e w' => e = .returned (.int .i64 (ocN a b c d)) ∧ Below w.heap.size w w' := by
  cases h : nrC a b
  · exact octilec_no1 a b c d w h
  · cases h2 : nrC c d
    · exact octilec_no2 a b c d w h h2
    · exact octilec_yes a b c d w h h2
end Go.Proofs.Ytmkoleioipklpaa
