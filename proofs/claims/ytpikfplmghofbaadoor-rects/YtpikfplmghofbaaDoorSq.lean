/-
  A number divided by the side of a cluster, rounded down, by the package and by the document; the cluster of a cell, both ways.
-/
import Derived.Test.YtpikfplmghofbaaDoorMeet
import Derived.Test.YtpikfplmghofbaaDoorWho
set_option linter.unusedSimpArgs false
namespace Go.Proofs.YtpikfplmghofbaaDoor
open Go.RowKit
set_option linter.unusedVariables false
attribute [local go_sem] Oper.semAt_some
theorem sq_any (n : Int) (h : W64 n) (w : World) : Calls Tryd.prog 31 #[.int .i64 n] w fun e w' => e = .returned (.int .i64 (n / 8)) ∧ w' = w := by
  obtain ⟨h1, h2⟩ := w64_range h
  clear h
  by_cases h0 : 0 ≤ n
  · have e1 : n.tdiv 8 = n / 8 := Int.tdiv_eq_ediv_of_nonneg h0
    have e2 : n.tmod 8 = n % 8 := Int.tmod_eq_emod_of_nonneg h0
    go_enter Tryd.func31, Tryd.ntmps31
    go_wp2
    go_ret
    exact ⟨rfl, rfl⟩
  · obtain ⟨q, hq⟩ : ∃ q, n.tdiv 8 = q := ⟨_, rfl⟩
    obtain ⟨r, hr⟩ : ∃ r, n.tmod 8 = r := ⟨_, rfl⟩
    have e1 : n.tdiv 8 = -((-n) / 8) := by rw [show n = -(-n) by omega, Int.neg_tdiv, Int.tdiv_eq_ediv_of_nonneg (by omega)]; simp
    have e2 : n.tmod 8 = -((-n) % 8) := by rw [show n = -(-n) by omega, Int.neg_tmod, Int.tmod_eq_emod_of_nonneg (by omega)]; simp
    have f1 : -1152921504606846976 ≤ q ∧ q ≤ 0 := by omega
    have f2 : -8 < r ∧ r ≤ 0 := by omega
    have f3 : r = 0 → q = n / 8 := by omega
    have f4 : r < 0 → q - 1 = n / 8 := by omega
    clear e1 e2
    have F3 := hide f3
    have F4 := hide f4
    clear f3 f4
    by_cases hz : r = 0
    · go_enter Tryd.func31, Tryd.ntmps31
      go_wp2
      go_ret
      exact ⟨ret_int (F3.out hz), rfl⟩
    · have hz' : r < 0 := by omega
      go_enter Tryd.func31, Tryd.ntmps31
      go_wp2
      go_ret
      exact ⟨ret_int (F4.out hz'), rfl⟩
theorem down_any (n : Int) (h : W64 n) (w : World) : Calls Tryd.prog 19 #[.int .i64 n] w fun e w' => e = .returned (.int .i64 (n / 8)) ∧ w' = w := by
  obtain ⟨h1, h2⟩ := w64_range h
  clear h
  by_cases h0 : n < 0
  · obtain ⟨q, hq⟩ : ∃ q, (-(n + 1)).tdiv 8 = q := ⟨_, rfl⟩
    have e1 : (-(n + 1)).tdiv 8 = (-(n + 1)) / 8 := Int.tdiv_eq_ediv_of_nonneg (by omega)
    have f1 : 0 ≤ q ∧ q ≤ 1152921504606846976 := by omega
    have F3 := hide (show -(q + 1) = n / 8 by omega)
    clear e1
    go_enter Tryd.func19, Tryd.ntmps19
    go_wp2
    go_ret
    exact ⟨ret_int F3.out, rfl⟩
  · have e1 : n.tdiv 8 = n / 8 := Int.tdiv_eq_ediv_of_nonneg (by omega)
    go_enter Tryd.func19, Tryd.ntmps19
    go_wp2
    go_ret
    exact ⟨rfl, rfl⟩
set_option maxHeartbeats 1000000 in
theorem of_any (x y : Int) (hx : W64 x) (hy : W64 y) (w : World) : Calls Tryd.prog 13 #[cel x y] w fun e w' => e = .returned (cel (x / 8) (y / 8)) ∧ Below w.heap.size w w' := by
  have HX := hide (sq_any x hx)
  have HY := hide (sq_any y hy)
  clear hx hy
  have B2 : Below w.heap.size w ((w.alloc (.cells #[.int .i64 x, .int .i64 y] 27)).alloc (.cells #[.int .i64 0, .int .i64 0] 27)) := box2 _ _ _
  obtain ⟨X, hX⟩ : ∃ X, (w.alloc (.cells #[.int .i64 x, .int .i64 y] 27)).alloc (.cells #[.int .i64 0, .int .i64 0] 27) = X := ⟨_, rfl⟩
  rw [hX] at B2
  have T0 : Two X w.heap.size x y := by rw [← hX]; exact (Two.newAt rfl).alloc
  have T1 : Two X (w.heap.size + 1) 0 0 := by rw [← hX]; exact Two.newAt (by simp)
  go_enter Tryd.func13, Tryd.ntmps13
  go_wp2_with fail
  clear hX
  have HB := hide B2
  clear B2
  obtain ⟨⟨c0, c1⟩, ⟨f0, f1⟩, z0⟩ := T0
  obtain ⟨⟨d0, d1⟩, ⟨g0, g1⟩, z1⟩ := T1
  go_region_held3 (fun w' => w'.cell? ⟨w.heap.size, 0, none⟩ = some (.int .i64 x) ∧ w'.cell? ⟨w.heap.size, 1, none⟩ = some (.int .i64 y)) (go_keep)
    (first | (go_at_call_of 31 x; refine (HX.out _).mono ?_; rintro e w' ⟨rfl, rfl⟩) | (go_at_call_of 31 y; refine (HY.out _).mono ?_; rintro e w' ⟨rfl, rfl⟩))
  go_wp2_with fail
  refine bodyPost_ret (v := cel (x / 8) (y / 8)) (by simp [results, Tryd.results13, go_sem, *]) rfl ⟨rfl, ?_⟩
  exact (set2 HB.out (by simp) (by simp)).drew
end Go.Proofs.YtpikfplmghofbaaDoor
