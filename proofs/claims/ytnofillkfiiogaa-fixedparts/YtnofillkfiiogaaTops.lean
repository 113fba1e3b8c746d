/-
  What phalanxlaw01.awake tells; roots over whole numbers.
-/
import Derived.Test.YtnofillkfiiogaaRoots
import Derived.Deep.DeepCutAuto
namespace Go.Proofs.Ytnofillkfiiogaa
open Go.RowKit
set_option linter.unusedVariables false
theorem fit_zero : fit 0 = true := by decide
set_option maxHeartbeats 400000 in
theorem awake_any (w : World) : Calls Try.prog 19 #[] w fun e w' => e = .returned (.bool true) ∧ w' = w := by
  have d1 : dvV (-7) 2 = -4 := by decide
  have d2 : dvB (-7) 2 = true := by decide
  have d3 : told (octN 3 (-5)) = 62 := by decide
  have d4 : fit (octN 3 (-5)) = true := by decide
  go_enter Try.func19, Try.ntmps19
  go_wp2_with fail
  refine (div_any _ _ _ (by omega) (by omega)).mono ?_; rintro e w' ⟨rfl, rfl⟩
  go_wp2_with fail
  refine (octile_any _ _ _ (by omega) (by omega)).mono ?_; rintro e w' ⟨rfl, rfl⟩
  go_wp2_with fail
  go_ret
  exact ⟨rfl, rfl⟩
theorem sq_le_bound (r a : Nat) (h : r * r ≤ a) (ha : a ≤ 9223372036854775807) : r ≤ 3037000499 := by
  rcases Nat.lt_or_ge 3037000499 r with h1 | h1
  · have := Nat.mul_le_mul (Nat.succ_le_of_lt h1) (Nat.succ_le_of_lt h1)
    omega
  · exact h1
theorem told_range (n : Int) : -9223372036854775808 ≤ told n ∧ told n ≤ 9223372036854775807 := by
  cases h : fit n with
  | false => rw [told_not h]; omega
  | true => rw [told_of h]; exact (fit_iff n).1 h
theorem from_floor (a : Int) (h : fit (a * 4294967296) = true) : told (a * 4294967296) / 4294967296 = a := by
  rw [told_of h]; omega
theorem sqrt_int (a : Int) (w : World) (h0 : 0 ≤ a) (ha : a ≤ 9223372036854775807) :
    Calls Try.prog 22 #[.int .i64 a] w fun e w' => ∃ r : Int, 0 ≤ r ∧ r ≤ 3037000499 ∧ r * r ≤ a ∧ a < (r + 1) * (r + 1) ∧ e = .returned (.tuple #[.int .i64 r, .bool true]) ∧ w' = w := by
  obtain ⟨n, rfl⟩ := Int.eq_ofNat_of_zero_le h0
  have hn : n ≤ 9223372036854775807 := by omega
  refine (sqrt_any n w hn).mono ?_
  rintro e w' ⟨r, h1, h2, he, hw⟩
  have h3 := sq_le_bound r n h1 hn
  refine ⟨(r : Int), by omega, by omega, ?_, ?_, he, hw⟩
  · rw [← Int.natCast_mul]; omega
  · have e : (((r + 1) * (r + 1) : Nat) : Int) = ((r : Int) + 1) * ((r : Int) + 1) := by push_cast; rfl
    rw [← e]; omega
end Go.Proofs.Ytnofillkfiiogaa
