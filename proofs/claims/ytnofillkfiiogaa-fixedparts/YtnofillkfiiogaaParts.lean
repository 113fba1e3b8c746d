/-
  Package fixed's MulQ and DivQ.
-/
import Derived.Test.YtnofillkfiiogaaShifts
import Derived.Test.YtnofillkfiiogaaDiv64
namespace Go.Proofs.Ytnofillkfiiogaa
open Go.RowKit
set_option linter.unusedVariables false
theorem or_halves (h l : Int) (h1 : -2147483648 ≤ h) (h2 : h < 2147483648) (l0 : 0 ≤ l) (l1 : l < 4294967296) : bits .or .i64 (h * 4294967296) l = h * 4294967296 + l := by
  have e : bits .or .i64 (h * 4294967296) l = IntKind.i64.wrap (((BitVec.ofInt 64 (h * 4294967296) ||| BitVec.ofInt 64 l).toNat : Nat) : Int) := rfl
  rw [e, BitVec.toNat_or, BitVec.toNat_ofInt, BitVec.toNat_ofInt]
  have j := nat_join 32 (h * 4294967296 % ((2 ^ 64 : Nat) : Int)).toNat (l % ((2 ^ 64 : Nat) : Int)).toNat (by omega) (by omega)
  rw [j, IntKind.wrap_i64]
  omega
/-- A product of 128 bits, its middle words. -/
theorem mulq_fits (p : Int) (h : nwB (p / 18446744073709551616) 32 = true) : fit (p / 4294967296) = true ∧ bits .or .i64 (wrap64 (p / 18446744073709551616 * 4294967296)) (p % 18446744073709551616 / 4294967296) = p / 4294967296 := by
  have g := (nwB_iff (p / 18446744073709551616) 32 (by omega) (by omega)).1 h
  have hh : -2147483648 ≤ p / 18446744073709551616 ∧ p / 18446744073709551616 < 2147483648 := by simpa using g
  refine ⟨fit_of (by omega) (by omega), ?_⟩
  rw [wrap64_fit (fit_of (by omega) (by omega)), or_halves _ _ hh.1 hh.2 (by omega) (by omega)]
  omega
theorem mulq_not (p : Int) (h : nwB (p / 18446744073709551616) 32 = false) : fit (p / 4294967296) = false := by
  cases hf : fit (p / 4294967296) with
  | false => rfl
  | true =>
    have g := (fit_iff _).1 hf
    have : nwB (p / 18446744073709551616) 32 = true := (nwB_iff (p / 18446744073709551616) 32 (by omega) (by omega)).2 (by simp; omega)
    rw [h] at this; cases this
set_option maxHeartbeats 400000 in
theorem mulq_any (a b : Int) (w : World) (ha : -9223372036854775808 ≤ a ∧ a ≤ 9223372036854775807) (hb : -9223372036854775808 ≤ b ∧ b ≤ 9223372036854775807) :
    Calls Try.prog 26 #[.int .i64 a, .int .i64 b] w fun e w' => e = .returned (.tuple #[.int .i64 (told (a * b / 4294967296)), .bool (fit (a * b / 4294967296))]) ∧ w' = w := by
  have hr := mul_range a b ha hb
  cases hn : nwB (a * b / 18446744073709551616) 32 with
  | false =>
    have hf := hide (mulq_not _ hn)
    clear hr
    go_enter Try.func26, Try.ntmps26
    go_wp2_with fail
    refine (wide_any a b _ ha hb).mono ?_; rintro e wz ⟨rfl, hwz⟩; rw [hwz]; clear hwz wz
    go_wp2_with fail
    refine (narrow_all _ _ _).mono ?_; rintro e wz ⟨rfl, hwz⟩; rw [hwz]; clear hwz wz
    go_wp2_with fail
    go_ret2
    exact ⟨ret_ib (told_not hf).symm hf.out.symm, rfl⟩
  | true =>
    have hf := hide (mulq_fits _ hn)
    clear hr
    go_enter Try.func26, Try.ntmps26
    go_wp2_with fail
    refine (wide_any a b _ ha hb).mono ?_; rintro e wz ⟨rfl, hwz⟩; rw [hwz]; clear hwz wz
    go_wp2_with fail
    refine (narrow_all _ _ _).mono ?_; rintro e wz ⟨rfl, hwz⟩; rw [hwz]; clear hwz wz
    go_wp2_with fail
    go_ret2
    refine ⟨ret_ib ?_ hf.out.1.symm, rfl⟩
    rw [told_of hf.out.1]
    exact hf.out.2
/-- The number of an amount, a sign and a rest, rounded down. -/
def sgN (below : Bool) (n : Nat) (rest : Bool) : Int := if below = true then -(n : Int) - (if rest = true then 1 else 0) else (n : Int)
set_option maxHeartbeats 400000 in
theorem signed_pos (n : Int) (rest : Bool) (w : World) (h0 : 0 ≤ n) (h1 : n < 18446744073709551616) :
    Calls Try.prog 47 #[.bool false, .int .u64 n, .bool rest] w fun e w' => e = .returned (.tuple #[.int .i64 (told n), .bool (fit n)]) ∧ w' = w := by
  by_cases h : 9223372036854775807 < n
  · have hf := hide (not_fit (n := n) (by omega))
    go_enter Try.func47, Try.ntmps47
    go_wp2
    go_ret2
    exact ⟨ret_ib (told_not hf).symm hf.out.symm, rfl⟩
  · have hf := hide (fit_of (n := n) (by omega) (by omega))
    go_enter Try.func47, Try.ntmps47
    go_wp2
    go_ret2
    exact ⟨ret_ib (told_of hf).symm hf.out.symm, rfl⟩
set_option maxHeartbeats 400000 in
theorem signed_neg (n : Int) (w : World) (h0 : 0 ≤ n) (h1 : n < 18446744073709551616) :
    Calls Try.prog 47 #[.bool true, .int .u64 n, .bool false] w fun e w' => e = .returned (.tuple #[.int .i64 (told (-n)), .bool (fit (-n))]) ∧ w' = w := by
  by_cases h : 9223372036854775808 < n
  · have hf := hide (not_fit (n := -n) (by omega))
    go_enter Try.func47, Try.ntmps47
    go_wp2
    go_ret2
    exact ⟨ret_ib (told_not hf).symm hf.out.symm, rfl⟩
  · have hf := hide (fit_of (n := -n) (by omega) (by omega))
    by_cases he : n = 9223372036854775808
    · have he1 : (n == 9223372036854775808) = true := by simp [he]
      have He := hide he
      clear he
      go_enter Try.func47, Try.ntmps47
      go_wp2
      go_ret2
      refine ⟨ret_ib ?_ hf.out.symm, rfl⟩
      rw [told_of hf.out]; unfold wrap64; have := He.out; omega
    · have he1 : (n == 9223372036854775808) = false := by simp [he]
      have hlt : n < 9223372036854775808 := by omega
      clear he
      go_enter Try.func47, Try.ntmps47
      go_wp2
      go_ret2
      refine ⟨ret_ib ?_ hf.out.symm, rfl⟩
      rw [told_of hf.out]
set_option maxHeartbeats 400000 in
theorem signed_rest (n : Int) (w : World) (h0 : 0 ≤ n) (h1 : n < 18446744073709551616) :
    Calls Try.prog 47 #[.bool true, .int .u64 n, .bool true] w fun e w' => e = .returned (.tuple #[.int .i64 (told (-n - 1)), .bool (fit (-n - 1))]) ∧ w' = w := by
  by_cases h : 9223372036854775808 < n
  · have hf := hide (not_fit (n := -n - 1) (by omega))
    go_enter Try.func47, Try.ntmps47
    go_wp2
    go_ret2
    exact ⟨ret_ib (told_not hf).symm hf.out.symm, rfl⟩
  · by_cases he : n = 9223372036854775808
    · have hf := hide (not_fit (n := -n - 1) (by omega))
      have he1 : (n == 9223372036854775808) = true := by simp [he]
      clear he
      go_enter Try.func47, Try.ntmps47
      go_wp2
      go_ret2
      exact ⟨ret_ib (told_not hf).symm hf.out.symm, rfl⟩
    · have hf := hide (fit_of (n := -n - 1) (by omega) (by omega))
      have he1 : (n == 9223372036854775808) = false := by simp [he]
      have hlt : n < 9223372036854775808 := by omega
      clear he
      go_enter Try.func47, Try.ntmps47
      go_wp2
      go_ret2
      refine ⟨ret_ib ?_ hf.out.symm, rfl⟩
      rw [told_of hf.out]; unfold wrap64; omega
theorem signed_any (below : Bool) (n : Nat) (rest : Bool) (w : World) (h : n < 18446744073709551616) :
    Calls Try.prog 47 #[.bool below, .int .u64 (n : Int), .bool rest] w fun e w' => e = .returned (.tuple #[.int .i64 (told (sgN below n rest)), .bool (fit (sgN below n rest))]) ∧ w' = w := by
  cases below
  · exact signed_pos (n : Int) rest w (by omega) (by omega)
  · cases rest
    · have := signed_neg (n : Int) w (by omega) (by omega)
      simpa [sgN] using this
    · have := signed_rest (n : Int) w (by omega) (by omega)
      simpa [sgN] using this
def dqB (a b : Int) : Bool := if b = 0 then false else fit (Int.fdiv (a * 4294967296) b)
def dqV (a b : Int) : Int := if dqB a b = true then Int.fdiv (a * 4294967296) b else 0
theorem sg_mixed (q r : Nat) : -(q : Int) - (if r = 0 then 0 else 1) = sgN true q ((r : Int) != 0) := by
  by_cases h : r = 0
  · subst h; simp [sgN]
  · have h2 : ((r : Int) != 0) = true := by rw [bne_iff_ne]; omega
    simp [sgN, h, h2]
/-- A quotient of parts, by amounts. -/
theorem parts_quo (a b : Int) (m n : Nat) (hm : (m : Int) = amt a) (hn : (n : Int) = amt b) (hb : b ≠ 0) :
    Int.fdiv (a * 4294967296) b = sgN (!decide (a < 0) == decide (b < 0)) (m * 4294967296 / n) (((m * 4294967296 % n : Nat) : Int) != 0) := by
  have hn0 : 0 < n := by unfold amt at hn; split at hn <;> omega
  have hc : ((m * 4294967296 : Nat) : Int) = (m : Int) * 4294967296 := by simp
  by_cases h1 : a < 0 <;> by_cases h2 : b < 0
  · have ea : a * 4294967296 = -((m * 4294967296 : Nat) : Int) := by rw [hc, hm, amt, if_pos h1]; omega
    have eb : b = -(n : Int) := by rw [hn, amt, if_pos h2]; omega
    rw [show (!decide (a < 0) == decide (b < 0)) = false by simp [h1, h2], ea, eb, fdiv_neg_neg]
    rfl
  · have ea : a * 4294967296 = -((m * 4294967296 : Nat) : Int) := by rw [hc, hm, amt, if_pos h1]; omega
    have eb : b = (n : Int) := by rw [hn, amt, if_neg h2]
    rw [show (!decide (a < 0) == decide (b < 0)) = true by simp [h1, h2], ea, eb, fdiv_mixed _ _ hn0]
    exact sg_mixed _ _
  · have ea : a * 4294967296 = ((m * 4294967296 : Nat) : Int) := by rw [hc, hm, amt, if_neg h1]
    have eb : b = -(n : Int) := by rw [hn, amt, if_pos h2]; omega
    rw [show (!decide (a < 0) == decide (b < 0)) = true by simp [h1, h2], ea, eb, fdiv_mixed' _ _ hn0]
    exact sg_mixed _ _
  · have ea : a * 4294967296 = ((m * 4294967296 : Nat) : Int) := by rw [hc, hm, amt, if_neg h1]
    have eb : b = (n : Int) := by rw [hn, amt, if_neg h2]
    rw [show (!decide (a < 0) == decide (b < 0)) = false by simp [h1, h2], ea, eb, fdiv_nn]
    rfl
/-- A divisor that is not above the high half: the quotient is no word. -/
theorem parts_none (a b : Int) (m n : Nat) (hm : (m : Int) = amt a) (hn : (n : Int) = amt b) (h : n ≤ m / 4294967296) : dqB a b = false := by
  unfold dqB
  split
  · rfl
  · next hb =>
    rw [parts_quo a b m n hm hn hb]
    have hn0 : 0 < n := by unfold amt at hn; split at hn <;> omega
    have hq : 18446744073709551616 ≤ m * 4294967296 / n := by
      rw [Nat.le_div_iff_mul_le hn0]; omega
    generalize m * 4294967296 / n = q at *
    apply not_fit
    unfold sgN
    split
    · split <;> omega
    · omega
theorem parts_some (a b : Int) (hb : b ≠ 0) : dqB a b = fit (Int.fdiv (a * 4294967296) b) ∧ dqV a b = told (Int.fdiv (a * 4294967296) b) := by
  have e : dqB a b = fit (Int.fdiv (a * 4294967296) b) := by unfold dqB; rw [if_neg hb]
  exact ⟨e, by rw [dqV, e]; rfl⟩
theorem parts_word (m : Nat) (hm : m ≤ 9223372036854775808) : m / 4294967296 * 18446744073709551616 + m % 4294967296 * 4294967296 = m * 4294967296 := by omega
theorem parts_lt (m n : Nat) (h : m / 4294967296 < n) : m * 4294967296 / n < 18446744073709551616 := by
  rw [Nat.div_lt_iff_lt_mul (by omega)]
  have h1 : (m / 4294967296 + 1) * 18446744073709551616 ≤ n * 18446744073709551616 := Nat.mul_le_mul_right _ h
  omega
theorem parts_casts (m n : Nat) : (m : Int) * 4294967296 / (n : Int) = ((m * 4294967296 / n : Nat) : Int) ∧ (m : Int) * 4294967296 % (n : Int) = ((m * 4294967296 % n : Nat) : Int) := by
  constructor <;> simp
end Go.Proofs.Ytnofillkfiiogaa
