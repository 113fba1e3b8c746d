/-
  Division by bits, from the highest: the arithmetic. No run of the program in this text.
-/
import Derived.Test.YtnofillkfiiogaaDigits
namespace Go.Proofs.Ytnofillkfiiogaa
open Go.RowKit
set_option linter.unusedVariables false
theorem div_of {n b q r : Nat} (h : n = b * q + r) (hr : r < b) : n / b = q ∧ n % b = r := by
  have hb : 0 < b := by omega
  subst h
  exact ⟨by rw [Nat.mul_add_div hb, Nat.div_eq_of_lt hr, Nat.add_zero], by rw [Nat.mul_add_mod, Nat.mod_eq_of_lt hr]⟩
theorem quo_small (U b t : Nat) (h : 2 * (U % b) + t < b) : (2 * U + t) / b = 2 * (U / b) ∧ (2 * U + t) % b = 2 * (U % b) + t := by
  refine div_of ?_ h
  have e := Nat.div_add_mod U b
  rw [Nat.mul_left_comm]; omega
theorem quo_great (U b t : Nat) (hb : 0 < b) (ht : t ≤ 1) (h : b ≤ 2 * (U % b) + t) : (2 * U + t) / b = 2 * (U / b) + 1 ∧ (2 * U + t) % b + b = 2 * (U % b) + t := by
  have hm := Nat.mod_lt U hb
  have h2 := div_of (n := 2 * U + t) (b := b) (q := 2 * (U / b) + 1) (r := 2 * (U % b) + t - b) (by
    have e := Nat.div_add_mod U b
    rw [Nat.mul_add, Nat.mul_left_comm]; omega) (by omega)
  refine ⟨h2.1, by rw [h2.2]; omega⟩
/-- What has been brought down behind all but jj bits of the digit x. -/
def upto (r0 x jj : Nat) : Nat := r0 * 2 ^ (32 - jj) + x / 2 ^ jj
theorem upto_start (r0 x : Nat) (hx : x < 4294967296) : upto r0 x 32 = r0 := by
  unfold upto
  rw [Nat.div_eq_of_lt (by omega)]; simp
theorem upto_end (r0 x : Nat) : upto r0 x 0 = r0 * 4294967296 + x := by simp [upto]
theorem upto_step (r0 x m : Nat) (h : m + 1 ≤ 32) : upto r0 x m = 2 * upto r0 x (m + 1) + x / 2 ^ m % 2 := by
  unfold upto
  rw [show 32 - m = (32 - (m + 1)) + 1 by omega, Nat.pow_succ, Nat.pow_succ 2 m, ← Nat.div_div_eq_div_mul]
  generalize x / 2 ^ m = y
  rw [Nat.mul_add, ← Nat.mul_assoc]
  generalize r0 * 2 ^ (32 - (m + 1)) = z
  omega
theorem upto_quot (r0 x jj b : Nat) (hr : r0 < b) (hx : x < 4294967296) (hj : jj ≤ 32) : upto r0 x jj / b < 4294967296 := by
  have hb : 0 < b := by omega
  rw [Nat.div_lt_iff_lt_mul hb]
  unfold upto
  have hp : 2 ^ (32 - jj) * 2 ^ jj = 4294967296 := by rw [← Nat.pow_add, show 32 - jj + jj = 32 by omega]
  have h1 : x / 2 ^ jj < 2 ^ (32 - jj) := by
    rw [Nat.div_lt_iff_lt_mul (Nat.pow_pos (by omega)), hp]; exact hx
  have h2 : 2 ^ (32 - jj) ≤ 2 ^ 32 := Nat.pow_le_pow_right (by omega) (by omega)
  have h3 : r0 * 2 ^ (32 - jj) + 2 ^ (32 - jj) ≤ b * 2 ^ (32 - jj) := by
    rw [← Nat.succ_mul]; exact Nat.mul_le_mul_right _ hr
  have h4 : b * 2 ^ (32 - jj) ≤ b * 4294967296 := Nat.mul_le_mul_left _ (by simpa using h2)
  rw [Nat.mul_comm b 4294967296] at h4
  omega
theorem digit_quo (V b x : Nat) (hb : 0 < b) : (x + 4294967296 * V) / b = 4294967296 * (V / b) + upto (V % b) x 0 / b ∧ (x + 4294967296 * V) % b = upto (V % b) x 0 % b := by
  rw [upto_end]
  have e := Nat.div_add_mod V b
  have h : x + 4294967296 * V = b * (4294967296 * (V / b)) + (V % b * 4294967296 + x) := by
    rw [Nat.mul_left_comm]; omega
  rw [h]
  exact ⟨Nat.mul_add_div hb _ _, Nat.mul_add_mod _ _ _⟩
theorem fdiv_nn (A B : Nat) : Int.fdiv (A : Int) (B : Int) = ((A / B : Nat) : Int) := by
  rw [Int.fdiv_eq_ediv_of_nonneg _ (by omega)]; rfl
theorem fdiv_neg_neg (A B : Nat) : Int.fdiv (-(A : Int)) (-(B : Int)) = ((A / B : Nat) : Int) := by
  rw [Int.neg_fdiv_neg, fdiv_nn]
theorem fdiv_mixed (A B : Nat) (hB : 0 < B) : Int.fdiv (-(A : Int)) (B : Int) = -((A / B : Nat) : Int) - (if A % B = 0 then 0 else 1) := by
  rw [Int.fdiv_eq_ediv_of_nonneg _ (by omega)]
  have e := Nat.div_add_mod A B
  have hm := Nat.mod_lt A hB
  generalize A / B = q at *
  generalize A % B = r at *
  split
  · next h0 =>
    subst h0
    have : (-(A : Int)) = (B : Int) * (-(q : Int)) := by rw [← e]; simp [Int.mul_neg]
    rw [this, Int.mul_ediv_cancel_left _ (by omega)]; omega
  · next h0 =>
    have h1 : (-(A : Int)) = ((B : Int) - r) + (B : Int) * (-(q : Int) - 1) := by
      have : (A : Int) = (B : Int) * q + r := by rw [← e]; simp
      rw [this, Int.mul_sub, Int.mul_neg]; omega
    rw [h1, Int.add_mul_ediv_left _ _ (by omega), Int.ediv_eq_zero_of_lt (by omega) (by omega)]; omega
theorem fdiv_mixed' (A B : Nat) (hB : 0 < B) : Int.fdiv (A : Int) (-(B : Int)) = -((A / B : Nat) : Int) - (if A % B = 0 then 0 else 1) := by
  rw [← fdiv_mixed A B hB, ← Int.neg_fdiv_neg (A : Int) (-(B : Int)), Int.neg_neg]
end Go.Proofs.Ytnofillkfiiogaa
