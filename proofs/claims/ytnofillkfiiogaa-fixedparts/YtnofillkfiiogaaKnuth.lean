/-
  Division of two words by one, by halves of a word: the arithmetic. No run of the program in this text.
-/
import Derived.Test.YtnofillkfiiogaaBits
namespace Go.Proofs.Ytnofillkfiiogaa
open Go.RowKit
set_option linter.unusedVariables false
/-- One half's guess: q is not below the true quotient, and with r it makes u. -/
structure Guess (u d y1 y0 q r : Nat) : Prop where
  made : q * y1 + r = u
  low : r < 4294967296
  high : (u * 4294967296 + d) / (y1 * 4294967296 + y0) ≤ q
theorem guess_mul (q y1 y0 : Nat) : q * (y1 * 4294967296 + y0) = q * y1 * 4294967296 + q * y0 := by rw [Nat.mul_add, Nat.mul_assoc]
theorem guess_lt {u d y1 y0 : Nat} (hd : d < 4294967296) (hu : u < y1 * 4294967296 + y0) : (u * 4294967296 + d) / (y1 * 4294967296 + y0) < 4294967296 := by
  rw [Nat.div_lt_iff_lt_mul (by omega)]
  have : (u + 1) * 4294967296 ≤ (y1 * 4294967296 + y0) * 4294967296 := Nat.mul_le_mul_right _ hu
  rw [Nat.mul_comm 4294967296]
  omega
theorem guess_start {u d y1 y0 : Nat} (hy1 : 0 < y1) (hy : y1 < 4294967296) (hd : d < 4294967296) : Guess u d y1 y0 (u / y1) (u % y1) := by
  refine ⟨Nat.div_add_mod' u y1, Nat.lt_trans (Nat.mod_lt _ hy1) hy, ?_⟩
  rw [Nat.le_div_iff_mul_le hy1]
  have h1 := Nat.div_mul_le_self (u * 4294967296 + d) (y1 * 4294967296 + y0)
  generalize (u * 4294967296 + d) / (y1 * 4294967296 + y0) = Q at *
  rw [guess_mul] at h1
  have : 0 ≤ Q * y0 := Nat.zero_le _
  generalize Q * y1 = A at *
  omega
/-- The guess is too great: the test says so. -/
theorem guess_more {u d y1 y0 q r : Nat} (g : Guess u d y1 y0 q r) (hd : d < 4294967296) (hu : u < y1 * 4294967296 + y0) (h : 4294967296 ≤ q ∨ 4294967296 * r + d < q * y0) :
    (u * 4294967296 + d) / (y1 * 4294967296 + y0) ≤ q - 1 ∧ 1 ≤ q := by
  have hlt := guess_lt hd hu
  have h1 := Nat.div_mul_le_self (u * 4294967296 + d) (y1 * 4294967296 + y0)
  have hm := g.made
  have hh := g.high
  generalize hQ : (u * 4294967296 + d) / (y1 * 4294967296 + y0) = Q at *
  rcases h with h | h
  · omega
  · have hne : Q ≠ q := by
      intro e
      rw [e, guess_mul] at h1
      have e2 : u * 4294967296 = q * y1 * 4294967296 + r * 4294967296 := by rw [← hm, Nat.add_mul]
      omega
    omega
theorem guess_next {u d y1 y0 q r : Nat} (g : Guess u d y1 y0 q r) (hq : (u * 4294967296 + d) / (y1 * 4294967296 + y0) ≤ q - 1 ∧ 1 ≤ q) (hr : r + y1 < 4294967296) : Guess u d y1 y0 (q - 1) (r + y1) := by
  refine ⟨?_, hr, hq.1⟩
  have hm := g.made
  obtain ⟨p, rfl⟩ : ∃ p, q = p + 1 := ⟨q - 1, by omega⟩
  rw [Nat.add_mul] at hm
  simp only [Nat.add_sub_cancel]
  omega
/-- The guess is right: the test says no. -/
theorem guess_right {u d y1 y0 q r : Nat} (g : Guess u d y1 y0 q r) (hy1 : 0 < y1) (h : q * y0 ≤ 4294967296 * r + d) : q = (u * 4294967296 + d) / (y1 * 4294967296 + y0) := by
  refine Nat.le_antisymm ?_ g.high
  rw [Nat.le_div_iff_mul_le (by omega), guess_mul]
  have e2 : u * 4294967296 = q * y1 * 4294967296 + r * 4294967296 := by rw [← g.made, Nat.add_mul]
  omega
/-- The rest has outgrown half a word: one less is right. -/
theorem guess_left {u d y1 y0 q r : Nat} (g : Guess u d y1 y0 q r) (hy1 : 0 < y1) (hy0 : y0 < 4294967296) (hu : u < y1 * 4294967296 + y0) (hq : (u * 4294967296 + d) / (y1 * 4294967296 + y0) ≤ q - 1 ∧ 1 ≤ q) (hr : 4294967296 ≤ r + y1) :
    q - 1 = (u * 4294967296 + d) / (y1 * 4294967296 + y0) := by
  refine Nat.le_antisymm ?_ hq.1
  obtain ⟨p, rfl⟩ : ∃ p, q = p + 1 := ⟨q - 1, by omega⟩
  simp only [Nat.add_sub_cancel]
  have hm := g.made
  rw [Nat.add_mul, Nat.one_mul] at hm
  have hp : p < 4294967296 := by
    rcases Nat.lt_or_ge p 4294967296 with h | h
    · exact h
    · have := Nat.mul_le_mul_right y1 h
      rw [Nat.mul_comm 4294967296 y1] at this
      omega
  rw [Nat.le_div_iff_mul_le (by omega), guess_mul]
  have e1 : p * y0 ≤ 4294967295 * 4294967295 := Nat.mul_le_mul (by omega) (by omega)
  have e2 : u * 4294967296 = p * y1 * 4294967296 + (y1 + r) * 4294967296 := by rw [← hm, Nat.add_assoc, Nat.add_mul]
  have e3 : 4294967296 * 4294967296 ≤ (y1 + r) * 4294967296 := Nat.mul_le_mul_right _ (by omega)
  omega
theorem rest_wraps (a d q y : Nat) (h : q = (a * 4294967296 + d) / y) (hy0 : 0 < y) (hy : y < 18446744073709551616) :
    ((((a : Int) * 4294967296) % 18446744073709551616 + d) % 18446744073709551616 - ((q : Int) * y) % 18446744073709551616) % 18446744073709551616 = (((a * 4294967296 + d) % y : Nat) : Int) := by
  have e := Nat.div_add_mod (a * 4294967296 + d) y
  have hm := Nat.mod_lt (a * 4294967296 + d) hy0
  rw [← h, Nat.mul_comm] at e
  have e' : (q : Int) * y = ((q * y : Nat) : Int) := by rw [Int.natCast_mul]
  rw [e']
  generalize q * y = z at *
  generalize (a * 4294967296 + d) % y = m at *
  omega
/-- The whole: two halves' quotients and rests make the quotient and the rest. -/
theorem halves (N y s V d0 q1 r1 q0 r0 : Nat) (hy : 0 < y) (hN : N * 2 ^ s = V * 4294967296 + d0) (e1 : y * 2 ^ s * q1 + r1 = V) (e2 : y * 2 ^ s * q0 + r0 = r1 * 4294967296 + d0) (m2 : r0 < y * 2 ^ s) :
    q1 * 4294967296 + q0 = N / y ∧ r0 / 2 ^ s = N % y := by
  have hp : 0 < 2 ^ s := Nat.pow_pos (by omega)
  have hE : N * 2 ^ s = y * 2 ^ s * (q1 * 4294967296 + q0) + r0 := by
    rw [hN, ← e1, Nat.mul_add (y * 2 ^ s), ← Nat.mul_assoc (y * 2 ^ s), Nat.add_mul]
    omega
  have hq := div_of hE m2
  rw [Nat.mul_div_mul_right _ _ hp, Nat.mul_mod_mul_right] at hq
  exact ⟨hq.1.symm, by rw [← hq.2, Nat.mul_div_cancel _ hp]⟩
end Go.Proofs.Ytnofillkfiiogaa
