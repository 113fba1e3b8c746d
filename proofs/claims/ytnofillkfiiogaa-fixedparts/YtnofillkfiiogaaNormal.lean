/-
  Two words by one: the words shifted up, the wrapped rests. No run of the program in this text.
-/
import Derived.Test.YtnofillkfiiogaaNums
import Derived.Test.YtnofillkfiiogaaKnuth
namespace Go.Proofs.Ytnofillkfiiogaa
open Go.RowKit
set_option linter.unusedVariables false
theorem or_sum (a b s : Nat) (ha : a % 2 ^ s = 0) (hb : b < 2 ^ s) (h1 : a < 18446744073709551616) (h2 : b < 18446744073709551616) : bits .or .u64 (a : Int) (b : Int) = ((a + b : Nat) : Int) := by
  rw [bits_or_u64_nat a b h1 h2, nat_join s a b ha hb]
theorem mask_low (a : Nat) (h : a < 18446744073709551616) : bits .and .u64 (a : Int) 4294967295 = ((a % 4294967296 : Nat) : Int) := by
  rw [and_low32 (a : Int) (by omega) (by omega)]; omega
/-- The words, shifted up: what the walk's forms come to. -/
theorem normal (hi lo y s : Nat) (hhy : hi < y) (hlo : lo < 18446744073709551616) (hs : s ≤ 63) (hY1 : 9223372036854775808 ≤ y * 2 ^ s) (hY2 : y * 2 ^ s < 18446744073709551616) :
    ∃ Y Y1 Y0 U L D1 D0 : Nat, IntKind.u64.wrap ((y : Int) * 2 ^ s) = (Y : Int) ∧ (Y : Int) / 4294967296 = (Y1 : Int) ∧ bits .and .u64 (Y : Int) 4294967295 = (Y0 : Int) ∧
      bits .or .u64 (IntKind.u64.wrap ((hi : Int) * 2 ^ s)) ((lo : Int) / 2 ^ (64 - s)) = (U : Int) ∧ IntKind.u64.wrap ((lo : Int) * 2 ^ s) = (L : Int) ∧ (L : Int) / 4294967296 = (D1 : Int) ∧ bits .and .u64 (L : Int) 4294967295 = (D0 : Int) ∧
      Y = y * 2 ^ s ∧ Y = Y1 * 4294967296 + Y0 ∧ 2147483648 ≤ Y1 ∧ Y1 < 4294967296 ∧ Y0 < 4294967296 ∧ U < Y ∧ D1 < 4294967296 ∧ D0 < 4294967296 ∧ (hi * 18446744073709551616 + lo) * 2 ^ s = (U * 4294967296 + D1) * 4294967296 + D0 := by
  have hp : 0 < 2 ^ s := Nat.pow_pos (by omega)
  have hpp : 2 ^ s * 2 ^ (64 - s) = 18446744073709551616 := by rw [← Nat.pow_add, show s + (64 - s) = 64 by omega]
  have hq : 0 < 2 ^ (64 - s) := Nat.pow_pos (by omega)
  have hhi : hi * 2 ^ s + 2 ^ s ≤ y * 2 ^ s := by rw [← Nat.succ_mul]; exact Nat.mul_le_mul_right _ hhy
  have hlt : lo / 2 ^ (64 - s) < 2 ^ s := by rw [Nat.div_lt_iff_lt_mul hq, hpp]; exact hlo
  have hle : lo / 2 ^ (64 - s) ≤ lo := Nat.div_le_self _ _
  have hL : lo * 2 ^ s = lo / 2 ^ (64 - s) * 18446744073709551616 + lo % 2 ^ (64 - s) * 2 ^ s := by
    have e := Nat.div_add_mod lo (2 ^ (64 - s))
    rw [← hpp, ← Nat.mul_assoc, Nat.mul_right_comm, ← Nat.add_mul]
    rw [Nat.mul_comm (lo / 2 ^ (64 - s)) (2 ^ (64 - s)), e]
  have hm : lo % 2 ^ (64 - s) * 2 ^ s < 18446744073709551616 := by
    rw [← hpp, Nat.mul_comm (2 ^ s)]; exact Nat.mul_lt_mul_of_pos_right (Nat.mod_lt _ hq) hp
  have cy : (y : Int) * 2 ^ s = ((y * 2 ^ s : Nat) : Int) := by simp
  have ch : (hi : Int) * 2 ^ s = ((hi * 2 ^ s : Nat) : Int) := by simp
  have cl : (lo : Int) * 2 ^ s = ((lo * 2 ^ s : Nat) : Int) := by simp
  have cd : (lo : Int) / 2 ^ (64 - s) = ((lo / 2 ^ (64 - s) : Nat) : Int) := by simp
  have hmod : hi * 2 ^ s % 2 ^ s = 0 := Nat.mul_mod_left _ _
  have hN : (hi * 18446744073709551616 + lo) * 2 ^ s = hi * 2 ^ s * 18446744073709551616 + lo * 2 ^ s := by rw [Nat.add_mul, Nat.mul_right_comm]
  have o := or_sum (hi * 2 ^ s) (lo / 2 ^ (64 - s)) s hmod hlt (by omega) (by omega)
  rw [cy, ch, cl, cd, hN]
  generalize y * 2 ^ s = Y at *
  generalize hi * 2 ^ s = H at *
  generalize lo / 2 ^ (64 - s) = E at *
  generalize lo % 2 ^ (64 - s) * 2 ^ s = L at *
  generalize lo * 2 ^ s = F at *
  generalize 2 ^ s = P at *
  refine ⟨Y, Y / 4294967296, Y % 4294967296, H + E, L, L / 4294967296, L % 4294967296, ?_, by omega, mask_low Y hY2, ?_, ?_, by omega, mask_low L hm, rfl, by omega, by omega, by omega, by omega, by omega, by omega, by omega, by omega⟩
  · rw [IntKind.wrap_u64]; omega
  · rw [show IntKind.u64.wrap (H : Int) = (H : Int) by rw [IntKind.wrap_u64]; omega]; exact o
  · rw [IntKind.wrap_u64]; omega
theorem rest_u64 (a d q y R : Nat) (h : q = (a * 4294967296 + d) / y) (hR : R = (a * 4294967296 + d) % y) (hy0 : 0 < y) (hy : y < 18446744073709551616) :
    IntKind.u64.wrap (IntKind.u64.wrap (IntKind.u64.wrap ((a : Int) * 4294967296) + d) - IntKind.u64.wrap ((q : Int) * y)) = (R : Int) := by
  simp only [IntKind.wrap_u64]
  rw [hR]; exact rest_wraps a d q y h hy0 hy
theorem div_rest (a y : Nat) : a / y * y ≤ a ∧ a - a / y * y = a % y := by
  have := Nat.div_add_mod' a y
  omega
end Go.Proofs.Ytnofillkfiiogaa
