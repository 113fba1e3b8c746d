/-
  math/bits.Len64 and LeadingZeros64: how far a word may be shifted up.
-/
import Derived.Test.YtnofillkfiiogaaProg
import Derived.Lib.Strings
import Derived.Lib.Small
import Derived.Lib.Walk
import Derived.Lib.BitFns
namespace Go.Proofs.Ytnofillkfiiogaa
set_option linter.unusedVariables false
/-- The table's answer for the bits that are left of x behind k of them, as the walk spells it. -/
theorem tab_close (x k : Nat) (b : Int) (hk : k ≤ 56) (hx : x < 18446744073709551616) (hb : b = ((x / 2 ^ k : Nat) : Int)) (hlt : b < 256) (h : 2 ^ k ≤ x) :
    ((k : Int) + ((Lib.len8 (b % 256) + 9223372036854775808) % 18446744073709551616 - 9223372036854775808) + 9223372036854775808) % 18446744073709551616 - 9223372036854775808 = (Lib.bitLen x : Int) := by
  have hb0 : 0 ≤ b := by rw [hb]; exact Int.natCast_nonneg _
  rw [Lib.len8_int (b % 256) (by omega) (by omega), show b % 256 = b by omega]
  have l := Lib.bitLen_le8' b hb0 (by omega)
  have s := Lib.bitLen_shift k x h (by omega)
  rw [show x / 2 ^ k = b.toNat by rw [hb]; rfl] at s
  omega
set_option maxRecDepth 100000 in
set_option maxHeartbeats 4000000 in
theorem len64_any (x : Nat) (w : World) (hx : x < 18446744073709551616) :
    Calls Try.prog 55 #[.int .u64 (x : Int)] w fun e w' => e = .returned (.int .i64 (Lib.bitLen x : Int)) ∧ w' = w := by
  go_enter Try.func55, Try.ntmps55
  go_wp2
  all_goals (go_ret; refine ⟨congrArg Ending.returned (congrArg (Value.int IntKind.i64) ?_), rfl⟩)
  · exact tab_close x 56 ((x : Int) / 4294967296 / 65536 / 256) (by omega) hx (by omega) (by omega) (by omega)
  · exact tab_close x 48 ((x : Int) / 4294967296 / 65536) (by omega) hx (by omega) (by omega) (by omega)
  · exact tab_close x 40 ((x : Int) / 4294967296 / 256) (by omega) hx (by omega) (by omega) (by omega)
  · exact tab_close x 32 ((x : Int) / 4294967296) (by omega) hx (by omega) (by omega) (by omega)
  · exact tab_close x 24 ((x : Int) / 65536 / 256) (by omega) hx (by omega) (by omega) (by omega)
  · exact tab_close x 16 ((x : Int) / 65536) (by omega) hx (by omega) (by omega) (by omega)
  · exact tab_close x 8 ((x : Int) / 256) (by omega) hx (by omega) (by omega) (by omega)
  · rw [Lib.len8_int ((x : Int) % 256) (by omega) (by omega), show ((x : Int) % 256).toNat = x by omega]
/-- The length is the only one between whose powers x lies. -/
theorem len_bounds (x : Nat) (h0 : x ≠ 0) (hx : x < 2 ^ 64) : 1 ≤ Lib.bitLen x ∧ Lib.bitLen x ≤ 64 ∧ 2 ^ (Lib.bitLen x - 1) ≤ x ∧ x < 2 ^ Lib.bitLen x := by
  have h1 : 1 ≤ Lib.bitLen x := by rw [Lib.bitLen_half x h0 hx]; omega
  have h64 : Lib.bitLen x ≤ 64 := Lib.bitLen_le x 64 (by omega) hx
  refine ⟨h1, h64, ?_, ?_⟩
  · rcases Nat.lt_or_ge x (2 ^ (Lib.bitLen x - 1)) with h | h
    · have := Lib.bitLen_le x (Lib.bitLen x - 1) (by omega) h; omega
    · exact h
  · rcases Nat.lt_or_ge x (2 ^ Lib.bitLen x) with h | h
    · exact h
    · have s := Lib.bitLen_shift (Lib.bitLen x) x h hx
      have hp : 0 < x / 2 ^ Lib.bitLen x := Nat.div_pos h (Nat.pow_pos (by omega))
      have hl : x / 2 ^ Lib.bitLen x < 2 ^ 64 := Nat.lt_of_le_of_lt (Nat.div_le_self _ _) hx
      have := Lib.bitLen_half (x / 2 ^ Lib.bitLen x) (by omega) hl
      omega
set_option maxRecDepth 100000 in
set_option maxHeartbeats 400000 in
theorem zeros64_any (x : Nat) (w : World) (h0 : x ≠ 0) (hx : x < 18446744073709551616) :
    Calls Try.prog 54 #[.int .u64 (x : Int)] w fun e w' => ∃ s : Nat, s ≤ 63 ∧ 9223372036854775808 ≤ x * 2 ^ s ∧ x * 2 ^ s < 18446744073709551616 ∧ e = .returned (.int .i64 (s : Int)) ∧ w' = w := by
  have hb := len_bounds x h0 (by omega)
  go_enter Try.func54, Try.ntmps54
  go_wp2_with (go_at_call 55; refine (len64_any x _ hx).mono ?_; rintro e w' ⟨rfl, rfl⟩)
  go_ret
  refine ⟨64 - Lib.bitLen x, by omega, ?_, ?_, ?_, rfl⟩
  · have h := Nat.mul_le_mul_right (2 ^ (64 - Lib.bitLen x)) hb.2.2.1
    rw [← Nat.pow_add, show Lib.bitLen x - 1 + (64 - Lib.bitLen x) = 63 by omega] at h
    exact h
  · have h := Nat.mul_lt_mul_of_pos_right hb.2.2.2 (Nat.pow_pos (n := 64 - Lib.bitLen x) (show 0 < 2 by omega))
    rw [← Nat.pow_add, show Lib.bitLen x + (64 - Lib.bitLen x) = 64 by omega] at h
    exact h
  · refine congrArg Ending.returned (congrArg (Value.int IntKind.i64) ?_)
    omega
end Go.Proofs.Ytnofillkfiiogaa
