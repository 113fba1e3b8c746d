/-
  Numbers as digits to the base 128, numbers with sign, numbers of so many bytes: what they are, and that there is one form each. No run of the program in this text.
-/
import Derived.Test.YtaioniegggfcjaaBase
import Derived.Laws.Bits64
import Derived.Laws.Bits64b
namespace Go.Proofs.Ytaioniegggfcjaa
open Go.RowKit
set_option linter.unusedVariables false
/-- A number's digits, as bytes: at most so many rounds. -/
def encF : Nat → Nat → List Nat
  | 0, n => [n]
  | f + 1, n => if n < 128 then [n] else (n % 128 + 128) :: encF f (n / 128)
/-- A number's digits, as bytes. -/
def enc (n : Nat) : List Nat := encF n n
theorem encF_zero (f : Nat) : encF f 0 = [0] := by
  cases f with
  | zero => rfl
  | succ f => simp [encF]
/-- More rounds than the number is great make no difference. -/
theorem encF_any (f : Nat) : ∀ (g n : Nat), n ≤ f → n ≤ g → encF f n = encF g n := by
  induction f with
  | zero =>
    intro g n h1 h2
    obtain rfl : n = 0 := by omega
    rw [encF_zero, encF_zero]
  | succ f ih =>
    intro g n h1 h2
    cases g with
    | zero =>
      obtain rfl : n = 0 := by omega
      rw [encF_zero, encF_zero]
    | succ g =>
      simp only [encF]
      split
      · rfl
      · rw [ih g (n / 128) (by omega) (by omega)]
theorem enc_last {n : Nat} (h : n < 128) : enc n = [n] := by
  unfold enc
  cases n with
  | zero => rfl
  | succ n => rw [encF, if_pos h]
theorem enc_more {n : Nat} (h : 128 ≤ n) : enc n = (n % 128 + 128) :: enc (n / 128) := by
  unfold enc
  cases n with
  | zero => omega
  | succ n => rw [encF, if_neg (by omega), encF_any n ((n + 1) / 128) ((n + 1) / 128) (by omega) (by omega)]
theorem small_one {d : Nat} (h : d < 256) : Small [d] := small_cons h small_nil
theorem small_enc (n : Nat) : Small (enc n) := by
  induction n using Nat.strongRecOn with
  | ind n ih =>
    rcases Nat.lt_or_ge n 128 with h | h
    · rw [enc_last h]; exact small_one (by omega)
    · rw [enc_more h]; exact small_cons (by omega) (ih _ (by omega))
theorem enc_length (k : Nat) (n : Nat) (h : n < 128 ^ (k + 1)) : (enc n).length ≤ k + 1 := by
  induction k generalizing n with
  | zero => rw [enc_last (by simpa using h)]; simp
  | succ k ih =>
    rcases Nat.lt_or_ge n 128 with h1 | h1
    · rw [enc_last h1]; simp
    · rw [enc_more h1, List.length_cons]
      have := ih (n / 128) (by rw [Nat.div_lt_iff_lt_mul (by omega), ← Nat.pow_succ]; exact h)
      omega
theorem enc_len {n : Nat} (h : n < 18446744073709551616) : (enc n).length ≤ 10 := enc_length 9 n (Nat.lt_of_lt_of_le h (by decide))
theorem enc_pos (n : Nat) : 0 < (enc n).length := by
  rcases Nat.lt_or_ge n 128 with h | h
  · rw [enc_last h]; simp
  · rw [enc_more h]; simp
/-- What stands at the beginning, i digits ahead of it: a number and how many bytes it has. -/
def dec : Nat → List Nat → Option (Nat × Nat)
  | _, [] => none
  | i, d :: l =>
    if 10 ≤ i then none
    else if 128 ≤ d then (dec (i + 1) l).map fun p => (d - 128 + 128 * p.1, p.2 + 1)
    else if d = 0 ∧ 0 < i ∨ 1 < d ∧ i = 9 then none else some (d, 1)
theorem dec_enc (n i : Nat) (r : List Nat) (hi : i ≤ 9) (h : n * 128 ^ i < 18446744073709551616) (h0 : 0 < i → 0 < n) : dec i (enc n ++ r) = some (n, (enc n).length) := by
  induction n using Nat.strongRecOn generalizing i with
  | ind n ih =>
    rcases Nat.lt_or_ge n 128 with h1 | h1
    · rw [enc_last h1]
      simp only [List.cons_append, List.nil_append, dec, List.length_cons, List.length_nil]
      rw [if_neg (by omega), if_neg (by omega), if_neg]
      rintro (⟨h2, h3⟩ | ⟨h2, rfl⟩)
      · have := h0 h3; omega
      · have e : (128 ^ 9 : Nat) = 9223372036854775808 := by decide
        rw [e] at h; omega
    · rw [enc_more h1]
      simp only [List.cons_append, dec, List.length_cons]
      have hi9 : i ≠ 9 := by
        rintro rfl
        have e : (128 ^ 9 : Nat) = 9223372036854775808 := by decide
        rw [e] at h; omega
      have hm : n / 128 * 128 ≤ n := Nat.div_mul_le_self n 128
      have hp : n / 128 * 128 ^ (i + 1) ≤ n * 128 ^ i := by rw [Nat.pow_succ, Nat.mul_comm (128 ^ i), ← Nat.mul_assoc]; exact Nat.mul_le_mul_right _ hm
      rw [if_neg (by omega), if_pos (by omega), ih (n / 128) (by omega) (i + 1) (by omega) (Nat.lt_of_le_of_lt hp h) (fun _ => by omega)]
      simp only [Option.map_some, Option.some.injEq, Prod.mk.injEq, and_true]
      omega
theorem dec_form (l : List Nat) (i : Nat) (hs : Small l) (n k : Nat) (h : dec i l = some (n, k)) : k ≤ l.length ∧ l.take k = enc n ∧ (0 < i → 0 < n) ∧ n * 128 ^ i < 18446744073709551616 ∧ i + k ≤ 10 := by
  induction l generalizing i n k with
  | nil => simp [dec] at h
  | cons d l ih =>
    have hd := small_head hs
    simp only [dec] at h
    split at h
    · cases h
    · rename_i hi
      split at h
      · rename_i hd2
        cases hr : dec (i + 1) l with
        | none => rw [hr] at h; cases h
        | some p =>
          obtain ⟨m, j⟩ := p
          rw [hr] at h
          simp only [Option.map_some, Option.some.injEq, Prod.mk.injEq] at h
          obtain ⟨rfl, rfl⟩ := h
          obtain ⟨e1, e2, e3, e4, e5⟩ := ih (i + 1) (small_tail hs) m j hr
          have hm := e3 (by omega)
          refine ⟨by simpa using e1, ?_, fun _ => by omega, ?_, by omega⟩
          · rw [List.take_succ_cons, e2, enc_more (n := d - 128 + 128 * m) (by omega), show (d - 128 + 128 * m) % 128 + 128 = d by omega, show (d - 128 + 128 * m) / 128 = m by omega]
          · have hlt : d - 128 + 128 * m < 128 * (m + 1) := by omega
            have h1 : (d - 128 + 128 * m) * 128 ^ i < 128 * (m + 1) * 128 ^ i := Nat.mul_lt_mul_of_pos_right hlt (Nat.pow_pos (by omega))
            have h2 : 128 * (m + 1) * 128 ^ i = (m + 1) * 128 ^ (i + 1) := by rw [Nat.pow_succ, Nat.mul_comm 128, Nat.mul_assoc, Nat.mul_comm 128]
            rw [h2] at h1
            have h3 : (m + 1) * 128 ^ (i + 1) ≤ 18446744073709551616 := by
              have h8 : i ≤ 8 := by
                have hj := congrArg List.length e2
                have hp := enc_pos m
                rw [List.length_take] at hj
                omega
              clear h1 h2 hlt e5 e2 ih hr hi
              match i, h8, e4 with
              | 0, _, e4 => simp only [Nat.reduceAdd, Nat.reducePow] at *; omega
              | 1, _, e4 => simp only [Nat.reduceAdd, Nat.reducePow] at *; omega
              | 2, _, e4 => simp only [Nat.reduceAdd, Nat.reducePow] at *; omega
              | 3, _, e4 => simp only [Nat.reduceAdd, Nat.reducePow] at *; omega
              | 4, _, e4 => simp only [Nat.reduceAdd, Nat.reducePow] at *; omega
              | 5, _, e4 => simp only [Nat.reduceAdd, Nat.reducePow] at *; omega
              | 6, _, e4 => simp only [Nat.reduceAdd, Nat.reducePow] at *; omega
              | 7, _, e4 => simp only [Nat.reduceAdd, Nat.reducePow] at *; omega
              | 8, _, e4 => simp only [Nat.reduceAdd, Nat.reducePow] at *; omega
            omega
      · rename_i hd2
        split at h
        · cases h
        · rename_i hno
          simp only [Option.some.injEq, Prod.mk.injEq] at h
          obtain ⟨rfl, rfl⟩ := h
          refine ⟨by simp, by simp [enc_last (Nat.lt_of_not_le hd2)], fun h0 => ?_, ?_, by omega⟩
          · omega
          · have h9 : i ≤ 9 := by omega
            match i, h9, hno with
            | 0, _, hno => simp only [Nat.reducePow]; omega
            | 1, _, hno => simp only [Nat.reducePow]; omega
            | 2, _, hno => simp only [Nat.reducePow]; omega
            | 3, _, hno => simp only [Nat.reducePow]; omega
            | 4, _, hno => simp only [Nat.reducePow]; omega
            | 5, _, hno => simp only [Nat.reducePow]; omega
            | 6, _, hno => simp only [Nat.reducePow]; omega
            | 7, _, hno => simp only [Nat.reducePow]; omega
            | 8, _, hno => simp only [Nat.reducePow]; omega
            | 9, _, hno => simp only [Nat.reducePow]; omega
/-- A number with sign, as one without. -/
def zig (x : Int) : Nat := if x < 0 then (-2 * x - 1).toNat else (2 * x).toNat
def zag (n : Nat) : Int := if n % 2 = 1 then -((n / 2 : Nat) : Int) - 1 else ((n / 2 : Nat) : Int)
theorem zag_zig (x : Int) : zag (zig x) = x := by
  unfold zag zig
  split <;> split <;> omega
theorem zig_zag (n : Nat) : zig (zag n) = n := by
  unfold zag zig
  split <;> split <;> omega
theorem zig_lt {x : Int} (h : -9223372036854775808 ≤ x ∧ x ≤ 9223372036854775807) : zig x < 18446744073709551616 := by
  unfold zig; split <;> omega
theorem zag_range {n : Nat} (h : n < 18446744073709551616) : -9223372036854775808 ≤ zag n ∧ zag n ≤ 9223372036854775807 := by
  unfold zag; split <;> omega
theorem wrap_toNat (v : BitVec 64) : IntKind.i64.wrap (v.toNat : Int) = v.toInt := by
  have := v.isLt
  rw [BitVec.toInt_eq_toNat_cond, IntKind.wrap_i64]
  split <;> omega
theorem xor_i64 (x y : Int) : bits .xor .i64 x y = (BitVec.ofInt 64 x ^^^ BitVec.ofInt 64 y).toInt := wrap_toNat _
theorem xor_minus (m : Int) (h : 0 ≤ m ∧ m ≤ 9223372036854775807) : bits .xor .i64 m (-1) = -m - 1 := by
  rw [xor_i64]
  have e : BitVec.ofInt 64 (-1) = BitVec.allOnes 64 := by decide +kernel
  rw [e, BitVec.xor_allOnes, BitVec.toInt_not, BitVec.toNat_ofInt, Int.bmod_def]
  have h1 : (m % ((2 ^ 64 : Nat) : Int)).toNat = m.toNat := by
    rw [Int.emod_eq_of_lt h.1 (by omega)]
  rw [h1]
  omega
theorem xor_none (m : Int) (h : 0 ≤ m ∧ m ≤ 9223372036854775807) : bits .xor .i64 m 0 = m := by
  rw [xor_i64]
  have e : BitVec.ofInt 64 0 = 0#64 := by decide +kernel
  rw [e, BitVec.xor_zero, BitVec.toInt_ofInt, Int.bmod_def]
  omega
theorem and_one (n : Nat) (h : n < 18446744073709551616) : bits .and .u64 (n : Int) 1 = ((n % 2 : Nat) : Int) := by
  have := bits_and_u64_nat n 1 h (by omega)
  rw [Nat.and_one_is_mod] at this
  simpa using this
theorem zag_bits (n : Nat) (h : n < 18446744073709551616) : bits .xor .i64 ((n : Int) / 2) (wrap64 (-wrap64 (bits .and .u64 (n : Int) 1))) = zag n := by
  rw [and_one n h]
  unfold zag
  rcases Nat.mod_two_eq_zero_or_one n with h2 | h2
  · rw [h2, show wrap64 (-wrap64 ((0 : Nat) : Int)) = 0 by decide +kernel, if_neg (by omega), xor_none _ (by omega)]
    omega
  · rw [h2, show wrap64 (-wrap64 ((1 : Nat) : Int)) = -1 by decide +kernel, if_pos rfl, xor_minus _ (by omega)]
    omega
theorem xor_all (a : Nat) (h : a < 18446744073709551616) : bits .xor .u64 (a : Int) 18446744073709551615 = ((18446744073709551615 - a : Nat) : Int) := by
  have e := bits_xor_u64_nat a 18446744073709551615 h (by omega)
  have e2 : a ^^^ 18446744073709551615 = 18446744073709551615 - a := by
    have h3 : (BitVec.ofNat 64 a ^^^ BitVec.allOnes 64).toNat = 2 ^ 64 - 1 - a := by
      rw [BitVec.xor_allOnes, BitVec.toNat_not, BitVec.toNat_ofNat, Nat.mod_eq_of_lt (by omega)]
    rw [BitVec.toNat_xor, BitVec.toNat_ofNat, Nat.mod_eq_of_lt (by omega), BitVec.toNat_allOnes] at h3
    exact h3
  rw [e2] at e
  exact e
theorem zig_bits (x : Int) (h : -9223372036854775808 ≤ x ∧ x ≤ 9223372036854775807) :
    bits .xor .u64 (IntKind.u64.wrap (IntKind.u64.wrap x * 2)) (IntKind.u64.wrap (x / 9223372036854775808)) = (zig x : Nat) := by
  unfold zig
  rcases Int.lt_or_le x 0 with h0 | h0
  · have e1 : IntKind.u64.wrap (IntKind.u64.wrap x * 2) = ((2 * x + 18446744073709551616).toNat : Int) := by rw [IntKind.wrap_u64, IntKind.wrap_u64]; omega
    have e2 : IntKind.u64.wrap (x / 9223372036854775808) = 18446744073709551615 := by rw [IntKind.wrap_u64]; omega
    rw [e1, e2, xor_all _ (by omega), if_pos h0]
    omega
  · have e1 : IntKind.u64.wrap (IntKind.u64.wrap x * 2) = ((2 * x).toNat : Int) := by rw [IntKind.wrap_u64, IntKind.wrap_u64]; omega
    have e2 : IntKind.u64.wrap (x / 9223372036854775808) = ((0 : Nat) : Int) := by rw [IntKind.wrap_u64]; omega
    rw [e1, e2, bits_xor_u64_nat _ _ (by omega) (by omega), if_neg (by omega), Nat.xor_zero]
/-- So many bytes of a number, the lowest first. -/
def le : Nat → Nat → List Nat
  | 0, _ => []
  | k + 1, n => n % 256 :: le k (n / 256)
def unle : List Nat → Nat
  | [] => 0
  | d :: l => d + 256 * unle l
theorem le_length (k n : Nat) : (le k n).length = k := by
  induction k generalizing n with
  | zero => rfl
  | succ k ih => simp [le, ih]
theorem small_le (k n : Nat) : Small (le k n) := by
  induction k generalizing n with
  | zero => exact small_nil
  | succ k ih => exact small_cons (Nat.mod_lt _ (by omega)) (ih _)
theorem unle_le (k n : Nat) (h : n < 256 ^ k) : unle (le k n) = n := by
  induction k generalizing n with
  | zero => simp only [Nat.pow_zero] at h; simp [le, unle]; omega
  | succ k ih =>
    simp only [le, unle]
    rw [ih (n / 256) (by rw [Nat.div_lt_iff_lt_mul (by omega), ← Nat.pow_succ]; exact h)]
    omega
theorem unle_lt (l : List Nat) (hs : Small l) : unle l < 256 ^ l.length := by
  induction l with
  | nil => simp [unle]
  | cons d l ih =>
    have := ih (small_tail hs)
    have hd := small_head hs
    simp only [unle, List.length_cons, Nat.pow_succ]
    omega
theorem le_snoc (k n : Nat) : le (k + 1) n = le k n ++ [n / 256 ^ k % 256] := by
  induction k generalizing n with
  | zero => simp [le]
  | succ k ih =>
    rw [le, ih (n / 256), le, List.cons_append, Nat.div_div_eq_div_mul, Nat.pow_succ, Nat.mul_comm 256]
theorem unle_snoc (l : List Nat) (d : Nat) : unle (l ++ [d]) = unle l + 256 ^ l.length * d := by
  induction l with
  | nil => simp [unle]
  | cons e l ih =>
    simp only [List.cons_append, unle, ih, List.length_cons, Nat.pow_succ, Nat.mul_add]
    rw [Nat.mul_comm (256 ^ l.length) 256, Nat.mul_assoc, Nat.add_assoc]
end Go.Proofs.Ytaioniegggfcjaa
