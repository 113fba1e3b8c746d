/-
  Plain arithmetic for layer 1: which sums, products, quotients and shifts fit 64 bits with sign, and how the wrapped forms of the walk come to them. No run of the program in this text.
-/
import Derived.WalkKit
import Derived.OpenShut
import Derived.Laws.MathBits
import Derived.Laws.Bits64b
import Derived.Laws.BitsAllLaws
namespace Go.Proofs.Ytmkoleioipklpaa
open Go.RowKit
set_option linter.unusedVariables false

/-- Does a number fit 64 bits with sign? -/
def fit (n : Int) : Bool := decide (-9223372036854775808 ≤ n ∧ n ≤ 9223372036854775807)
/-- A number that fits, else 0. -/
def told (n : Int) : Int := if fit n = true then n else 0

theorem fit_iff (n : Int) : fit n = true ↔ (-9223372036854775808 ≤ n ∧ n ≤ 9223372036854775807) := by simp [fit]
theorem fit_not_iff (n : Int) : fit n = false ↔ (n < -9223372036854775808 ∨ 9223372036854775807 < n) := by
  unfold fit
  rw [decide_eq_false_iff_not]; omega
theorem fit_of {n : Int} (h1 : -9223372036854775808 ≤ n) (h2 : n ≤ 9223372036854775807) : fit n = true := (fit_iff n).2 ⟨h1, h2⟩
theorem not_fit {n : Int} (h : n < -9223372036854775808 ∨ 9223372036854775807 < n) : fit n = false := by
  cases hf : fit n with
  | false => rfl
  | true => have := (fit_iff n).1 hf; omega
theorem told_of {n : Int} (h : fit n = true) : told n = n := by simp [told, h]
theorem told_not {n : Int} (h : fit n = false) : told n = 0 := by simp [told, h]
theorem wrap64_fit {n : Int} (h : fit n = true) : wrap64 n = n := by
  have := (fit_iff n).1 h; unfold wrap64; omega
theorem wf_range {a : Int} (h : (Lit.int .i64 a).wf = true) : -9223372036854775808 ≤ a ∧ a ≤ 9223372036854775807 := by
  have h' := bounds_i64 h; omega

/-- The sign of 'x ^ y' and of 'x & y', 64 bits with sign. -/
theorem wrap_toNat (v : BitVec 64) : IntKind.i64.wrap (v.toNat : Int) = v.toInt := by
  have := v.isLt
  rw [BitVec.toInt_eq_toNat_cond, IntKind.wrap_i64]
  split <;> omega
theorem xor_i64 (x y : Int) : bits .xor .i64 x y = (BitVec.ofInt 64 x ^^^ BitVec.ofInt 64 y).toInt := wrap_toNat _
theorem and_i64 (x y : Int) : bits .and .i64 x y = (BitVec.ofInt 64 x &&& BitVec.ofInt 64 y).toInt := wrap_toNat _
theorem or_i64 (x y : Int) : bits .or .i64 x y = (BitVec.ofInt 64 x ||| BitVec.ofInt 64 y).toInt := wrap_toNat _
theorem ofInt_neg (x : Int) (h : -9223372036854775808 ≤ x ∧ x ≤ 9223372036854775807) : (BitVec.ofInt 64 x).msb = decide (x < 0) := by
  rw [BitVec.msb_eq_toInt, BitVec.toInt_ofInt, Int.bmod_def]
  congr 1
  apply propext
  split <;> omega
theorem xor_neg (x y : Int) (hx : -9223372036854775808 ≤ x ∧ x ≤ 9223372036854775807) (hy : -9223372036854775808 ≤ y ∧ y ≤ 9223372036854775807) :
    (bits .xor .i64 x y < 0) ↔ ¬ (x < 0 ↔ y < 0) := by
  rw [xor_i64]
  have h := BitVec.msb_eq_toInt (x := BitVec.ofInt 64 x ^^^ BitVec.ofInt 64 y)
  rw [BitVec.msb_xor, ofInt_neg x hx, ofInt_neg y hy] at h
  have h2 : (decide ((BitVec.ofInt 64 x ^^^ BitVec.ofInt 64 y).toInt < 0) = true) ↔ (BitVec.ofInt 64 x ^^^ BitVec.ofInt 64 y).toInt < 0 := decide_eq_true_iff
  rw [← h2, ← h]
  by_cases h3 : x < 0 <;> by_cases h4 : y < 0 <;> simp [h3, h4]
theorem and_neg (x y : Int) (hx : -9223372036854775808 ≤ x ∧ x ≤ 9223372036854775807) (hy : -9223372036854775808 ≤ y ∧ y ≤ 9223372036854775807) :
    (bits .and .i64 x y < 0) ↔ (x < 0 ∧ y < 0) := by
  rw [and_i64]
  have h := BitVec.msb_eq_toInt (x := BitVec.ofInt 64 x &&& BitVec.ofInt 64 y)
  rw [BitVec.msb_and, ofInt_neg x hx, ofInt_neg y hy] at h
  have h2 : (decide ((BitVec.ofInt 64 x &&& BitVec.ofInt 64 y).toInt < 0) = true) ↔ (BitVec.ofInt 64 x &&& BitVec.ofInt 64 y).toInt < 0 := decide_eq_true_iff
  rw [← h2, ← h]
  simp
theorem toInt_range (v : BitVec 64) : -9223372036854775808 ≤ v.toInt ∧ v.toInt ≤ 9223372036854775807 := by
  have h1 := BitVec.toInt_lt (x := v)
  have h2 := BitVec.le_toInt (x := v)
  omega
theorem xor_range (x y : Int) : -9223372036854775808 ≤ bits .xor .i64 x y ∧ bits .xor .i64 x y ≤ 9223372036854775807 := by
  rw [xor_i64]; exact toInt_range _

theorem wrap64_range (n : Int) : -9223372036854775808 ≤ wrap64 n ∧ wrap64 n ≤ 9223372036854775807 := by unfold wrap64; omega

theorem add_wraps (a b : Int) (ha : -9223372036854775808 ≤ a ∧ a ≤ 9223372036854775807) (hb : -9223372036854775808 ≤ b ∧ b ≤ 9223372036854775807) :
    (bits .and .i64 (bits .xor .i64 a (wrap64 (a + b))) (bits .xor .i64 b (wrap64 (a + b))) < 0) ↔ fit (a + b) = false := by
  rw [and_neg _ _ (xor_range _ _) (xor_range _ _), xor_neg _ _ ha (wrap64_range _), xor_neg _ _ hb (wrap64_range _), fit_not_iff]
  unfold wrap64
  omega
theorem sub_wraps (a b : Int) (ha : -9223372036854775808 ≤ a ∧ a ≤ 9223372036854775807) (hb : -9223372036854775808 ≤ b ∧ b ≤ 9223372036854775807) :
    (bits .and .i64 (bits .xor .i64 a b) (bits .xor .i64 a (wrap64 (a - b))) < 0) ↔ fit (a - b) = false := by
  rw [and_neg _ _ (xor_range _ _) (xor_range _ _), xor_neg _ _ ha (wrap64_range _), xor_neg _ _ ha hb, fit_not_iff]
  unfold wrap64
  omega

theorem bool_eq_false_of {p : Bool} (h : ¬ p = true) : p = false := by cases p <;> simp_all
theorem wrap_u64_eq (n : Int) : IntKind.u64.wrap n = n % 18446744073709551616 := IntKind.wrap_u64 n

/-- The product of two numbers of 64 bits with sign is at most 2^126. -/
theorem mul_range (a b : Int) (ha : -9223372036854775808 ≤ a ∧ a ≤ 9223372036854775807) (hb : -9223372036854775808 ≤ b ∧ b ≤ 9223372036854775807) :
    -85070591730234615865843651857942052864 ≤ a * b ∧ a * b ≤ 85070591730234615865843651857942052864 := by
  have h : (a * b).natAbs ≤ 9223372036854775808 * 9223372036854775808 := by
    rw [Int.natAbs_mul]; exact Nat.mul_le_mul (by omega) (by omega)
  have e : (9223372036854775808 * 9223372036854775808 : Nat) = 85070591730234615865843651857942052864 := by decide
  omega
theorem mul_shift (a b M : Int) : (a + M) * (b + M) = a * b + M * a + M * b + M * M := by grind
theorem mul_shift1 (a b M : Int) : (a + M) * b = a * b + M * b := by grind
theorem mul_shift2 (a b M : Int) : a * (b + M) = a * b + M * a := by grind

/-- What bits.Mul64's halves, put right for signs, come to. -/
theorem wide_pp (a b : Int) (ha : -9223372036854775808 ≤ a ∧ a ≤ 9223372036854775807) (hb : -9223372036854775808 ≤ b ∧ b ≤ 9223372036854775807) (h1 : 0 ≤ a) (h2 : 0 ≤ b) :
    wrap64 (a * b / 18446744073709551616) = a * b / 18446744073709551616 ∧ a * b % 18446744073709551616 = a * b % 18446744073709551616 := by
  have hr := mul_range a b ha hb
  unfold wrap64
  generalize a * b = p at *
  omega
theorem wide_np (a b : Int) (ha : -9223372036854775808 ≤ a ∧ a ≤ 9223372036854775807) (hb : -9223372036854775808 ≤ b ∧ b ≤ 9223372036854775807) (h1 : a < 0) (h2 : 0 ≤ b) :
    wrap64 (IntKind.u64.wrap ((a % 18446744073709551616) * b / 18446744073709551616 - b)) = a * b / 18446744073709551616 ∧ (a % 18446744073709551616) * b % 18446744073709551616 = a * b % 18446744073709551616 := by
  have hr := mul_range a b ha hb
  have ea : a % 18446744073709551616 = a + 18446744073709551616 := by omega
  rw [ea, mul_shift1, IntKind.wrap_u64]
  unfold wrap64
  generalize a * b = p at *
  omega
theorem wide_pn (a b : Int) (ha : -9223372036854775808 ≤ a ∧ a ≤ 9223372036854775807) (hb : -9223372036854775808 ≤ b ∧ b ≤ 9223372036854775807) (h1 : 0 ≤ a) (h2 : b < 0) :
    wrap64 (IntKind.u64.wrap (a * (b % 18446744073709551616) / 18446744073709551616 - a)) = a * b / 18446744073709551616 ∧ a * (b % 18446744073709551616) % 18446744073709551616 = a * b % 18446744073709551616 := by
  have hr := mul_range a b ha hb
  have eb : b % 18446744073709551616 = b + 18446744073709551616 := by omega
  rw [eb, mul_shift2, IntKind.wrap_u64]
  unfold wrap64
  generalize a * b = p at *
  omega
theorem wide_nn (a b : Int) (ha : -9223372036854775808 ≤ a ∧ a ≤ 9223372036854775807) (hb : -9223372036854775808 ≤ b ∧ b ≤ 9223372036854775807) (h1 : a < 0) (h2 : b < 0) :
    wrap64 (IntKind.u64.wrap (IntKind.u64.wrap ((a % 18446744073709551616) * (b % 18446744073709551616) / 18446744073709551616 - b % 18446744073709551616) - a % 18446744073709551616)) = a * b / 18446744073709551616 ∧ (a % 18446744073709551616) * (b % 18446744073709551616) % 18446744073709551616 = a * b % 18446744073709551616 := by
  have hr := mul_range a b ha hb
  have ea : a % 18446744073709551616 = a + 18446744073709551616 := by omega
  have eb : b % 18446744073709551616 = b + 18446744073709551616 := by omega
  rw [ea, eb, mul_shift, IntKind.wrap_u64, IntKind.wrap_u64]
  unfold wrap64
  generalize a * b = p at *
  omega
/-- A product of 128 bits fits 64 just if its high half is its low half's sign. -/
theorem mul_fits (p : Int) (h1 : -85070591730234615865843651857942052864 ≤ p) (h2 : p ≤ 85070591730234615865843651857942052864) :
    (p / 18446744073709551616 = wrap64 (p % 18446744073709551616) / 9223372036854775808 ↔ fit p = true) ∧ (fit p = true → wrap64 (p % 18446744073709551616) = p) := by
  rw [fit_iff]
  unfold wrap64
  omega

/-- Div: is there a quotient? -/
def dvB (a b : Int) : Bool := if b = 0 then false else fit (a.fdiv b)
def dvV (a b : Int) : Int := if dvB a b = true then a.fdiv b else 0
def mdV (a b : Int) : Int := if dvB a b = true then a.fmod b else 0
theorem dvB_zero (a : Int) : dvB a 0 = false := by simp [dvB]
theorem dvB_min : dvB (-9223372036854775808) (-1) = false := by decide
theorem fdiv_of_tdiv (a b : Int) (hb : b ≠ 0) : (a.tmod b = 0 ∨ (a < 0 ↔ b < 0)) → a.fdiv b = a.tdiv b := by
  intro h
  rw [Int.fdiv_eq_ediv, Int.tdiv_eq_ediv, ← Int.dvd_iff_tmod_eq_zero] at *
  by_cases hd : b ∣ a
  · simp [hd]
  · have h' : a < 0 ↔ b < 0 := by rcases h with h | h; · exact absurd h hd
                                  · exact h
    simp [hd]
    by_cases h1 : a < 0
    · have h2 : b < 0 := h'.1 h1
      have := Int.sign_eq_neg_one_of_neg h2
      rw [if_neg (by omega), if_neg (by omega)]; omega
    · have h2 : ¬ b < 0 := fun x => h1 (h'.2 x)
      rw [if_pos (by omega), if_pos (by omega)]; omega
theorem fdiv_of_tdiv' (a b : Int) (hb : b ≠ 0) (hm : a.tmod b ≠ 0) (hs : ¬ (a < 0 ↔ b < 0)) : a.fdiv b = a.tdiv b - 1 := by
  rw [Int.fdiv_eq_ediv, Int.tdiv_eq_ediv]
  have hd : ¬ b ∣ a := fun h => hm (Int.dvd_iff_tmod_eq_zero.1 h)
  simp [hd]
  by_cases h1 : a < 0
  · have h2 : ¬ b < 0 := by intro h2; exact hs ⟨fun _ => h2, fun _ => h1⟩
    have := Int.sign_eq_one_of_pos (a := b) (by omega)
    rw [if_pos (by omega), if_neg (by omega)]; omega
  · have h2 : b < 0 := by
      rcases Classical.em (b < 0) with h | h
      · exact h
      · exact absurd ⟨fun x => absurd x h1, fun x => absurd x h⟩ hs
    rw [if_neg (by omega), if_pos (by omega)]; omega
theorem tdiv_range (a b : Int) (hb : b ≠ 0) (ha : -9223372036854775808 ≤ a ∧ a ≤ 9223372036854775807) (hn : ¬ (a = -9223372036854775808 ∧ b = -1)) :
    -9223372036854775808 ≤ a.tdiv b ∧ a.tdiv b ≤ 9223372036854775807 := by
  have h := Int.natAbs_tdiv_le_natAbs a b
  by_cases h0 : a = -9223372036854775808
  · have hb1 : b ≠ -1 := fun h => hn ⟨h0, h⟩
    subst h0
    refine ⟨by omega, ?_⟩
    have h2 : (Int.tdiv (-9223372036854775808) b).natAbs ≠ 9223372036854775808 ∨ b = 1 := by
      by_cases e : b = 1
      · exact Or.inr e
      · left
        rw [Int.natAbs_tdiv]
        have : 2 ≤ b.natAbs := by omega
        have : (-9223372036854775808 : Int).natAbs / b.natAbs ≤ 9223372036854775808 / 2 := Nat.div_le_div_left this (by omega)
        exact Nat.ne_of_lt (Nat.lt_of_le_of_lt this (by decide))
    rcases h2 with h2 | h2
    · omega
    · subst h2; decide
  · omega

theorem tdiv_range' (a b : Int) (hm : a.tmod b ≠ 0) (ha : -9223372036854775808 ≤ a ∧ a ≤ 9223372036854775807) :
    -4611686018427387904 ≤ a.tdiv b ∧ a.tdiv b ≤ 4611686018427387904 := by
  have h2 : b.natAbs = 0 ∨ 2 ≤ b.natAbs := by
    by_cases e1 : b = 1
    · subst e1; simp at hm
    · by_cases e2 : b = -1
      · subst e2; simp at hm
      · omega
  have h3 : (a.tdiv b).natAbs ≤ 4611686018427387904 := by
    rw [Int.natAbs_tdiv]
    rcases h2 with h2 | h2
    · rw [h2]; exact Nat.le_trans (Nat.le_of_eq (Nat.div_zero a.natAbs)) (by omega)
    · exact Nat.le_trans (Nat.div_le_div_left h2 (by omega)) (Nat.div_le_of_le_mul (by omega))
  omega
/-- Div's two endings. -/
theorem div_whole (a b : Int) (hb : b ≠ 0) (ha : -9223372036854775808 ≤ a ∧ a ≤ 9223372036854775807) (hn : ¬ (a = -9223372036854775808 ∧ b = -1)) (h : a.tmod b = 0 ∨ (a < 0 ↔ b < 0)) :
    wrap64 (a.tdiv b) = dvV a b ∧ true = dvB a b := by
  have e := fdiv_of_tdiv a b hb h
  have r := tdiv_range a b hb ha hn
  have hf : fit (a.fdiv b) = true := by rw [e]; exact fit_of r.1 r.2
  have hB : dvB a b = true := by simp [dvB, hb, hf]
  refine ⟨?_, hB.symm⟩
  rw [dvV, if_pos hB, e]
  exact wrap64_fit (by rw [← e]; exact hf)
theorem div_less (a b : Int) (hb : b ≠ 0) (ha : -9223372036854775808 ≤ a ∧ a ≤ 9223372036854775807) (hm : a.tmod b ≠ 0) (hs : ¬ (a < 0 ↔ b < 0)) :
    wrap64 (wrap64 (a.tdiv b) - 1) = dvV a b ∧ true = dvB a b := by
  have e := fdiv_of_tdiv' a b hb hm hs
  have r := tdiv_range' a b hm ha
  have hf : fit (a.fdiv b) = true := by rw [e]; exact fit_of (by omega) (by omega)
  have hB : dvB a b = true := by simp [dvB, hb, hf]
  refine ⟨?_, hB.symm⟩
  rw [dvV, if_pos hB, e, wrap64_fit (n := a.tdiv b) (fit_of (by omega) (by omega))]
  exact wrap64_fit (by rw [← e]; exact hf)
theorem fmod_range (a b : Int) (hb : b ≠ 0) (hr : -9223372036854775808 ≤ b ∧ b ≤ 9223372036854775807) :
    -9223372036854775808 ≤ a.fmod b ∧ a.fmod b ≤ 9223372036854775807 ∧ (a.fmod b ≠ 0 → (a.fmod b < 0 ↔ b < 0)) := by
  rcases Int.lt_or_gt_of_ne hb with h | h
  · have e := Int.neg_fmod_neg a b
    have h1 := Int.fmod_nonneg_of_pos (-a) (b := -b) (by omega)
    have h2 := Int.fmod_lt_of_pos (-a) (b := -b) (by omega)
    omega
  · have h1 := Int.fmod_nonneg_of_pos a h
    have h2 := Int.fmod_lt_of_pos a h
    omega
theorem mod_wraps (a b : Int) (hb : -9223372036854775808 ≤ b ∧ b ≤ 9223372036854775807) (h : dvB a b = true) :
    wrap64 (a - wrap64 (b * dvV a b)) = mdV a b := by
  have hb0 : b ≠ 0 := by intro e; rw [e, dvB_zero] at h; cases h
  have r := fmod_range a b hb0 hb
  rw [mdV, dvV, if_pos h, if_pos h]
  have e := Int.fmod_def a b
  have e2 : wrap64 (a - wrap64 (b * a.fdiv b)) = wrap64 (a - b * a.fdiv b) := by
    unfold wrap64
    generalize b * a.fdiv b = z
    omega
  rw [e2, ← e]
  exact wrap64_fit (fit_of r.1 r.2.1)

/-- Shl. -/
theorem shl_yes (a c : Int) (hc : 0 < c) (h : fit (a * c) = true) : wrap64 (a * c) / c = a := by
  rw [wrap64_fit h, Int.mul_ediv_cancel _ (by omega)]
theorem shl_no (a c : Int) (hc : 0 < c) (hc2 : c ≤ 18446744073709551616) (h : fit (a * c) = false) : wrap64 (a * c) / c ≠ a := by
  intro e
  have h1 := Int.mul_ediv_add_emod (wrap64 (a * c)) c
  have h2 := Int.emod_nonneg (wrap64 (a * c)) (b := c) (by omega)
  have h3 := Int.emod_lt_of_pos (wrap64 (a * c)) hc
  rw [e, Int.mul_comm c a] at h1
  rw [fit_not_iff] at h
  have h4 := wrap64_range (a * c)
  have h5 : wrap64 (a * c) = (a * c + 9223372036854775808) % 18446744073709551616 - 9223372036854775808 := by unfold wrap64; rfl
  generalize wrap64 (a * c) % c = r at *
  generalize wrap64 (a * c) = s at *
  generalize a * c = z at *
  omega
theorem pow_min (n : Nat) : (0 : Int) < 2 ^ min n 64 ∧ (2 : Int) ^ min n 64 ≤ 18446744073709551616 := by
  refine ⟨Int.pow_pos (by omega), ?_⟩
  have : 2 ^ min n 64 ≤ 2 ^ 64 := Nat.pow_le_pow_right (by omega) (Nat.min_le_right _ _)
  have e : ((2 ^ min n 64 : Nat) : Int) = (2 : Int) ^ min n 64 := by simp
  rw [← e]
  omega
theorem shl_fit (a : Int) (n : Nat) : fit (a * 2 ^ n) = fit (a * 2 ^ min n 64) ∧ told (a * 2 ^ n) = told (a * 2 ^ min n 64) := by
  by_cases h : n ≤ 64
  · rw [Nat.min_eq_left h]; exact ⟨rfl, rfl⟩
  · rw [Nat.min_eq_right (by omega)]
    by_cases ha : a = 0
    · subst ha; simp
    · have e : (2 : Int) ^ n = 2 ^ 64 * 2 ^ (n - 64) := by rw [← Int.pow_add]; congr 1; omega
      have hp : (1 : Int) ≤ 2 ^ (n - 64) := by have := Int.pow_pos (n := 2) (m := n - 64) (by omega); omega
      have h1 : fit (a * 2 ^ 64) = false := not_fit (by omega)
      have h2 : fit (a * 2 ^ n) = false := by
        apply not_fit
        rw [e, ← Int.mul_assoc]
        generalize (2 : Int) ^ (n - 64) = z at *
        rcases Int.lt_or_gt_of_ne ha with h3 | h3
        · left
          have : a * 2 ^ 64 * z ≤ a * 2 ^ 64 * 1 := Int.mul_le_mul_of_nonpos_left (by omega) hp
          omega
        · right
          have : a * 2 ^ 64 * 1 ≤ a * 2 ^ 64 * z := Int.mul_le_mul_of_nonneg_left hp (by omega)
          omega
      exact ⟨by rw [h1, h2], by rw [told_not h1, told_not h2]⟩

/-- Octile: a number's amount. -/
def amt (a : Int) : Int := if a < 0 then -a else a
def octN (x y : Int) : Int := 14 * min (amt x) (amt y) + 10 * (max (amt x) (amt y) - min (amt x) (amt y))
theorem amt_range (a : Int) (ha : -9223372036854775808 ≤ a ∧ a ≤ 9223372036854775807) : 0 ≤ amt a ∧ amt a ≤ 9223372036854775808 := by unfold amt; split <;> omega

/-- Sqrt. -/
theorem or_join (r m : Nat) (h : r % 2 ^ (m + 1) = 0) : r ||| 2 ^ m = r + 2 ^ m :=
  nat_join (m + 1) r (2 ^ m) h (Nat.pow_lt_pow_right (by omega) (by omega))
theorem min_tdiv (b : Int) : Int.tdiv (-9223372036854775808) b = -Int.tdiv 9223372036854775808 b := Int.neg_tdiv 9223372036854775808 b
theorem min_tmod (b : Int) : Int.tmod (-9223372036854775808) b = -(9223372036854775808 % b) := by
  rw [Int.neg_tmod, Int.tmod_eq_emod_of_nonneg (by omega)]
end Go.Proofs.Ytmkoleioipklpaa
