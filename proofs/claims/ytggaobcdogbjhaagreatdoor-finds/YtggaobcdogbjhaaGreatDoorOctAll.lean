/-
  Plain arithmetic for layer 1: which sums, products, quotients and shifts fit 64 bits with sign, and how the wrapped forms of the walk come to them. No run of the program in this text. What the functions of package fixed that lie on this layer's road tell, for every input, and that the world is as it was (as proved of layer 1). Octile of the package and of the reference. What is left from a cell to the one that Find begins at.
-/
import Derived.WalkKit
import Derived.OpenShut
import Derived.Laws.MathBits
import Derived.Laws.Bits64b
import Derived.Laws.BitsAllLaws
import Derived.Test.YtggaobcdogbjhaaGreatDoorBase
import Derived.WalkSpells
import Derived.WalkLawsBesides
import Derived.Test.YtggaobcdogbjhaaGreatDoorSrAll
namespace Go.Proofs.YtggaobcdogbjhaaGreatDoor
open Go.RowKit
set_option linter.unusedVariables false

/-- Does a number fit 64 bits with sign? -/
def fit (n : Int) : Bool := decide (-9223372036854775808 ≤ n ∧ n ≤ 9223372036854775807)
/-- A number that fits, else 0. -/
def told (n : Int) : Int := if fit n = true then n else 0

theorem fit_iff (n : Int) : fit n = true ↔ (-9223372036854775808 ≤ n ∧ n ≤ 9223372036854775807) := by simp [fit]
theorem fit_not_iff (n : Int) : fit n = false ↔ (n < -9223372036854775808 ∨ 9223372036854775807 < n) := by
  unfold fit
  rw [decide_eq_false_iff_not]; omega
theorem fit_of {n : Int} (h1 : -9223372036854775808 ≤ n) (h2 : n ≤ 9223372036854775807) : fit n = true := (fit_iff n).2 ⟨h1, h2⟩
theorem not_fit {n : Int} (h : n < -9223372036854775808 ∨ 9223372036854775807 < n) : fit n = false := by
  cases hf : fit n with
  | false => rfl
  | true => have := (fit_iff n).1 hf; omega
theorem told_of {n : Int} (h : fit n = true) : told n = n := by simp [told, h]
theorem told_not {n : Int} (h : fit n = false) : told n = 0 := by simp [told, h]
theorem wrap64_fit {n : Int} (h : fit n = true) : wrap64 n = n := by
  have := (fit_iff n).1 h; unfold wrap64; omega
theorem wf_range {a : Int} (h : (Lit.int .i64 a).wf = true) : -9223372036854775808 ≤ a ∧ a ≤ 9223372036854775807 := by
  have h' := bounds_i64 h; omega

/-- The sign of 'x ^ y' and of 'x & y', 64 bits with sign. -/
theorem wrap_toNat (v : BitVec 64) : IntKind.i64.wrap (v.toNat : Int) = v.toInt := by
  have := v.isLt
  rw [BitVec.toInt_eq_toNat_cond, IntKind.wrap_i64]
  split <;> omega
theorem xor_i64 (x y : Int) : bits .xor .i64 x y = (BitVec.ofInt 64 x ^^^ BitVec.ofInt 64 y).toInt := wrap_toNat _
theorem and_i64 (x y : Int) : bits .and .i64 x y = (BitVec.ofInt 64 x &&& BitVec.ofInt 64 y).toInt := wrap_toNat _
theorem or_i64 (x y : Int) : bits .or .i64 x y = (BitVec.ofInt 64 x ||| BitVec.ofInt 64 y).toInt := wrap_toNat _
theorem ofInt_neg (x : Int) (h : -9223372036854775808 ≤ x ∧ x ≤ 9223372036854775807) : (BitVec.ofInt 64 x).msb = decide (x < 0) := by
  rw [BitVec.msb_eq_toInt, BitVec.toInt_ofInt, Int.bmod_def]
  congr 1
  apply propext
  split <;> omega
theorem xor_neg (x y : Int) (hx : -9223372036854775808 ≤ x ∧ x ≤ 9223372036854775807) (hy : -9223372036854775808 ≤ y ∧ y ≤ 9223372036854775807) :
    (bits .xor .i64 x y < 0) ↔ ¬ (x < 0 ↔ y < 0) := by
  rw [xor_i64]
  have h := BitVec.msb_eq_toInt (x := BitVec.ofInt 64 x ^^^ BitVec.ofInt 64 y)
  rw [BitVec.msb_xor, ofInt_neg x hx, ofInt_neg y hy] at h
  have h2 : (decide ((BitVec.ofInt 64 x ^^^ BitVec.ofInt 64 y).toInt < 0) = true) ↔ (BitVec.ofInt 64 x ^^^ BitVec.ofInt 64 y).toInt < 0 := decide_eq_true_iff
  rw [← h2, ← h]
  by_cases h3 : x < 0 <;> by_cases h4 : y < 0 <;> simp [h3, h4]
theorem and_neg (x y : Int) (hx : -9223372036854775808 ≤ x ∧ x ≤ 9223372036854775807) (hy : -9223372036854775808 ≤ y ∧ y ≤ 9223372036854775807) :
    (bits .and .i64 x y < 0) ↔ (x < 0 ∧ y < 0) := by
  rw [and_i64]
  have h := BitVec.msb_eq_toInt (x := BitVec.ofInt 64 x &&& BitVec.ofInt 64 y)
  rw [BitVec.msb_and, ofInt_neg x hx, ofInt_neg y hy] at h
  have h2 : (decide ((BitVec.ofInt 64 x &&& BitVec.ofInt 64 y).toInt < 0) = true) ↔ (BitVec.ofInt 64 x &&& BitVec.ofInt 64 y).toInt < 0 := decide_eq_true_iff
  rw [← h2, ← h]
  simp
theorem toInt_range (v : BitVec 64) : -9223372036854775808 ≤ v.toInt ∧ v.toInt ≤ 9223372036854775807 := by
  have h1 := BitVec.toInt_lt (x := v)
  have h2 := BitVec.le_toInt (x := v)
  omega
theorem xor_range (x y : Int) : -9223372036854775808 ≤ bits .xor .i64 x y ∧ bits .xor .i64 x y ≤ 9223372036854775807 := by
  rw [xor_i64]; exact toInt_range _

theorem wrap64_range (n : Int) : -9223372036854775808 ≤ wrap64 n ∧ wrap64 n ≤ 9223372036854775807 := by unfold wrap64; omega

theorem add_wraps (a b : Int) (ha : -9223372036854775808 ≤ a ∧ a ≤ 9223372036854775807) (hb : -9223372036854775808 ≤ b ∧ b ≤ 9223372036854775807) :
    (bits .and .i64 (bits .xor .i64 a (wrap64 (a + b))) (bits .xor .i64 b (wrap64 (a + b))) < 0) ↔ fit (a + b) = false := by
  rw [and_neg _ _ (xor_range _ _) (xor_range _ _), xor_neg _ _ ha (wrap64_range _), xor_neg _ _ hb (wrap64_range _), fit_not_iff]
  unfold wrap64
  omega
theorem sub_wraps (a b : Int) (ha : -9223372036854775808 ≤ a ∧ a ≤ 9223372036854775807) (hb : -9223372036854775808 ≤ b ∧ b ≤ 9223372036854775807) :
    (bits .and .i64 (bits .xor .i64 a b) (bits .xor .i64 a (wrap64 (a - b))) < 0) ↔ fit (a - b) = false := by
  rw [and_neg _ _ (xor_range _ _) (xor_range _ _), xor_neg _ _ ha (wrap64_range _), xor_neg _ _ ha hb, fit_not_iff]
  unfold wrap64
  omega

theorem bool_eq_false_of {p : Bool} (h : ¬ p = true) : p = false := by cases p <;> simp_all
theorem wrap_u64_eq (n : Int) : IntKind.u64.wrap n = n % 18446744073709551616 := IntKind.wrap_u64 n

/-- The product of two numbers of 64 bits with sign is at most 2^126. -/
theorem mul_range (a b : Int) (ha : -9223372036854775808 ≤ a ∧ a ≤ 9223372036854775807) (hb : -9223372036854775808 ≤ b ∧ b ≤ 9223372036854775807) :
    -85070591730234615865843651857942052864 ≤ a * b ∧ a * b ≤ 85070591730234615865843651857942052864 := by
  have h : (a * b).natAbs ≤ 9223372036854775808 * 9223372036854775808 := by
    rw [Int.natAbs_mul]; exact Nat.mul_le_mul (by omega) (by omega)
  have e : (9223372036854775808 * 9223372036854775808 : Nat) = 85070591730234615865843651857942052864 := by decide
  omega
theorem mul_shift (a b M : Int) : (a + M) * (b + M) = a * b + M * a + M * b + M * M := by grind
theorem mul_shift1 (a b M : Int) : (a + M) * b = a * b + M * b := by grind
theorem mul_shift2 (a b M : Int) : a * (b + M) = a * b + M * a := by grind

/-- What bits.Mul64's halves, put right for signs, come to. -/
theorem wide_pp (a b : Int) (ha : -9223372036854775808 ≤ a ∧ a ≤ 9223372036854775807) (hb : -9223372036854775808 ≤ b ∧ b ≤ 9223372036854775807) (h1 : 0 ≤ a) (h2 : 0 ≤ b) :
    wrap64 (a * b / 18446744073709551616) = a * b / 18446744073709551616 ∧ a * b % 18446744073709551616 = a * b % 18446744073709551616 := by
  have hr := mul_range a b ha hb
  unfold wrap64
  generalize a * b = p at *
  omega
theorem wide_np (a b : Int) (ha : -9223372036854775808 ≤ a ∧ a ≤ 9223372036854775807) (hb : -9223372036854775808 ≤ b ∧ b ≤ 9223372036854775807) (h1 : a < 0) (h2 : 0 ≤ b) :
    wrap64 (IntKind.u64.wrap ((a % 18446744073709551616) * b / 18446744073709551616 - b)) = a * b / 18446744073709551616 ∧ (a % 18446744073709551616) * b % 18446744073709551616 = a * b % 18446744073709551616 := by
  have hr := mul_range a b ha hb
  have ea : a % 18446744073709551616 = a + 18446744073709551616 := by omega
  rw [ea, mul_shift1, IntKind.wrap_u64]
  unfold wrap64
  generalize a * b = p at *
  omega
theorem wide_pn (a b : Int) (ha : -9223372036854775808 ≤ a ∧ a ≤ 9223372036854775807) (hb : -9223372036854775808 ≤ b ∧ b ≤ 9223372036854775807) (h1 : 0 ≤ a) (h2 : b < 0) :
    wrap64 (IntKind.u64.wrap (a * (b % 18446744073709551616) / 18446744073709551616 - a)) = a * b / 18446744073709551616 ∧ a * (b % 18446744073709551616) % 18446744073709551616 = a * b % 18446744073709551616 := by
  have hr := mul_range a b ha hb
  have eb : b % 18446744073709551616 = b + 18446744073709551616 := by omega
  rw [eb, mul_shift2, IntKind.wrap_u64]
  unfold wrap64
  generalize a * b = p at *
  omega
theorem wide_nn (a b : Int) (ha : -9223372036854775808 ≤ a ∧ a ≤ 9223372036854775807) (hb : -9223372036854775808 ≤ b ∧ b ≤ 9223372036854775807) (h1 : a < 0) (h2 : b < 0) :
    wrap64 (IntKind.u64.wrap (IntKind.u64.wrap ((a % 18446744073709551616) * (b % 18446744073709551616) / 18446744073709551616 - b % 18446744073709551616) - a % 18446744073709551616)) = a * b / 18446744073709551616 ∧ (a % 18446744073709551616) * (b % 18446744073709551616) % 18446744073709551616 = a * b % 18446744073709551616 := by
  have hr := mul_range a b ha hb
  have ea : a % 18446744073709551616 = a + 18446744073709551616 := by omega
  have eb : b % 18446744073709551616 = b + 18446744073709551616 := by omega
  rw [ea, eb, mul_shift, IntKind.wrap_u64, IntKind.wrap_u64]
  unfold wrap64
  generalize a * b = p at *
  omega
/-- A product of 128 bits fits 64 just if its high half is its low half's sign. -/
theorem mul_fits (p : Int) (h1 : -85070591730234615865843651857942052864 ≤ p) (h2 : p ≤ 85070591730234615865843651857942052864) :
    (p / 18446744073709551616 = wrap64 (p % 18446744073709551616) / 9223372036854775808 ↔ fit p = true) ∧ (fit p = true → wrap64 (p % 18446744073709551616) = p) := by
  rw [fit_iff]
  unfold wrap64
  omega

/-- Div: is there a quotient? -/
def dvB (a b : Int) : Bool := if b = 0 then false else fit (a.fdiv b)
def dvV (a b : Int) : Int := if dvB a b = true then a.fdiv b else 0
def mdV (a b : Int) : Int := if dvB a b = true then a.fmod b else 0
theorem dvB_zero (a : Int) : dvB a 0 = false := by simp [dvB]
theorem dvB_min : dvB (-9223372036854775808) (-1) = false := by decide
theorem fdiv_of_tdiv (a b : Int) (hb : b ≠ 0) : (a.tmod b = 0 ∨ (a < 0 ↔ b < 0)) → a.fdiv b = a.tdiv b := by
  intro h
  rw [Int.fdiv_eq_ediv, Int.tdiv_eq_ediv, ← Int.dvd_iff_tmod_eq_zero] at *
  by_cases hd : b ∣ a
  · simp [hd]
  · have h' : a < 0 ↔ b < 0 := by rcases h with h | h; · exact absurd h hd
                                  · exact h
    simp [hd]
    by_cases h1 : a < 0
    · have h2 : b < 0 := h'.1 h1
      have := Int.sign_eq_neg_one_of_neg h2
      rw [if_neg (by omega), if_neg (by omega)]; omega
    · have h2 : ¬ b < 0 := fun x => h1 (h'.2 x)
      rw [if_pos (by omega), if_pos (by omega)]; omega
theorem fdiv_of_tdiv' (a b : Int) (hb : b ≠ 0) (hm : a.tmod b ≠ 0) (hs : ¬ (a < 0 ↔ b < 0)) : a.fdiv b = a.tdiv b - 1 := by
  rw [Int.fdiv_eq_ediv, Int.tdiv_eq_ediv]
  have hd : ¬ b ∣ a := fun h => hm (Int.dvd_iff_tmod_eq_zero.1 h)
  simp [hd]
  by_cases h1 : a < 0
  · have h2 : ¬ b < 0 := by intro h2; exact hs ⟨fun _ => h2, fun _ => h1⟩
    have := Int.sign_eq_one_of_pos (a := b) (by omega)
    rw [if_pos (by omega), if_neg (by omega)]; omega
  · have h2 : b < 0 := by
      rcases Classical.em (b < 0) with h | h
      · exact h
      · exact absurd ⟨fun x => absurd x h1, fun x => absurd x h⟩ hs
    rw [if_neg (by omega), if_pos (by omega)]; omega
theorem tdiv_range (a b : Int) (hb : b ≠ 0) (ha : -9223372036854775808 ≤ a ∧ a ≤ 9223372036854775807) (hn : ¬ (a = -9223372036854775808 ∧ b = -1)) :
    -9223372036854775808 ≤ a.tdiv b ∧ a.tdiv b ≤ 9223372036854775807 := by
  have h := Int.natAbs_tdiv_le_natAbs a b
  by_cases h0 : a = -9223372036854775808
  · have hb1 : b ≠ -1 := fun h => hn ⟨h0, h⟩
    subst h0
    refine ⟨by omega, ?_⟩
    have h2 : (Int.tdiv (-9223372036854775808) b).natAbs ≠ 9223372036854775808 ∨ b = 1 := by
      by_cases e : b = 1
      · exact Or.inr e
      · left
        rw [Int.natAbs_tdiv]
        have : 2 ≤ b.natAbs := by omega
        have : (-9223372036854775808 : Int).natAbs / b.natAbs ≤ 9223372036854775808 / 2 := Nat.div_le_div_left this (by omega)
        exact Nat.ne_of_lt (Nat.lt_of_le_of_lt this (by decide))
    rcases h2 with h2 | h2
    · omega
    · subst h2; decide
  · omega

theorem tdiv_range' (a b : Int) (hm : a.tmod b ≠ 0) (ha : -9223372036854775808 ≤ a ∧ a ≤ 9223372036854775807) :
    -4611686018427387904 ≤ a.tdiv b ∧ a.tdiv b ≤ 4611686018427387904 := by
  have h2 : b.natAbs = 0 ∨ 2 ≤ b.natAbs := by
    by_cases e1 : b = 1
    · subst e1; simp at hm
    · by_cases e2 : b = -1
      · subst e2; simp at hm
      · omega
  have h3 : (a.tdiv b).natAbs ≤ 4611686018427387904 := by
    rw [Int.natAbs_tdiv]
    rcases h2 with h2 | h2
    · rw [h2]; exact Nat.le_trans (Nat.le_of_eq (Nat.div_zero a.natAbs)) (by omega)
    · exact Nat.le_trans (Nat.div_le_div_left h2 (by omega)) (Nat.div_le_of_le_mul (by omega))
  omega
/-- Div's two endings. -/
theorem div_whole (a b : Int) (hb : b ≠ 0) (ha : -9223372036854775808 ≤ a ∧ a ≤ 9223372036854775807) (hn : ¬ (a = -9223372036854775808 ∧ b = -1)) (h : a.tmod b = 0 ∨ (a < 0 ↔ b < 0)) :
    wrap64 (a.tdiv b) = dvV a b ∧ true = dvB a b := by
  have e := fdiv_of_tdiv a b hb h
  have r := tdiv_range a b hb ha hn
  have hf : fit (a.fdiv b) = true := by rw [e]; exact fit_of r.1 r.2
  have hB : dvB a b = true := by simp [dvB, hb, hf]
  refine ⟨?_, hB.symm⟩
  rw [dvV, if_pos hB, e]
  exact wrap64_fit (by rw [← e]; exact hf)
theorem div_less (a b : Int) (hb : b ≠ 0) (ha : -9223372036854775808 ≤ a ∧ a ≤ 9223372036854775807) (hm : a.tmod b ≠ 0) (hs : ¬ (a < 0 ↔ b < 0)) :
    wrap64 (wrap64 (a.tdiv b) - 1) = dvV a b ∧ true = dvB a b := by
  have e := fdiv_of_tdiv' a b hb hm hs
  have r := tdiv_range' a b hm ha
  have hf : fit (a.fdiv b) = true := by rw [e]; exact fit_of (by omega) (by omega)
  have hB : dvB a b = true := by simp [dvB, hb, hf]
  refine ⟨?_, hB.symm⟩
  rw [dvV, if_pos hB, e, wrap64_fit (n := a.tdiv b) (fit_of (by omega) (by omega))]
  exact wrap64_fit (by rw [← e]; exact hf)
theorem fmod_range (a b : Int) (hb : b ≠ 0) (hr : -9223372036854775808 ≤ b ∧ b ≤ 9223372036854775807) :
    -9223372036854775808 ≤ a.fmod b ∧ a.fmod b ≤ 9223372036854775807 ∧ (a.fmod b ≠ 0 → (a.fmod b < 0 ↔ b < 0)) := by
  rcases Int.lt_or_gt_of_ne hb with h | h
  · have e := Int.neg_fmod_neg a b
    have h1 := Int.fmod_nonneg_of_pos (-a) (b := -b) (by omega)
    have h2 := Int.fmod_lt_of_pos (-a) (b := -b) (by omega)
    omega
  · have h1 := Int.fmod_nonneg_of_pos a h
    have h2 := Int.fmod_lt_of_pos a h
    omega
theorem mod_wraps (a b : Int) (hb : -9223372036854775808 ≤ b ∧ b ≤ 9223372036854775807) (h : dvB a b = true) :
    wrap64 (a - wrap64 (b * dvV a b)) = mdV a b := by
  have hb0 : b ≠ 0 := by intro e; rw [e, dvB_zero] at h; cases h
  have r := fmod_range a b hb0 hb
  rw [mdV, dvV, if_pos h, if_pos h]
  have e := Int.fmod_def a b
  have e2 : wrap64 (a - wrap64 (b * a.fdiv b)) = wrap64 (a - b * a.fdiv b) := by
    unfold wrap64
    generalize b * a.fdiv b = z
    omega
  rw [e2, ← e]
  exact wrap64_fit (fit_of r.1 r.2.1)

/-- Shl. -/
theorem shl_yes (a c : Int) (hc : 0 < c) (h : fit (a * c) = true) : wrap64 (a * c) / c = a := by
  rw [wrap64_fit h, Int.mul_ediv_cancel _ (by omega)]
theorem shl_no (a c : Int) (hc : 0 < c) (hc2 : c ≤ 18446744073709551616) (h : fit (a * c) = false) : wrap64 (a * c) / c ≠ a := by
  intro e
  have h1 := Int.mul_ediv_add_emod (wrap64 (a * c)) c
  have h2 := Int.emod_nonneg (wrap64 (a * c)) (b := c) (by omega)
  have h3 := Int.emod_lt_of_pos (wrap64 (a * c)) hc
  rw [e, Int.mul_comm c a] at h1
  rw [fit_not_iff] at h
  have h4 := wrap64_range (a * c)
  have h5 : wrap64 (a * c) = (a * c + 9223372036854775808) % 18446744073709551616 - 9223372036854775808 := by unfold wrap64; rfl
  generalize wrap64 (a * c) % c = r at *
  generalize wrap64 (a * c) = s at *
  generalize a * c = z at *
  omega
theorem pow_min (n : Nat) : (0 : Int) < 2 ^ min n 64 ∧ (2 : Int) ^ min n 64 ≤ 18446744073709551616 := by
  refine ⟨Int.pow_pos (by omega), ?_⟩
  have : 2 ^ min n 64 ≤ 2 ^ 64 := Nat.pow_le_pow_right (by omega) (Nat.min_le_right _ _)
  have e : ((2 ^ min n 64 : Nat) : Int) = (2 : Int) ^ min n 64 := by simp
  rw [← e]
  omega
theorem shl_fit (a : Int) (n : Nat) : fit (a * 2 ^ n) = fit (a * 2 ^ min n 64) ∧ told (a * 2 ^ n) = told (a * 2 ^ min n 64) := by
  by_cases h : n ≤ 64
  · rw [Nat.min_eq_left h]; exact ⟨rfl, rfl⟩
  · rw [Nat.min_eq_right (by omega)]
    by_cases ha : a = 0
    · subst ha; simp
    · have e : (2 : Int) ^ n = 2 ^ 64 * 2 ^ (n - 64) := by rw [← Int.pow_add]; congr 1; omega
      have hp : (1 : Int) ≤ 2 ^ (n - 64) := by have := Int.pow_pos (n := 2) (m := n - 64) (by omega); omega
      have h1 : fit (a * 2 ^ 64) = false := not_fit (by omega)
      have h2 : fit (a * 2 ^ n) = false := by
        apply not_fit
        rw [e, ← Int.mul_assoc]
        generalize (2 : Int) ^ (n - 64) = z at *
        rcases Int.lt_or_gt_of_ne ha with h3 | h3
        · left
          have : a * 2 ^ 64 * z ≤ a * 2 ^ 64 * 1 := Int.mul_le_mul_of_nonpos_left (by omega) hp
          omega
        · right
          have : a * 2 ^ 64 * 1 ≤ a * 2 ^ 64 * z := Int.mul_le_mul_of_nonneg_left hp (by omega)
          omega
      exact ⟨by rw [h1, h2], by rw [told_not h1, told_not h2]⟩

/-- Octile: a number's amount. -/
def amt (a : Int) : Int := if a < 0 then -a else a
def octN (x y : Int) : Int := 14 * min (amt x) (amt y) + 10 * (max (amt x) (amt y) - min (amt x) (amt y))
theorem amt_range (a : Int) (ha : -9223372036854775808 ≤ a ∧ a ≤ 9223372036854775807) : 0 ≤ amt a ∧ amt a ≤ 9223372036854775808 := by unfold amt; split <;> omega

/-- Sqrt. -/
theorem or_join (r m : Nat) (h : r % 2 ^ (m + 1) = 0) : r ||| 2 ^ m = r + 2 ^ m :=
  nat_join (m + 1) r (2 ^ m) h (Nat.pow_lt_pow_right (by omega) (by omega))
theorem min_tdiv (b : Int) : Int.tdiv (-9223372036854775808) b = -Int.tdiv 9223372036854775808 b := Int.neg_tdiv 9223372036854775808 b
theorem min_tmod (b : Int) : Int.tmod (-9223372036854775808) b = -(9223372036854775808 % b) := by
  rw [Int.neg_tmod, Int.tmod_eq_emod_of_nonneg (by omega)]
end Go.Proofs.YtggaobcdogbjhaaGreatDoor
namespace Go.Proofs.YtggaobcdogbjhaaGreatDoor
open Go.RowKit
set_option linter.unusedVariables false
theorem ret_ibF {k : IntKind} {a b : Int} {p q : Bool} (h : a = b) (h2 : p = q) : Ending.returned (.tuple #[.int k a, .bool p]) = .returned (.tuple #[.int k b, .bool q]) := by rw [h, h2]
theorem ret_iiF {k l : IntKind} {a b : Int} {p q : Int} (h : a = b) (h2 : p = q) : Ending.returned (.tuple #[.int k a, .int l p]) = .returned (.tuple #[.int k b, .int l q]) := by rw [h, h2]
theorem ret_iF {k : IntKind} {a b : Int} (h : a = b) : Ending.returned (.int k a) = .returned (.int k b) := by rw [h]
theorem ret_bF {p q : Bool} (h : p = q) : Ending.returned (.bool p) = .returned (.bool q) := by rw [h]
set_option maxHeartbeats 400000 in
theorem add_any (a b : Int) (w : World) (ha : -9223372036854775808 ≤ a ∧ a ≤ 9223372036854775807) (hb : -9223372036854775808 ≤ b ∧ b ≤ 9223372036854775807) :
    Calls Tryz.prog 98 #[.int .i64 a, .int .i64 b] w fun e w' => e = .returned (.tuple #[.int .i64 (told (a + b)), .bool (fit (a + b))]) ∧ w' = w := by
  have hw := hide (add_wraps a b ha hb)
  cases hf : fit (a + b) with
  | false =>
    have h1 := hw.out.2 hf
    have h2 := hide hf
    clear hf
    go_enter Tryz.func98, Tryz.ntmps98
    go_wp2
    go_ret2
    exact ⟨ret_ibF (told_not h2).symm rfl, rfl⟩
  | true =>
    have h1 : ¬ _ := fun h => Bool.noConfusion (hf.symm.trans (hw.out.1 h))
    have h2 := hide hf
    clear hf
    go_enter Tryz.func98, Tryz.ntmps98
    go_wp2
    go_ret2
    exact ⟨ret_ibF ((wrap64_fit h2).trans (told_of h2).symm) rfl, rfl⟩
set_option maxHeartbeats 400000 in
theorem mul64_any (x y : Int) (w : World) (hx : 0 ≤ x ∧ x < 18446744073709551616) (hy : 0 ≤ y ∧ y < 18446744073709551616) :
    Calls Tryz.prog 105 #[.int .u64 x, .int .u64 y] w fun e w' => e = .returned (.tuple #[.int .u64 (x * y / 18446744073709551616), .int .u64 (x * y % 18446744073709551616)]) ∧ w' = w := by
  have e := hide (mul64_arith x y hx.1 hx.2 hy.1 hy.2)
  go_enter Tryz.func105, Tryz.ntmps105
  go_wp2
  go_ret2
  refine ⟨ret_iiF ?_ ?_, rfl⟩
  · simp only [IntKind.wrap_u64, and_low32 x hx.1 hx.2, and_low32 y hy.1 hy.2]
    rw [and_low32 _ (by omega) (by omega)]
    exact e.out
  · exact IntKind.wrap_u64 _
theorem low_eq (a b : Int) : (a % 18446744073709551616) * (b % 18446744073709551616) % 18446744073709551616 = a * b % 18446744073709551616 := (Int.mul_emod a b 18446744073709551616).symm
set_option maxHeartbeats 400000 in
theorem wide_any (a b : Int) (w : World) (ha : -9223372036854775808 ≤ a ∧ a ≤ 9223372036854775807) (hb : -9223372036854775808 ≤ b ∧ b ≤ 9223372036854775807) :
    Calls Tryz.prog 129 #[.int .i64 a, .int .i64 b] w fun e w' => e = .returned (.tuple #[.int .i64 (a * b / 18446744073709551616), .int .u64 (a * b % 18446744073709551616)]) ∧ w' = w := by
  have m1 := hide (wide_pp a b ha hb)
  have m2 := hide (wide_np a b ha hb)
  have m3 := hide (wide_pn a b ha hb)
  have m4 := hide (wide_nn a b ha hb)
  go_enter Tryz.func129, Tryz.ntmps129
  go_wp2_with (go_at_call 105; refine (mul64_any _ _ _ (by rw [IntKind.wrap_u64]; omega) (by rw [IntKind.wrap_u64]; omega)).mono ?_; rintro e w' ⟨rfl, rfl⟩)
  all_goals go_ret2
  · have h1 : a < 0 := by assumption
    have h2 : b < 0 := by assumption
    have h := m4.out h1 h2
    simp only [IntKind.wrap_u64] at h
    refine ⟨ret_iiF ?_ ?_, rfl⟩ <;> simp only [IntKind.wrap_u64]
    · exact h.1
    · exact low_eq a b
  · have h1 : a < 0 := by assumption
    have h2 : 0 ≤ b := by assumption
    have h := m2.out h1 h2
    simp only [IntKind.wrap_u64] at h
    refine ⟨ret_iiF ?_ ?_, rfl⟩ <;> simp only [IntKind.wrap_u64]
    · exact h.1
    · exact low_eq a b
  · have h1 : 0 ≤ a := by assumption
    have h2 : b < 0 := by assumption
    have h := m3.out h1 h2
    simp only [IntKind.wrap_u64] at h
    refine ⟨ret_iiF ?_ ?_, rfl⟩ <;> simp only [IntKind.wrap_u64]
    · exact h.1
    · exact low_eq a b
  · have h1 : 0 ≤ a := by assumption
    have h2 : 0 ≤ b := by assumption
    have h := m1.out h1 h2
    exact ⟨ret_iiF h.1 (by simp only [IntKind.wrap_u64]; exact low_eq a b), rfl⟩
set_option maxHeartbeats 400000 in
theorem mul_any (a b : Int) (w : World) (ha : -9223372036854775808 ≤ a ∧ a ≤ 9223372036854775807) (hb : -9223372036854775808 ≤ b ∧ b ≤ 9223372036854775807) :
    Calls Tryz.prog 121 #[.int .i64 a, .int .i64 b] w fun e w' => e = .returned (.tuple #[.int .i64 (told (a * b)), .bool (fit (a * b))]) ∧ w' = w := by
  have hr := mul_range a b ha hb
  have hm := hide (mul_fits (a * b) hr.1 hr.2)
  cases hf : fit (a * b) with
  | false =>
    have h1 : (a * b / 18446744073709551616 != wrap64 (a * b % 18446744073709551616) / 9223372036854775808) = true := by
      rw [bne_iff_ne]; intro h; exact Bool.noConfusion (hf.symm.trans (hm.out.1.1 h))
    have h2 := hide hf
    clear hf hm hr
    go_enter Tryz.func121, Tryz.ntmps121
    go_wp2_with (go_at_call 129; refine (wide_any _ _ _ ha hb).mono ?_; rintro e w' ⟨rfl, rfl⟩)
    go_ret2
    exact ⟨ret_ibF (told_not h2).symm rfl, rfl⟩
  | true =>
    have h1 : (a * b / 18446744073709551616 != wrap64 (a * b % 18446744073709551616) / 9223372036854775808) = false := by
      rw [bne_eq_false_iff_eq]; exact hm.out.1.2 hf
    have h3 := hide (hm.out.2 hf)
    have h2 := hide hf
    clear hf hm hr
    go_enter Tryz.func121, Tryz.ntmps121
    go_wp2_with (go_at_call 129; refine (wide_any _ _ _ ha hb).mono ?_; rintro e w' ⟨rfl, rfl⟩)
    go_ret2
    exact ⟨ret_ibF (h3.out.trans (told_of h2).symm) rfl, rfl⟩
set_option maxHeartbeats 400000 in
theorem amount_any (a : Int) (w : World) (ha : -9223372036854775808 ≤ a ∧ a ≤ 9223372036854775807) :
    Calls Tryz.prog 96 #[.int .i64 a] w fun e w' => e = .returned (.int .u64 (amt a)) ∧ w' = w := by
  go_enter Tryz.func96, Tryz.ntmps96
  go_wp2
  all_goals go_ret
  · have h : a < 0 := by assumption
    refine ⟨ret_iF ?_, rfl⟩
    simp only [IntKind.wrap_u64]; unfold amt; rw [if_pos h]; omega
  · have h : 0 ≤ a := by assumption
    refine ⟨ret_iF ?_, rfl⟩
    unfold amt; rw [if_neg (by omega)]
set_option maxHeartbeats 400000 in
theorem times_any (n k : Int) (w : World) (hn : 0 ≤ n ∧ n ≤ 9223372036854775808) (hk : 1 ≤ k ∧ k ≤ 9223372036854775807) :
    Calls Tryz.prog 97 #[.int .u64 n, .int .i64 k] w fun e w' => e = .returned (.tuple #[.int .i64 (told (n * k)), .bool (fit (n * k))]) ∧ w' = w := by
  by_cases h : 9223372036854775807 < n
  · have hf : fit (n * k) = false := by
      have e : n = 9223372036854775808 := by omega
      subst e; apply not_fit; omega
    have h2 := hide hf
    clear hf
    go_enter Tryz.func97, Tryz.ntmps97
    go_wp2
    go_ret2
    exact ⟨ret_ibF (told_not h2).symm h2.out.symm, rfl⟩
  · go_enter Tryz.func97, Tryz.ntmps97
    go_wp2_with (go_at_call 121; refine (mul_any _ _ _ (by omega) (by omega)).mono ?_; rintro e w' ⟨rfl, rfl⟩)
    go_ret2
    exact ⟨rfl, rfl⟩
set_option maxHeartbeats 400000 in
theorem octile_lt (a b : Int) (w : World) (ha : -9223372036854775808 ≤ a ∧ a ≤ 9223372036854775807) (hb : -9223372036854775808 ≤ b ∧ b ≤ 9223372036854775807) (h : amt a < amt b) :
    Calls Tryz.prog 68 #[.int .i64 a, .int .i64 b] w fun e w' => e = .returned (.tuple #[.int .i64 (told (octN a b)), .bool (fit (octN a b))]) ∧ w' = w := by
  have h1 := amt_range a ha
  have h2 := amt_range b hb
  have ho : octN a b = amt a * 14 + (amt b - amt a) * 10 := by unfold octN; omega
  have Ho := hide ho
  clear ho
  cases hf1 : fit (amt a * 14) with
  | false =>
    have h2 : fit (octN a b) = false := by rw [Ho.out]; rw [fit_not_iff] at hf1 ⊢; omega
    have h3 := hide h2
    clear h2
    go_enter Tryz.func68, Tryz.ntmps68
    go_wp2_with fail
    refine (amount_any _ _ ha).mono ?_; rintro e w' ⟨rfl, rfl⟩
    go_wp2_with fail
    refine (amount_any _ _ hb).mono ?_; rintro e w' ⟨rfl, rfl⟩
    go_wp2_with fail
    refine (times_any _ _ _ (by omega) (by omega)).mono ?_; rintro e w' ⟨rfl, rfl⟩
    go_wp2_with fail
    go_ret2
    exact ⟨ret_ibF (told_not h3).symm h3.out.symm, rfl⟩
  | true =>
    cases hf2 : fit ((amt b - amt a) * 10) with
    | false =>
      have h2 : fit (octN a b) = false := by rw [Ho.out]; rw [fit_not_iff] at hf2 ⊢; omega
      have h3 := hide h2
      clear h2
      go_enter Tryz.func68, Tryz.ntmps68
      go_wp2_with fail
      refine (amount_any _ _ ha).mono ?_; rintro e w' ⟨rfl, rfl⟩
      go_wp2_with fail
      refine (amount_any _ _ hb).mono ?_; rintro e w' ⟨rfl, rfl⟩
      go_wp2_with fail
      refine (times_any _ _ _ (by omega) (by omega)).mono ?_; rintro e w' ⟨rfl, rfl⟩
      go_wp2_with fail
      refine (times_any _ _ _ (by omega) (by omega)).mono ?_; rintro e w' ⟨rfl, rfl⟩
      go_wp2_with fail
      go_ret2
      exact ⟨ret_ibF (told_not h3).symm h3.out.symm, rfl⟩
    | true =>
      have t1 := hide (told_of hf1)
      have t2 := hide (told_of hf2)
      have r1 : -9223372036854775808 ≤ told (amt a * 14) ∧ told (amt a * 14) ≤ 9223372036854775807 := by rw [t1.out]; exact (fit_iff _).1 hf1
      have r2 : -9223372036854775808 ≤ told ((amt b - amt a) * 10) ∧ told ((amt b - amt a) * 10) ≤ 9223372036854775807 := by rw [t2.out]; exact (fit_iff _).1 hf2
      go_enter Tryz.func68, Tryz.ntmps68
      go_wp2_with fail
      refine (amount_any _ _ ha).mono ?_; rintro e w' ⟨rfl, rfl⟩
      go_wp2_with fail
      refine (amount_any _ _ hb).mono ?_; rintro e w' ⟨rfl, rfl⟩
      go_wp2_with fail
      refine (times_any _ _ _ (by omega) (by omega)).mono ?_; rintro e w' ⟨rfl, rfl⟩
      go_wp2_with fail
      refine (times_any _ _ _ (by omega) (by omega)).mono ?_; rintro e w' ⟨rfl, rfl⟩
      go_wp2_with fail
      refine (add_any _ _ _ r1 r2).mono ?_; rintro e w' ⟨rfl, rfl⟩
      go_wp2_with fail
      go_ret2
      exact ⟨ret_ibF (by rw [t1.out, t2.out, Ho.out]) (by rw [t1.out, t2.out, Ho.out]), rfl⟩
set_option maxHeartbeats 400000 in
theorem octile_gt (a b : Int) (w : World) (ha : -9223372036854775808 ≤ a ∧ a ≤ 9223372036854775807) (hb : -9223372036854775808 ≤ b ∧ b ≤ 9223372036854775807) (h : amt b < amt a) :
    Calls Tryz.prog 68 #[.int .i64 a, .int .i64 b] w fun e w' => e = .returned (.tuple #[.int .i64 (told (octN a b)), .bool (fit (octN a b))]) ∧ w' = w := by
  have h1 := amt_range a ha
  have h2 := amt_range b hb
  have ho : octN a b = amt b * 14 + (amt a - amt b) * 10 := by unfold octN; omega
  have Ho := hide ho
  clear ho
  cases hf1 : fit (amt b * 14) with
  | false =>
    have h2 : fit (octN a b) = false := by rw [Ho.out]; rw [fit_not_iff] at hf1 ⊢; omega
    have h3 := hide h2
    clear h2
    go_enter Tryz.func68, Tryz.ntmps68
    go_wp2_with fail
    refine (amount_any _ _ ha).mono ?_; rintro e w' ⟨rfl, rfl⟩
    go_wp2_with fail
    refine (amount_any _ _ hb).mono ?_; rintro e w' ⟨rfl, rfl⟩
    go_wp2_with fail
    refine (times_any _ _ _ (by omega) (by omega)).mono ?_; rintro e w' ⟨rfl, rfl⟩
    go_wp2_with fail
    go_ret2
    exact ⟨ret_ibF (told_not h3).symm h3.out.symm, rfl⟩
  | true =>
    cases hf2 : fit ((amt a - amt b) * 10) with
    | false =>
      have h2 : fit (octN a b) = false := by rw [Ho.out]; rw [fit_not_iff] at hf2 ⊢; omega
      have h3 := hide h2
      clear h2
      go_enter Tryz.func68, Tryz.ntmps68
      go_wp2_with fail
      refine (amount_any _ _ ha).mono ?_; rintro e w' ⟨rfl, rfl⟩
      go_wp2_with fail
      refine (amount_any _ _ hb).mono ?_; rintro e w' ⟨rfl, rfl⟩
      go_wp2_with fail
      refine (times_any _ _ _ (by omega) (by omega)).mono ?_; rintro e w' ⟨rfl, rfl⟩
      go_wp2_with fail
      refine (times_any _ _ _ (by omega) (by omega)).mono ?_; rintro e w' ⟨rfl, rfl⟩
      go_wp2_with fail
      go_ret2
      exact ⟨ret_ibF (told_not h3).symm h3.out.symm, rfl⟩
    | true =>
      have t1 := hide (told_of hf1)
      have t2 := hide (told_of hf2)
      have r1 : -9223372036854775808 ≤ told (amt b * 14) ∧ told (amt b * 14) ≤ 9223372036854775807 := by rw [t1.out]; exact (fit_iff _).1 hf1
      have r2 : -9223372036854775808 ≤ told ((amt a - amt b) * 10) ∧ told ((amt a - amt b) * 10) ≤ 9223372036854775807 := by rw [t2.out]; exact (fit_iff _).1 hf2
      go_enter Tryz.func68, Tryz.ntmps68
      go_wp2_with fail
      refine (amount_any _ _ ha).mono ?_; rintro e w' ⟨rfl, rfl⟩
      go_wp2_with fail
      refine (amount_any _ _ hb).mono ?_; rintro e w' ⟨rfl, rfl⟩
      go_wp2_with fail
      refine (times_any _ _ _ (by omega) (by omega)).mono ?_; rintro e w' ⟨rfl, rfl⟩
      go_wp2_with fail
      refine (times_any _ _ _ (by omega) (by omega)).mono ?_; rintro e w' ⟨rfl, rfl⟩
      go_wp2_with fail
      refine (add_any _ _ _ r1 r2).mono ?_; rintro e w' ⟨rfl, rfl⟩
      go_wp2_with fail
      go_ret2
      exact ⟨ret_ibF (by rw [t1.out, t2.out, Ho.out]) (by rw [t1.out, t2.out, Ho.out]), rfl⟩
set_option maxHeartbeats 400000 in
theorem octile_eq (a b : Int) (w : World) (ha : -9223372036854775808 ≤ a ∧ a ≤ 9223372036854775807) (hb : -9223372036854775808 ≤ b ∧ b ≤ 9223372036854775807) (h : amt a = amt b) :
    Calls Tryz.prog 68 #[.int .i64 a, .int .i64 b] w fun e w' => e = .returned (.tuple #[.int .i64 (told (octN a b)), .bool (fit (octN a b))]) ∧ w' = w := by
  have h1 := amt_range a ha
  have h2 := amt_range b hb
  have h3 : amt a ≤ amt b := by omega
  have h4 : amt b ≤ amt a := by omega
  have Ho : Hid (octN a b = amt a * 14) := by show octN a b = amt a * 14; unfold octN; omega
  clear h
  cases hf1 : fit (amt a * 14) with
  | false =>
    have h6 : fit (octN a b) = false := by rw [Ho.out]; exact hf1
    have h7 := hide h6
    clear h6
    go_enter Tryz.func68, Tryz.ntmps68
    go_wp2_with fail
    refine (amount_any _ _ ha).mono ?_; rintro e w' ⟨rfl, rfl⟩
    go_wp2_with fail
    refine (amount_any _ _ hb).mono ?_; rintro e w' ⟨rfl, rfl⟩
    go_wp2_with fail
    refine (times_any _ _ _ (by omega) (by omega)).mono ?_; rintro e w' ⟨rfl, rfl⟩
    go_wp2_with fail
    go_ret2
    exact ⟨ret_ibF (told_not h7).symm h7.out.symm, rfl⟩
  | true =>
    have t1 := hide (told_of hf1)
    have r1 : -9223372036854775808 ≤ told (amt a * 14) ∧ told (amt a * 14) ≤ 9223372036854775807 := by rw [t1.out]; exact (fit_iff _).1 hf1
    have f0 : fit 0 = true := by decide
    have t0 : told 0 = 0 := by decide
    go_enter Tryz.func68, Tryz.ntmps68
    go_wp2_with fail
    refine (amount_any _ _ ha).mono ?_; rintro e w' ⟨rfl, rfl⟩
    go_wp2_with fail
    refine (amount_any _ _ hb).mono ?_; rintro e w' ⟨rfl, rfl⟩
    go_wp2_with fail
    refine (times_any _ _ _ (by omega) (by omega)).mono ?_; rintro e w' ⟨rfl, rfl⟩
    go_wp2_with fail
    refine (times_any _ _ _ (by omega) (by omega)).mono ?_; rintro e w' ⟨rfl, rfl⟩
    go_wp2_with fail
    refine (add_any _ _ _ r1 (by omega)).mono ?_; rintro e w' ⟨rfl, rfl⟩
    go_wp2_with fail
    go_ret2
    exact ⟨ret_ibF (by rw [t1.out, Ho.out]) (by rw [t1.out, Ho.out]), rfl⟩
theorem octile_any (a b : Int) (w : World) (ha : -9223372036854775808 ≤ a ∧ a ≤ 9223372036854775807) (hb : -9223372036854775808 ≤ b ∧ b ≤ 9223372036854775807) :
    Calls Tryz.prog 68 #[.int .i64 a, .int .i64 b] w fun e w' => e = .returned (.tuple #[.int .i64 (told (octN a b)), .bool (fit (octN a b))]) ∧ w' = w := by
  rcases Int.lt_trichotomy (amt a) (amt b) with h | h | h
  · exact octile_lt a b w ha hb h
  · exact octile_eq a b w ha hb h
  · exact octile_gt a b w ha hb h
end Go.Proofs.YtggaobcdogbjhaaGreatDoor
namespace Go.Proofs.YtggaobcdogbjhaaGreatDoor
open Go.RowKit
set_option linter.unusedVariables false
theorem wrap_in {n : Int} (h0 : -9223372036854775808 ≤ n) (h1 : n ≤ 9223372036854775807) : IntKind.i64.wrap n = n := by rw [IntKind.wrap_i64]; omega
theorem amt_near {a c : Int} (h : -1048576 ≤ a ∧ a ≤ 1048576) (h2 : -1048576 ≤ c ∧ c ≤ 1048576) : 0 ≤ amt (a - c) ∧ amt (a - c) ≤ 2097152 := by unfold amt; split <;> omega
def ocN (a b c d : Int) : Int := if (nrC a b && nrC c d) = true then octN (a - c) (b - d) else 0
theorem ocN_no1 {a b c d : Int} (h : nrC a b = false) : ocN a b c d = 0 := by simp [ocN, h]
theorem ocN_no2 {a b c d : Int} (h : nrC c d = false) : ocN a b c d = 0 := by simp [ocN, h]
theorem ocN_yes {a b c d : Int} (h : nrC a b = true) (h2 : nrC c d = true) : ocN a b c d = octN (a - c) (b - d) := by simp [ocN, h, h2]
theorem oct_near {a b c d : Int} (h : nrC a b = true) (h2 : nrC c d = true) : told (octN (a - c) (b - d)) = octN (a - c) (b - d) := by
  have h := (nrC_iff a b).1 h
  have h2 := (nrC_iff c d).1 h2
  have m1 := amt_near h.1 h2.1
  have m2 := amt_near h.2 h2.2
  apply told_of
  apply fit_of <;> (unfold octN; omega)
set_option maxHeartbeats 1000000 in
theorem octilec_no1 (a b c d : Int) (w : World) (h : nrC a b = false) :
    Calls Tryz.prog 33 #[.agg #[.int .i64 a, .int .i64 b], .agg #[.int .i64 c, .int .i64 d]] w fun e w' => e = .returned (.int .i64 (ocN a b c d)) ∧ Below w.heap.size w w' := by
  rw [ocN_no1 h]
  go_enter Tryz.func33, Tryz.ntmps33
  go_wp2_with (go_at_call 67; refine (near_any _ _ _).mono ?_; rintro e w1 ⟨rfl, hb1⟩)
  go_ret
  exact ⟨rfl, bt (box2 _ _ _) hb1⟩
set_option maxHeartbeats 1000000 in
theorem octilec_no2 (a b c d : Int) (w : World) (h : nrC a b = true) (h2 : nrC c d = false) :
    Calls Tryz.prog 33 #[.agg #[.int .i64 a, .int .i64 b], .agg #[.int .i64 c, .int .i64 d]] w fun e w' => e = .returned (.int .i64 (ocN a b c d)) ∧ Below w.heap.size w w' := by
  rw [ocN_no2 h2]
  go_enter Tryz.func33, Tryz.ntmps33
  go_wp2_with fail
  refine (near_any _ _ _).mono ?_
  rintro e w1 ⟨rfl, hb1⟩
  obtain ⟨⟨e0, e1⟩, _, z1⟩ := cells2'' hb1
  go_wp2_with fail
  refine (near_any _ _ _).mono ?_
  rintro e w2 ⟨rfl, hb2⟩
  go_wp2_with fail
  go_ret
  exact ⟨rfl, bt (bt (box2 _ _ _) hb1) hb2⟩
set_option maxHeartbeats 1000000 in
theorem octilec_yes (a b c d : Int) (w : World) (h : nrC a b = true) (h2 : nrC c d = true) :
    Calls Tryz.prog 33 #[.agg #[.int .i64 a, .int .i64 b], .agg #[.int .i64 c, .int .i64 d]] w fun e w' => e = .returned (.int .i64 (ocN a b c d)) ∧ Below w.heap.size w w' := by
  rw [ocN_yes h h2]
  obtain ⟨⟨a0, a1⟩, b0, b1⟩ := (nrC_iff a b).1 h
  obtain ⟨⟨cc0, cc1⟩, d0, d1⟩ := (nrC_iff c d).1 h2
  have HO := hide (oct_near h h2)
  have wx : IntKind.i64.wrap (a - c) = a - c := wrap_in (by omega) (by omega)
  have wy : IntKind.i64.wrap (b - d) = b - d := wrap_in (by omega) (by omega)
  go_enter Tryz.func33, Tryz.ntmps33
  go_wp2_with fail
  refine (near_any _ _ _).mono ?_
  rintro e w1 ⟨rfl, hb1⟩
  obtain ⟨⟨c0, c1⟩, ⟨f0, f1⟩, z0⟩ := cells2' hb1
  obtain ⟨⟨e0, e1⟩, ⟨g0, g1⟩, z1⟩ := cells2'' hb1
  have B1 := hide (bt (box2 _ _ _) hb1)
  clear hb1
  go_wp2_with fail
  refine (near_any _ _ _).mono ?_
  rintro e w2 ⟨rfl, hb2⟩
  obtain ⟨⟨k0, k1⟩, _⟩ := Below.two hb2 z0 c0 c1 f0 f1
  obtain ⟨⟨l0, l1⟩, _⟩ := Below.two hb2 z1 e0 e1 g0 g1
  have B2 := hide hb2
  clear hb2 c0 c1 e0 e1
  go_wp2_with (go_at_call 68; refine (octile_any _ _ _ (by omega) (by omega)).mono ?_; rintro e w' ⟨rfl, rfl⟩)
  go_ret
  exact ⟨ret_int HO.out, bt B1.out B2.out⟩
theorem octilec_any (a b c d : Int) (w : World) :
    Calls Tryz.prog 33 #[.agg #[.int .i64 a, .int .i64 b], .agg #[.int .i64 c, .int .i64 d]] w fun e w' => e = .returned (.int .i64 (ocN a b c d)) ∧ Below w.heap.size w w' := by
  cases h : nrC a b
  · exact octilec_no1 a b c d w h
  · cases h2 : nrC c d
    · exact octilec_no2 a b c d w h h2
    · exact octilec_yes a b c d w h h2
end Go.Proofs.YtggaobcdogbjhaaGreatDoor
namespace Go.Proofs.YtggaobcdogbjhaaGreatDoor
open Go.RowKit
set_option linter.unusedVariables false
set_option linter.unusedSimpArgs false
theorem find1_is (x y fx fy : Int) (j : Nat) (w : World) (h : Two w j fx fy) :
    Calls Tryz.prog 32 #[cel x y, ptr j] w fun e w' => e = .returned (.int .i64 (ocN x y fx fy)) ∧ Below w.heap.size w w' := by
  have F := h.kept (box1 w (.cells #[.int .i64 x, .int .i64 y] 29))
  obtain ⟨⟨c0, c1⟩, -, -⟩ := F
  go_enter Tryz.func32, Tryz.ntmps32
  go_wp2_with (go_at_call 33; refine (octilec_any _ _ _ _ _).mono ?_; rintro e w1 ⟨rfl, hb1⟩)
  go_ret
  exact ⟨rfl, bt (box1 _ _) hb1⟩
theorem left_is (w0 : World) (j : Nat) (fx fy : Int) (h : Two w0 j fx fy) : Lfo w0 (.func (.func 32) #[] #[ptr j]) (fun x y => ocN x y fx fy) := fun x y => by
  refine ⟨32, #[cel x y, ptr j], ?_, fun w hb => find1_is x y fx fy j w (h.kept hb)⟩
  intro ev o w c ar ts hop hf hvs
  unfold execOp
  simp only [hop, resolve, hf, hvs]
  go_simp
end Go.Proofs.YtggaobcdogbjhaaGreatDoor
