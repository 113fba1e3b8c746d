/-
  Long numbers as lists of digits to the base 2^32, the lowest first: their values. No run of the program in this text.
-/
import Derived.WalkKit
namespace Go.Proofs.Ytnofillkfiiogaa
open Go.RowKit
set_option linter.unusedVariables false
def val : List Nat → Nat
  | [] => 0
  | d :: l => d + 4294967296 * val l
def pw (k : Nat) : Nat := 4294967296 ^ k
/-- The digit at a place; 0 behind the end. -/
def dig (l : List Nat) (i : Nat) : Nat := l.getD i 0
def Small (l : List Nat) : Prop := ∀ i : Nat, dig l i < 4294967296
theorem dig_beyond {l : List Nat} {k : Nat} (h : l.length ≤ k) : dig l k = 0 := by
  unfold dig; rw [List.getD_eq_getElem?_getD, List.getElem?_eq_none h]; rfl
theorem pw_succ (k : Nat) : pw (k + 1) = 4294967296 * pw k := by unfold pw; rw [Nat.pow_succ, Nat.mul_comm]
theorem pw_zero : pw 0 = 1 := rfl
theorem pw_pos (k : Nat) : 0 < pw k := Nat.pow_pos (by omega)
theorem small_nil : Small [] := by intro i; simp [dig]
theorem small_tail {d : Nat} {l : List Nat} (h : Small (d :: l)) : Small l := fun i => by simpa [dig] using h (i + 1)
theorem small_head {d : Nat} {l : List Nat} (h : Small (d :: l)) : d < 4294967296 := by simpa [dig] using h 0
theorem small_cons {d : Nat} {l : List Nat} (hd : d < 4294967296) (h : Small l) : Small (d :: l) := by
  intro i
  cases i with
  | zero => simpa [dig] using hd
  | succ i => simpa [dig] using h i
theorem small_snoc {l : List Nat} {d : Nat} (h : Small l) (hd : d < 4294967296) : Small (l ++ [d]) := by
  intro i
  have := h i
  simp only [dig, List.getD_eq_getElem?_getD, List.getElem?_append] at *
  split
  · exact this
  · rcases Nat.lt_or_ge (i - l.length) 1 with h1 | h1
    · rw [show i - l.length = 0 by omega]; simpa using hd
    · rw [List.getElem?_eq_none (by simp; omega)]; simp
theorem val_drop (l : List Nat) (k : Nat) : val (l.drop k) = dig l k + 4294967296 * val (l.drop (k + 1)) := by
  induction l generalizing k with
  | nil => simp [val, dig]
  | cons d l ih =>
    cases k with
    | zero => simp [val, dig]
    | succ k => simpa [dig] using ih k
theorem val_drop_all (l : List Nat) (k : Nat) (h : l.length ≤ k) : val (l.drop k) = 0 := by rw [List.drop_of_length_le h]; rfl
theorem lt_of_drop {la lb : List Nat} (ha : Small la) (k : Nat) (h : val (la.drop k) < val (lb.drop k)) : val la < val lb := by
  induction k with
  | zero => simpa using h
  | succ k ih =>
    apply ih
    rw [val_drop la k, val_drop lb k]
    have := ha k
    omega
theorem val_snoc (l : List Nat) (d : Nat) : val (l ++ [d]) = val l + pw l.length * d := by
  induction l with
  | nil => simp [val, pw]
  | cons e l ih =>
    simp only [List.cons_append, val, ih, List.length_cons, pw_succ]
    rw [Nat.mul_add, Nat.mul_assoc]; omega
theorem val_lt {l : List Nat} (h : Small l) : val l < pw l.length := by
  induction l with
  | nil => simp [val, pw]
  | cons e l ih =>
    have := ih (small_tail h)
    have := small_head h
    simp only [val, List.length_cons, pw_succ]
    omega
theorem plus_step (L P c x y z c' X Y S : Nat) (hz : c + x + y = z + 4294967296 * c') (h : L + P * (c + (x + 4294967296 * X) + (y + 4294967296 * Y)) = S) :
    (L + P * z) + (4294967296 * P) * (c' + X + Y) = S := by
  have e : c + (x + 4294967296 * X) + (y + 4294967296 * Y) = z + 4294967296 * (c' + X + Y) := by omega
  rw [e, Nat.mul_add] at h
  rw [← h, Nat.add_assoc, Nat.mul_comm 4294967296 P, Nat.mul_assoc]
theorem minus_step (L P x y z bo bo' X Y A B : Nat) (hz : z + y + bo = x + 4294967296 * bo') (h : L + P * (x + 4294967296 * X) + B = A + P * (bo + (y + 4294967296 * Y))) :
    (L + P * z) + (4294967296 * P) * X + B = A + (4294967296 * P) * (bo' + Y) := by
  have h1 : P * (z + 4294967296 * X) + P * (bo + (y + 4294967296 * Y)) = P * (x + 4294967296 * X) + P * (4294967296 * (bo' + Y)) := by
    rw [← Nat.mul_add, ← Nat.mul_add]; congr 1; omega
  have h2 : P * (z + 4294967296 * X) = P * z + (4294967296 * P) * X := by rw [Nat.mul_add, Nat.mul_comm 4294967296 P, Nat.mul_assoc]
  have h3 : P * (4294967296 * (bo' + Y)) = (4294967296 * P) * (bo' + Y) := by rw [Nat.mul_comm 4294967296 P, Nat.mul_assoc]
  omega
theorem minus_end (L P A B t : Nat) (hL : L < P) (hB : B ≤ A) (h : L + B = A + P * t) : L + B = A := by
  cases t with
  | zero => simpa using h
  | succ t =>
    rw [Nat.mul_succ] at h
    have : 0 ≤ P * t := Nat.zero_le _
    omega
end Go.Proofs.Ytnofillkfiiogaa
