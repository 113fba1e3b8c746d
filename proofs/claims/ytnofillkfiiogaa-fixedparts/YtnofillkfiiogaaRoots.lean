/-
  What fixed.Octile and fixed.Sqrt tell.
-/
import Derived.Test.YtnofillkfiiogaaLeaves
namespace Go.Proofs.Ytnofillkfiiogaa
open Go.RowKit
set_option linter.unusedVariables false
set_option maxHeartbeats 400000 in
theorem octile_lt (a b : Int) (w : World) (ha : -9223372036854775808 ≤ a ∧ a ≤ 9223372036854775807) (hb : -9223372036854775808 ≤ b ∧ b ≤ 9223372036854775807) (h : amt a < amt b) :
    Calls Try.prog 34 #[.int .i64 a, .int .i64 b] w fun e w' => e = .returned (.tuple #[.int .i64 (told (octN a b)), .bool (fit (octN a b))]) ∧ w' = w := by
  have h1 := amt_range a ha
  have h2 := amt_range b hb
  have ho : octN a b = amt a * 14 + (amt b - amt a) * 10 := by unfold octN; omega
  have Ho := hide ho
  clear ho
  cases hf1 : fit (amt a * 14) with
  | false =>
    have h2 : fit (octN a b) = false := by rw [Ho.out]; rw [fit_not_iff] at hf1 ⊢; omega
    have h3 := hide h2
    clear h2
    go_enter Try.func34, Try.ntmps34
    go_wp2_with fail
    refine (amount_any _ _ ha).mono ?_; rintro e w' ⟨rfl, rfl⟩
    go_wp2_with fail
    refine (amount_any _ _ hb).mono ?_; rintro e w' ⟨rfl, rfl⟩
    go_wp2_with fail
    refine (times_any _ _ _ (by omega) (by omega)).mono ?_; rintro e w' ⟨rfl, rfl⟩
    go_wp2_with fail
    go_ret2
    exact ⟨ret_ib (told_not h3).symm h3.out.symm, rfl⟩
  | true =>
    cases hf2 : fit ((amt b - amt a) * 10) with
    | false =>
      have h2 : fit (octN a b) = false := by rw [Ho.out]; rw [fit_not_iff] at hf2 ⊢; omega
      have h3 := hide h2
      clear h2
      go_enter Try.func34, Try.ntmps34
      go_wp2_with fail
      refine (amount_any _ _ ha).mono ?_; rintro e w' ⟨rfl, rfl⟩
      go_wp2_with fail
      refine (amount_any _ _ hb).mono ?_; rintro e w' ⟨rfl, rfl⟩
      go_wp2_with fail
      refine (times_any _ _ _ (by omega) (by omega)).mono ?_; rintro e w' ⟨rfl, rfl⟩
      go_wp2_with fail
      refine (times_any _ _ _ (by omega) (by omega)).mono ?_; rintro e w' ⟨rfl, rfl⟩
      go_wp2_with fail
      go_ret2
      exact ⟨ret_ib (told_not h3).symm h3.out.symm, rfl⟩
    | true =>
      have t1 := hide (told_of hf1)
      have t2 := hide (told_of hf2)
      have r1 : -9223372036854775808 ≤ told (amt a * 14) ∧ told (amt a * 14) ≤ 9223372036854775807 := by rw [t1.out]; exact (fit_iff _).1 hf1
      have r2 : -9223372036854775808 ≤ told ((amt b - amt a) * 10) ∧ told ((amt b - amt a) * 10) ≤ 9223372036854775807 := by rw [t2.out]; exact (fit_iff _).1 hf2
      go_enter Try.func34, Try.ntmps34
      go_wp2_with fail
      refine (amount_any _ _ ha).mono ?_; rintro e w' ⟨rfl, rfl⟩
      go_wp2_with fail
      refine (amount_any _ _ hb).mono ?_; rintro e w' ⟨rfl, rfl⟩
      go_wp2_with fail
      refine (times_any _ _ _ (by omega) (by omega)).mono ?_; rintro e w' ⟨rfl, rfl⟩
      go_wp2_with fail
      refine (times_any _ _ _ (by omega) (by omega)).mono ?_; rintro e w' ⟨rfl, rfl⟩
      go_wp2_with fail
      refine (add_any _ _ _ r1 r2).mono ?_; rintro e w' ⟨rfl, rfl⟩
      go_wp2_with fail
      go_ret2
      exact ⟨ret_ib (by rw [t1.out, t2.out, Ho.out]) (by rw [t1.out, t2.out, Ho.out]), rfl⟩
set_option maxHeartbeats 400000 in
theorem octile_gt (a b : Int) (w : World) (ha : -9223372036854775808 ≤ a ∧ a ≤ 9223372036854775807) (hb : -9223372036854775808 ≤ b ∧ b ≤ 9223372036854775807) (h : amt b < amt a) :
    Calls Try.prog 34 #[.int .i64 a, .int .i64 b] w fun e w' => e = .returned (.tuple #[.int .i64 (told (octN a b)), .bool (fit (octN a b))]) ∧ w' = w := by
  have h1 := amt_range a ha
  have h2 := amt_range b hb
  have ho : octN a b = amt b * 14 + (amt a - amt b) * 10 := by unfold octN; omega
  have Ho := hide ho
  clear ho
  cases hf1 : fit (amt b * 14) with
  | false =>
    have h2 : fit (octN a b) = false := by rw [Ho.out]; rw [fit_not_iff] at hf1 ⊢; omega
    have h3 := hide h2
    clear h2
    go_enter Try.func34, Try.ntmps34
    go_wp2_with fail
    refine (amount_any _ _ ha).mono ?_; rintro e w' ⟨rfl, rfl⟩
    go_wp2_with fail
    refine (amount_any _ _ hb).mono ?_; rintro e w' ⟨rfl, rfl⟩
    go_wp2_with fail
    refine (times_any _ _ _ (by omega) (by omega)).mono ?_; rintro e w' ⟨rfl, rfl⟩
    go_wp2_with fail
    go_ret2
    exact ⟨ret_ib (told_not h3).symm h3.out.symm, rfl⟩
  | true =>
    cases hf2 : fit ((amt a - amt b) * 10) with
    | false =>
      have h2 : fit (octN a b) = false := by rw [Ho.out]; rw [fit_not_iff] at hf2 ⊢; omega
      have h3 := hide h2
      clear h2
      go_enter Try.func34, Try.ntmps34
      go_wp2_with fail
      refine (amount_any _ _ ha).mono ?_; rintro e w' ⟨rfl, rfl⟩
      go_wp2_with fail
      refine (amount_any _ _ hb).mono ?_; rintro e w' ⟨rfl, rfl⟩
      go_wp2_with fail
      refine (times_any _ _ _ (by omega) (by omega)).mono ?_; rintro e w' ⟨rfl, rfl⟩
      go_wp2_with fail
      refine (times_any _ _ _ (by omega) (by omega)).mono ?_; rintro e w' ⟨rfl, rfl⟩
      go_wp2_with fail
      go_ret2
      exact ⟨ret_ib (told_not h3).symm h3.out.symm, rfl⟩
    | true =>
      have t1 := hide (told_of hf1)
      have t2 := hide (told_of hf2)
      have r1 : -9223372036854775808 ≤ told (amt b * 14) ∧ told (amt b * 14) ≤ 9223372036854775807 := by rw [t1.out]; exact (fit_iff _).1 hf1
      have r2 : -9223372036854775808 ≤ told ((amt a - amt b) * 10) ∧ told ((amt a - amt b) * 10) ≤ 9223372036854775807 := by rw [t2.out]; exact (fit_iff _).1 hf2
      go_enter Try.func34, Try.ntmps34
      go_wp2_with fail
      refine (amount_any _ _ ha).mono ?_; rintro e w' ⟨rfl, rfl⟩
      go_wp2_with fail
      refine (amount_any _ _ hb).mono ?_; rintro e w' ⟨rfl, rfl⟩
      go_wp2_with fail
      refine (times_any _ _ _ (by omega) (by omega)).mono ?_; rintro e w' ⟨rfl, rfl⟩
      go_wp2_with fail
      refine (times_any _ _ _ (by omega) (by omega)).mono ?_; rintro e w' ⟨rfl, rfl⟩
      go_wp2_with fail
      refine (add_any _ _ _ r1 r2).mono ?_; rintro e w' ⟨rfl, rfl⟩
      go_wp2_with fail
      go_ret2
      exact ⟨ret_ib (by rw [t1.out, t2.out, Ho.out]) (by rw [t1.out, t2.out, Ho.out]), rfl⟩
set_option maxHeartbeats 400000 in
theorem octile_eq (a b : Int) (w : World) (ha : -9223372036854775808 ≤ a ∧ a ≤ 9223372036854775807) (hb : -9223372036854775808 ≤ b ∧ b ≤ 9223372036854775807) (h : amt a = amt b) :
    Calls Try.prog 34 #[.int .i64 a, .int .i64 b] w fun e w' => e = .returned (.tuple #[.int .i64 (told (octN a b)), .bool (fit (octN a b))]) ∧ w' = w := by
  have h1 := amt_range a ha
  have h2 := amt_range b hb
  have h3 : amt a ≤ amt b := by omega
  have h4 : amt b ≤ amt a := by omega
  have Ho : Hid (octN a b = amt a * 14) := by show octN a b = amt a * 14; unfold octN; omega
  clear h
  cases hf1 : fit (amt a * 14) with
  | false =>
    have h6 : fit (octN a b) = false := by rw [Ho.out]; exact hf1
    have h7 := hide h6
    clear h6
    go_enter Try.func34, Try.ntmps34
    go_wp2_with fail
    refine (amount_any _ _ ha).mono ?_; rintro e w' ⟨rfl, rfl⟩
    go_wp2_with fail
    refine (amount_any _ _ hb).mono ?_; rintro e w' ⟨rfl, rfl⟩
    go_wp2_with fail
    refine (times_any _ _ _ (by omega) (by omega)).mono ?_; rintro e w' ⟨rfl, rfl⟩
    go_wp2_with fail
    go_ret2
    exact ⟨ret_ib (told_not h7).symm h7.out.symm, rfl⟩
  | true =>
    have t1 := hide (told_of hf1)
    have r1 : -9223372036854775808 ≤ told (amt a * 14) ∧ told (amt a * 14) ≤ 9223372036854775807 := by rw [t1.out]; exact (fit_iff _).1 hf1
    have f0 : fit 0 = true := by decide
    have t0 : told 0 = 0 := by decide
    go_enter Try.func34, Try.ntmps34
    go_wp2_with fail
    refine (amount_any _ _ ha).mono ?_; rintro e w' ⟨rfl, rfl⟩
    go_wp2_with fail
    refine (amount_any _ _ hb).mono ?_; rintro e w' ⟨rfl, rfl⟩
    go_wp2_with fail
    refine (times_any _ _ _ (by omega) (by omega)).mono ?_; rintro e w' ⟨rfl, rfl⟩
    go_wp2_with fail
    refine (times_any _ _ _ (by omega) (by omega)).mono ?_; rintro e w' ⟨rfl, rfl⟩
    go_wp2_with fail
    refine (add_any _ _ _ r1 (by omega)).mono ?_; rintro e w' ⟨rfl, rfl⟩
    go_wp2_with fail
    go_ret2
    exact ⟨ret_ib (by rw [t1.out, Ho.out]) (by rw [t1.out, Ho.out]), rfl⟩
theorem octile_any (a b : Int) (w : World) (ha : -9223372036854775808 ≤ a ∧ a ≤ 9223372036854775807) (hb : -9223372036854775808 ≤ b ∧ b ≤ 9223372036854775807) :
    Calls Try.prog 34 #[.int .i64 a, .int .i64 b] w fun e w' => e = .returned (.tuple #[.int .i64 (told (octN a b)), .bool (fit (octN a b))]) ∧ w' = w := by
  rcases Int.lt_trichotomy (amt a) (amt b) with h | h | h
  · exact octile_lt a b w ha hb h
  · exact octile_eq a b w ha hb h
  · exact octile_gt a b w ha hb h
set_option maxHeartbeats 400000 in
theorem sqrt_neg (a : Int) (w : World) (ha : a < 0) :
    Calls Try.prog 22 #[.int .i64 a] w fun e w' => e = .returned (.tuple #[.int .i64 0, .bool false]) ∧ w' = w := by
  go_enter Try.func22, Try.ntmps22
  go_wp2
  go_ret2
  exact ⟨rfl, rfl⟩
theorem sq_lt (n : Nat) (h : n < 4294967296) : n * n < 18446744073709551616 := by
  have := Nat.mul_le_mul (Nat.le_of_lt_succ h : n ≤ 4294967295) (Nat.le_of_lt_succ h : n ≤ 4294967295)
  omega
set_option maxHeartbeats 400000 in
theorem sqrt_any (a : Nat) (w : World) (ha : a ≤ 9223372036854775807) :
    Calls Try.prog 22 #[.int .i64 a] w fun e w' => ∃ r : Nat, r * r ≤ a ∧ a < (r + 1) * (r + 1) ∧ e = .returned (.tuple #[.int .i64 r, .bool true]) ∧ w' = w := by
  go_enter Try.func22, Try.ntmps22
  go_wp2
  go_loop [4, 5, 6] (fun t b _ => ∃ m r : Nat, m ≤ 32 ∧ r % 2 ^ m = 0 ∧ r * r ≤ a ∧ a < (r + 2 ^ m) * (r + 2 ^ m) ∧ r + 2 ^ m ≤ 4294967296 ∧ t = .int .u64 r ∧ b = .int .u64 ((2 ^ m / 2 : Nat) : Int)) (fun _ b _ => (intOf b).toNat)
  case atStart => exact ⟨32, 0, by omega, by omega, by omega, by omega, by omega, rfl, rfl⟩
  case round =>
    obtain ⟨m, r, hm, hr, hlo, hhi, hb, rfl, rfl⟩ := hrel
    by_cases h0 : m = 0
    · subst h0
      have h3 : ((((2 ^ 0 / 2 : Nat) : Int)) != 0) = false := by decide
      go_wp2
      go_ret2
      exact ⟨r, hlo, by simpa using hhi, rfl, rfl⟩
    · obtain ⟨k, rfl⟩ : ∃ k, m = k + 1 := ⟨m - 1, by omega⟩
      have e1 : 2 ^ (k + 1) / 2 = 2 ^ k := by rw [Nat.pow_succ]; omega
      have hor : bits .or .u64 (r : Int) ((2 ^ k : Nat) : Int) = ((r + 2 ^ k : Nat) : Int) := by
        rw [bits_or_u64_nat _ _ (by omega) (by rw [Nat.pow_succ] at hb; omega), or_join r k hr]
      rw [e1]
      rw [Nat.pow_succ] at hr hhi hb
      clear e1
      have hpos : 0 < 2 ^ k := Nat.pow_pos (by omega)
      generalize hc : 2 ^ k = c at *
      have HC := hide hc
      clear hc
      have hsq := sq_lt (r + c) (by omega)
      have hsq2 : Hid (IntKind.u64.wrap (((r : Int) + c) * ((r : Int) + c)) = (((r + c) * (r + c) : Nat) : Int)) := by
        show _ = _
        rw [IntKind.wrap_u64, ← Int.natCast_add, ← Int.natCast_mul]; omega
      have hdv : r % c = 0 := by
        have : c ∣ r := Nat.dvd_trans ⟨2, rfl⟩ (Nat.dvd_of_mod_eq_zero hr)
        exact Nat.mod_eq_zero_of_dvd this
      have hd2 := hide hdv
      have hd3 : Hid ((r + c) % c = 0) := by show _ = _; rw [Nat.add_mod_right]; exact hdv
      have hh : Hid (a < (r + c + c) * (r + c + c)) := by show _ < _; rw [show r + c + c = r + c * 2 by omega]; exact hhi
      clear hdv hr
      go_wp2
      · have h5 : IntKind.u64.wrap (((r : Int) + c) * ((r : Int) + c)) ≤ (a : Int) := by assumption
        rw [hsq2.out] at h5
        go_round
        case rel => exact ⟨k, r + c, by omega, by rw [HC.out]; exact hd3.out, by omega, by rw [HC.out]; exact hh.out, by rw [HC.out]; omega, by go_num, by rw [HC.out]; go_num⟩
        case measure => simp [intOf]; omega
      · have h5 : (a : Int) < IntKind.u64.wrap (((r : Int) + c) * ((r : Int) + c)) := by assumption
        rw [hsq2.out] at h5
        go_round
        case rel => exact ⟨k, r, by omega, by rw [HC.out]; exact hd2.out, by omega, by rw [HC.out]; omega, by rw [HC.out]; omega, by go_num, by rw [HC.out]; go_num⟩
        case measure => simp [intOf]; omega
end Go.Proofs.Ytnofillkfiiogaa
