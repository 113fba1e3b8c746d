/-
  What the functions of package fixed that lie on this layer's road tell, for every input, and that the world is as it was (as proved of layer 1).
-/
import Derived.Test.YtmkoleioipklpaaBase
import Derived.Test.YtmkoleioipklpaaFixNums
import Derived.WalkSpells
import Derived.WalkLawsBesides
namespace Go.Proofs.Ytmkoleioipklpaa
open Go.RowKit
set_option linter.unusedVariables false
theorem ret_ibF {k : IntKind} {a b : Int} {p q : Bool} (h : a = b) (h2 : p = q) : Ending.returned (.tuple #[.int k a, .bool p]) = .returned (.tuple #[.int k b, .bool q]) := by rw [h, h2]
theorem ret_iiF {k l : IntKind} {a b : Int} {p q : Int} (h : a = b) (h2 : p = q) : Ending.returned (.tuple #[.int k a, .int l p]) = .returned (.tuple #[.int k b, .int l q]) := by rw [h, h2]
theorem ret_iF {k : IntKind} {a b : Int} (h : a = b) : Ending.returned (.int k a) = .returned (.int k b) := by rw [h]
theorem ret_bF {p q : Bool} (h : p = q) : Ending.returned (.bool p) = .returned (.bool q) := by rw [h]
set_option maxHeartbeats 400000 in
theorem add_any (a b : Int) (w : World) (ha : -9223372036854775808 ≤ a ∧ a ≤ 9223372036854775807) (hb : -9223372036854775808 ≤ b ∧ b ≤ 9223372036854775807) :
    Calls Try.prog 56 #[.int .i64 a, .int .i64 b] w fun e w' => e = .returned (.tuple #[.int .i64 (told (a + b)), .bool (fit (a + b))]) ∧ w' = w := by
  have hw := hide (add_wraps a b ha hb)
  cases hf : fit (a + b) with
  | false =>
    have h1 := hw.out.2 hf
    have h2 := hide hf
    clear hf
    go_enter Try.func56, Try.ntmps56
    go_wp2
    go_ret2
    exact ⟨ret_ibF (told_not h2).symm rfl, rfl⟩
  | true =>
    have h1 : ¬ _ := fun h => Bool.noConfusion (hf.symm.trans (hw.out.1 h))
    have h2 := hide hf
    clear hf
    go_enter Try.func56, Try.ntmps56
    go_wp2
    go_ret2
    exact ⟨ret_ibF ((wrap64_fit h2).trans (told_of h2).symm) rfl, rfl⟩
set_option maxHeartbeats 400000 in
theorem mul64_any (x y : Int) (w : World) (hx : 0 ≤ x ∧ x < 18446744073709551616) (hy : 0 ≤ y ∧ y < 18446744073709551616) :
    Calls Try.prog 52 #[.int .u64 x, .int .u64 y] w fun e w' => e = .returned (.tuple #[.int .u64 (x * y / 18446744073709551616), .int .u64 (x * y % 18446744073709551616)]) ∧ w' = w := by
  have e := hide (mul64_arith x y hx.1 hx.2 hy.1 hy.2)
  go_enter Try.func52, Try.ntmps52
  go_wp2
  go_ret2
  refine ⟨ret_iiF ?_ ?_, rfl⟩
  · simp only [IntKind.wrap_u64, and_low32 x hx.1 hx.2, and_low32 y hy.1 hy.2]
    rw [and_low32 _ (by omega) (by omega)]
    exact e.out
  · exact IntKind.wrap_u64 _
theorem low_eq (a b : Int) : (a % 18446744073709551616) * (b % 18446744073709551616) % 18446744073709551616 = a * b % 18446744073709551616 := (Int.mul_emod a b 18446744073709551616).symm
set_option maxHeartbeats 400000 in
theorem wide_any (a b : Int) (w : World) (ha : -9223372036854775808 ≤ a ∧ a ≤ 9223372036854775807) (hb : -9223372036854775808 ≤ b ∧ b ≤ 9223372036854775807) :
    Calls Try.prog 65 #[.int .i64 a, .int .i64 b] w fun e w' => e = .returned (.tuple #[.int .i64 (a * b / 18446744073709551616), .int .u64 (a * b % 18446744073709551616)]) ∧ w' = w := by
  have m1 := hide (wide_pp a b ha hb)
  have m2 := hide (wide_np a b ha hb)
  have m3 := hide (wide_pn a b ha hb)
  have m4 := hide (wide_nn a b ha hb)
  go_enter Try.func65, Try.ntmps65
  go_wp2_with (go_at_call 52; refine (mul64_any _ _ _ (by rw [IntKind.wrap_u64]; omega) (by rw [IntKind.wrap_u64]; omega)).mono ?_; rintro e w' ⟨rfl, rfl⟩)
  all_goals go_ret2
  · have h1 : a < 0 := by assumption
    have h2 : b < 0 := by assumption
    have h := m4.out h1 h2
    simp only [IntKind.wrap_u64] at h
    refine ⟨ret_iiF ?_ ?_, rfl⟩ <;> simp only [IntKind.wrap_u64]
    · exact h.1
    · exact low_eq a b
  · have h1 : a < 0 := by assumption
    have h2 : 0 ≤ b := by assumption
    have h := m2.out h1 h2
    simp only [IntKind.wrap_u64] at h
    refine ⟨ret_iiF ?_ ?_, rfl⟩ <;> simp only [IntKind.wrap_u64]
    · exact h.1
    · exact low_eq a b
  · have h1 : 0 ≤ a := by assumption
    have h2 : b < 0 := by assumption
    have h := m3.out h1 h2
    simp only [IntKind.wrap_u64] at h
    refine ⟨ret_iiF ?_ ?_, rfl⟩ <;> simp only [IntKind.wrap_u64]
    · exact h.1
    · exact low_eq a b
  · have h1 : 0 ≤ a := by assumption
    have h2 : 0 ≤ b := by assumption
    have h := m1.out h1 h2
    exact ⟨ret_iiF h.1 (by simp only [IntKind.wrap_u64]; exact low_eq a b), rfl⟩
set_option maxHeartbeats 400000 in
theorem mul_any (a b : Int) (w : World) (ha : -9223372036854775808 ≤ a ∧ a ≤ 9223372036854775807) (hb : -9223372036854775808 ≤ b ∧ b ≤ 9223372036854775807) :
    Calls Try.prog 63 #[.int .i64 a, .int .i64 b] w fun e w' => e = .returned (.tuple #[.int .i64 (told (a * b)), .bool (fit (a * b))]) ∧ w' = w := by
  have hr := mul_range a b ha hb
  have hm := hide (mul_fits (a * b) hr.1 hr.2)
  cases hf : fit (a * b) with
  | false =>
    have h1 : (a * b / 18446744073709551616 != wrap64 (a * b % 18446744073709551616) / 9223372036854775808) = true := by
      rw [bne_iff_ne]; intro h; exact Bool.noConfusion (hf.symm.trans (hm.out.1.1 h))
    have h2 := hide hf
    clear hf hm hr
    go_enter Try.func63, Try.ntmps63
    go_wp2_with (go_at_call 65; refine (wide_any _ _ _ ha hb).mono ?_; rintro e w' ⟨rfl, rfl⟩)
    go_ret2
    exact ⟨ret_ibF (told_not h2).symm rfl, rfl⟩
  | true =>
    have h1 : (a * b / 18446744073709551616 != wrap64 (a * b % 18446744073709551616) / 9223372036854775808) = false := by
      rw [bne_eq_false_iff_eq]; exact hm.out.1.2 hf
    have h3 := hide (hm.out.2 hf)
    have h2 := hide hf
    clear hf hm hr
    go_enter Try.func63, Try.ntmps63
    go_wp2_with (go_at_call 65; refine (wide_any _ _ _ ha hb).mono ?_; rintro e w' ⟨rfl, rfl⟩)
    go_ret2
    exact ⟨ret_ibF (h3.out.trans (told_of h2).symm) rfl, rfl⟩
set_option maxHeartbeats 400000 in
theorem amount_any (a : Int) (w : World) (ha : -9223372036854775808 ≤ a ∧ a ≤ 9223372036854775807) :
    Calls Try.prog 54 #[.int .i64 a] w fun e w' => e = .returned (.int .u64 (amt a)) ∧ w' = w := by
  go_enter Try.func54, Try.ntmps54
  go_wp2
  all_goals go_ret
  · have h : a < 0 := by assumption
    refine ⟨ret_iF ?_, rfl⟩
    simp only [IntKind.wrap_u64]; unfold amt; rw [if_pos h]; omega
  · have h : 0 ≤ a := by assumption
    refine ⟨ret_iF ?_, rfl⟩
    unfold amt; rw [if_neg (by omega)]
set_option maxHeartbeats 400000 in
theorem times_any (n k : Int) (w : World) (hn : 0 ≤ n ∧ n ≤ 9223372036854775808) (hk : 1 ≤ k ∧ k ≤ 9223372036854775807) :
    Calls Try.prog 55 #[.int .u64 n, .int .i64 k] w fun e w' => e = .returned (.tuple #[.int .i64 (told (n * k)), .bool (fit (n * k))]) ∧ w' = w := by
  by_cases h : 9223372036854775807 < n
  · have hf : fit (n * k) = false := by
      have e : n = 9223372036854775808 := by omega
      subst e; apply not_fit; omega
    have h2 := hide hf
    clear hf
    go_enter Try.func55, Try.ntmps55
    go_wp2
    go_ret2
    exact ⟨ret_ibF (told_not h2).symm h2.out.symm, rfl⟩
  · go_enter Try.func55, Try.ntmps55
    go_wp2_with (go_at_call 63; refine (mul_any _ _ _ (by omega) (by omega)).mono ?_; rintro e w' ⟨rfl, rfl⟩)
    go_ret2
    exact ⟨rfl, rfl⟩
set_option maxHeartbeats 400000 in
theorem octile_lt (a b : Int) (w : World) (ha : -9223372036854775808 ≤ a ∧ a ≤ 9223372036854775807) (hb : -9223372036854775808 ≤ b ∧ b ≤ 9223372036854775807) (h : amt a < amt b) :
    Calls Try.prog 36 #[.int .i64 a, .int .i64 b] w fun e w' => e = .returned (.tuple #[.int .i64 (told (octN a b)), .bool (fit (octN a b))]) ∧ w' = w := by
  have h1 := amt_range a ha
  have h2 := amt_range b hb
  have ho : octN a b = amt a * 14 + (amt b - amt a) * 10 := by unfold octN; omega
  have Ho := hide ho
  clear ho
  cases hf1 : fit (amt a * 14) with
  | false =>
    have h2 : fit (octN a b) = false := by rw [Ho.out]; rw [fit_not_iff] at hf1 ⊢; omega
    have h3 := hide h2
    clear h2
    go_enter Try.func36, Try.ntmps36
    go_wp2_with fail
    refine (amount_any _ _ ha).mono ?_; rintro e w' ⟨rfl, rfl⟩
    go_wp2_with fail
    refine (amount_any _ _ hb).mono ?_; rintro e w' ⟨rfl, rfl⟩
    go_wp2_with fail
    refine (times_any _ _ _ (by omega) (by omega)).mono ?_; rintro e w' ⟨rfl, rfl⟩
    go_wp2_with fail
    go_ret2
    exact ⟨ret_ibF (told_not h3).symm h3.out.symm, rfl⟩
  | true =>
    cases hf2 : fit ((amt b - amt a) * 10) with
    | false =>
      have h2 : fit (octN a b) = false := by rw [Ho.out]; rw [fit_not_iff] at hf2 ⊢; omega
      have h3 := hide h2
      clear h2
      go_enter Try.func36, Try.ntmps36
      go_wp2_with fail
      refine (amount_any _ _ ha).mono ?_; rintro e w' ⟨rfl, rfl⟩
      go_wp2_with fail
      refine (amount_any _ _ hb).mono ?_; rintro e w' ⟨rfl, rfl⟩
      go_wp2_with fail
      refine (times_any _ _ _ (by omega) (by omega)).mono ?_; rintro e w' ⟨rfl, rfl⟩
      go_wp2_with fail
      refine (times_any _ _ _ (by omega) (by omega)).mono ?_; rintro e w' ⟨rfl, rfl⟩
      go_wp2_with fail
      go_ret2
      exact ⟨ret_ibF (told_not h3).symm h3.out.symm, rfl⟩
    | true =>
      have t1 := hide (told_of hf1)
      have t2 := hide (told_of hf2)
      have r1 : -9223372036854775808 ≤ told (amt a * 14) ∧ told (amt a * 14) ≤ 9223372036854775807 := by rw [t1.out]; exact (fit_iff _).1 hf1
      have r2 : -9223372036854775808 ≤ told ((amt b - amt a) * 10) ∧ told ((amt b - amt a) * 10) ≤ 9223372036854775807 := by rw [t2.out]; exact (fit_iff _).1 hf2
      go_enter Try.func36, Try.ntmps36
      go_wp2_with fail
      refine (amount_any _ _ ha).mono ?_; rintro e w' ⟨rfl, rfl⟩
      go_wp2_with fail
      refine (amount_any _ _ hb).mono ?_; rintro e w' ⟨rfl, rfl⟩
      go_wp2_with fail
      refine (times_any _ _ _ (by omega) (by omega)).mono ?_; rintro e w' ⟨rfl, rfl⟩
      go_wp2_with fail
      refine (times_any _ _ _ (by omega) (by omega)).mono ?_; rintro e w' ⟨rfl, rfl⟩
      go_wp2_with fail
      refine (add_any _ _ _ r1 r2).mono ?_; rintro e w' ⟨rfl, rfl⟩
      go_wp2_with fail
      go_ret2
      exact ⟨ret_ibF (by rw [t1.out, t2.out, Ho.out]) (by rw [t1.out, t2.out, Ho.out]), rfl⟩
set_option maxHeartbeats 400000 in
theorem octile_gt (a b : Int) (w : World) (ha : -9223372036854775808 ≤ a ∧ a ≤ 9223372036854775807) (hb : -9223372036854775808 ≤ b ∧ b ≤ 9223372036854775807) (h : amt b < amt a) :
    Calls Try.prog 36 #[.int .i64 a, .int .i64 b] w fun e w' => e = .returned (.tuple #[.int .i64 (told (octN a b)), .bool (fit (octN a b))]) ∧ w' = w := by
  have h1 := amt_range a ha
  have h2 := amt_range b hb
  have ho : octN a b = amt b * 14 + (amt a - amt b) * 10 := by unfold octN; omega
  have Ho := hide ho
  clear ho
  cases hf1 : fit (amt b * 14) with
  | false =>
    have h2 : fit (octN a b) = false := by rw [Ho.out]; rw [fit_not_iff] at hf1 ⊢; omega
    have h3 := hide h2
    clear h2
    go_enter Try.func36, Try.ntmps36
    go_wp2_with fail
    refine (amount_any _ _ ha).mono ?_; rintro e w' ⟨rfl, rfl⟩
    go_wp2_with fail
    refine (amount_any _ _ hb).mono ?_; rintro e w' ⟨rfl, rfl⟩
    go_wp2_with fail
    refine (times_any _ _ _ (by omega) (by omega)).mono ?_; rintro e w' ⟨rfl, rfl⟩
    go_wp2_with fail
    go_ret2
    exact ⟨ret_ibF (told_not h3).symm h3.out.symm, rfl⟩
  | true =>
    cases hf2 : fit ((amt a - amt b) * 10) with
    | false =>
      have h2 : fit (octN a b) = false := by rw [Ho.out]; rw [fit_not_iff] at hf2 ⊢; omega
      have h3 := hide h2
      clear h2
      go_enter Try.func36, Try.ntmps36
      go_wp2_with fail
      refine (amount_any _ _ ha).mono ?_; rintro e w' ⟨rfl, rfl⟩
      go_wp2_with fail
      refine (amount_any _ _ hb).mono ?_; rintro e w' ⟨rfl, rfl⟩
      go_wp2_with fail
      refine (times_any _ _ _ (by omega) (by omega)).mono ?_; rintro e w' ⟨rfl, rfl⟩
      go_wp2_with fail
      refine (times_any _ _ _ (by omega) (by omega)).mono ?_; rintro e w' ⟨rfl, rfl⟩
      go_wp2_with fail
      go_ret2
      exact ⟨ret_ibF (told_not h3).symm h3.out.symm, rfl⟩
    | true =>
      have t1 := hide (told_of hf1)
      have t2 := hide (told_of hf2)
      have r1 : -9223372036854775808 ≤ told (amt b * 14) ∧ told (amt b * 14) ≤ 9223372036854775807 := by rw [t1.out]; exact (fit_iff _).1 hf1
      have r2 : -9223372036854775808 ≤ told ((amt a - amt b) * 10) ∧ told ((amt a - amt b) * 10) ≤ 9223372036854775807 := by rw [t2.out]; exact (fit_iff _).1 hf2
      go_enter Try.func36, Try.ntmps36
      go_wp2_with fail
      refine (amount_any _ _ ha).mono ?_; rintro e w' ⟨rfl, rfl⟩
      go_wp2_with fail
      refine (amount_any _ _ hb).mono ?_; rintro e w' ⟨rfl, rfl⟩
      go_wp2_with fail
      refine (times_any _ _ _ (by omega) (by omega)).mono ?_; rintro e w' ⟨rfl, rfl⟩
      go_wp2_with fail
      refine (times_any _ _ _ (by omega) (by omega)).mono ?_; rintro e w' ⟨rfl, rfl⟩
      go_wp2_with fail
      refine (add_any _ _ _ r1 r2).mono ?_; rintro e w' ⟨rfl, rfl⟩
      go_wp2_with fail
      go_ret2
      exact ⟨ret_ibF (by rw [t1.out, t2.out, Ho.out]) (by rw [t1.out, t2.out, Ho.out]), rfl⟩
set_option maxHeartbeats 400000 in
theorem octile_eq (a b : Int) (w : World) (ha : -9223372036854775808 ≤ a ∧ a ≤ 9223372036854775807) (hb : -9223372036854775808 ≤ b ∧ b ≤ 9223372036854775807) (h : amt a = amt b) :
    Calls Try.prog 36 #[.int .i64 a, .int .i64 b] w fun e w' => e = .returned (.tuple #[.int .i64 (told (octN a b)), .bool (fit (octN a b))]) ∧ w' = w := by
  have h1 := amt_range a ha
  have h2 := amt_range b hb
  have h3 : amt a ≤ amt b := by omega
  have h4 : amt b ≤ amt a := by omega
  have Ho : Hid (octN a b = amt a * 14) := by show octN a b = amt a * 14; unfold octN; omega
  clear h
  cases hf1 : fit (amt a * 14) with
  | false =>
    have h6 : fit (octN a b) = false := by rw [Ho.out]; exact hf1
    have h7 := hide h6
    clear h6
    go_enter Try.func36, Try.ntmps36
    go_wp2_with fail
    refine (amount_any _ _ ha).mono ?_; rintro e w' ⟨rfl, rfl⟩
    go_wp2_with fail
    refine (amount_any _ _ hb).mono ?_; rintro e w' ⟨rfl, rfl⟩
    go_wp2_with fail
    refine (times_any _ _ _ (by omega) (by omega)).mono ?_; rintro e w' ⟨rfl, rfl⟩
    go_wp2_with fail
    go_ret2
    exact ⟨ret_ibF (told_not h7).symm h7.out.symm, rfl⟩
  | true =>
    have t1 := hide (told_of hf1)
    have r1 : -9223372036854775808 ≤ told (amt a * 14) ∧ told (amt a * 14) ≤ 9223372036854775807 := by rw [t1.out]; exact (fit_iff _).1 hf1
    have f0 : fit 0 = true := by decide
    have t0 : told 0 = 0 := by decide
    go_enter Try.func36, Try.ntmps36
    go_wp2_with fail
    refine (amount_any _ _ ha).mono ?_; rintro e w' ⟨rfl, rfl⟩
    go_wp2_with fail
    refine (amount_any _ _ hb).mono ?_; rintro e w' ⟨rfl, rfl⟩
    go_wp2_with fail
    refine (times_any _ _ _ (by omega) (by omega)).mono ?_; rintro e w' ⟨rfl, rfl⟩
    go_wp2_with fail
    refine (times_any _ _ _ (by omega) (by omega)).mono ?_; rintro e w' ⟨rfl, rfl⟩
    go_wp2_with fail
    refine (add_any _ _ _ r1 (by omega)).mono ?_; rintro e w' ⟨rfl, rfl⟩
    go_wp2_with fail
    go_ret2
    exact ⟨ret_ibF (by rw [t1.out, Ho.out]) (by rw [t1.out, Ho.out]), rfl⟩
theorem octile_any (a b : Int) (w : World) (ha : -9223372036854775808 ≤ a ∧ a ≤ 9223372036854775807) (hb : -9223372036854775808 ≤ b ∧ b ≤ 9223372036854775807) :
    Calls Try.prog 36 #[.int .i64 a, .int .i64 b] w fun e w' => e = .returned (.tuple #[.int .i64 (told (octN a b)), .bool (fit (octN a b))]) ∧ w' = w := by
  rcases Int.lt_trichotomy (amt a) (amt b) with h | h | h
  · exact octile_lt a b w ha hb h
  · exact octile_eq a b w ha hb h
  · exact octile_gt a b w ha hb h
end Go.Proofs.Ytmkoleioipklpaa
