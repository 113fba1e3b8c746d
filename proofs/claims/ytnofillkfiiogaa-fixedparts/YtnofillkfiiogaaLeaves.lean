/-
  What each function of package fixed tells, for every input, and that the world is as it was.
-/
import Derived.Test.YtnofillkfiiogaaRows
import Derived.Test.YtnofillkfiiogaaNums
import Derived.WalkKit
import Derived.WalkSpells
import Derived.WalkLawsBesides
namespace Go.Proofs.Ytnofillkfiiogaa
open Go.RowKit
set_option linter.unusedVariables false
theorem ret_ib {k : IntKind} {a b : Int} {p q : Bool} (h : a = b) (h2 : p = q) : Ending.returned (.tuple #[.int k a, .bool p]) = .returned (.tuple #[.int k b, .bool q]) := by rw [h, h2]
theorem ret_ii {k l : IntKind} {a b : Int} {p q : Int} (h : a = b) (h2 : p = q) : Ending.returned (.tuple #[.int k a, .int l p]) = .returned (.tuple #[.int k b, .int l q]) := by rw [h, h2]
theorem ret_i {k : IntKind} {a b : Int} (h : a = b) : Ending.returned (.int k a) = .returned (.int k b) := by rw [h]
theorem ret_b {p q : Bool} (h : p = q) : Ending.returned (.bool p) = .returned (.bool q) := by rw [h]
theorem hide {p : Prop} (h : p) : Hid p := h

set_option maxHeartbeats 400000 in
theorem add_any (a b : Int) (w : World) (ha : -9223372036854775808 ≤ a ∧ a ≤ 9223372036854775807) (hb : -9223372036854775808 ≤ b ∧ b ≤ 9223372036854775807) :
    Calls Try.prog 8 #[.int .i64 a, .int .i64 b] w fun e w' => e = .returned (.tuple #[.int .i64 (told (a + b)), .bool (fit (a + b))]) ∧ w' = w := by
  have hw := hide (add_wraps a b ha hb)
  cases hf : fit (a + b) with
  | false =>
    have h1 := hw.out.2 hf
    have h2 := hide hf
    clear hf
    go_enter Try.func8, Try.ntmps8
    go_wp2
    go_ret2
    exact ⟨ret_ib (told_not h2).symm rfl, rfl⟩
  | true =>
    have h1 : ¬ _ := fun h => Bool.noConfusion (hf.symm.trans (hw.out.1 h))
    have h2 := hide hf
    clear hf
    go_enter Try.func8, Try.ntmps8
    go_wp2
    go_ret2
    exact ⟨ret_ib ((wrap64_fit h2).trans (told_of h2).symm) rfl, rfl⟩
set_option maxHeartbeats 400000 in
theorem sub_any (a b : Int) (w : World) (ha : -9223372036854775808 ≤ a ∧ a ≤ 9223372036854775807) (hb : -9223372036854775808 ≤ b ∧ b ≤ 9223372036854775807) :
    Calls Try.prog 11 #[.int .i64 a, .int .i64 b] w fun e w' => e = .returned (.tuple #[.int .i64 (told (a - b)), .bool (fit (a - b))]) ∧ w' = w := by
  have hw := hide (sub_wraps a b ha hb)
  cases hf : fit (a - b) with
  | false =>
    have h1 := hw.out.2 hf
    have h2 := hide hf
    clear hf
    go_enter Try.func11, Try.ntmps11
    go_wp2
    go_ret2
    exact ⟨ret_ib (told_not h2).symm rfl, rfl⟩
  | true =>
    have h1 : ¬ _ := fun h => Bool.noConfusion (hf.symm.trans (hw.out.1 h))
    have h2 := hide hf
    clear hf
    go_enter Try.func11, Try.ntmps11
    go_wp2
    go_ret2
    exact ⟨ret_ib ((wrap64_fit h2).trans (told_of h2).symm) rfl, rfl⟩
set_option maxHeartbeats 400000 in
theorem mul64_any (x y : Int) (w : World) (hx : 0 ≤ x ∧ x < 18446744073709551616) (hy : 0 ≤ y ∧ y < 18446744073709551616) :
    Calls Try.prog 53 #[.int .u64 x, .int .u64 y] w fun e w' => e = .returned (.tuple #[.int .u64 (x * y / 18446744073709551616), .int .u64 (x * y % 18446744073709551616)]) ∧ w' = w := by
  have e := hide (mul64_arith x y hx.1 hx.2 hy.1 hy.2)
  go_enter Try.func53, Try.ntmps53
  go_wp2
  go_ret2
  refine ⟨ret_ii ?_ ?_, rfl⟩
  · simp only [IntKind.wrap_u64, and_low32 x hx.1 hx.2, and_low32 y hy.1 hy.2]
    rw [and_low32 _ (by omega) (by omega)]
    exact e.out
  · exact IntKind.wrap_u64 _
theorem low_eq (a b : Int) : (a % 18446744073709551616) * (b % 18446744073709551616) % 18446744073709551616 = a * b % 18446744073709551616 := (Int.mul_emod a b 18446744073709551616).symm
set_option maxHeartbeats 400000 in
theorem wide_any (a b : Int) (w : World) (ha : -9223372036854775808 ≤ a ∧ a ≤ 9223372036854775807) (hb : -9223372036854775808 ≤ b ∧ b ≤ 9223372036854775807) :
    Calls Try.prog 40 #[.int .i64 a, .int .i64 b] w fun e w' => e = .returned (.tuple #[.int .i64 (a * b / 18446744073709551616), .int .u64 (a * b % 18446744073709551616)]) ∧ w' = w := by
  have m1 := hide (wide_pp a b ha hb)
  have m2 := hide (wide_np a b ha hb)
  have m3 := hide (wide_pn a b ha hb)
  have m4 := hide (wide_nn a b ha hb)
  go_enter Try.func40, Try.ntmps40
  go_wp2_with (go_at_call 53; refine (mul64_any _ _ _ (by rw [IntKind.wrap_u64]; omega) (by rw [IntKind.wrap_u64]; omega)).mono ?_; rintro e w' ⟨rfl, rfl⟩)
  all_goals go_ret2
  · have h1 : a < 0 := by assumption
    have h2 : b < 0 := by assumption
    have h := m4.out h1 h2
    simp only [IntKind.wrap_u64] at h
    refine ⟨ret_ii ?_ ?_, rfl⟩ <;> simp only [IntKind.wrap_u64]
    · exact h.1
    · exact low_eq a b
  · have h1 : a < 0 := by assumption
    have h2 : 0 ≤ b := by assumption
    have h := m2.out h1 h2
    simp only [IntKind.wrap_u64] at h
    refine ⟨ret_ii ?_ ?_, rfl⟩ <;> simp only [IntKind.wrap_u64]
    · exact h.1
    · exact low_eq a b
  · have h1 : 0 ≤ a := by assumption
    have h2 : b < 0 := by assumption
    have h := m3.out h1 h2
    simp only [IntKind.wrap_u64] at h
    refine ⟨ret_ii ?_ ?_, rfl⟩ <;> simp only [IntKind.wrap_u64]
    · exact h.1
    · exact low_eq a b
  · have h1 : 0 ≤ a := by assumption
    have h2 : 0 ≤ b := by assumption
    have h := m1.out h1 h2
    exact ⟨ret_ii h.1 (by simp only [IntKind.wrap_u64]; exact low_eq a b), rfl⟩
set_option maxHeartbeats 400000 in
theorem mul_any (a b : Int) (w : World) (ha : -9223372036854775808 ≤ a ∧ a ≤ 9223372036854775807) (hb : -9223372036854775808 ≤ b ∧ b ≤ 9223372036854775807) :
    Calls Try.prog 13 #[.int .i64 a, .int .i64 b] w fun e w' => e = .returned (.tuple #[.int .i64 (told (a * b)), .bool (fit (a * b))]) ∧ w' = w := by
  have hr := mul_range a b ha hb
  have hm := hide (mul_fits (a * b) hr.1 hr.2)
  cases hf : fit (a * b) with
  | false =>
    have h1 : (a * b / 18446744073709551616 != wrap64 (a * b % 18446744073709551616) / 9223372036854775808) = true := by
      rw [bne_iff_ne]; intro h; exact Bool.noConfusion (hf.symm.trans (hm.out.1.1 h))
    have h2 := hide hf
    clear hf hm hr
    go_enter Try.func13, Try.ntmps13
    go_wp2_with (go_at_call 40; refine (wide_any _ _ _ ha hb).mono ?_; rintro e w' ⟨rfl, rfl⟩)
    go_ret2
    exact ⟨ret_ib (told_not h2).symm rfl, rfl⟩
  | true =>
    have h1 : (a * b / 18446744073709551616 != wrap64 (a * b % 18446744073709551616) / 9223372036854775808) = false := by
      rw [bne_eq_false_iff_eq]; exact hm.out.1.2 hf
    have h3 := hide (hm.out.2 hf)
    have h2 := hide hf
    clear hf hm hr
    go_enter Try.func13, Try.ntmps13
    go_wp2_with (go_at_call 40; refine (wide_any _ _ _ ha hb).mono ?_; rintro e w' ⟨rfl, rfl⟩)
    go_ret2
    exact ⟨ret_ib (h3.out.trans (told_of h2).symm) rfl, rfl⟩
set_option maxHeartbeats 400000 in
theorem div_any (a b : Int) (w : World) (ha : -9223372036854775808 ≤ a ∧ a ≤ 9223372036854775807) (hb : -9223372036854775808 ≤ b ∧ b ≤ 9223372036854775807) :
    Calls Try.prog 15 #[.int .i64 a, .int .i64 b] w fun e w' => e = .returned (.tuple #[.int .i64 (dvV a b), .bool (dvB a b)]) ∧ w' = w := by
  by_cases hb0 : b = 0
  · subst hb0
    go_enter Try.func15, Try.ntmps15
    go_wp2
    go_ret2
    exact ⟨ret_ib (by simp [dvV, dvB]) (by simp [dvB]), rfl⟩
  · have hb1 : (b == 0) = false := by simp [hb0]
    by_cases hmin : a = -9223372036854775808 ∧ b = -1
    · obtain ⟨rfl, rfl⟩ := hmin
      go_enter Try.func15, Try.ntmps15
      go_wp2
      go_ret2
      exact ⟨ret_ib (by decide) (by decide), rfl⟩
    · by_cases hg : a = -9223372036854775808
      · subst hg
        have hb2 : (b == -1) = false := by simp; exact fun h => hmin ⟨rfl, h⟩
        by_cases hm : 9223372036854775808 % b = 0
        · have hd := hide (div_whole (-9223372036854775808) b hb0 ha hmin (Or.inl (by rw [min_tmod, hm]; rfl)))
          have hm1 : (-(9223372036854775808 % b) != 0) = false := by simp [hm]
          rw [min_tdiv] at hd
          clear hmin
          go_enter Try.func15, Try.ntmps15
          go_wp2
          go_ret2
          exact ⟨ret_ib hd.out.1 hd.out.2, rfl⟩
        · have hm1 : (-(9223372036854775808 % b) != 0) = true := by rw [bne_iff_ne]; omega
          by_cases hs : b < 0
          · have hd := hide (div_whole (-9223372036854775808) b hb0 ha hmin (Or.inr ⟨fun _ => hs, fun _ => by omega⟩))
            rw [min_tdiv] at hd
            clear hmin
            go_enter Try.func15, Try.ntmps15
            go_wp2
            go_ret2
            exact ⟨ret_ib hd.out.1 hd.out.2, rfl⟩
          · have hd := hide (div_less (-9223372036854775808) b hb0 ha (by rw [min_tmod]; omega) (by omega))
            rw [min_tdiv] at hd
            clear hmin
            go_enter Try.func15, Try.ntmps15
            go_wp2
            go_ret2
            exact ⟨ret_ib hd.out.1 hd.out.2, rfl⟩
      · have hg2 : (a == -9223372036854775808) = false := by simp [hg]
        by_cases hm : a.tmod b = 0
        · have hd := hide (div_whole a b hb0 ha hmin (Or.inl hm))
          have hm1 : (a.tmod b != 0) = false := by simp [hm]
          clear hmin
          go_enter Try.func15, Try.ntmps15
          go_wp2
          go_ret2
          exact ⟨ret_ib hd.out.1 hd.out.2, rfl⟩
        · have hm1 : (a.tmod b != 0) = true := by simp [hm]
          by_cases hs : (a < 0 ↔ b < 0)
          · have hd := hide (div_whole a b hb0 ha hmin (Or.inr hs))
            have hs3 : (!decide (a < 0) == decide (b < 0)) = false := by
              by_cases h1 : a < 0 <;> by_cases h2 : b < 0 <;> simp [h1, h2] <;> omega
            clear hmin hs
            go_enter Try.func15, Try.ntmps15
            go_wp2
            go_ret2
            exact ⟨ret_ib hd.out.1 hd.out.2, rfl⟩
          · have hd := hide (div_less a b hb0 ha hm hs)
            have hs3 : (!decide (a < 0) == decide (b < 0)) = true := by
              by_cases h1 : a < 0 <;> by_cases h2 : b < 0 <;> simp [h1, h2] <;> omega
            clear hmin hs
            go_enter Try.func15, Try.ntmps15
            go_wp2
            go_ret2
            exact ⟨ret_ib hd.out.1 hd.out.2, rfl⟩
theorem dvV_range (a b : Int) : -9223372036854775808 ≤ dvV a b ∧ dvV a b ≤ 9223372036854775807 := by
  unfold dvV
  cases h : dvB a b with
  | false => simp
  | true =>
    have : fit (a.fdiv b) = true := by
      unfold dvB at h
      split at h
      · cases h
      · exact h
    simpa using (fit_iff _).1 this
set_option maxHeartbeats 400000 in
theorem mod_any (a b : Int) (w : World) (ha : -9223372036854775808 ≤ a ∧ a ≤ 9223372036854775807) (hb : -9223372036854775808 ≤ b ∧ b ≤ 9223372036854775807) :
    Calls Try.prog 17 #[.int .i64 a, .int .i64 b] w fun e w' => e = .returned (.tuple #[.int .i64 (mdV a b), .bool (dvB a b)]) ∧ w' = w := by
  have hm := hide (mod_wraps a b hb)
  cases hB : dvB a b with
  | false =>
    have h2 := hide hB
    go_enter Try.func17, Try.ntmps17
    go_wp2_with (go_at_call 15; refine (div_any _ _ _ ha hb).mono ?_; rintro e w' ⟨rfl, rfl⟩)
    go_ret2
    exact ⟨ret_ib (by simp [mdV, h2.out]) rfl, rfl⟩
  | true =>
    have h2 := hide (hm.out hB)
    go_enter Try.func17, Try.ntmps17
    go_wp2_with (go_at_call 15; refine (div_any _ _ _ ha hb).mono ?_; rintro e w' ⟨rfl, rfl⟩)
    go_ret2
    exact ⟨ret_ib h2.out rfl, rfl⟩
set_option maxHeartbeats 400000 in
theorem shl_any (a n : Int) (w : World) (hn : 0 ≤ n) :
    Calls Try.prog 20 #[.int .i64 a, .int .i64 n] w fun e w' => e = .returned (.tuple #[.int .i64 (told (a * 2 ^ n.toNat)), .bool (fit (a * 2 ^ n.toNat))]) ∧ w' = w := by
  have hp := pow_min n.toNat
  have hf := shl_fit a n.toNat
  rw [hf.1, hf.2]
  clear hf
  cases hf : fit (a * 2 ^ min n.toNat 64) with
  | false =>
    have h1 : (wrap64 (a * 2 ^ min n.toNat 64) / 2 ^ min n.toNat 64 != a) = true := bne_iff_ne.2 (shl_no a _ hp.1 hp.2 hf)
    have h2 := hide hf
    clear hp hf
    go_enter Try.func20, Try.ntmps20
    go_wp2
    go_ret2
    exact ⟨ret_ib (told_not h2).symm rfl, rfl⟩
  | true =>
    have h1 : (wrap64 (a * 2 ^ min n.toNat 64) / 2 ^ min n.toNat 64 != a) = false := bne_eq_false_iff_eq.2 (shl_yes a _ hp.1 hf)
    have h2 := hide hf
    clear hp hf
    go_enter Try.func20, Try.ntmps20
    go_wp2
    go_ret2
    exact ⟨ret_ib ((wrap64_fit h2).trans (told_of h2).symm) rfl, rfl⟩
set_option maxHeartbeats 400000 in
theorem shl_neg (a n : Int) (w : World) (hn : n < 0) :
    Calls Try.prog 20 #[.int .i64 a, .int .i64 n] w fun e w' => e = .returned (.tuple #[.int .i64 0, .bool false]) ∧ w' = w := by
  go_enter Try.func20, Try.ntmps20
  go_wp2
  go_ret2
  exact ⟨rfl, rfl⟩
set_option maxHeartbeats 400000 in
theorem from_any (a : Int) (w : World) :
    Calls Try.prog 30 #[.int .i64 a] w fun e w' => e = .returned (.tuple #[.int .i64 (told (a * 4294967296)), .bool (fit (a * 4294967296))]) ∧ w' = w := by
  go_enter Try.func30, Try.ntmps30
  go_wp2_with (go_at_call 20; refine (shl_any _ _ _ (by omega)).mono ?_; rintro e w' ⟨rfl, rfl⟩)
  go_ret2
  exact ⟨rfl, rfl⟩
set_option maxHeartbeats 400000 in
theorem floor_any (a : Int) (w : World) :
    Calls Try.prog 32 #[.int .i64 a] w fun e w' => e = .returned (.int .i64 (a / 4294967296)) ∧ w' = w := by
  go_enter Try.func32, Try.ntmps32
  go_wp2
  go_ret
  exact ⟨rfl, rfl⟩
set_option maxHeartbeats 400000 in
theorem amount_any (a : Int) (w : World) (ha : -9223372036854775808 ≤ a ∧ a ≤ 9223372036854775807) :
    Calls Try.prog 45 #[.int .i64 a] w fun e w' => e = .returned (.int .u64 (amt a)) ∧ w' = w := by
  go_enter Try.func45, Try.ntmps45
  go_wp2
  all_goals go_ret
  · have h : a < 0 := by assumption
    refine ⟨ret_i ?_, rfl⟩
    simp only [IntKind.wrap_u64]; unfold amt; rw [if_pos h]; omega
  · have h : 0 ≤ a := by assumption
    refine ⟨ret_i ?_, rfl⟩
    unfold amt; rw [if_neg (by omega)]
set_option maxHeartbeats 400000 in
theorem times_any (n k : Int) (w : World) (hn : 0 ≤ n ∧ n ≤ 9223372036854775808) (hk : 1 ≤ k ∧ k ≤ 9223372036854775807) :
    Calls Try.prog 48 #[.int .u64 n, .int .i64 k] w fun e w' => e = .returned (.tuple #[.int .i64 (told (n * k)), .bool (fit (n * k))]) ∧ w' = w := by
  by_cases h : 9223372036854775807 < n
  · have hf : fit (n * k) = false := by
      have e : n = 9223372036854775808 := by omega
      subst e; apply not_fit; omega
    have h2 := hide hf
    clear hf
    go_enter Try.func48, Try.ntmps48
    go_wp2
    go_ret2
    exact ⟨ret_ib (told_not h2).symm h2.out.symm, rfl⟩
  · go_enter Try.func48, Try.ntmps48
    go_wp2_with (go_at_call 13; refine (mul_any _ _ _ (by omega) (by omega)).mono ?_; rintro e w' ⟨rfl, rfl⟩)
    go_ret2
    exact ⟨rfl, rfl⟩
end Go.Proofs.Ytnofillkfiiogaa
