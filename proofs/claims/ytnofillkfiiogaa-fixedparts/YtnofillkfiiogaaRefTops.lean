/-
  The reference's Sub, Mul, Div and Mod.
-/
import Derived.Test.YtnofillkfiiogaaQuotient
namespace Go.Proofs.Ytnofillkfiiogaa
open Go.RowKit
set_option linter.unusedVariables false
theorem num_not (s : Bool) (l : List Nat) : num (!s) l = -num s l := by cases s <;> simp [num]
theorem quot_any (w : World) (sa sb : Bool) (a b : Option Addr) (n m ca cb : Nat) (la lb : List Nat) (ha : Digs w (.slice a n ca) la) (hb : Digs w (.slice b m cb) lb) (h29 : la.length ≤ 100) (h29b : lb.length ≤ 1000) (hB : num sb lb ≠ 0) :
    Calls Try.prog 42 #[.agg #[.bool sa, .slice a n ca], .agg #[.bool sb, .slice b m cb]] w fun e w' => ∃ s r k c l, e = .returned (.agg #[.bool s, .slice r k c]) ∧ Digs w' (.slice r k c) l ∧ num s l = Int.fdiv (num sa la) (num sb lb) ∧ l.length ≤ la.length + 2 ∧ Below w.heap.size w w' := by
  refine quotient_any w sa sb a b n m ca cb la lb ha hb h29 h29b ha.len hb.len ?_
  rcases Nat.eq_zero_or_pos (val lb) with h | h
  · exact absurd (by cases sb <;> simp [num, h]) hB
  · exact h
/-- Two steps, each of which leaves what was there. -/
theorem bt {w w1 w2 : World} (h1 : Below w.heap.size w w1) (h2 : Below w1.heap.size w1 w2) : Below w.heap.size w w2 := h1.trans (h2.mono h1.size)
set_option maxHeartbeats 400000 in
theorem refsub_any (a b : Int) (w : World) (ha : -9223372036854775808 ≤ a ∧ a ≤ 9223372036854775807) (hb : -9223372036854775808 ≤ b ∧ b ≤ 9223372036854775807) :
    Calls Try.prog 12 #[.int .i64 a, .int .i64 b] w fun e w' => e = .returned (.tuple #[.int .i64 (told (a - b)), .bool (fit (a - b))]) ∧ Below w.heap.size w w' := by
  go_enter Try.func12, Try.ntmps12
  go_wp2_with fail
  refine (of_any a _ ha).mono ?_
  rintro e w1 ⟨s1, r1, n1, c1, l1, rfl, hd1, hn1, hl1, hb1⟩
  go_wp2_with fail
  refine (of_any b _ hb).mono ?_
  rintro e w2 ⟨s2, r2, n2, c2, l2, rfl, hd2, hn2, hl2, hb2⟩
  go_wp2_with fail
  refine (negated_any _ s2 r2 n2 c2).mono ?_
  rintro e w3 ⟨rfl, hb3⟩
  have hd1' := (hd1.kept hb2).kept hb3
  have hd2' := hd2.kept hb3
  go_wp2_with fail
  refine (sum_any _ s1 (!s2) r1 r2 n1 n2 c1 c2 l1 l2 hd1' hd2' (by omega) (by omega)).mono ?_
  rintro e w4 ⟨s3, r3, n3, c3, l3, rfl, hd3, hn3, hl3, hb4⟩
  have hn : Hid (num s3 l3 = a - b) := by show _ = _; rw [hn3, num_not, hn1, hn2]; omega
  have hB : Below w.heap.size w w4 := bt (bt (bt hb1 hb2) hb3) hb4
  clear hn1 hn2 hn3 hd1 hd1' hd2 hd2' hb1 hb2 hb3 hb4 hl1 hl2
  go_wp2_with fail
  refine (to_any _ s3 r3 n3 c3 l3 hd3).mono ?_
  rw [hn.out]
  rintro e w5 ⟨rfl, hb5⟩
  go_wp2_with fail
  go_ret2
  exact ⟨rfl, bt hB hb5⟩
set_option maxHeartbeats 400000 in
theorem refmul_any (a b : Int) (w : World) (ha : -9223372036854775808 ≤ a ∧ a ≤ 9223372036854775807) (hb : -9223372036854775808 ≤ b ∧ b ≤ 9223372036854775807) :
    Calls Try.prog 14 #[.int .i64 a, .int .i64 b] w fun e w' => e = .returned (.tuple #[.int .i64 (told (a * b)), .bool (fit (a * b))]) ∧ Below w.heap.size w w' := by
  go_enter Try.func14, Try.ntmps14
  go_wp2_with fail
  refine (of_any a _ ha).mono ?_
  rintro e w1 ⟨s1, r1, n1, c1, l1, rfl, hd1, hn1, hl1, hb1⟩
  go_wp2_with fail
  refine (of_any b _ hb).mono ?_
  rintro e w2 ⟨s2, r2, n2, c2, l2, rfl, hd2, hn2, hl2, hb2⟩
  have hd1' := hd1.kept hb2
  go_wp2_with fail
  refine (prod_any _ s1 s2 r1 r2 n1 n2 c1 c2 l1 l2 hd1' hd2 (by omega) (by omega)).mono ?_
  rintro e w3 ⟨s3, r3, n3, c3, l3, rfl, hd3, hn3, hl3, hb3⟩
  have hn : Hid (num s3 l3 = a * b) := by show _ = _; rw [hn3, hn1, hn2]
  have hB : Below w.heap.size w w3 := bt (bt hb1 hb2) hb3
  clear hn1 hn2 hn3 hd1 hd1' hd2 hb1 hb2 hb3 hl1 hl2
  go_wp2_with fail
  refine (to_any _ s3 r3 n3 c3 l3 hd3).mono ?_
  rw [hn.out]
  rintro e w4 ⟨rfl, hb4⟩
  go_wp2_with fail
  go_ret2
  exact ⟨rfl, bt hB hb4⟩
set_option maxHeartbeats 400000 in
theorem refdiv_any (a b : Int) (w : World) (ha : -9223372036854775808 ≤ a ∧ a ≤ 9223372036854775807) (hb : -9223372036854775808 ≤ b ∧ b ≤ 9223372036854775807) :
    Calls Try.prog 16 #[.int .i64 a, .int .i64 b] w fun e w' => e = .returned (.tuple #[.int .i64 (dvV a b), .bool (dvB a b)]) ∧ Below w.heap.size w w' := by
  by_cases hb0 : b = 0
  · subst hb0
    go_enter Try.func16, Try.ntmps16
    go_wp2_with fail
    go_ret2
    exact ⟨ret_ib (by simp [dvV, dvB]) (by simp [dvB]), Below.refl _ _⟩
  · have hb1 : (b == 0) = false := by simp [hb0]
    have hv : Hid (told (a.fdiv b) = dvV a b ∧ fit (a.fdiv b) = dvB a b) := by
      show _ ∧ _
      have e : dvB a b = fit (a.fdiv b) := by simp [dvB, hb0]
      exact ⟨by rw [dvV, e]; rfl, e.symm⟩
    have Hb0 := hide hb0
    clear hb0
    go_enter Try.func16, Try.ntmps16
    go_wp2_with fail
    refine (of_any a _ ha).mono ?_
    rintro e w1 ⟨s1, r1, n1, c1, l1, rfl, hd1, hn1, hl1, hb1⟩
    go_wp2_with fail
    refine (of_any b _ hb).mono ?_
    rintro e w2 ⟨s2, r2, n2, c2, l2, rfl, hd2, hn2, hl2, hb2⟩
    have hd1' := hd1.kept hb2
    go_wp2_with fail
    refine (quot_any _ s1 s2 r1 r2 n1 n2 c1 c2 l1 l2 hd1' hd2 (by omega) (by omega) (by rw [hn2]; exact Hb0.out)).mono ?_
    rintro e w3 ⟨s3, r3, n3, c3, l3, rfl, hd3, hn3, hl3, hb3⟩
    have hn : Hid (num s3 l3 = a.fdiv b) := by show _ = _; rw [hn3, hn1, hn2]
    have hB : Below w.heap.size w w3 := bt (bt hb1 hb2) hb3
    clear hn1 hn2 hn3 hd1 hd1' hd2 hb1 hb2 hb3 hl1 hl2
    go_wp2_with fail
    refine (to_any _ s3 r3 n3 c3 l3 hd3).mono ?_
    rw [hn.out, hv.out.1, hv.out.2]
    rintro e w4 ⟨rfl, hb4⟩
    go_wp2_with fail
    go_ret2
    exact ⟨rfl, bt hB hb4⟩
theorem mod_told (a b : Int) (hb : -9223372036854775808 ≤ b ∧ b ≤ 9223372036854775807) (h : dvB a b = true) : told (a + -(b * dvV a b)) = mdV a b ∧ fit (a + -(b * dvV a b)) = true := by
  have hb0 : b ≠ 0 := by intro e; rw [e, dvB_zero] at h; cases h
  have r := fmod_range a b hb0 hb
  have e : a + -(b * dvV a b) = a.fmod b := by rw [dvV, if_pos h, Int.fmod_def]; omega
  have f := fit_of r.1 r.2.1
  rw [e, mdV, if_pos h]
  exact ⟨told_of f, f⟩
set_option maxHeartbeats 400000 in
theorem refmod_any (a b : Int) (w : World) (ha : -9223372036854775808 ≤ a ∧ a ≤ 9223372036854775807) (hb : -9223372036854775808 ≤ b ∧ b ≤ 9223372036854775807) :
    Calls Try.prog 18 #[.int .i64 a, .int .i64 b] w fun e w' => e = .returned (.tuple #[.int .i64 (mdV a b), .bool (dvB a b)]) ∧ Below w.heap.size w w' := by
  cases hB0 : dvB a b with
  | false =>
    have h2 := hide hB0
    go_enter Try.func18, Try.ntmps18
    go_wp2_with fail
    refine (refdiv_any _ _ _ ha hb).mono ?_
    rw [hB0]
    rintro e w1 ⟨rfl, hb1⟩
    go_wp2_with fail
    go_ret2
    exact ⟨ret_ib (by simp [mdV, h2.out]) rfl, hb1⟩
  | true =>
    have h2 := hide (mod_told a b hb hB0)
    have hq := dvV_range a b
    go_enter Try.func18, Try.ntmps18
    go_wp2_with fail
    refine (refdiv_any _ _ _ ha hb).mono ?_
    rw [hB0]
    rintro e w0 ⟨rfl, hb0⟩
    generalize dvV a b = q at *
    clear hB0
    go_wp2_with fail
    refine (of_any a _ ha).mono ?_
    rintro e w1 ⟨s1, r1, n1, c1, l1, rfl, hd1, hn1, hl1, hb1⟩
    go_wp2_with fail
    refine (of_any b _ hb).mono ?_
    rintro e w2 ⟨s2, r2, n2, c2, l2, rfl, hd2, hn2, hl2, hb2⟩
    go_wp2_with fail
    refine (of_any q _ hq).mono ?_
    rintro e w3 ⟨s3, r3, n3, c3, l3, rfl, hd3, hn3, hl3, hb3⟩
    have hd2' := hd2.kept hb3
    go_wp2_with fail
    refine (prod_any _ s2 s3 r2 r3 n2 n3 c2 c3 l2 l3 hd2' hd3 (by omega) (by omega)).mono ?_
    rintro e w4 ⟨s4, r4, n4, c4, l4, rfl, hd4, hn4, hl4, hb4⟩
    go_wp2_with fail
    refine (negated_any _ s4 r4 n4 c4).mono ?_
    rintro e w5 ⟨rfl, hb5⟩
    have hd1' := (((hd1.kept hb2).kept hb3).kept hb4).kept hb5
    have hd4' := hd4.kept hb5
    go_wp2_with fail
    refine (sum_any _ s1 (!s4) r1 r4 n1 n4 c1 c4 l1 l4 hd1' hd4' (by omega) (by omega)).mono ?_
    rintro e w6 ⟨s5, r5, n5, c5, l5, rfl, hd5, hn5, hl5, hb6⟩
    have hn : Hid (num s5 l5 = a + -(b * q)) := by show _ = _; rw [hn5, num_not, hn4, hn1, hn2, hn3]
    have hB : Below w.heap.size w w6 := bt (bt (bt (bt (bt (bt hb0 hb1) hb2) hb3) hb4) hb5) hb6
    clear hn1 hn2 hn3 hn4 hn5 hd1 hd1' hd2 hd2' hd3 hd4 hd4' hb0 hb1 hb2 hb3 hb4 hb5 hb6 hl1 hl2 hl3 hl4 hl5
    go_wp2_with fail
    refine (to_any _ s5 r5 n5 c5 l5 hd5).mono ?_
    rw [hn.out, h2.out.1, h2.out.2]
    rintro e w7 ⟨rfl, hb7⟩
    go_wp2_with fail
    go_ret2
    exact ⟨rfl, bt hB hb7⟩
end Go.Proofs.Ytnofillkfiiogaa
