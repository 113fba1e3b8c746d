/-
  The reference's Of, Sum, Product and To over whole numbers; its Add, Sub and Mul.
-/
import Derived.Test.YtnofillkfiiogaaProduct
import Derived.Test.YtnofillkfiiogaaSumA
import Derived.Test.YtnofillkfiiogaaSumB
import Derived.Test.YtnofillkfiiogaaSumC
namespace Go.Proofs.Ytnofillkfiiogaa
open Go.RowKit
set_option linter.unusedVariables false
theorem Digs.len {w : World} {a : Option Addr} {n cap : Nat} {l : List Nat} (h : Digs w (.slice a n cap) l) : n = l.length := by
  obtain ⟨a', cap', he, _⟩ := h.shape
  simp only [Value.slice.injEq] at he
  exact he.2.1
theorem num_true (l : List Nat) : num true l = -(val l : Int) := by simp [num]
theorem num_false (l : List Nat) : num false l = (val l : Int) := by simp [num]
theorem of_any (a : Int) (w : World) (ha : -9223372036854775808 ≤ a ∧ a ≤ 9223372036854775807) :
    Calls Try.prog 38 #[.int .i64 a] w fun e w' => ∃ s r n c l, e = .returned (.agg #[.bool s, .slice r n c]) ∧ Digs w' (.slice r n c) l ∧ num s l = a ∧ l.length ≤ 3 ∧ Below w.heap.size w w' := by
  by_cases h : a < 0
  · refine (of_neg a w ⟨ha.1, h⟩).mono ?_
    rintro e w' ⟨v, l, rfl, hd, hv, r⟩
    obtain ⟨x, cap, rfl, _⟩ := hd.shape
    exact ⟨true, x, _, cap, l, rfl, hd, by rw [num_true, hv]; omega, r⟩
  · refine (of_pos a w ⟨by omega, ha.2⟩).mono ?_
    rintro e w' ⟨v, l, rfl, hd, hv, r⟩
    obtain ⟨x, cap, rfl, _⟩ := hd.shape
    exact ⟨false, x, _, cap, l, rfl, hd, by rw [num_false, hv], r⟩
theorem sum_any (w : World) (sa sb : Bool) (a b : Option Addr) (n m ca cb : Nat) (la lb : List Nat) (ha : Digs w (.slice a n ca) la) (hb : Digs w (.slice b m cb) lb) (h29 : la.length ≤ 29000) (h29b : lb.length ≤ 29000) :
    Calls Try.prog 37 #[.agg #[.bool sa, .slice a n ca], .agg #[.bool sb, .slice b m cb]] w fun e w' => ∃ s r k c l, e = .returned (.agg #[.bool s, .slice r k c]) ∧ Digs w' (.slice r k c) l ∧ num s l = num sa la + num sb lb ∧ l.length ≤ max la.length lb.length + 1 ∧ Below w.heap.size w w' := by
  by_cases hs : sa = sb
  · subst hs
    refine (sum_same w sa a b n m ca cb la lb ha hb h29 h29b).mono ?_
    rintro e w' ⟨r, k, c, l, he, hd, hv, hl⟩
    refine ⟨sa, r, k, c, l, he, hd, ?_, hl⟩
    cases sa <;> simp only [num_true, num_false, hv] <;> omega
  · have hne : (sa == sb) = false := by simp [hs]
    by_cases hlt : val la < val lb
    · refine (sum_less w sa sb a b n m ca cb la lb ha hb hne hlt).mono ?_
      rintro e w' ⟨r, k, c, l, he, hd, hv, hl, hB⟩
      refine ⟨sb, r, k, c, l, he, hd, ?_, by omega, hB⟩
      cases sa <;> cases sb <;> simp only [num_true, num_false] <;> first | omega | exact absurd rfl hs
    · refine (sum_more w sa sb a b n m ca cb la lb ha hb hne (by omega)).mono ?_
      rintro e w' ⟨r, k, c, l, he, hd, hv, hl, hB⟩
      refine ⟨sa, r, k, c, l, he, hd, ?_, by omega, hB⟩
      cases sa <;> cases sb <;> simp only [num_true, num_false] <;> first | omega | exact absurd rfl hs
theorem prod_any (w : World) (sa sb : Bool) (a b : Option Addr) (n m ca cb : Nat) (la lb : List Nat) (ha : Digs w (.slice a n ca) la) (hb : Digs w (.slice b m cb) lb) (h29 : la.length ≤ 1000) (h29b : lb.length ≤ 1000) :
    Calls Try.prog 41 #[.agg #[.bool sa, .slice a n ca], .agg #[.bool sb, .slice b m cb]] w fun e w' => ∃ s r k c l, e = .returned (.agg #[.bool s, .slice r k c]) ∧ Digs w' (.slice r k c) l ∧ num s l = num sa la * num sb lb ∧ l.length ≤ la.length + lb.length + 2 ∧ Below w.heap.size w w' := by
  refine (product_any w sa sb a b n m ca cb la lb ha hb h29 h29b ha.len hb.len).mono ?_
  rintro e w' ⟨r, k, c, l, he, hd, hv, hl⟩
  refine ⟨_, r, k, c, l, he, hd, ?_, hl⟩
  cases sa <;> cases sb <;> simp [num_true, num_false, hv, Int.natCast_mul, Int.neg_mul, Int.mul_neg]
set_option maxHeartbeats 400000 in
theorem refadd_any (a b : Int) (w : World) (ha : -9223372036854775808 ≤ a ∧ a ≤ 9223372036854775807) (hb : -9223372036854775808 ≤ b ∧ b ≤ 9223372036854775807) :
    Calls Try.prog 9 #[.int .i64 a, .int .i64 b] w fun e w' => e = .returned (.tuple #[.int .i64 (told (a + b)), .bool (fit (a + b))]) ∧ Below w.heap.size w w' := by
  go_enter Try.func9, Try.ntmps9
  go_wp2_with fail
  refine (of_any a _ ha).mono ?_
  rintro e w1 ⟨s1, r1, n1, c1, l1, rfl, hd1, hn1, hl1, hb1⟩
  go_wp2_with fail
  refine (of_any b _ hb).mono ?_
  rintro e w2 ⟨s2, r2, n2, c2, l2, rfl, hd2, hn2, hl2, hb2⟩
  have hd1' := hd1.kept hb2
  go_wp2_with fail
  refine (sum_any _ s1 s2 r1 r2 n1 n2 c1 c2 l1 l2 hd1' hd2 (by omega) (by omega)).mono ?_
  rintro e w3 ⟨s3, r3, n3, c3, l3, rfl, hd3, hn3, hl3, hb3⟩
  have hn : Hid (num s3 l3 = a + b) := by show _ = _; rw [hn3, hn1, hn2]
  have hB : Below w.heap.size w w3 := (hb1.trans (hb2.mono hb1.size)).trans (hb3.mono (hb1.trans (hb2.mono hb1.size)).size)
  clear hn1 hn2 hn3 hd1 hd1' hd2 hb1 hb2 hb3 hl1 hl2
  go_wp2_with fail
  refine (to_any _ s3 r3 n3 c3 l3 hd3).mono ?_
  rw [hn.out]
  rintro e w4 ⟨rfl, hb4⟩
  go_wp2_with fail
  go_ret2
  exact ⟨rfl, hB.trans (hb4.mono hB.size)⟩
end Go.Proofs.Ytnofillkfiiogaa
