/-
  Has of the package.
-/
import Derived.Test.YtekpamilcpeanaaDoorRect
namespace Go.Proofs.YtekpamilcpeanaaDoor
open Go.RowKit
set_option linter.unusedVariables false
def has (x y a b p q : Int) : Bool := may x y a b && (decide (x ≤ p) && (decide (p ≤ x + a - 1) && (decide (y ≤ q) && decide (q ≤ y + b - 1))))
abbrev WR (w : World) (x y a b p q : Int) : World := (w.alloc (.cells #[.int .i64 x, .int .i64 y, .int .i64 a, .int .i64 b] 67)).alloc (.cells #[.int .i64 p, .int .i64 q] 23)
theorem has_no {x y a b p q : Int} (h : may x y a b = false) : has x y a b p q = false := by simp [has, h]
theorem has_f1 {x y a b p q : Int} (h : ¬ x ≤ p) : has x y a b p q = false := by rw [has, decide_eq_false h]; simp
theorem has_f2 {x y a b p q : Int} (h : ¬ p ≤ x + a - 1) : has x y a b p q = false := by rw [has, decide_eq_false h]; simp
theorem has_f3 {x y a b p q : Int} (h : ¬ y ≤ q) : has x y a b p q = false := by rw [has, decide_eq_false h]; simp
theorem has_f4 {x y a b p q : Int} (h : ¬ q ≤ y + b - 1) : has x y a b p q = false := by rw [has, decide_eq_false h]; simp
theorem has_t {x y a b p q : Int} (h : may x y a b = true) (h1 : x ≤ p) (h2 : p ≤ x + a - 1) (h3 : y ≤ q) : has x y a b p q = decide (q ≤ y + b - 1) := by rw [has, h, decide_eq_true h1, decide_eq_true h2, decide_eq_true h3]; simp
theorem cells4' {w w1 : World} {a b c d : Value} {t : TypeId} {o : Obj} (h : Below ((w.alloc (.cells #[a, b, c, d] t)).alloc o).heap.size ((w.alloc (.cells #[a, b, c, d] t)).alloc o) w1) :
    (w1.cell? ⟨w.heap.size, 0, none⟩ = some a ∧ w1.cell? ⟨w.heap.size, 1, none⟩ = some b ∧ w1.cell? ⟨w.heap.size, 2, none⟩ = some c ∧ w1.cell? ⟨w.heap.size, 3, none⟩ = some d) ∧ (w1.frozen? ⟨w.heap.size, 0, none⟩ = false ∧ w1.frozen? ⟨w.heap.size, 1, none⟩ = false ∧ w1.frozen? ⟨w.heap.size, 2, none⟩ = false ∧ w1.frozen? ⟨w.heap.size, 3, none⟩ = false) ∧ w.heap.size < w1.heap.size :=
  cells4 (bt (box1 _ _) h)
set_option maxHeartbeats 1000000 in
theorem hasc_no (x y a b p q : Int) (w : World) (h : may x y a b = false) :
    Calls Tryd.prog 88 #[.agg #[.int .i64 x, .int .i64 y, .int .i64 a, .int .i64 b], .agg #[.int .i64 p, .int .i64 q]] w fun e w' => e = .returned (.bool (has x y a b p q)) ∧ Below w.heap.size w w' := by
  rw [has_no h]
  go_enter Tryd.func88, Tryd.ntmps88
  go_wp2_with (go_at_call 85; refine (may_any _ _ _ _ _).mono ?_; rintro e w1 ⟨rfl, hb1⟩)
  go_ret
  exact ⟨rfl, bt (box2 _ _ _) hb1⟩
set_option maxHeartbeats 1000000 in
theorem hasc_yes (x y a b p q : Int) (w : World) (h : may x y a b = true) :
    Calls Tryd.prog 88 #[.agg #[.int .i64 x, .int .i64 y, .int .i64 a, .int .i64 b], .agg #[.int .i64 p, .int .i64 q]] w fun e w' => e = .returned (.bool (has x y a b p q)) ∧ Below w.heap.size w w' := by
  obtain ⟨m1, m2, m3, _⟩ := may_parts h
  have HH := hide h
  go_enter Tryd.func88, Tryd.ntmps88
  go_wp2_with (go_at_call 85; refine (may_any _ _ _ _ _).mono ?_; rintro e w1 ⟨rfl, hb1⟩; obtain ⟨⟨c0, c1, c2, c3⟩, _, z0⟩ := cells4' hb1; obtain ⟨⟨e0, e1⟩, ⟨f0, f1⟩, z1⟩ := cells2'' hb1; have B1 := hide (bt (box2 _ _ _) hb1); clear hb1)
  refine (last_any _ _ _ _ _ m1 m2 m3).mono ?_
  rintro e w2 ⟨rfl, hb2⟩
  obtain ⟨k0, k1, k2, k3⟩ := Below.four hb2 z0 ⟨c0, c1, c2, c3⟩
  obtain ⟨⟨l0, l1⟩, _⟩ := Below.two hb2 z1 e0 e1 f0 f1
  have z2 := Nat.lt_of_lt_of_le z0 hb2.size
  have z3 := Nat.lt_of_lt_of_le z1 hb2.size
  have B2 := hide hb2
  clear hb2 c0 c1 c2 c3 e0 e1
  by_cases h1 : x ≤ p
  · by_cases h2 : p ≤ x + a - 1
    · by_cases h3 : y ≤ q
      · have HR := hide (has_t HH.out h1 h2 h3)
        go_wp2_with fail
        go_ret
        exact ⟨ret_bool HR.out.symm, bt (bt B1.out B2.out) (box1 _ _)⟩
      · have HR := hide (has_f3 (x := x) (a := a) (b := b) (p := p) h3)
        go_wp2_with fail
        go_ret
        exact ⟨ret_bool HR.out.symm, bt (bt B1.out B2.out) (box1 _ _)⟩
    · have HR := hide (has_f2 (y := y) (b := b) (q := q) h2)
      go_wp2_with fail
      go_ret
      exact ⟨ret_bool HR.out.symm, bt (bt B1.out B2.out) (box1 _ _)⟩
  · have HR := hide (has_f1 (y := y) (a := a) (b := b) (q := q) h1)
    go_wp2_with fail
    go_ret
    exact ⟨ret_bool HR.out.symm, bt (bt B1.out B2.out) (box1 _ _)⟩
theorem hasc_any (x y a b p q : Int) (w : World) :
    Calls Tryd.prog 88 #[.agg #[.int .i64 x, .int .i64 y, .int .i64 a, .int .i64 b], .agg #[.int .i64 p, .int .i64 q]] w fun e w' => e = .returned (.bool (has x y a b p q)) ∧ Below w.heap.size w w' := by
  cases h : may x y a b
  · exact hasc_no x y a b p q w h
  · exact hasc_yes x y a b p q w h
end Go.Proofs.YtekpamilcpeanaaDoor
