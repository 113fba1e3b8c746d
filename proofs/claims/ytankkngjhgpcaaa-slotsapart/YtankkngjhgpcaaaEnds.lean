/-
  Two cells in a block of their own, carried along.
-/
import Derived.Test.YtankkngjhgpcaaaSpan
namespace Go.Proofs.Ytankkngjhgpcaaa
open Go.RowKit
set_option linter.unusedVariables false
theorem below_keep {W W' w1 : World} {A : Prop} (hb : Below W'.heap.size W' w1) (h : A ∧ Below W.heap.size W W') : Below W.heap.size W w1 := bt h.2 hb
theorem Two.kept {w w' : World} {b : Nat} {u v : Int} (h : Two w b u v) (hb : Below w.heap.size w w') : Two w' b u v :=
  ⟨(Below.two hb h.2.2 h.1.1 h.1.2 h.2.1.1 h.2.1.2).1, (Below.two hb h.2.2 h.1.1 h.1.2 h.2.1.1 h.2.1.2).2, Nat.lt_of_lt_of_le h.2.2 hb.size⟩
theorem Two.at {w w1 : World} {u v : Int} {t : TypeId} (h : Below (w.alloc (.cells #[.int .i64 u, .int .i64 v] t)).heap.size (w.alloc (.cells #[.int .i64 u, .int .i64 v] t)) w1) : Two w1 w.heap.size u v := cells2 h
theorem Two.atd {w w1 : World} {u v : Int} {t : TypeId} (h : Below (w.alloc (.cells #[.int .i64 u, .int .i64 v] t)).drew.heap.size (w.alloc (.cells #[.int .i64 u, .int .i64 v] t)).drew w1) : Two w1 w.heap.size u v := cells2d h
theorem Two.at2 {w w1 : World} {u v s r : Int} {t t' : TypeId} (h : Below ((w.alloc (.cells #[.int .i64 u, .int .i64 v] t)).alloc (.cells #[.int .i64 s, .int .i64 r] t')).heap.size ((w.alloc (.cells #[.int .i64 u, .int .i64 v] t)).alloc (.cells #[.int .i64 s, .int .i64 r] t')) w1) : Two w1 w.heap.size u v ∧ Two w1 (w.heap.size + 1) s r := ⟨cells2' h, cells2'' h⟩
theorem Two.at2d {w w1 : World} {u v s r : Int} {t t' : TypeId} (h : Below ((w.alloc (.cells #[.int .i64 u, .int .i64 v] t)).alloc (.cells #[.int .i64 s, .int .i64 r] t')).drew.heap.size ((w.alloc (.cells #[.int .i64 u, .int .i64 v] t)).alloc (.cells #[.int .i64 s, .int .i64 r] t')).drew w1) : Two w1 w.heap.size u v ∧ Two w1 (w.heap.size + 1) s r := Two.at2 (bt ((Below.refl _ _).drew) h)
theorem Two.alloc {w : World} {b : Nat} {u v : Int} {o : Obj} (h : Two w b u v) : Two (w.alloc o) b u v := h.kept (box1 _ _)
theorem Two.newAt {w : World} {k : Nat} {u v : Int} {t : TypeId} (hk : k = w.heap.size) : Two (w.alloc (.cells #[.int .i64 u, .int .i64 v] t)) k u v := by
  subst hk; exact Two.at (Below.refl _ _)
theorem Two.set {w : World} {b : Nat} {u v s t : Int} (h : Two w b u v) : Two ((w.setCell ⟨b, 0, none⟩ (.int .i64 s)).setCell ⟨b, 1, none⟩ (.int .i64 t)) b s t := by
  obtain ⟨⟨h0, h1⟩, ⟨f0, f1⟩, hz⟩ := h
  refine ⟨⟨?_, ?_⟩, ⟨?_, ?_⟩, ?_⟩
  · simp [go_sem, h0]
  · simp [go_sem, h1]
  · simpa [go_sem] using f0
  · simpa [go_sem] using f1
  · simpa using hz
theorem Two.other {w : World} {b k : Nat} {u v : Int} {s t : Value} (h : Two w b u v) (hk : ¬ b = k) : Two ((w.setCell ⟨k, 0, none⟩ s).setCell ⟨k, 1, none⟩ t) b u v := by
  obtain ⟨⟨h0, h1⟩, ⟨f0, f1⟩, hz⟩ := h
  have hk' : ¬ k = b := fun e => hk e.symm
  refine ⟨⟨?_, ?_⟩, ⟨?_, ?_⟩, ?_⟩
  · simp [go_sem, h0]
  · simp [go_sem, h1]
  · simpa [go_sem] using f0
  · simpa [go_sem] using f1
  · simpa using hz
theorem Four.kept {w w' : World} {b : Nat} {u v s t : Int} (h : Four w b u v s t) (hb : Below w.heap.size w w') : Four w' b u v s t :=
  ⟨Below.four hb h.2.2 h.1, ⟨(hb.frozen (p := ⟨b, 0, none⟩) h.2.2).trans h.2.1.1, (hb.frozen (p := ⟨b, 1, none⟩) h.2.2).trans h.2.1.2.1, (hb.frozen (p := ⟨b, 2, none⟩) h.2.2).trans h.2.1.2.2.1, (hb.frozen (p := ⟨b, 3, none⟩) h.2.2).trans h.2.1.2.2.2⟩, Nat.lt_of_lt_of_le h.2.2 hb.size⟩
theorem held_below {W W' : World} {A : Prop} (h : A ∧ Below W.heap.size W W') : Below W.heap.size W W' := h.2
theorem set4 {w w1 : World} {a b c d : Value} {n : Nat} (h : Below w.heap.size w w1) (hn : w.heap.size ≤ n) :
    Below w.heap.size w ((((w1.setCell ⟨n, 0, none⟩ a).setCell ⟨n, 1, none⟩ b).setCell ⟨n, 2, none⟩ c).setCell ⟨n, 3, none⟩ d) :=
  (((h.setCell hn _).setCell hn _).setCell hn _).setCell hn _
/-- The two last cells, each in a block of its own. -/
def Ends (w2 wx : World) (s6 s7 : Value) (u v s t : Int) : Prop :=
  ∃ b6 b7 : Nat, s6 = .pointer (some ⟨b6, 0, none⟩) ∧ s7 = .pointer (some ⟨b7, 0, none⟩) ∧ Two wx b6 u v ∧ Two wx b7 s t ∧ ¬ b6 = b7 ∧ (w2.heap.size ≤ b6 ∧ w2.heap.size ≤ b7) ∧ Below w2.heap.size w2 wx
theorem max_if (x y : Int) : (if x < y then y else x) = max x y := by split <;> omega
theorem min_if (x y : Int) : (if y < x then y else x) = min x y := by split <;> omega
theorem mm_near {x p X P : Int} (h1 : -1048576 ≤ x ∧ x ≤ 1048576) (h2 : -1048576 ≤ p ∧ p ≤ 1048576) (h3 : -1048576 ≤ X ∧ X ≤ 1048576) (h4 : -1048576 ≤ P ∧ P ≤ 1048576) :
    ((-1048576 ≤ max x p ∧ max x p ≤ 1048576) ∧ (-1048576 ≤ min x p ∧ min x p ≤ 1048576)) ∧ (-1048576 ≤ max X P ∧ max X P ≤ 1048576) ∧ (-1048576 ≤ min X P ∧ min X P ≤ 1048576) := by omega
theorem may_near {x y a b p q c d : Int} (h : may x y a b = true) (h2 : may p q c d = true) :
    (((-1048576 ≤ max x p ∧ max x p ≤ 1048576) ∧ (-1048576 ≤ min x p ∧ min x p ≤ 1048576)) ∧ (-1048576 ≤ max (x + a - 1) (p + c - 1) ∧ max (x + a - 1) (p + c - 1) ≤ 1048576) ∧ (-1048576 ≤ min (x + a - 1) (p + c - 1) ∧ min (x + a - 1) (p + c - 1) ≤ 1048576)) ∧
    (((-1048576 ≤ max y q ∧ max y q ≤ 1048576) ∧ (-1048576 ≤ min y q ∧ min y q ≤ 1048576)) ∧ (-1048576 ≤ max (y + b - 1) (q + d - 1) ∧ max (y + b - 1) (q + d - 1) ≤ 1048576) ∧ (-1048576 ≤ min (y + b - 1) (q + d - 1) ∧ min (y + b - 1) (q + d - 1) ≤ 1048576)) := by
  have h := (may_iff _ _ _ _).1 h
  have h2 := (may_iff _ _ _ _).1 h2
  exact ⟨mm_near h.1.1 h2.1.1 h.2.2.2.1 h2.2.2.2.1, mm_near h.1.2 h2.1.2 h.2.2.2.2 h2.2.2.2.2⟩
end Go.Proofs.Ytankkngjhgpcaaa
