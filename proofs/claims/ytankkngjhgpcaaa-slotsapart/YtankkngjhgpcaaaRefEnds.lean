/-
  Small facts for the reference's Meet and Hull.
-/
import Derived.Test.YtankkngjhgpcaaaEnds
import Derived.Deep.Draws
namespace Go.Proofs.Ytankkngjhgpcaaa
open Go.RowKit
set_option linter.unusedVariables false
theorem val_int {k : IntKind} {a b : Int} (h : a = b) : Value.int k a = .int k b := by rw [h]
theorem drewN_below {B : Nat} {a w : World} (h : Below B a w) (n : Nat) : Below B a (w.drewN n) := h.trans ⟨rfl, rfl, rfl, Nat.le_refl _, fun _ _ => rfl⟩
theorem Two.set0 {w : World} {b : Nat} {u v s : Int} (h : Two w b u v) : Two (w.setCell ⟨b, 0, none⟩ (.int .i64 s)) b s v := by
  obtain ⟨⟨h0, h1⟩, ⟨f0, f1⟩, hz⟩ := h
  refine ⟨⟨?_, ?_⟩, ⟨?_, ?_⟩, ?_⟩
  · simp [go_sem, h0]
  · simpa [go_sem] using h1
  · simpa [go_sem] using f0
  · simpa [go_sem] using f1
  · simpa using hz
theorem Two.set1 {w : World} {b : Nat} {u v s : Int} (h : Two w b u v) : Two (w.setCell ⟨b, 1, none⟩ (.int .i64 s)) b u s := by
  obtain ⟨⟨h0, h1⟩, ⟨f0, f1⟩, hz⟩ := h
  refine ⟨⟨?_, ?_⟩, ⟨?_, ?_⟩, ?_⟩
  · simpa [go_sem] using h0
  · simp [go_sem, h1]
  · simpa [go_sem] using f0
  · simpa [go_sem] using f1
  · simpa using hz
theorem Two.past {w : World} {b k o : Nat} {u v : Int} {s : Value} (h : Two w b u v) (hk : ¬ b = k) : Two (w.setCell ⟨k, o, none⟩ s) b u v := by
  obtain ⟨⟨h0, h1⟩, ⟨f0, f1⟩, hz⟩ := h
  have hk' : ¬ k = b := fun e => hk e.symm
  refine ⟨⟨?_, ?_⟩, ⟨?_, ?_⟩, ?_⟩
  · simp [go_sem, h0]
  · simp [go_sem, h1]
  · simpa [go_sem] using f0
  · simpa [go_sem] using f1
  · simpa using hz
theorem Four.past {w : World} {b k o : Nat} {u v x y : Int} {s : Value} (h : Four w b u v x y) (hk : ¬ b = k) : Four (w.setCell ⟨k, o, none⟩ s) b u v x y := by
  obtain ⟨⟨h0, h1, h2, h3⟩, ⟨f0, f1, f2, f3⟩, hz⟩ := h
  have hk' : ¬ k = b := fun e => hk e.symm
  refine ⟨⟨?_, ?_, ?_, ?_⟩, ⟨?_, ?_, ?_, ?_⟩, ?_⟩
  · simp [go_sem, h0]
  · simp [go_sem, h1]
  · simp [go_sem, h2]
  · simp [go_sem, h3]
  · simpa [go_sem] using f0
  · simpa [go_sem] using f1
  · simpa [go_sem] using f2
  · simpa [go_sem] using f3
  · simpa using hz
theorem two_eq {w : World} {b : Nat} {u v s t : Int} (h : Two w b u v) (h1 : u = s) (h2 : v = t) : Two w b s t := by rw [← h1, ← h2]; exact h
end Go.Proofs.Ytankkngjhgpcaaa
