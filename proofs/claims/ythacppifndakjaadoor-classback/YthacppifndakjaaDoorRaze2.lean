/-
  Raze of a building that stands.
-/
import Derived.Test.YthacppifndakjaaDoorRaze
namespace Go.Proofs.YthacppifndakjaaDoor
open Go.RowKit Go.Shelf
set_option linter.unusedVariables false
attribute [local go_sem] Oper.semAt_some
theorem Four.turn {S : Nat → Prop} {w w' : World} {k : Nat} {x y a b : Int} (h : Four w k x y a b) (ht : Turns S w w') (hs : ¬ S k) : Four w' k x y a b :=
  ⟨⟨ht.cell hs h.1.1, ht.cell hs h.1.2.1, ht.cell hs h.1.2.2.1, ht.cell hs h.1.2.2.2⟩,
   ⟨(World.frozen?_of_block (ht.block k h.2.2 hs)).trans h.2.1.1, (World.frozen?_of_block (ht.block k h.2.2 hs)).trans h.2.1.2.1, (World.frozen?_of_block (ht.block k h.2.2 hs)).trans h.2.1.2.2.1, (World.frozen?_of_block (ht.block k h.2.2 hs)).trans h.2.1.2.2.2⟩, Nat.lt_of_lt_of_le h.2.2 ht.size⟩
theorem Four.set {w : World} {b : Nat} {u v s t : Int} (h : Four w b u v s t) (x y a c : Int) : Four ((((w.setCell ⟨b, 0, none⟩ (.int .i64 x)).setCell ⟨b, 1, none⟩ (.int .i64 y)).setCell ⟨b, 2, none⟩ (.int .i64 a)).setCell ⟨b, 3, none⟩ (.int .i64 c)) b x y a c := by
  obtain ⟨⟨h0, h1, h2, h3⟩, ⟨f0, f1, f2, f3⟩, hz⟩ := h
  refine ⟨⟨?_, ?_, ?_, ?_⟩, ⟨?_, ?_, ?_, ?_⟩, ?_⟩
  · simp [go_sem, h0]
  · simp [go_sem, h1]
  · simp [go_sem, h2]
  · simp [go_sem, h3]
  · simpa [go_sem] using f0
  · simpa [go_sem] using f1
  · simpa [go_sem] using f2
  · simpa [go_sem] using f3
  · simpa using hz
end Go.Proofs.YthacppifndakjaaDoor
