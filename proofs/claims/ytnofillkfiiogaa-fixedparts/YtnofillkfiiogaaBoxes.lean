/-
  Three boxes of two cells, behind a call that only makes new memory.
-/
import Derived.Test.YtnofillkfiiogaaTos
import Derived.RegionTactic
import Derived.ChangeAlike
import Derived.Deep.RegionWith
namespace Go.Proofs.Ytnofillkfiiogaa
open Go.RowKit
set_option linter.unusedVariables false
/-- Behind a call that only makes new memory: three boxes of two cells read as they did. -/
theorem facts3 {w w1 : World} {x0 x1 y0 y1 z0 z1 : Value}
    (hb : Below (((w.alloc (.cells #[x0, x1] 34)).alloc (.cells #[y0, y1] 34)).alloc (.cells #[z0, z1] 34)).drew.heap.size (((w.alloc (.cells #[x0, x1] 34)).alloc (.cells #[y0, y1] 34)).alloc (.cells #[z0, z1] 34)).drew w1) :
    (w1.cell? ⟨w.heap.size, 0, none⟩ = some x0 ∧ w1.cell? ⟨w.heap.size, 1, none⟩ = some x1) ∧ (w1.cell? ⟨w.heap.size + 1, 0, none⟩ = some y0 ∧ w1.cell? ⟨w.heap.size + 1, 1, none⟩ = some y1) ∧
    (w1.cell? ⟨w.heap.size + 1 + 1, 0, none⟩ = some z0 ∧ w1.cell? ⟨w.heap.size + 1 + 1, 1, none⟩ = some z1) ∧ (w1.frozen? ⟨w.heap.size + 1 + 1, 0, none⟩ = false ∧ w1.frozen? ⟨w.heap.size + 1 + 1, 1, none⟩ = false) ∧ w.heap.size + 1 + 1 < w1.heap.size := by
  have hs := hb.size
  simp at hs
  refine ⟨⟨?_, ?_⟩, ⟨?_, ?_⟩, ⟨?_, ?_⟩, ⟨?_, ?_⟩, by omega⟩
  · rw [hb.cell (p := ⟨w.heap.size, 0, none⟩) (by simp; omega)]; go_simp
  · rw [hb.cell (p := ⟨w.heap.size, 1, none⟩) (by simp; omega)]; go_simp
  · rw [hb.cell (p := ⟨w.heap.size + 1, 0, none⟩) (by simp)]; go_simp
  · rw [hb.cell (p := ⟨w.heap.size + 1, 1, none⟩) (by simp)]; go_simp
  · rw [hb.cell (p := ⟨w.heap.size + 1 + 1, 0, none⟩) (by simp)]; go_simp
  · rw [hb.cell (p := ⟨w.heap.size + 1 + 1, 1, none⟩) (by simp)]; go_simp
  · rw [hb.frozen (p := ⟨w.heap.size + 1 + 1, 0, none⟩) (by simp)]; go_simp
  · rw [hb.frozen (p := ⟨w.heap.size + 1 + 1, 1, none⟩) (by simp)]; go_simp
/-- The result's box is written last; the digits are new. -/
theorem boxed3 {w w1 : World} {o p q : Obj} {v : Value} {l : List Nat} (hb : Below (((w.alloc o).alloc p).alloc q).drew.heap.size (((w.alloc o).alloc p).alloc q).drew w1) (hd : Digs w1 v l)
    (hfr : ∀ k, v.ownBlock = some k → (((w.alloc o).alloc p).alloc q).drew.heap.size ≤ k) (u0 u1 : Value) :
    Digs ((w1.setCell ⟨w.heap.size + 1 + 1, 0, none⟩ u0).setCell ⟨w.heap.size + 1 + 1, 1, none⟩ u1) v l ∧ Below w.heap.size w ((w1.setCell ⟨w.heap.size + 1 + 1, 0, none⟩ u0).setCell ⟨w.heap.size + 1 + 1, 1, none⟩ u1) := by
  have hne : v.ownBlock ≠ some (w.heap.size + 1 + 1) := by
    intro e; have := hfr _ e; simp at this; omega
  refine ⟨(hd.stored (a := ⟨w.heap.size + 1 + 1, 0, none⟩) hne _).stored (a := ⟨w.heap.size + 1 + 1, 1, none⟩) hne _, ?_⟩
  exact (((below_box3 w o p q).drew.trans (hb.mono (by simp; omega))).setCell (by simp; omega) _).setCell (by simp; omega) _
end Go.Proofs.Ytnofillkfiiogaa
