/-
  The law's own look whether a number has its bytes: it has.
-/
import Derived.Test.YtaioniegggfcjaaWrite
namespace Go.Proofs.Ytaioniegggfcjaa
open Go.RowKit
set_option linter.unusedVariables false
theorem enc_300 : enc 300 = [172, 2] := by rw [enc_more (by omega), enc_last (by omega)]
theorem Bys.cells {w : World} {v : Value} {l : List Nat} (h : Bys w v l) (hne : l ≠ []) : ∃ b o cap, v = .slice (some ⟨b, o, none⟩) l.length cap ∧ l.length ≤ cap ∧ b < w.heap.size ∧ ∀ i, i < l.length → w.cell? ⟨b, o + i, none⟩ = some (.int .u8 (dig l i : Nat)) := by
  obtain ⟨hs, hl, a, cap, rfl, hc, ha, hr⟩ := h
  obtain ⟨b, o, rfl, e2, e3⟩ := hr hne
  exact ⟨b, o, cap, rfl, hc, e2, e3⟩
theorem below_trans {w w1 w2 : World} (h : Below w.heap.size w w1) (k : Below w1.heap.size w1 w2) : Below w.heap.size w w2 := h.trans (k.mono h.size)
theorem awake_any (w : World) : Calls Try.prog 10 #[] w fun e w' => e = .returned (.bool true) ∧ Below w.heap.size w w' := by
  go_enter Try.func10, Try.ntmps10
  go_wp2_with fail
  refine (uvarint_any _ _ [7] 300 (bys_built w [7] (small_one (by omega)) (by simp) _ rfl _ rfl) (by omega) (by simp)).mono ?_
  rintro e w1 ⟨v, rfl, hm, hb⟩
  have hB := hide (below_trans ((Below.refl _ _).alloc (Nat.le_refl _) _) hb)
  rw [enc_300] at hm
  obtain ⟨b, o, cap, rfl, hc, h1, h2⟩ := hm.bys.cells (by simp)
  have c0 : w1.cell? ⟨b, o, none⟩ = some (.int .u8 7) := h2 0 (by simp)
  have c1 : w1.cell? ⟨b, o + 1, none⟩ = some (.int .u8 172) := h2 1 (by simp)
  have c2 : w1.cell? ⟨b, o + 2, none⟩ = some (.int .u8 2) := h2 2 (by simp)
  clear h2 hm hb h1
  go_wp2
  go_ret
  exact ⟨rfl, hB.out⟩
end Go.Proofs.Ytaioniegggfcjaa
