/-
  What the listed variable gives.
-/
import Derived.Test.YtpikfplmghofbaaDoorStep
import Derived.Test.YtpikfplmghofbaaDoorMapOpens
import Derived.LaidMore
namespace Go.Proofs.YtpikfplmghofbaaDoor
open Go.ChangeShapes Go.WideShapes Go.ChangeAt Go.WideMaps Go.WideElems Go.RowKit Go.Deep
set_option linter.unusedVariables false
set_option maxRecDepth 100000
abbrev laid1 : List (String × DataW Unit) := Rows.clusterRectsRow.laid
theorem gOffs : Tryd.prog.globalNamed ((laid1.map (·.1)).headD default) = some 0 := by kernel_rfl
theorem tOffs : (Tryd.prog.globals[0]?).map (·.type) = some 90 := by kernel_rfl
theorem c54 : Tryd.prog.cellsOf 90 = 16 := by kernel_rfl
/-- The door's own heap meets the condition. -/
theorem door_met (os : Os) (args : Array Value) : laidMetH Tryd.prog laid1 ((World.doorLaid Tryd.prog 400 os).forCall (fun _ _ => 0) ⟨#[], args, []⟩).memory :=
  laidMetH_of_parts3 (fuel := 8) (laidMet_of_run' 8 (by kernel_rfl) (by kernel_rfl)) (by kernel_rfl) (by kernel_rfl)
def offsL : List (DataW Unit) := [.agg [.lit (.int .i64 1), .lit (.int .i64 0)], .agg [.lit (.int .i64 0), .lit (.int .i64 1)], .agg [.lit (.int .i64 (-1)), .lit (.int .i64 0)], .agg [.lit (.int .i64 0), .lit (.int .i64 (-1))], .agg [.lit (.int .i64 1), .lit (.int .i64 1)], .agg [.lit (.int .i64 (-1)), .lit (.int .i64 1)], .agg [.lit (.int .i64 (-1)), .lit (.int .i64 (-1))], .agg [.lit (.int .i64 1), .lit (.int .i64 (-1))]]
theorem offsL_at (k : Nat) (hk : k < 8) : offsL[k]? = some (.agg [.lit (.int .i64 (dX k)), .lit (.int .i64 (dY k))]) := by
  match k, hk with
  | 0, _ | 1, _ | 2, _ | 3, _ | 4, _ | 5, _ | 6, _ | 7, _ => rfl
/-- From the row's condition to what the walks ask. -/
theorem offs_of_laid {W : World} (h : laidMetH Tryd.prog laid1 W) : Offs W := by
  rw [MakeChecks.laidMetH_plain _ _ _ (by kernel_rfl)] at h
  obtain ⟨ps, ⟨g0, t0, cs0, f0, p0, q0, hg0, ht0, hv0, hd0, _, _⟩, _, _⟩ := h
  obtain rfl := Option.some.inj (gOffs.symm.trans hg0)
  obtain rfl := Option.some.inj (tOffs.symm.trans ht0)
  obtain ⟨xs, m1, rfl, hx1, hlen, hn, hel⟩ := DataW.trod_array Tryd.underlying90 hd0
  simp only [Prod.mk.injEq] at hx1
  have hL : offsL = xs.map (·.1) := by
    have := hx1.1
    simp only [Rows.laid_phalanx_cell_offsets, DataW.agg.injEq] at this
    exact this
  have hcells : ∀ k : Nat, k < 8 → W.cell? ⟨0, k * 2, none⟩ = some (.int .i64 (dX k)) ∧ W.cell? ⟨0, k * 2 + 1, none⟩ = some (.int .i64 (dY k)) := by
    intro k hk
    have hk' := hel k hk
    rw [c23] at hk'
    obtain ⟨z, hz⟩ : ∃ z, xs[k]? = some z := ⟨xs[k]'(by omega), List.getElem?_eq_getElem (by omega)⟩
    rw [hz] at hk'
    obtain ⟨x, y, hcs, rfl, _, _⟩ := cell_of hk'
    have h1 := offsL_at k hk
    rw [hL] at h1
    simp only [List.getElem?_map, hz, Option.map_some, Option.some.injEq, DataW.agg.injEq, List.cons.injEq, DataW.lit.injEq, Lit.int.injEq, true_and, and_true] at h1
    obtain ⟨rfl, rfl⟩ := h1
    have e0 : cs0[k * 2]? = some (.int .i64 (dX k)) := by
      have := congrArg (·[0]?) hcs
      simpa [List.getElem?_take, List.getElem?_drop] using this
    have e1 : cs0[k * 2 + 1]? = some (.int .i64 (dY k)) := by
      have := congrArg (·[1]?) hcs
      simpa [List.getElem?_take, List.getElem?_drop] using this
    exact ⟨(World.var?_cell hg0 hv0 (k * 2)).trans e0, (World.var?_cell hg0 hv0 (k * 2 + 1)).trans e1⟩
  refine ⟨?_, hcells⟩
  have h0 := (hcells 0 (by decide)).1
  rcases Nat.eq_zero_or_pos W.heap.size with hz | hz
  · exfalso
    have hne : W.heap[0]? = none := Array.getElem?_eq_none (by rw [hz]; exact Nat.le_refl 0)
    simp [World.cell?, hne] at h0
  · exact hz

end Go.Proofs.YtpikfplmghofbaaDoor
