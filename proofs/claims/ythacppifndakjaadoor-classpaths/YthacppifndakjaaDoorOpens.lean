/-
  What the listed variable gives; arguments that are cells and rectangles, opened and shut. Arguments that are shapes, opened and shut.
-/
import Derived.Test.YthacppifndakjaaDoorStep
import Derived.Test.YthacppifndakjaaDoorFoot
import Derived.ProofKit
import Derived.LaidMore
import Derived.OpenShut
import Derived.Stop.Joined
import Derived.Deep.Strs
namespace Go.Proofs.YthacppifndakjaaDoor
open Go.ChangeShapes Go.WideShapes Go.ChangeAt Go.WideMaps Go.WideElems Go.RowKit Go.Deep
set_option linter.unusedVariables false
set_option maxRecDepth 100000
abbrev laid1 : List (String × DataW Unit) := [("phalanx/cell.offsets", Rows.laid_phalanx_cell_offsets), ("phalanx/class.grounds", Rows.laid_phalanx_class_grounds)]
theorem own : ownKnob Tryd.prog.godebug = none := by kernel_rfl
theorem gOffs : Tryd.prog.globalNamed "phalanx/cell.offsets" = some 1 := by kernel_rfl
theorem gGrnd : Tryd.prog.globalNamed "phalanx/class.grounds" = some 0 := by kernel_rfl
theorem tGrnd : (Tryd.prog.globals[0]?).map (·.type) = some 60 := by kernel_rfl
theorem c5 : Tryd.prog.cellsOf 5 = 1 := by kernel_rfl
theorem tOffs : (Tryd.prog.globals[1]?).map (·.type) = some 104 := by kernel_rfl
theorem c3 : Tryd.prog.cellsOf 3 = 1 := by kernel_rfl
theorem c23 : Tryd.prog.cellsOf 25 = 2 := by kernel_rfl
theorem c34 : Tryd.prog.cellsOf 29 = 4 := by kernel_rfl
theorem c54 : Tryd.prog.cellsOf 104 = 16 := by kernel_rfl
/-- The door's own heap meets the condition. -/
theorem door_met (os : Os) (args : Array Value) : laidMetH Tryd.prog laid1 ((World.doorLaid Tryd.prog 400 os).forCall (fun _ _ => 0) ⟨#[], args, []⟩).memory :=
  laidMetH_of_parts3 (fuel := 8) (laidMet_of_run' 8 (by kernel_rfl) (by kernel_rfl)) (by kernel_rfl) (by kernel_rfl)
/-- Two cells that read as a Cell. -/
theorem cell_of {H : Type} {enc : TypeId × Value → H} {W : World} {base : Nat} {sp : Nat → Bool} {held : Bool} {fuel : Nat} {cs : List Value} {z : DataW H × List MemPlace} (h : DataW.trod enc Tryd.prog W base sp held fuel 25 cs = some z) :
    ∃ x y : Int, cs = [.int .i64 x, .int .i64 y] ∧ z = (.agg [.lit (.int .i64 x), .lit (.int .i64 y)], []) ∧ (Lit.int .i64 x).wf = true ∧ (Lit.int .i64 y).wf = true := by
  obtain ⟨y0, y1, n, rfl, hl, h0, h1⟩ := trod_struct2 Tryd.underlying25 h
  obtain ⟨a, e0, rfl, w0⟩ := DataW.trod_int Tryd.underlying3 h0
  obtain ⟨b, e1, rfl, w1⟩ := DataW.trod_int Tryd.underlying3 h1
  rw [c23] at hl
  match cs, hl, e0, e1 with
  | [u, v], _, e0, e1 =>
    simp [c3] at e0 e1
    subst e0; subst e1
    exact ⟨a, b, rfl, by simp, w0, w1⟩
def offsL : List (DataW Unit) := [.agg [.lit (.int .i64 1), .lit (.int .i64 0)], .agg [.lit (.int .i64 0), .lit (.int .i64 1)], .agg [.lit (.int .i64 (-1)), .lit (.int .i64 0)], .agg [.lit (.int .i64 0), .lit (.int .i64 (-1))], .agg [.lit (.int .i64 1), .lit (.int .i64 1)], .agg [.lit (.int .i64 (-1)), .lit (.int .i64 1)], .agg [.lit (.int .i64 (-1)), .lit (.int .i64 (-1))], .agg [.lit (.int .i64 1), .lit (.int .i64 (-1))]]
theorem offsL_at (k : Nat) (hk : k < 8) : offsL[k]? = some (.agg [.lit (.int .i64 (dX k)), .lit (.int .i64 (dY k))]) := by
  match k, hk with
  | 0, _ | 1, _ | 2, _ | 3, _ | 4, _ | 5, _ | 6, _ | 7, _ => rfl
/-- From the row's condition to what the walks ask. -/
theorem offs_of_laid {W : World} (h : laidMetH Tryd.prog laid1 W) : Offs W := by
  rw [MakeChecks.laidMetH_plain _ _ _ (by kernel_rfl)] at h
  obtain ⟨ps, ⟨g0, t0, cs0, f0, p0, q0, hg0, ht0, hv0, hd0, _, _⟩, _, _⟩ := h
  obtain rfl := Option.some.inj (gOffs.symm.trans hg0)
  obtain rfl := Option.some.inj (tOffs.symm.trans ht0)
  obtain ⟨xs, m1, rfl, hx1, hlen, hn, hel⟩ := DataW.trod_array Tryd.underlying104 hd0
  simp only [Prod.mk.injEq] at hx1
  have hL : offsL = xs.map (·.1) := by
    have := hx1.1
    simp only [Rows.laid_phalanx_cell_offsets, DataW.agg.injEq] at this
    exact this
  have hcells : ∀ k : Nat, k < 8 → W.cell? ⟨1, k * 2, none⟩ = some (.int .i64 (dX k)) ∧ W.cell? ⟨1, k * 2 + 1, none⟩ = some (.int .i64 (dY k)) := by
    intro k hk
    have hk' := hel k hk
    rw [c23] at hk'
    obtain ⟨z, hz⟩ : ∃ z, xs[k]? = some z := ⟨xs[k]'(by omega), List.getElem?_eq_getElem (by omega)⟩
    rw [hz] at hk'
    obtain ⟨x, y, hcs, rfl, _, _⟩ := cell_of hk'
    have h1 := offsL_at k hk
    rw [hL] at h1
    simp only [List.getElem?_map, hz, Option.map_some, Option.some.injEq, DataW.agg.injEq, List.cons.injEq, DataW.lit.injEq, Lit.int.injEq, true_and, and_true] at h1
    obtain ⟨rfl, rfl⟩ := h1
    have e0 : cs0[k * 2]? = some (.int .i64 (dX k)) := by
      have := congrArg (·[0]?) hcs
      simpa [List.getElem?_take, List.getElem?_drop] using this
    have e1 : cs0[k * 2 + 1]? = some (.int .i64 (dY k)) := by
      have := congrArg (·[1]?) hcs
      simpa [List.getElem?_take, List.getElem?_drop] using this
    exact ⟨(World.var?_cell hg0 hv0 (k * 2)).trans e0, (World.var?_cell hg0 hv0 (k * 2 + 1)).trans e1⟩
  exact ⟨World.block_lt_of_cell? W _ (hcells 0 (by decide)).1, hcells⟩
def grndL : List (DataW Unit) := [.lit (.int .u8 3), .lit (.int .u8 1), .lit (.int .u8 4), .lit (.int .u8 5)]
theorem grndL_at (k : Nat) (hk : k < 4) : grndL[k]? = some (.lit (.int .u8 (grN k))) := by
  match k, hk with
  | 0, _ | 1, _ | 2, _ | 3, _ => rfl
theorem grnd_of_laid {W : World} (h : laidMetH Tryd.prog laid1 W) : Grnd W := by
  rw [MakeChecks.laidMetH_plain _ _ _ (by kernel_rfl)] at h
  obtain ⟨ps, ⟨_, _, _, _, _, _, _, _, _, _, ⟨g0, t0, cs0, f0, p0, q0, hg0, ht0, hv0, hd0, _, _⟩, _⟩, _, _⟩ := h
  obtain rfl := Option.some.inj (gGrnd.symm.trans hg0)
  obtain rfl := Option.some.inj (tGrnd.symm.trans ht0)
  obtain ⟨xs, m1, rfl, hx1, hlen, hn, hel⟩ := DataW.trod_array Tryd.underlying60 hd0
  simp only [Prod.mk.injEq] at hx1
  have hL : grndL = xs.map (·.1) := by
    have := hx1.1
    simp only [Rows.laid_phalanx_class_grounds, DataW.agg.injEq] at this
    exact this
  have hcells : ∀ k : Nat, k < 4 → W.cell? ⟨0, k, none⟩ = some (.int .u8 (grN k)) := by
    intro k hk
    have hk' := hel k hk
    rw [c5] at hk'
    obtain ⟨z, hz⟩ : ∃ z, xs[k]? = some z := ⟨xs[k]'(by omega), List.getElem?_eq_getElem (by omega)⟩
    rw [hz] at hk'
    obtain ⟨a, hcs, rfl, _⟩ := DataW.trod_int Tryd.underlying5 hk'
    have h1 := grndL_at k hk
    rw [hL] at h1
    simp only [List.getElem?_map, hz, Option.map_some, Option.some.injEq, DataW.lit.injEq, Lit.int.injEq, true_and] at h1
    subst h1
    have e0 : cs0[k]? = some (.int .u8 (grN k)) := by
      have := congrArg (·[0]?) hcs
      simpa [List.getElem?_take, List.getElem?_drop] using this
    exact (World.var?_cell hg0 hv0 k).trans e0
  exact ⟨World.block_lt_of_cell? W _ (hcells 0 (by decide)), hcells⟩
section
variable {H : Type} {enc : TypeId × Value → H} {W : World}
theorem open_cell {base b0 : Nat} {sp : Nat → Bool} {held : Bool} {r : Reach} {v : Value} {d : DataW H} {p : List MemPlace} (hv : Value.okWide Tryd.prog W r b0 25 v) (h : DataW.Trod enc Tryd.prog W base sp held 25 v d p) :
    ∃ x y : Int, v = .agg #[.int .i64 x, .int .i64 y] ∧ d = .agg [.lit (.int .i64 x), .lit (.int .i64 y)] ∧ p = [] ∧ (Lit.int .i64 x).wf = true ∧ (Lit.int .i64 y).wf = true := by
  obtain ⟨cs, rfl, hsz⟩ := okWide_struct Tryd.underlying25 hv
  obtain ⟨fuel, hf⟩ := h
  obtain ⟨x, y, hcs, hz, wx, wy⟩ := cell_of hf
  simp only [Prod.mk.injEq] at hz
  obtain ⟨rfl, rfl⟩ := hz
  refine ⟨x, y, ?_, rfl, rfl, wx, wy⟩
  obtain ⟨l⟩ := cs
  simp [Value.cells] at hcs
  subst hcs
  rfl
theorem cell_back {base : Nat} {sp : Nat → Bool} {held : Bool} {x y : Int} (wx : (Lit.int .i64 x).wf = true) (wy : (Lit.int .i64 y).wf = true) (m : Nat) :
    DataW.trod enc Tryd.prog W base sp held (m + 1 + 1) 25 [.int .i64 x, .int .i64 y] = some (.agg [.lit (.int .i64 x), .lit (.int .i64 y)], []) := by
  have := trod_struct2_mk (enc := enc) (w := W) (base := base) (spare := sp) (held := held) (n := m + 1) (cs := [.int .i64 x, .int .i64 y]) (y0 := (.lit (.int .i64 x), [])) (y1 := (.lit (.int .i64 y), [])) Tryd.underlying25 (by simp [c23])
    (by simpa [c3] using trod_int_mk m Tryd.underlying3 wx) (by simpa [c3] using trod_int_mk m Tryd.underlying3 wy)
  simpa using this
theorem shut_cell {base : Nat} {sp : Nat → Bool} {held : Bool} {x y : Int} (wx : (Lit.int .i64 x).wf = true) (wy : (Lit.int .i64 y).wf = true) :
    DataW.Trod enc Tryd.prog W base sp held 25 (.agg #[.int .i64 x, .int .i64 y]) (.agg [.lit (.int .i64 x), .lit (.int .i64 y)]) [] := ⟨2, by simpa [Value.cells] using cell_back wx wy 0⟩
/-- Four cells that read as a Rect. -/
theorem rect_of {base : Nat} {sp : Nat → Bool} {held : Bool} {fuel : Nat} {cs : List Value} {z : DataW H × List MemPlace} (h : DataW.trod enc Tryd.prog W base sp held fuel 29 cs = some z) :
    ∃ x y a b : Int, cs = [.int .i64 x, .int .i64 y, .int .i64 a, .int .i64 b] ∧ z = (.agg [.agg [.lit (.int .i64 x), .lit (.int .i64 y)], .lit (.int .i64 a), .lit (.int .i64 b)], []) ∧ ((Lit.int .i64 x).wf = true ∧ (Lit.int .i64 y).wf = true) ∧ (Lit.int .i64 a).wf = true ∧ (Lit.int .i64 b).wf = true := by
  obtain ⟨y0, y1, y2, n, rfl, hl, h0, h1, h2⟩ := trod_struct3 Tryd.underlying29 h
  obtain ⟨x, y, e0, rfl, w0, w0'⟩ := cell_of h0
  obtain ⟨a, e1, rfl, w1⟩ := DataW.trod_int Tryd.underlying3 h1
  obtain ⟨b, e2, rfl, w2⟩ := DataW.trod_int Tryd.underlying3 h2
  rw [c34] at hl
  match cs, hl, e0, e1, e2 with
  | [u, v, s, t], _, e0, e1, e2 =>
    simp [c3, c23] at e0 e1 e2
    obtain ⟨rfl, rfl⟩ := e0
    subst e1; subst e2
    exact ⟨x, y, a, b, rfl, by simp, ⟨w0, w0'⟩, w1, w2⟩
theorem rect_back {base : Nat} {sp : Nat → Bool} {held : Bool} {x y a b : Int} (h1 : (Lit.int .i64 x).wf = true ∧ (Lit.int .i64 y).wf = true) (h2 : (Lit.int .i64 a).wf = true ∧ (Lit.int .i64 b).wf = true) (m : Nat) :
    DataW.trod enc Tryd.prog W base sp held (m + 1 + 1 + 1) 29 [.int .i64 x, .int .i64 y, .int .i64 a, .int .i64 b] = some (.agg [.agg [.lit (.int .i64 x), .lit (.int .i64 y)], .lit (.int .i64 a), .lit (.int .i64 b)], []) := by
  have := trod_struct3_mk (enc := enc) (w := W) (base := base) (spare := sp) (held := held) (n := m + 1 + 1) (cs := [.int .i64 x, .int .i64 y, .int .i64 a, .int .i64 b]) (y0 := (.agg [.lit (.int .i64 x), .lit (.int .i64 y)], [])) (y1 := (.lit (.int .i64 a), [])) (y2 := (.lit (.int .i64 b), [])) Tryd.underlying29 (by simp [c34])
    (by simpa [c23] using cell_back h1.1 h1.2 m) (by simpa [c3] using trod_int_mk (m + 1) Tryd.underlying3 h2.1) (by simpa [c3] using trod_int_mk (m + 1) Tryd.underlying3 h2.2)
  simpa using this
abbrev rectV (x y a b : Int) : Value := .agg #[.int .i64 x, .int .i64 y, .int .i64 a, .int .i64 b]
abbrev rectD {H : Type} (x y a b : Int) : DataW H := .agg [.agg [.lit (.int .i64 x), .lit (.int .i64 y)], .lit (.int .i64 a), .lit (.int .i64 b)]
theorem open_rect {base b0 : Nat} {sp : Nat → Bool} {held : Bool} {r : Reach} {v : Value} {d : DataW H} {p : List MemPlace} (hv : Value.okWide Tryd.prog W r b0 29 v) (h : DataW.Trod enc Tryd.prog W base sp held 29 v d p) :
    ∃ x y a b : Int, v = rectV x y a b ∧ d = rectD x y a b ∧ p = [] ∧ ((Lit.int .i64 x).wf = true ∧ (Lit.int .i64 y).wf = true) ∧ (Lit.int .i64 a).wf = true ∧ (Lit.int .i64 b).wf = true := by
  obtain ⟨cs, rfl, hsz⟩ := okWide_struct Tryd.underlying29 hv
  obtain ⟨fuel, hf⟩ := h
  obtain ⟨x, y, a, b, hcs, hz, h1, h2⟩ := rect_of hf
  simp only [Prod.mk.injEq] at hz
  obtain ⟨rfl, rfl⟩ := hz
  refine ⟨x, y, a, b, ?_, rfl, rfl, h1, h2⟩
  obtain ⟨l⟩ := cs
  simp [Value.cells] at hcs
  subst hcs
  rfl
theorem shut_rect {base : Nat} {sp : Nat → Bool} {held : Bool} {x y a b : Int} (h1 : (Lit.int .i64 x).wf = true ∧ (Lit.int .i64 y).wf = true) (h2 : (Lit.int .i64 a).wf = true ∧ (Lit.int .i64 b).wf = true) :
    DataW.Trod enc Tryd.prog W base sp held 29 (rectV x y a b) (rectD x y a b) [] := ⟨3, by simpa [Value.cells] using rect_back h1 h2 0⟩
end
end Go.Proofs.YthacppifndakjaaDoor
namespace Go.Proofs.YthacppifndakjaaDoor
open Go.ChangeShapes Go.WideShapes Go.ChangeAt Go.WideMaps Go.WideElems Go.RowKit Go.Deep
set_option linter.unusedVariables false
set_option maxRecDepth 100000
theorem cSh : Tryd.prog.cellsOf 23 = 2 := by kernel_rfl
/-- Two cells that read as a Shape. -/
theorem shape_of {H : Type} {enc : TypeId × Value → H} {W : World} {base : Nat} {sp : Nat → Bool} {held : Bool} {fuel : Nat} {cs : List Value} {z : DataW H × List MemPlace} (h : DataW.trod enc Tryd.prog W base sp held fuel 23 cs = some z) :
    ∃ x y : Int, cs = [.int .i64 x, .int .i64 y] ∧ z = (.agg [.lit (.int .i64 x), .lit (.int .i64 y)], []) ∧ (Lit.int .i64 x).wf = true ∧ (Lit.int .i64 y).wf = true := by
  obtain ⟨y0, y1, n, rfl, hl, h0, h1⟩ := trod_struct2 Tryd.underlying23 h
  obtain ⟨a, e0, rfl, w0⟩ := DataW.trod_int Tryd.underlying3 h0
  obtain ⟨b, e1, rfl, w1⟩ := DataW.trod_int Tryd.underlying3 h1
  rw [cSh] at hl
  match cs, hl, e0, e1 with
  | [u, v], _, e0, e1 =>
    simp [c3] at e0 e1
    subst e0; subst e1
    exact ⟨a, b, rfl, by simp, w0, w1⟩
section
variable {H : Type} {enc : TypeId × Value → H} {W : World}
theorem open_shape {base b0 : Nat} {sp : Nat → Bool} {held : Bool} {r : Reach} {v : Value} {d : DataW H} {p : List MemPlace} (hv : Value.okWide Tryd.prog W r b0 23 v) (h : DataW.Trod enc Tryd.prog W base sp held 23 v d p) :
    ∃ x y : Int, v = .agg #[.int .i64 x, .int .i64 y] ∧ d = .agg [.lit (.int .i64 x), .lit (.int .i64 y)] ∧ p = [] ∧ (Lit.int .i64 x).wf = true ∧ (Lit.int .i64 y).wf = true := by
  obtain ⟨cs, rfl, hsz⟩ := okWide_struct Tryd.underlying23 hv
  obtain ⟨fuel, hf⟩ := h
  obtain ⟨x, y, hcs, hz, wx, wy⟩ := shape_of hf
  simp only [Prod.mk.injEq] at hz
  obtain ⟨rfl, rfl⟩ := hz
  refine ⟨x, y, ?_, rfl, rfl, wx, wy⟩
  obtain ⟨l⟩ := cs
  simp [Value.cells] at hcs
  subst hcs
  rfl
theorem shape_back {base : Nat} {sp : Nat → Bool} {held : Bool} {x y : Int} (wx : (Lit.int .i64 x).wf = true) (wy : (Lit.int .i64 y).wf = true) (m : Nat) :
    DataW.trod enc Tryd.prog W base sp held (m + 1 + 1) 23 [.int .i64 x, .int .i64 y] = some (.agg [.lit (.int .i64 x), .lit (.int .i64 y)], []) := by
  have := trod_struct2_mk (enc := enc) (w := W) (base := base) (spare := sp) (held := held) (n := m + 1) (cs := [.int .i64 x, .int .i64 y]) (y0 := (.lit (.int .i64 x), [])) (y1 := (.lit (.int .i64 y), [])) Tryd.underlying23 (by simp [cSh])
    (by simpa [c3] using trod_int_mk m Tryd.underlying3 wx) (by simpa [c3] using trod_int_mk m Tryd.underlying3 wy)
  simpa using this
theorem shut_shape {base : Nat} {sp : Nat → Bool} {held : Bool} {x y : Int} (wx : (Lit.int .i64 x).wf = true) (wy : (Lit.int .i64 y).wf = true) :
    DataW.Trod enc Tryd.prog W base sp held 23 (.agg #[.int .i64 x, .int .i64 y]) (.agg [.lit (.int .i64 x), .lit (.int .i64 y)]) [] := ⟨2, by simpa [Value.cells] using shape_back wx wy 0⟩
end
end Go.Proofs.YthacppifndakjaaDoor
