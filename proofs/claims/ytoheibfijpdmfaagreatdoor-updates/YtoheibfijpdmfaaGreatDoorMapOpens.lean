/-
  What the listed variable gives; arguments that are cells and rectangles, opened and shut. Arguments that are shapes, opened and shut. Arguments that are maps, opened.
-/
import Derived.Test.YtoheibfijpdmfaaGreatDoorStep
import Derived.Test.YtoheibfijpdmfaaGreatDoorFoot
import Derived.ProofKit
import Derived.LaidMore
import Derived.OpenShut
import Derived.Stop.Joined
import Derived.Deep.Strs
import Derived.Test.YtoheibfijpdmfaaGreatDoorNew
import Derived.Deep.Slices
import Derived.Lib.SmallJoins
namespace Go.Proofs.YtoheibfijpdmfaaGreatDoor
open Go.ChangeShapes Go.WideShapes Go.ChangeAt Go.WideMaps Go.WideElems Go.RowKit Go.Deep
set_option linter.unusedVariables false
set_option maxRecDepth 100000
abbrev laid1 : List (String × DataW Unit) := [("phalanx/cell.offsets", Rows.laid_phalanx_cell_offsets), ("phalanx/class.grounds", Rows.laid_phalanx_class_grounds)]
theorem own : ownKnob Tryz.prog.godebug = none := by kernel_rfl
theorem gOffs : Tryz.prog.globalNamed "phalanx/cell.offsets" = some 0 := by kernel_rfl
theorem gGrnd : Tryz.prog.globalNamed "phalanx/class.grounds" = some 1 := by kernel_rfl
theorem tGrnd : (Tryz.prog.globals[1]?).map (·.type) = some 152 := by kernel_rfl
theorem c5 : Tryz.prog.cellsOf 5 = 1 := by kernel_rfl
theorem tOffs : (Tryz.prog.globals[0]?).map (·.type) = some 144 := by kernel_rfl
theorem c3 : Tryz.prog.cellsOf 3 = 1 := by kernel_rfl
theorem c23 : Tryz.prog.cellsOf 46 = 2 := by kernel_rfl
theorem c34 : Tryz.prog.cellsOf 48 = 4 := by kernel_rfl
theorem c54 : Tryz.prog.cellsOf 144 = 16 := by kernel_rfl
/-- The door's own heap meets the condition. -/
theorem door_met (os : Os) (args : Array Value) : laidMetH Tryz.prog laid1 ((World.doorLaid Tryz.prog 400 os).forCall (fun _ _ => 0) ⟨#[], args, []⟩).memory :=
  laidMetH_of_parts3 (fuel := 8) (laidMet_of_run' 8 (by kernel_rfl) (by kernel_rfl)) (by kernel_rfl) (by kernel_rfl)
/-- Two cells that read as a Cell. -/
theorem cell_of {H : Type} {enc : TypeId × Value → H} {W : World} {base : Nat} {sp : Nat → Bool} {held : Bool} {fuel : Nat} {cs : List Value} {z : DataW H × List MemPlace} (h : DataW.trod enc Tryz.prog W base sp held fuel 46 cs = some z) :
    ∃ x y : Int, cs = [.int .i64 x, .int .i64 y] ∧ z = (.agg [.lit (.int .i64 x), .lit (.int .i64 y)], []) ∧ (Lit.int .i64 x).wf = true ∧ (Lit.int .i64 y).wf = true := by
  obtain ⟨y0, y1, n, rfl, hl, h0, h1⟩ := trod_struct2 Tryz.underlying46 h
  obtain ⟨a, e0, rfl, w0⟩ := DataW.trod_int Tryz.underlying3 h0
  obtain ⟨b, e1, rfl, w1⟩ := DataW.trod_int Tryz.underlying3 h1
  rw [c23] at hl
  match cs, hl, e0, e1 with
  | [u, v], _, e0, e1 =>
    simp [c3] at e0 e1
    subst e0; subst e1
    exact ⟨a, b, rfl, by simp, w0, w1⟩
def offsL : List (DataW Unit) := [.agg [.lit (.int .i64 1), .lit (.int .i64 0)], .agg [.lit (.int .i64 0), .lit (.int .i64 1)], .agg [.lit (.int .i64 (-1)), .lit (.int .i64 0)], .agg [.lit (.int .i64 0), .lit (.int .i64 (-1))], .agg [.lit (.int .i64 1), .lit (.int .i64 1)], .agg [.lit (.int .i64 (-1)), .lit (.int .i64 1)], .agg [.lit (.int .i64 (-1)), .lit (.int .i64 (-1))], .agg [.lit (.int .i64 1), .lit (.int .i64 (-1))]]
theorem offsL_at (k : Nat) (hk : k < 8) : offsL[k]? = some (.agg [.lit (.int .i64 (dX k)), .lit (.int .i64 (dY k))]) := by
  match k, hk with
  | 0, _ | 1, _ | 2, _ | 3, _ | 4, _ | 5, _ | 6, _ | 7, _ => rfl
/-- From the row's condition to what the walks ask. -/
theorem offs_of_laid {W : World} (h : laidMetH Tryz.prog laid1 W) : Offs W := by
  rw [MakeChecks.laidMetH_plain _ _ _ (by kernel_rfl)] at h
  obtain ⟨ps, ⟨g0, t0, cs0, f0, p0, q0, hg0, ht0, hv0, hd0, _, _⟩, _, _⟩ := h
  obtain rfl := Option.some.inj (gOffs.symm.trans hg0)
  obtain rfl := Option.some.inj (tOffs.symm.trans ht0)
  obtain ⟨xs, m1, rfl, hx1, hlen, hn, hel⟩ := DataW.trod_array Tryz.underlying144 hd0
  simp only [Prod.mk.injEq] at hx1
  have hL : offsL = xs.map (·.1) := by
    have := hx1.1
    simp only [Rows.laid_phalanx_cell_offsets, DataW.agg.injEq] at this
    exact this
  have hcells : ∀ k : Nat, k < 8 → W.cell? ⟨0, k * 2, none⟩ = some (.int .i64 (dX k)) ∧ W.cell? ⟨0, k * 2 + 1, none⟩ = some (.int .i64 (dY k)) := by
    intro k hk
    have hk' := hel k hk
    rw [c23] at hk'
    obtain ⟨z, hz⟩ : ∃ z, xs[k]? = some z := ⟨xs[k]'(by omega), List.getElem?_eq_getElem (by omega)⟩
    rw [hz] at hk'
    obtain ⟨x, y, hcs, rfl, _, _⟩ := cell_of hk'
    have h1 := offsL_at k hk
    rw [hL] at h1
    simp only [List.getElem?_map, hz, Option.map_some, Option.some.injEq, DataW.agg.injEq, List.cons.injEq, DataW.lit.injEq, Lit.int.injEq, true_and, and_true] at h1
    obtain ⟨rfl, rfl⟩ := h1
    have e0 : cs0[k * 2]? = some (.int .i64 (dX k)) := by
      have := congrArg (·[0]?) hcs
      simpa [List.getElem?_take, List.getElem?_drop] using this
    have e1 : cs0[k * 2 + 1]? = some (.int .i64 (dY k)) := by
      have := congrArg (·[1]?) hcs
      simpa [List.getElem?_take, List.getElem?_drop] using this
    exact ⟨(World.var?_cell hg0 hv0 (k * 2)).trans e0, (World.var?_cell hg0 hv0 (k * 2 + 1)).trans e1⟩
  exact ⟨World.block_lt_of_cell? W _ (hcells 0 (by decide)).1, hcells⟩
def grndL : List (DataW Unit) := [.lit (.int .u8 3), .lit (.int .u8 1), .lit (.int .u8 4), .lit (.int .u8 5)]
theorem grndL_at (k : Nat) (hk : k < 4) : grndL[k]? = some (.lit (.int .u8 (grN k))) := by
  match k, hk with
  | 0, _ | 1, _ | 2, _ | 3, _ => rfl
theorem grnd_of_laid {W : World} (h : laidMetH Tryz.prog laid1 W) : Grnd W := by
  rw [MakeChecks.laidMetH_plain _ _ _ (by kernel_rfl)] at h
  obtain ⟨ps, ⟨_, _, _, _, _, _, _, _, _, _, ⟨g0, t0, cs0, f0, p0, q0, hg0, ht0, hv0, hd0, _, _⟩, _⟩, _, _⟩ := h
  obtain rfl := Option.some.inj (gGrnd.symm.trans hg0)
  obtain rfl := Option.some.inj (tGrnd.symm.trans ht0)
  obtain ⟨xs, m1, rfl, hx1, hlen, hn, hel⟩ := DataW.trod_array Tryz.underlying152 hd0
  simp only [Prod.mk.injEq] at hx1
  have hL : grndL = xs.map (·.1) := by
    have := hx1.1
    simp only [Rows.laid_phalanx_class_grounds, DataW.agg.injEq] at this
    exact this
  have hcells : ∀ k : Nat, k < 4 → W.cell? ⟨1, k, none⟩ = some (.int .u8 (grN k)) := by
    intro k hk
    have hk' := hel k hk
    rw [c5] at hk'
    obtain ⟨z, hz⟩ : ∃ z, xs[k]? = some z := ⟨xs[k]'(by omega), List.getElem?_eq_getElem (by omega)⟩
    rw [hz] at hk'
    obtain ⟨a, hcs, rfl, _⟩ := DataW.trod_int Tryz.underlying5 hk'
    have h1 := grndL_at k hk
    rw [hL] at h1
    simp only [List.getElem?_map, hz, Option.map_some, Option.some.injEq, DataW.lit.injEq, Lit.int.injEq, true_and] at h1
    subst h1
    have e0 : cs0[k]? = some (.int .u8 (grN k)) := by
      have := congrArg (·[0]?) hcs
      simpa [List.getElem?_take, List.getElem?_drop] using this
    exact (World.var?_cell hg0 hv0 k).trans e0
  exact ⟨World.block_lt_of_cell? W _ (hcells 0 (by decide)), hcells⟩
section
variable {H : Type} {enc : TypeId × Value → H} {W : World}
theorem open_cell {base b0 : Nat} {sp : Nat → Bool} {held : Bool} {r : Reach} {v : Value} {d : DataW H} {p : List MemPlace} (hv : Value.okWide Tryz.prog W r b0 46 v) (h : DataW.Trod enc Tryz.prog W base sp held 46 v d p) :
    ∃ x y : Int, v = .agg #[.int .i64 x, .int .i64 y] ∧ d = .agg [.lit (.int .i64 x), .lit (.int .i64 y)] ∧ p = [] ∧ (Lit.int .i64 x).wf = true ∧ (Lit.int .i64 y).wf = true := by
  obtain ⟨cs, rfl, hsz⟩ := okWide_struct Tryz.underlying46 hv
  obtain ⟨fuel, hf⟩ := h
  obtain ⟨x, y, hcs, hz, wx, wy⟩ := cell_of hf
  simp only [Prod.mk.injEq] at hz
  obtain ⟨rfl, rfl⟩ := hz
  refine ⟨x, y, ?_, rfl, rfl, wx, wy⟩
  obtain ⟨l⟩ := cs
  simp [Value.cells] at hcs
  subst hcs
  rfl
theorem cell_back {base : Nat} {sp : Nat → Bool} {held : Bool} {x y : Int} (wx : (Lit.int .i64 x).wf = true) (wy : (Lit.int .i64 y).wf = true) (m : Nat) :
    DataW.trod enc Tryz.prog W base sp held (m + 1 + 1) 46 [.int .i64 x, .int .i64 y] = some (.agg [.lit (.int .i64 x), .lit (.int .i64 y)], []) := by
  have := trod_struct2_mk (enc := enc) (w := W) (base := base) (spare := sp) (held := held) (n := m + 1) (cs := [.int .i64 x, .int .i64 y]) (y0 := (.lit (.int .i64 x), [])) (y1 := (.lit (.int .i64 y), [])) Tryz.underlying46 (by simp [c23])
    (by simpa [c3] using trod_int_mk m Tryz.underlying3 wx) (by simpa [c3] using trod_int_mk m Tryz.underlying3 wy)
  simpa using this
theorem shut_cell {base : Nat} {sp : Nat → Bool} {held : Bool} {x y : Int} (wx : (Lit.int .i64 x).wf = true) (wy : (Lit.int .i64 y).wf = true) :
    DataW.Trod enc Tryz.prog W base sp held 46 (.agg #[.int .i64 x, .int .i64 y]) (.agg [.lit (.int .i64 x), .lit (.int .i64 y)]) [] := ⟨2, by simpa [Value.cells] using cell_back wx wy 0⟩
/-- Four cells that read as a Rect. -/
theorem rect_of {base : Nat} {sp : Nat → Bool} {held : Bool} {fuel : Nat} {cs : List Value} {z : DataW H × List MemPlace} (h : DataW.trod enc Tryz.prog W base sp held fuel 48 cs = some z) :
    ∃ x y a b : Int, cs = [.int .i64 x, .int .i64 y, .int .i64 a, .int .i64 b] ∧ z = (.agg [.agg [.lit (.int .i64 x), .lit (.int .i64 y)], .lit (.int .i64 a), .lit (.int .i64 b)], []) ∧ ((Lit.int .i64 x).wf = true ∧ (Lit.int .i64 y).wf = true) ∧ (Lit.int .i64 a).wf = true ∧ (Lit.int .i64 b).wf = true := by
  obtain ⟨y0, y1, y2, n, rfl, hl, h0, h1, h2⟩ := trod_struct3 Tryz.underlying48 h
  obtain ⟨x, y, e0, rfl, w0, w0'⟩ := cell_of h0
  obtain ⟨a, e1, rfl, w1⟩ := DataW.trod_int Tryz.underlying3 h1
  obtain ⟨b, e2, rfl, w2⟩ := DataW.trod_int Tryz.underlying3 h2
  rw [c34] at hl
  match cs, hl, e0, e1, e2 with
  | [u, v, s, t], _, e0, e1, e2 =>
    simp [c3, c23] at e0 e1 e2
    obtain ⟨rfl, rfl⟩ := e0
    subst e1; subst e2
    exact ⟨x, y, a, b, rfl, by simp, ⟨w0, w0'⟩, w1, w2⟩
theorem rect_back {base : Nat} {sp : Nat → Bool} {held : Bool} {x y a b : Int} (h1 : (Lit.int .i64 x).wf = true ∧ (Lit.int .i64 y).wf = true) (h2 : (Lit.int .i64 a).wf = true ∧ (Lit.int .i64 b).wf = true) (m : Nat) :
    DataW.trod enc Tryz.prog W base sp held (m + 1 + 1 + 1) 48 [.int .i64 x, .int .i64 y, .int .i64 a, .int .i64 b] = some (.agg [.agg [.lit (.int .i64 x), .lit (.int .i64 y)], .lit (.int .i64 a), .lit (.int .i64 b)], []) := by
  have := trod_struct3_mk (enc := enc) (w := W) (base := base) (spare := sp) (held := held) (n := m + 1 + 1) (cs := [.int .i64 x, .int .i64 y, .int .i64 a, .int .i64 b]) (y0 := (.agg [.lit (.int .i64 x), .lit (.int .i64 y)], [])) (y1 := (.lit (.int .i64 a), [])) (y2 := (.lit (.int .i64 b), [])) Tryz.underlying48 (by simp [c34])
    (by simpa [c23] using cell_back h1.1 h1.2 m) (by simpa [c3] using trod_int_mk (m + 1) Tryz.underlying3 h2.1) (by simpa [c3] using trod_int_mk (m + 1) Tryz.underlying3 h2.2)
  simpa using this
abbrev rectV (x y a b : Int) : Value := .agg #[.int .i64 x, .int .i64 y, .int .i64 a, .int .i64 b]
abbrev rectD {H : Type} (x y a b : Int) : DataW H := .agg [.agg [.lit (.int .i64 x), .lit (.int .i64 y)], .lit (.int .i64 a), .lit (.int .i64 b)]
theorem open_rect {base b0 : Nat} {sp : Nat → Bool} {held : Bool} {r : Reach} {v : Value} {d : DataW H} {p : List MemPlace} (hv : Value.okWide Tryz.prog W r b0 48 v) (h : DataW.Trod enc Tryz.prog W base sp held 48 v d p) :
    ∃ x y a b : Int, v = rectV x y a b ∧ d = rectD x y a b ∧ p = [] ∧ ((Lit.int .i64 x).wf = true ∧ (Lit.int .i64 y).wf = true) ∧ (Lit.int .i64 a).wf = true ∧ (Lit.int .i64 b).wf = true := by
  obtain ⟨cs, rfl, hsz⟩ := okWide_struct Tryz.underlying48 hv
  obtain ⟨fuel, hf⟩ := h
  obtain ⟨x, y, a, b, hcs, hz, h1, h2⟩ := rect_of hf
  simp only [Prod.mk.injEq] at hz
  obtain ⟨rfl, rfl⟩ := hz
  refine ⟨x, y, a, b, ?_, rfl, rfl, h1, h2⟩
  obtain ⟨l⟩ := cs
  simp [Value.cells] at hcs
  subst hcs
  rfl
theorem shut_rect {base : Nat} {sp : Nat → Bool} {held : Bool} {x y a b : Int} (h1 : (Lit.int .i64 x).wf = true ∧ (Lit.int .i64 y).wf = true) (h2 : (Lit.int .i64 a).wf = true ∧ (Lit.int .i64 b).wf = true) :
    DataW.Trod enc Tryz.prog W base sp held 48 (rectV x y a b) (rectD x y a b) [] := ⟨3, by simpa [Value.cells] using rect_back h1 h2 0⟩
end
end Go.Proofs.YtoheibfijpdmfaaGreatDoor
namespace Go.Proofs.YtoheibfijpdmfaaGreatDoor
open Go.ChangeShapes Go.WideShapes Go.ChangeAt Go.WideMaps Go.WideElems Go.RowKit Go.Deep
set_option linter.unusedVariables false
set_option maxRecDepth 100000
theorem cSh : Tryz.prog.cellsOf 27 = 2 := by kernel_rfl
/-- Two cells that read as a Shape. -/
theorem shape_of {H : Type} {enc : TypeId × Value → H} {W : World} {base : Nat} {sp : Nat → Bool} {held : Bool} {fuel : Nat} {cs : List Value} {z : DataW H × List MemPlace} (h : DataW.trod enc Tryz.prog W base sp held fuel 27 cs = some z) :
    ∃ x y : Int, cs = [.int .i64 x, .int .i64 y] ∧ z = (.agg [.lit (.int .i64 x), .lit (.int .i64 y)], []) ∧ (Lit.int .i64 x).wf = true ∧ (Lit.int .i64 y).wf = true := by
  obtain ⟨y0, y1, n, rfl, hl, h0, h1⟩ := trod_struct2 Tryz.underlying27 h
  obtain ⟨a, e0, rfl, w0⟩ := DataW.trod_int Tryz.underlying3 h0
  obtain ⟨b, e1, rfl, w1⟩ := DataW.trod_int Tryz.underlying3 h1
  rw [cSh] at hl
  match cs, hl, e0, e1 with
  | [u, v], _, e0, e1 =>
    simp [c3] at e0 e1
    subst e0; subst e1
    exact ⟨a, b, rfl, by simp, w0, w1⟩
section
variable {H : Type} {enc : TypeId × Value → H} {W : World}
theorem open_shape {base b0 : Nat} {sp : Nat → Bool} {held : Bool} {r : Reach} {v : Value} {d : DataW H} {p : List MemPlace} (hv : Value.okWide Tryz.prog W r b0 27 v) (h : DataW.Trod enc Tryz.prog W base sp held 27 v d p) :
    ∃ x y : Int, v = .agg #[.int .i64 x, .int .i64 y] ∧ d = .agg [.lit (.int .i64 x), .lit (.int .i64 y)] ∧ p = [] ∧ (Lit.int .i64 x).wf = true ∧ (Lit.int .i64 y).wf = true := by
  obtain ⟨cs, rfl, hsz⟩ := okWide_struct Tryz.underlying27 hv
  obtain ⟨fuel, hf⟩ := h
  obtain ⟨x, y, hcs, hz, wx, wy⟩ := shape_of hf
  simp only [Prod.mk.injEq] at hz
  obtain ⟨rfl, rfl⟩ := hz
  refine ⟨x, y, ?_, rfl, rfl, wx, wy⟩
  obtain ⟨l⟩ := cs
  simp [Value.cells] at hcs
  subst hcs
  rfl
theorem shape_back {base : Nat} {sp : Nat → Bool} {held : Bool} {x y : Int} (wx : (Lit.int .i64 x).wf = true) (wy : (Lit.int .i64 y).wf = true) (m : Nat) :
    DataW.trod enc Tryz.prog W base sp held (m + 1 + 1) 27 [.int .i64 x, .int .i64 y] = some (.agg [.lit (.int .i64 x), .lit (.int .i64 y)], []) := by
  have := trod_struct2_mk (enc := enc) (w := W) (base := base) (spare := sp) (held := held) (n := m + 1) (cs := [.int .i64 x, .int .i64 y]) (y0 := (.lit (.int .i64 x), [])) (y1 := (.lit (.int .i64 y), [])) Tryz.underlying27 (by simp [cSh])
    (by simpa [c3] using trod_int_mk m Tryz.underlying3 wx) (by simpa [c3] using trod_int_mk m Tryz.underlying3 wy)
  simpa using this
theorem shut_shape {base : Nat} {sp : Nat → Bool} {held : Bool} {x y : Int} (wx : (Lit.int .i64 x).wf = true) (wy : (Lit.int .i64 y).wf = true) :
    DataW.Trod enc Tryz.prog W base sp held 27 (.agg #[.int .i64 x, .int .i64 y]) (.agg [.lit (.int .i64 x), .lit (.int .i64 y)]) [] := ⟨2, by simpa [Value.cells] using shape_back wx wy 0⟩
end
end Go.Proofs.YtoheibfijpdmfaaGreatDoor
namespace Go.Proofs.YtoheibfijpdmfaaGreatDoor
open Go.ChangeShapes Go.WideShapes Go.ChangeAt Go.WideMaps Go.WideElems Go.RowKit Go.Deep Go.Joins
set_option linter.unusedVariables false
set_option maxRecDepth 100000
theorem cBd : Tryz.prog.cellsOf 50 = 5 := by kernel_rfl
theorem cMp : Tryz.prog.cellsOf 25 = 4 := by kernel_rfl
theorem cSl : Tryz.prog.cellsOf 22 = 1 := by kernel_rfl
theorem cSl2 : Tryz.prog.cellsOf 23 = 1 := by kernel_rfl
section
variable {H : Type} {enc : TypeId × Value → H} {W : World} {base : Nat} {sp : Nat → Bool} {held : Bool}
theorem opened_tiles {fuel : Nat} {v : Value} {x : DataW H × List MemPlace} (h : DataW.trod enc Tryz.prog W base sp held fuel 22 [v] = some x) : ∃ l, TlR W v l ∧ ∀ n ∈ l, n < 256 := by
  rcases open_ints Tryz.underlying22 Tryz.underlying5 (by kernel_rfl) h with ⟨hcs, hx⟩ | ⟨a, l, c, zs, hcs, _, hl, hm, hz, hx, hcell, hwz⟩
  · simp at hcs
    subst hcs
    exact ⟨[], ⟨none, 0, rfl, Nat.le_refl _, by decide, fun _ => ⟨rfl, rfl⟩, fun i x hx => by simp at hx⟩, fun n hn => by simp at hn⟩
  · simp at hcs
    subst hcs
    have hlz : l ≤ zs.length := by rw [hz]; split <;> omega
    have hl2 : (zs.take l).length = l := by rw [List.length_take]; omega
    have hbz : ∀ z ∈ zs, 0 ≤ z ∧ z < 256 := fun z hz => by have := bounds_u8 (hwz z hz); omega
    refine ⟨(zs.take l).map Int.toNat, ⟨some a, c, by rw [List.length_map, hl2], by rw [List.length_map, hl2]; exact hl, by rw [List.length_map, hl2]; omega, (fun h => by cases h), fun i x hx => ?_⟩, fun n hn => ?_⟩
    · rw [List.getElem?_map] at hx
      cases hi : (zs.take l)[i]? with
      | none => rw [hi] at hx; cases hx
      | some z =>
        rw [hi] at hx
        cases hx
        have hil : i < l := by have := (List.getElem?_eq_some_iff.1 hi).1; omega
        rw [List.getElem?_take_of_lt hil] at hi
        have hci := hcell i (by omega)
        rw [List.getD_eq_getElem?_getD, hi] at hci
        obtain ⟨b, o, s⟩ := a
        obtain rfl : s = none := by simpa [Addr.add] using World.cell?_spot (hcell 0 (by omega))
        rw [Addr.add_lit] at hci
        have hb := hbz z (List.mem_of_getElem? hi)
        refine ⟨b, o, rfl, World.block_lt_of_cell? _ _ hci, ?_⟩
        rw [hci]
        simp; omega
    · obtain ⟨z, hz, rfl⟩ := List.mem_map.1 hn
      have := hbz z (List.mem_of_mem_take hz)
      omega
theorem bd_of {fuel : Nat} {cs : List Value} {z : DataW H × List MemPlace} (h : DataW.trod enc Tryz.prog W base sp held fuel 50 cs = some z) : ∃ t : Bd, cs = [.int .i64 t.id, .int .i64 t.x, .int .i64 t.y, .int .i64 t.a, .int .i64 t.b] := by
  obtain ⟨y0, y1, n, rfl, hl, h0, h1⟩ := trod_struct2 Tryz.underlying50 h
  obtain ⟨i, e0, rfl, w0⟩ := DataW.trod_int Tryz.underlying3 h0
  obtain ⟨x, y, a, b, e1, rfl, _, _⟩ := rect_of h1
  rw [cBd] at hl
  match cs, hl, e0, e1 with
  | [q, u, v, s, t], _, e0, e1 =>
    simp [c3, c34] at e0 e1
    subst e0
    obtain ⟨rfl, rfl, rfl, rfl⟩ := e1
    exact ⟨⟨i, x, y, a, b⟩, rfl⟩
theorem five_cells {b o : Nat} {c0 c1 c2 c3 c4 : Value} (h : W.cells? base ⟨b, o, none⟩ 5 = some [c0, c1, c2, c3, c4]) :
    W.cell? ⟨b, o, none⟩ = some c0 ∧ W.cell? ⟨b, o + 1, none⟩ = some c1 ∧ W.cell? ⟨b, o + 2, none⟩ = some c2 ∧ W.cell? ⟨b, o + 3, none⟩ = some c3 ∧ W.cell? ⟨b, o + 4, none⟩ = some c4 := by
  obtain ⟨_, _, hc⟩ := World.cells?_some h
  have h0 := hc 0 (by omega)
  have h1 := hc 1 (by omega)
  have h2 := hc 2 (by omega)
  have h3 := hc 3 (by omega)
  have h4 := hc 4 (by omega)
  simp only [Addr.add_lit] at h0 h1 h2 h3 h4
  exact ⟨h0, h1, h2, h3, h4⟩
theorem opened_blds {fuel : Nat} {v : Value} {x : DataW H × List MemPlace} (h : DataW.trod enc Tryz.prog W base sp held fuel 23 [v] = some x) : ∃ L, BdR W v L := by
  rcases open_slice Tryz.underlying23 h with ⟨hcs, hx⟩ | ⟨a, len, cap, m, n, D, Pl, hcs, hb, hl, hm, hmm, hx, hel⟩
  · simp only [List.cons.injEq, and_true] at hcs
    subst hcs
    exact ⟨[], BdR.nil W⟩
  · simp only [List.cons.injEq, and_true] at hcs
    subst hcs
    have hlm : len ≤ m := by rw [hmm]; split <;> omega
    rw [cBd] at hel
    have hit : Inhabited Bd := ⟨⟨0, 0, 0, 0, 0⟩⟩
    obtain ⟨T, hT⟩ := choose_lt (α := Bd) (p := fun i t => BdAtR W (some a) i t) (n := len) (fun i hi => by
      obtain ⟨cs', h1, h2⟩ := hel i (by omega)
      obtain ⟨t, rfl⟩ := bd_of h2
      obtain ⟨cs0, g1, g2⟩ := hel 0 (by omega)
      obtain ⟨t0, rfl⟩ := bd_of g2
      have hc0 := (World.cells?_some g1).2.2 0 (by omega)
      obtain ⟨b, o, s⟩ := a
      have hsp : s = none := by
        have := World.cell?_spot (hc0.trans rfl)
        simpa [Addr.add] using this
      subst hsp
      rw [Addr.add_lit] at h1
      have h5 := five_cells h1
      exact ⟨t, b, o, rfl, World.block_lt_of_cell? _ _ h5.1, h5.1, h5.2.1, h5.2.2.1, h5.2.2.2.1, h5.2.2.2.2⟩)
    have hget : ∀ i t, ((List.range len).map T)[i]? = some t → i < len ∧ t = T i := by
      intro i t ht
      simp only [List.getElem?_map, Option.map_eq_some_iff] at ht
      obtain ⟨j, hj, rfl⟩ := ht
      obtain ⟨h1, h2⟩ := List.getElem?_eq_some_iff.1 hj
      simp only [List.length_range] at h1
      simp only [List.getElem_range] at h2
      subst h2
      exact ⟨h1, rfl⟩
    refine ⟨(List.range len).map T, some a, cap, by simp, by simpa using hl, by simp; omega, (fun h => by cases h), fun i t ht => ?_⟩
    obtain ⟨h1, rfl⟩ := hget i t ht
    exact hT i h1
/-- A map that was read. -/
theorem opened_map {b0 : Nat} {r : Reach} {v : Value} {d : DataW H} {p : List MemPlace} (hv : Value.okWide Tryz.prog W r b0 25 v) (h : DataW.Trod enc Tryz.prog W base sp held 25 v d p) :
    ∃ (Wd Hd : Int) (tv bv : Value) (tl : List Nat) (L : List Bd), v = mp Wd Hd tv bv ∧ TlR W tv tl ∧ (∀ n ∈ tl, n < 256) ∧ BdR W bv L := by
  obtain ⟨cs, rfl, hsz⟩ := okWide_struct Tryz.underlying25 hv
  obtain ⟨fuel, hf⟩ := h
  obtain ⟨y0, y1, y2, y3, n, hx, hl, e0, e1, e2, e3⟩ := trod_struct4 Tryz.underlying25 hf
  rw [cMp] at hl
  obtain ⟨l⟩ := cs
  simp only [Value.cells] at hl e0 e1 e2 e3
  match l, hl with
  | [q0, q1, q2, q3], _ =>
    simp only [c3, cSl, cSl2, List.drop_zero, List.drop_succ_cons, List.take_succ_cons, List.take_zero] at e0 e1 e2 e3
    obtain ⟨x0, r0, -, -⟩ := DataW.trod_int Tryz.underlying3 e0
    obtain ⟨x1, r1, -, -⟩ := DataW.trod_int Tryz.underlying3 e1
    simp at r0 r1
    subst r0
    subst r1
    obtain ⟨tl, ht, hb⟩ := opened_tiles e2
    obtain ⟨L, hL⟩ := opened_blds e3
    exact ⟨x0, x1, q2, q3, tl, L, rfl, ht, hb, hL⟩
end
end Go.Proofs.YtoheibfijpdmfaaGreatDoor
