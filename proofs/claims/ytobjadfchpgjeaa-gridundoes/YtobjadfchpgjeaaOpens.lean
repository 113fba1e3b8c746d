/-
  Arguments that are buildings, opened.
-/
import Derived.Test.YtobjadfchpgjeaaSearch
import Derived.ProofKit
import Derived.OpenShut
import Derived.Lib.SmallJoins
import Derived.ChangeOld
import Derived.Carry
import Derived.Deep.Strs
namespace Go.Proofs.Ytobjadfchpgjeaa
open Go.ChangeShapes Go.WideShapes Go.ChangeAt Go.WideMaps Go.WideElems Go.RowKit Go.Deep Go.Joins
set_option linter.unusedVariables false
set_option maxRecDepth 100000
theorem own : ownKnob Try.prog.godebug = none := by kernel_rfl
theorem c3 : Try.prog.cellsOf 3 = 1 := by kernel_rfl
theorem c38 : Try.prog.cellsOf 38 = 2 := by kernel_rfl
theorem c43 : Try.prog.cellsOf 43 = 4 := by kernel_rfl
theorem c55 : Try.prog.cellsOf 55 = 5 := by kernel_rfl
section
variable {H : Type} {enc : TypeId × Value → H} {W : World} {base : Nat} {sp : Nat → Bool} {held : Bool} {fuel : Nat} {cs : List Value} {z : DataW H × List MemPlace}
theorem cell_of (h : DataW.trod enc Try.prog W base sp held fuel 38 cs = some z) : ∃ x y : Int, cs = [.int .i64 x, .int .i64 y] ∧ W64 x ∧ W64 y := by
  obtain ⟨y0, y1, n, rfl, hl, h0, h1⟩ := trod_struct2 Try.underlying38 h
  obtain ⟨a, e0, rfl, w0⟩ := DataW.trod_int Try.underlying3 h0
  obtain ⟨b, e1, rfl, w1⟩ := DataW.trod_int Try.underlying3 h1
  rw [c38] at hl
  match cs, hl, e0, e1 with
  | [u, v], _, e0, e1 =>
    simp [c3] at e0 e1
    subst e0; subst e1
    exact ⟨a, b, rfl, w0, w1⟩
theorem rect_of (h : DataW.trod enc Try.prog W base sp held fuel 43 cs = some z) : ∃ x y a b : Int, cs = [.int .i64 x, .int .i64 y, .int .i64 a, .int .i64 b] ∧ (W64 x ∧ W64 y) ∧ W64 a ∧ W64 b := by
  obtain ⟨y0, y1, y2, n, rfl, hl, h0, h1, h2⟩ := trod_struct3 Try.underlying43 h
  obtain ⟨x, y, e0, w0, w0'⟩ := cell_of h0
  obtain ⟨a, e1, rfl, w1⟩ := DataW.trod_int Try.underlying3 h1
  obtain ⟨b, e2, rfl, w2⟩ := DataW.trod_int Try.underlying3 h2
  rw [c43] at hl
  match cs, hl, e0, e1, e2 with
  | [u, v, s, t], _, e0, e1, e2 =>
    simp [c3, c38] at e0 e1 e2
    obtain ⟨rfl, rfl⟩ := e0
    subst e1; subst e2
    exact ⟨x, y, a, b, rfl, ⟨w0, w0'⟩, w1, w2⟩
/-- A building whose numbers are numbers of 64 bits. -/
def Bd.ok (t : Bd) : Prop := W64 t.id ∧ W64 t.x ∧ W64 t.y ∧ W64 t.a ∧ W64 t.b
theorem bd_of (h : DataW.trod enc Try.prog W base sp held fuel 55 cs = some z) : ∃ t : Bd, cs = t.cs ∧ t.ok := by
  obtain ⟨y0, y1, n, rfl, hl, h0, h1⟩ := trod_struct2 Try.underlying55 h
  obtain ⟨i, e0, rfl, w0⟩ := DataW.trod_int Try.underlying3 h0
  obtain ⟨x, y, a, b, e1, ⟨w1, w2⟩, w3, w4⟩ := rect_of h1
  rw [c55] at hl
  match cs, hl, e0, e1 with
  | [q, u, v, s, t], _, e0, e1 =>
    simp [c3, c43] at e0 e1
    subst e0
    obtain ⟨rfl, rfl, rfl, rfl⟩ := e1
    exact ⟨⟨i, x, y, a, b⟩, rfl, w0, w1, w2, w3, w4⟩
theorem open_bd {b0 : Nat} {r : Reach} {v : Value} {d : DataW H} {p : List MemPlace} (hv : Value.okWide Try.prog W r b0 55 v) (h : DataW.Trod enc Try.prog W base sp held 55 v d p) : ∃ t : Bd, v = t.v ∧ t.ok := by
  obtain ⟨cs, rfl, hsz⟩ := okWide_struct Try.underlying55 hv
  obtain ⟨fuel, hf⟩ := h
  obtain ⟨t, hcs, ht⟩ := bd_of hf
  refine ⟨t, ?_, ht⟩
  obtain ⟨l⟩ := cs
  simp [Value.cells] at hcs
  subst hcs
  rfl
end
end Go.Proofs.Ytobjadfchpgjeaa
