/-
  Arguments that are acts, opened.
-/
import Derived.Test.YtkodeopkgmichaaFeet
import Derived.ProofKit
import Derived.OpenShut
import Derived.Lib.SmallJoins
import Derived.ChangeOld
import Derived.Carry
import Derived.Deep.Strs
namespace Go.Proofs.Ytkodeopkgmichaa
open Go.ChangeShapes Go.WideShapes Go.ChangeAt Go.WideMaps Go.WideElems Go.RowKit Go.Deep Go.Joins
set_option linter.unusedVariables false
set_option maxRecDepth 100000
theorem own : ownKnob Try.prog.godebug = none := by kernel_rfl
theorem c3 : Try.prog.cellsOf 3 = 1 := by kernel_rfl
theorem c32 : Try.prog.cellsOf 32 = 2 := by kernel_rfl
theorem c34 : Try.prog.cellsOf 34 = 4 := by kernel_rfl
theorem c36 : Try.prog.cellsOf 36 = 6 := by kernel_rfl
section
variable {H : Type} {enc : TypeId × Value → H} {W : World} {base : Nat} {sp : Nat → Bool} {held : Bool} {fuel : Nat} {cs : List Value} {z : DataW H × List MemPlace}
theorem cell_of (h : DataW.trod enc Try.prog W base sp held fuel 32 cs = some z) : ∃ x y : Int, cs = [.int .i64 x, .int .i64 y] ∧ W64 x ∧ W64 y := by
  obtain ⟨y0, y1, n, rfl, hl, h0, h1⟩ := trod_struct2 Try.underlying32 h
  obtain ⟨a, e0, rfl, w0⟩ := DataW.trod_int Try.underlying3 h0
  obtain ⟨b, e1, rfl, w1⟩ := DataW.trod_int Try.underlying3 h1
  rw [c32] at hl
  match cs, hl, e0, e1 with
  | [u, v], _, e0, e1 =>
    simp [c3] at e0 e1
    subst e0; subst e1
    exact ⟨a, b, rfl, w0, w1⟩
theorem rect_of (h : DataW.trod enc Try.prog W base sp held fuel 34 cs = some z) : ∃ x y a b : Int, cs = [.int .i64 x, .int .i64 y, .int .i64 a, .int .i64 b] ∧ (W64 x ∧ W64 y) ∧ W64 a ∧ W64 b := by
  obtain ⟨y0, y1, y2, n, rfl, hl, h0, h1, h2⟩ := trod_struct3 Try.underlying34 h
  obtain ⟨x, y, e0, w0, w0'⟩ := cell_of h0
  obtain ⟨a, e1, rfl, w1⟩ := DataW.trod_int Try.underlying3 h1
  obtain ⟨b, e2, rfl, w2⟩ := DataW.trod_int Try.underlying3 h2
  rw [c34] at hl
  match cs, hl, e0, e1, e2 with
  | [u, v, s, t], _, e0, e1, e2 =>
    simp [c3, c32] at e0 e1 e2
    obtain ⟨rfl, rfl⟩ := e0
    subst e1; subst e2
    exact ⟨x, y, a, b, rfl, ⟨w0, w0'⟩, w1, w2⟩
/-- An act whose numbers are numbers of 64 bits. -/
structure Ac where
  d : Int
  i : Int
  x : Int
  y : Int
  a : Int
  b : Int
def Ac.row (t : Ac) : List Value := [.int .i64 t.d, .int .i64 t.i, .int .i64 t.x, .int .i64 t.y, .int .i64 t.a, .int .i64 t.b]
def Ac.ok (t : Ac) : Prop := W64 t.d ∧ W64 t.i ∧ W64 t.x ∧ W64 t.y ∧ W64 t.a ∧ W64 t.b
theorem act_of (h : DataW.trod enc Try.prog W base sp held fuel 36 cs = some z) : ∃ t : Ac, cs = t.row ∧ t.ok := by
  obtain ⟨y0, y1, y2, n, rfl, hl, h0, h1, h2⟩ := trod_struct3 Try.underlying36 h
  obtain ⟨d, e0, rfl, w0⟩ := DataW.trod_int Try.underlying3 h0
  obtain ⟨i, e1, rfl, w1⟩ := DataW.trod_int Try.underlying3 h1
  obtain ⟨x, y, a, b, e2, ⟨w2, w3⟩, w4, w5⟩ := rect_of h2
  rw [c36] at hl
  match cs, hl, e0, e1, e2 with
  | [o, q, u, v, s, t], _, e0, e1, e2 =>
    simp [c3, c34] at e0 e1 e2
    subst e0; subst e1
    obtain ⟨rfl, rfl, rfl, rfl⟩ := e2
    exact ⟨⟨d, i, x, y, a, b⟩, rfl, w0, w1, w2, w3, w4, w5⟩
theorem open_act {b0 : Nat} {r : Reach} {v : Value} {d : DataW H} {p : List MemPlace} (hv : Value.okWide Try.prog W r b0 36 v) (h : DataW.Trod enc Try.prog W base sp held 36 v d p) :
    ∃ t : Ac, v = .agg #[.int .i64 t.d, .int .i64 t.i, .int .i64 t.x, .int .i64 t.y, .int .i64 t.a, .int .i64 t.b] ∧ t.ok := by
  obtain ⟨cs, rfl, hsz⟩ := okWide_struct Try.underlying36 hv
  obtain ⟨fuel, hf⟩ := h
  obtain ⟨t, hcs, ht⟩ := act_of hf
  refine ⟨t, ?_, ht⟩
  obtain ⟨l⟩ := cs
  simp [Value.cells] at hcs
  subst hcs
  rfl
end
end Go.Proofs.Ytkodeopkgmichaa
