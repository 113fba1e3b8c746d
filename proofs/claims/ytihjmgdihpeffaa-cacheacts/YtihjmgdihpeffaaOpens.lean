/-
  Arguments that are a key, cells, or acts, opened.
-/
import Derived.Test.YtihjmgdihpeffaaRd
import Derived.ProofKit
import Derived.OpenShut
import Derived.Lib.SmallJoins
import Derived.ChangeOld
import Derived.Carry
import Derived.Deep.Strs
import Derived.SizedLaws
namespace Go.Proofs.Ytihjmgdihpeffaa
open Go.ChangeShapes Go.WideShapes Go.ChangeAt Go.WideMaps Go.WideElems Go.RowKit Go.Deep Go.Joins
set_option linter.unusedVariables false
set_option linter.unusedSimpArgs false
set_option maxRecDepth 100000
theorem own : ownKnob Try.prog.godebug = none := by kernel_rfl
theorem c39 : Try.prog.cellsOf 39 = 2 := by kernel_rfl
theorem c37 : Try.prog.cellsOf 37 = 1 := by kernel_rfl
theorem c4 : Try.prog.cellsOf 4 = 1 := by kernel_rfl
theorem c41 : Try.prog.cellsOf 41 = 10 := by kernel_rfl
theorem bytes34 : Try.prog.bytesOf 34 = 16 := by kernel_rfl
section
variable {H : Type} {enc : TypeId × Value → H} {W : World} {base : Nat} {sp : Nat → Bool} {held : Bool} {fuel : Nat} {cs : List Value} {z : DataW H × List MemPlace}
theorem cell_of (h : DataW.trod enc Try.prog W base sp held fuel 34 cs = some z) : ∃ x y : Int, cs = [.int .i64 x, .int .i64 y] ∧ W64 x ∧ W64 y := by
  obtain ⟨y0, y1, n, rfl, hl, h0, h1⟩ := trod_struct2 Try.underlying34 h
  obtain ⟨a, e0, rfl, w0⟩ := DataW.trod_int Try.underlying3 h0
  obtain ⟨b, e1, rfl, w1⟩ := DataW.trod_int Try.underlying3 h1
  rw [c34] at hl
  match cs, hl, e0, e1 with
  | [u, v], _, e0, e1 =>
    simp [c3] at e0 e1
    subst e0; subst e1
    exact ⟨a, b, rfl, w0, w1⟩
theorem shape_of (h : DataW.trod enc Try.prog W base sp held fuel 32 cs = some z) : ∃ x y : Int, cs = [.int .i64 x, .int .i64 y] ∧ W64 x ∧ W64 y := by
  obtain ⟨y0, y1, n, rfl, hl, h0, h1⟩ := trod_struct2 Try.underlying32 h
  obtain ⟨a, e0, rfl, w0⟩ := DataW.trod_int Try.underlying3 h0
  obtain ⟨b, e1, rfl, w1⟩ := DataW.trod_int Try.underlying3 h1
  rw [c32] at hl
  match cs, hl, e0, e1 with
  | [u, v], _, e0, e1 =>
    simp [c3] at e0 e1
    subst e0; subst e1
    exact ⟨a, b, rfl, w0, w1⟩
theorem key_of (h : DataW.trod enc Try.prog W base sp held fuel 36 cs = some z) : ∃ q : K6, cs = kCs q ∧ W6 q := by
  obtain ⟨y0, y1, y2, n, rfl, hl, h0, h1, h2⟩ := trod_struct3 Try.underlying36 h
  obtain ⟨a, b, e0, w0, w1⟩ := shape_of h0
  obtain ⟨c, d, e1, w2, w3⟩ := cell_of h1
  obtain ⟨e, f, e2, w4, w5⟩ := cell_of h2
  rw [c36] at hl
  match cs, hl, e0, e1, e2 with
  | [u0, u1, u2, u3, u4, u5], _, e0, e1, e2 =>
    simp [c32, c34] at e0 e1 e2
    obtain ⟨rfl, rfl⟩ := e0
    obtain ⟨rfl, rfl⟩ := e1
    obtain ⟨rfl, rfl⟩ := e2
    exact ⟨(a, b, c, d, e, f), rfl, w0, w1, w2, w3, w4, w5⟩
theorem open_key {b0 : Nat} {r : Reach} {v : Value} {d : DataW H} {p : List MemPlace} (hv : Value.okWide Try.prog W r b0 36 v) (h : DataW.Trod enc Try.prog W base sp held 36 v d p) :
    ∃ q : K6, v = kv q ∧ W6 q := by
  obtain ⟨cs, rfl, hsz⟩ := okWide_struct Try.underlying36 hv
  obtain ⟨fuel, hf⟩ := h
  obtain ⟨q, hcs, hq⟩ := key_of hf
  refine ⟨q, ?_, hq⟩
  obtain ⟨l⟩ := cs
  simp [Value.cells] at hcs
  subst hcs
  rfl
theorem two_cells {b o : Nat} {c0 c1 : Value} (h : W.cells? base ⟨b, o, none⟩ 2 = some [c0, c1]) : W.cell? ⟨b, o, none⟩ = some c0 ∧ W.cell? ⟨b, o + 1, none⟩ = some c1 := by
  obtain ⟨_, _, hc⟩ := World.cells?_some h
  have h0 := hc 0 (by omega)
  have h1 := hc 1 (by omega)
  simp only [Addr.add_lit] at h0 h1
  exact ⟨h0, h1⟩
theorem range_get {α : Type} {T : Nat → α} {len : Nat} : ∀ (i : Nat) t, ((List.range len).map T)[i]? = some t → i < len ∧ t = T i := by
  intro i t ht
  simp only [List.getElem?_map, Option.map_eq_some_iff] at ht
  obtain ⟨j, hj, rfl⟩ := ht
  obtain ⟨h1, h2⟩ := List.getElem?_eq_some_iff.1 hj
  simp only [List.length_range] at h1
  simp only [List.getElem_range] at h2
  subst h2
  exact ⟨h1, rfl⟩
theorem opened_cells {v : Value} (h : DataW.trod enc Try.prog W base sp held fuel 37 [v] = some z) : ∃ P, CeR W v P ∧ (P = [] ∨ ∃ elems spare, z.1 = .slice elems spare ∧ elems.length = P.length) := by
  rcases open_slice Try.underlying37 h with ⟨hcs, hx⟩ | ⟨a, len, cap, m, n, D, Pl, hcs, hb, hl, hm, hmm, hx, hel⟩
  · simp only [List.cons.injEq, and_true] at hcs
    subst hcs
    exact ⟨[], ⟨none, 0, rfl, Nat.le_refl _, by decide, fun _ => ⟨rfl, rfl⟩, fun i t h => by simp at h⟩, .inl rfl⟩
  · simp only [List.cons.injEq, and_true] at hcs
    subst hcs
    have hlm : len ≤ m := by rw [hmm]; split <;> omega
    rw [c34] at hel
    obtain ⟨T, hT⟩ := choose_lt (α := Int × Int) (p := fun i q => ∃ g o, some a = some ⟨g, o, none⟩ ∧ g < W.heap.size ∧ ∀ j u, (ceCs q)[j]? = some u → W.cell? ⟨g, o + i * 2 + j, none⟩ = some u) (n := len) (fun i hi => by
      obtain ⟨cs', h1, h2⟩ := hel i (by omega)
      obtain ⟨x, y, rfl, -, -⟩ := cell_of h2
      obtain ⟨cs0, g1, g2⟩ := hel 0 (by omega)
      obtain ⟨x0, y0, rfl, -, -⟩ := cell_of g2
      have hc0 := (World.cells?_some g1).2.2 0 (by omega)
      obtain ⟨b, o, s⟩ := a
      have hsp : s = none := by
        have := World.cell?_spot (hc0.trans rfl)
        simpa [Addr.add] using this
      subst hsp
      rw [Addr.add_lit] at h1
      have h5 := two_cells h1
      refine ⟨(x, y), b, o, rfl, World.block_lt_of_cell? _ _ h5.1, fun j u hu => ?_⟩
      match j, hu with
      | 0, hu => cases hu; exact h5.1
      | 1, hu => cases hu; exact h5.2
      | j + 2, hu => simp [ceCs] at hu)
    refine ⟨(List.range len).map T, ⟨some a, cap, by simp, by simpa using hl, by simp; omega, (fun h => by cases h), fun i t ht => ?_⟩, .inr ⟨_, _, congrArg Prod.fst hx, by simp⟩⟩
    obtain ⟨h1, rfl⟩ := range_get i t ht
    exact hT i h1
theorem opened_path {b0 : Nat} {r : Reach} {v : Value} {d : DataW H} {p : List MemPlace} (hv : Value.okWide Try.prog W r b0 37 v) (h : DataW.Trod enc Try.prog W base sp held 37 v d p) :
    ∃ P, CeR W v P ∧ (P = [] ∨ ∃ elems spare, d = .slice elems spare ∧ elems.length = P.length) := by
  obtain ⟨addr, len, cap, rfl⟩ := okWide_slice Try.underlying37 hv
  obtain ⟨fuel, hf⟩ := h
  exact opened_cells hf
end
end Go.Proofs.Ytihjmgdihpeffaa
