/-
  An argument that is two rectangles, opened and shut.
-/
import Derived.Test.YtebapnoaegdejaaDoorLaid
namespace Go.Proofs.YtebapnoaegdejaaDoor
open Go.ChangeShapes Go.WideShapes Go.ChangeAt Go.WideMaps Go.WideElems Go.RowKit Go.Deep
set_option linter.unusedVariables false
set_option maxRecDepth 100000
section
variable {H : Type} {enc : TypeId × Value → H} {W : World}
theorem okWide_arr {P : Program} {w : World} {r : Reach} {b0 : Nat} {t e : TypeId} {n : Nat} {v : Value} (ht : P.underlying t = some (.array n e)) (h : Value.okWide P w r b0 t v) : ∃ cs, v = .agg cs ∧ cs.size = P.cellsOf t := by
  simp only [Value.okWide, ht] at h
  obtain ⟨cs, h1, h2, _⟩ := h
  exact ⟨cs, h1, h2⟩
abbrev twoV (r0 r1 r2 r3 r4 r5 r6 r7 : Int) : Value := .agg #[.int .i64 r0, .int .i64 r1, .int .i64 r2, .int .i64 r3, .int .i64 r4, .int .i64 r5, .int .i64 r6, .int .i64 r7]
theorem list8 {cs : List Value} (h : cs.length = 8) {a b c d e f g i : Value} (h1 : cs.take 4 = [a, b, c, d]) (h2 : (cs.drop 4).take 4 = [e, f, g, i]) : cs = [a, b, c, d, e, f, g, i] := by
  have h3 : cs.drop 4 = [e, f, g, i] := by rw [← h2, List.take_of_length_le (by simp; omega)]
  rw [← List.take_append_drop 4 cs, h1, h3]; rfl
theorem open_two {base b0 : Nat} {sp : Nat → Bool} {held : Bool} {r : Reach} {v : Value} {d : DataW H} {p : List MemPlace} (hv : Value.okWide Tryd.prog W r b0 51 v) (h : DataW.Trod enc Tryd.prog W base sp held 51 v d p) :
    ∃ r0 r1 r2 r3 r4 r5 r6 r7 : Int, v = twoV r0 r1 r2 r3 r4 r5 r6 r7 ∧ d = .agg [rectD r0 r1 r2 r3, rectD r4 r5 r6 r7] ∧ p = [] ∧ ((Lit.int .i64 r0).wf = true ∧ (Lit.int .i64 r1).wf = true) ∧ ((Lit.int .i64 r2).wf = true ∧ (Lit.int .i64 r3).wf = true) ∧ ((Lit.int .i64 r4).wf = true ∧ (Lit.int .i64 r5).wf = true) ∧ (Lit.int .i64 r6).wf = true ∧ (Lit.int .i64 r7).wf = true := by
  obtain ⟨cs, rfl, hsz⟩ := okWide_arr Tryd.underlying51 hv
  obtain ⟨fuel, hf⟩ := h
  obtain ⟨xs, m, rfl, hx, hlen, hn, hel⟩ := DataW.trod_array Tryd.underlying51 hf
  match xs, hn with
  | [z0, z1], _ =>
    have h0 := hel 0 (by decide)
    have h1 := hel 1 (by decide)
    rw [c34] at h0 h1
    simp only [List.getElem?_cons_zero, List.getElem?_cons_succ] at h0 h1
    obtain ⟨r0, r1, r2, r3, e0, rfl, w0, w1⟩ := rect_of h0
    obtain ⟨r4, r5, r6, r7, e1, rfl, w2, w3⟩ := rect_of h1
    simp only [Prod.mk.injEq] at hx
    obtain ⟨rfl, rfl⟩ := hx
    refine ⟨r0, r1, r2, r3, r4, r5, r6, r7, ?_, rfl, rfl, w0, w1, w2, w3⟩
    rw [c51] at hlen
    have hl := list8 hlen (by simpa using e0) (by simpa using e1)
    obtain ⟨l⟩ := cs
    simp [Value.cells] at hl
    subst hl
    rfl
theorem shut_two {base : Nat} {sp : Nat → Bool} {held : Bool} {r0 r1 r2 r3 r4 r5 r6 r7 : Int} (h1 : (Lit.int .i64 r0).wf = true ∧ (Lit.int .i64 r1).wf = true) (h2 : (Lit.int .i64 r2).wf = true ∧ (Lit.int .i64 r3).wf = true) (h3 : (Lit.int .i64 r4).wf = true ∧ (Lit.int .i64 r5).wf = true) (h4 : (Lit.int .i64 r6).wf = true ∧ (Lit.int .i64 r7).wf = true) :
    DataW.Trod enc Tryd.prog W base sp held 51 (twoV r0 r1 r2 r3 r4 r5 r6 r7) (.agg [rectD r0 r1 r2 r3, rectD r4 r5 r6 r7]) [] := by
  refine ⟨4, ?_⟩
  have g1 := rect_back (enc := enc) (W := W) (base := base) (sp := sp) (held := held) h1 h2 0
  have g2 := rect_back (enc := enc) (W := W) (base := base) (sp := sp) (held := held) h3 h4 0
  unfold DataW.trod
  rw [Tryd.underlying51]
  simp [Value.cells, c51, c34, List.range_succ, g1, g2]
end
end Go.Proofs.YtebapnoaegdejaaDoor
