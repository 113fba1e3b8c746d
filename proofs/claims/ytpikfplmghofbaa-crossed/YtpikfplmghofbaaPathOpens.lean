/-
  Arguments that are paths, opened.
-/
import Derived.Test.YtpikfplmghofbaaMapOpens
import Derived.Test.YtpikfplmghofbaaPath
namespace Go.Proofs.Ytpikfplmghofbaa
open Go.ChangeShapes Go.WideShapes Go.ChangeAt Go.WideMaps Go.WideElems Go.RowKit Go.Deep Go.Joins
set_option linter.unusedVariables false
set_option maxRecDepth 100000
theorem bytes23 : Try.prog.bytesOf 23 = 16 := by kernel_rfl
section
variable {H : Type} {enc : TypeId × Value → H} {W : World} {base : Nat} {sp : Nat → Bool} {held : Bool}
theorem two_cells {b o : Nat} {c0 c1 : Value} (h : W.cells? base ⟨b, o, none⟩ 2 = some [c0, c1]) : W.cell? ⟨b, o, none⟩ = some c0 ∧ W.cell? ⟨b, o + 1, none⟩ = some c1 := by
  obtain ⟨_, _, hc⟩ := World.cells?_some h
  have h0 := hc 0 (by omega)
  have h1 := hc 1 (by omega)
  simp only [Addr.add_lit] at h0 h1
  exact ⟨h0, h1⟩
theorem opened_cells {fuel : Nat} {v : Value} {x : DataW H × List MemPlace} (h : DataW.trod enc Try.prog W base sp held fuel 27 [v] = some x) : ∃ P, CeR W v P ∧ (P = [] ∨ ∃ elems spare, x.1 = .slice elems spare ∧ elems.length = P.length) := by
  rcases open_slice Try.underlying27 h with ⟨hcs, hx⟩ | ⟨a, len, cap, m, n, D, Pl, hcs, hb, hl, hm, hmm, hx, hel⟩
  · simp only [List.cons.injEq, and_true] at hcs
    subst hcs
    exact ⟨[], ⟨none, 0, rfl, Nat.le_refl _, by decide, fun _ => ⟨rfl, rfl⟩, fun i t h => by simp at h⟩, .inl rfl⟩
  · simp only [List.cons.injEq, and_true] at hcs
    subst hcs
    have hlm : len ≤ m := by rw [hmm]; split <;> omega
    rw [c23] at hel
    obtain ⟨T, hT⟩ := choose_lt (α := Int × Int) (p := fun i q => ∃ g o, some a = some ⟨g, o, none⟩ ∧ g < W.heap.size ∧ W.cell? ⟨g, o + i * 2, none⟩ = some (.int .i64 q.1) ∧ W.cell? ⟨g, o + i * 2 + 1, none⟩ = some (.int .i64 q.2)) (n := len) (fun i hi => by
      obtain ⟨cs', h1, h2⟩ := hel i (by omega)
      obtain ⟨x, y, rfl, -, -, -⟩ := cell_of h2
      obtain ⟨cs0, g1, g2⟩ := hel 0 (by omega)
      obtain ⟨x0, y0, rfl, -, -, -⟩ := cell_of g2
      have hc0 := (World.cells?_some g1).2.2 0 (by omega)
      obtain ⟨b, o, s⟩ := a
      have hsp : s = none := by
        have := World.cell?_spot (hc0.trans rfl)
        simpa [Addr.add] using this
      subst hsp
      rw [Addr.add_lit] at h1
      have h5 := two_cells h1
      exact ⟨(x, y), b, o, rfl, World.block_lt_of_cell? _ _ h5.1, h5.1, h5.2⟩)
    have hget : ∀ (i : Nat) t, ((List.range len).map T)[i]? = some t → i < len ∧ t = T i := by
      intro i t ht
      simp only [List.getElem?_map, Option.map_eq_some_iff] at ht
      obtain ⟨j, hj, rfl⟩ := ht
      obtain ⟨h1, h2⟩ := List.getElem?_eq_some_iff.1 hj
      simp only [List.length_range] at h1
      simp only [List.getElem_range] at h2
      subst h2
      exact ⟨h1, rfl⟩
    refine ⟨(List.range len).map T, ⟨some a, cap, by simp, by simpa using hl, by simp; omega, (fun h => by cases h), fun i t ht => ?_⟩, .inr ⟨_, _, congrArg Prod.fst hx, by simp⟩⟩
    obtain ⟨h1, rfl⟩ := hget i t ht
    exact hT i h1
theorem opened_path {b0 : Nat} {r : Reach} {v : Value} {d : DataW H} {p : List MemPlace} (hv : Value.okWide Try.prog W r b0 27 v) (h : DataW.Trod enc Try.prog W base sp held 27 v d p) :
    ∃ P, CeR W v P ∧ (P = [] ∨ ∃ elems spare, d = .slice elems spare ∧ elems.length = P.length) := by
  obtain ⟨addr, len, cap, rfl⟩ := okWide_slice Try.underlying27 hv
  obtain ⟨fuel, hf⟩ := h
  exact opened_cells hf
end
end Go.Proofs.Ytpikfplmghofbaa
