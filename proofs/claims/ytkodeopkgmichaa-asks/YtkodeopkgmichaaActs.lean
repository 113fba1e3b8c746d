/-
  An argument that is a list of acts, opened.
-/
import Derived.Test.YtkodeopkgmichaaOpens
import Derived.Test.YtkodeopkgmichaaApPure
namespace Go.Proofs.Ytkodeopkgmichaa
open Go.ChangeShapes Go.WideShapes Go.ChangeAt Go.WideMaps Go.WideElems Go.RowKit Go.Deep Go.Joins
set_option linter.unusedVariables false
set_option linter.unusedSimpArgs false
set_option maxRecDepth 100000
/-- One of a row of acts, wherever the row begins. -/
def AcAt (w : World) (a : Option Addr) (i : Nat) (t : Ac) : Prop :=
  ∃ g o, a = some ⟨g, o, none⟩ ∧ g < w.heap.size ∧ w.cell? ⟨g, o + i * 6, none⟩ = some (.int .i64 t.d) ∧ w.cell? ⟨g, o + i * 6 + 1, none⟩ = some (.int .i64 t.i) ∧ w.cell? ⟨g, o + i * 6 + 2, none⟩ = some (.int .i64 t.x) ∧ w.cell? ⟨g, o + i * 6 + 3, none⟩ = some (.int .i64 t.y) ∧ w.cell? ⟨g, o + i * 6 + 4, none⟩ = some (.int .i64 t.a) ∧ w.cell? ⟨g, o + i * 6 + 5, none⟩ = some (.int .i64 t.b)
theorem AcAt.kept {w w' : World} {a : Option Addr} {i : Nat} {t : Ac} {N : Nat} (h : AcAt w a i t) (hb : Below N w w') (hN : w.heap.size ≤ N) : AcAt w' a i t := by
  obtain ⟨g, o, e1, e2, c0, c1, c2, c3, c4, c5⟩ := h
  have hc := fun o => hb.cell (p := ⟨g, o, none⟩) (Nat.lt_of_lt_of_le e2 hN)
  exact ⟨g, o, e1, Nat.lt_of_lt_of_le e2 hb.size, (hc _).trans c0, (hc _).trans c1, (hc _).trans c2, (hc _).trans c3, (hc _).trans c4, (hc _).trans c5⟩
/-- The slice v, wherever it begins, reads as the acts l. -/
def AcR (w : World) (v : Value) (l : List Ac) : Prop :=
  ∃ a cap, v = .slice a l.length cap ∧ l.length ≤ cap ∧ cap ≤ maxLen ∧ (∀ t ∈ l, t.ok) ∧ ∀ i t, l[i]? = some t → AcAt w a i t
theorem bytes36 : Try.prog.bytesOf 36 = 48 := by kernel_rfl
theorem range_get {α : Type} {T : Nat → α} {len : Nat} : ∀ (i : Nat) t, ((List.range len).map T)[i]? = some t → i < len ∧ t = T i := by
  intro i t ht
  simp only [List.getElem?_map, Option.map_eq_some_iff] at ht
  obtain ⟨j, hj, rfl⟩ := ht
  obtain ⟨h1, h2⟩ := List.getElem?_eq_some_iff.1 hj
  simp only [List.length_range] at h1
  simp only [List.getElem_range] at h2
  subst h2
  exact ⟨h1, rfl⟩
section
variable {H : Type} {enc : TypeId × Value → H} {W : World} {base : Nat} {sp : Nat → Bool} {held : Bool}
theorem six_cells {b o : Nat} {c0 c1 c2 c3 c4 c5 : Value} (h : W.cells? base ⟨b, o, none⟩ 6 = some [c0, c1, c2, c3, c4, c5]) :
    W.cell? ⟨b, o, none⟩ = some c0 ∧ W.cell? ⟨b, o + 1, none⟩ = some c1 ∧ W.cell? ⟨b, o + 2, none⟩ = some c2 ∧ W.cell? ⟨b, o + 3, none⟩ = some c3 ∧ W.cell? ⟨b, o + 4, none⟩ = some c4 ∧ W.cell? ⟨b, o + 5, none⟩ = some c5 := by
  obtain ⟨_, _, hc⟩ := World.cells?_some h
  have h0 := hc 0 (by omega)
  have h1 := hc 1 (by omega)
  have h2 := hc 2 (by omega)
  have h3 := hc 3 (by omega)
  have h4 := hc 4 (by omega)
  have h5 := hc 5 (by omega)
  simp only [Addr.add_lit] at h0 h1 h2 h3 h4 h5
  exact ⟨h0, h1, h2, h3, h4, h5⟩
theorem opened_acts {b0 : Nat} {r : Reach} {v : Value} {d : DataW H} {p : List MemPlace} (hv : Value.okWide Try.prog W r b0 22 v) (h : DataW.Trod enc Try.prog W base sp held 22 v d p) :
    ∃ K, AcR W v K ∧ (K = [] ∨ ∃ elems spare, d = .slice elems spare ∧ elems.length = K.length) := by
  obtain ⟨a0, l0, c0, rfl⟩ := okWide_slice Try.underlying22 hv
  obtain ⟨fuel, hf⟩ := h
  simp only [Value.cells] at hf
  rcases open_slice Try.underlying22 hf with ⟨hcs, hx⟩ | ⟨a, len, cap, m, n, D, Pl, hcs, hb, hl, hm, hmm, hx, hel⟩
  · simp only [List.cons.injEq, and_true] at hcs
    rw [hcs]
    exact ⟨[], ⟨none, 0, rfl, Nat.le_refl _, by decide, by simp, fun i t h => by simp at h⟩, .inl rfl⟩
  · simp only [List.cons.injEq, and_true] at hcs
    rw [hcs]
    have hlm : len ≤ m := by rw [hmm]; split <;> omega
    rw [c36] at hel
    have hit : Inhabited Ac := ⟨⟨0, 0, 0, 0, 0, 0⟩⟩
    obtain ⟨T, hT⟩ := choose_lt (α := Ac) (p := fun i t => AcAt W (some a) i t ∧ t.ok) (n := len) (fun i hi => by
      obtain ⟨cs', h1, h2⟩ := hel i (by omega)
      obtain ⟨t, rfl, ht⟩ := act_of h2
      obtain ⟨cs0, g1, g2⟩ := hel 0 (by omega)
      obtain ⟨t0, rfl, ht0⟩ := act_of g2
      have hc0 := (World.cells?_some g1).2.2 0 (by omega)
      obtain ⟨b, o, s⟩ := a
      have hsp : s = none := by
        have := World.cell?_spot (hc0.trans rfl)
        simpa [Addr.add] using this
      subst hsp
      rw [Addr.add_lit] at h1
      have h5 := six_cells h1
      exact ⟨t, ⟨b, o, rfl, World.block_lt_of_cell? _ _ h5.1, h5.1, h5.2.1, h5.2.2.1, h5.2.2.2.1, h5.2.2.2.2.1, h5.2.2.2.2.2⟩, ht⟩)
    obtain ⟨elems, spare, he, hn⟩ : ∃ elems spare, d = .slice elems spare ∧ elems.length = len := ⟨_, _, congrArg Prod.fst hx, by simp⟩
    refine ⟨(List.range len).map T, ⟨some a, cap, by simp, by simpa using hl, hm, fun t ht => ?_, fun i t ht => ?_⟩, .inr ⟨elems, spare, he, by simpa using hn⟩⟩
    · obtain ⟨i, hi, rfl⟩ := List.mem_map.1 ht
      exact (hT i (List.mem_range.1 hi)).2
    · obtain ⟨h1, rfl⟩ := range_get i t ht
      exact (hT i h1).1
end
end Go.Proofs.Ytkodeopkgmichaa
