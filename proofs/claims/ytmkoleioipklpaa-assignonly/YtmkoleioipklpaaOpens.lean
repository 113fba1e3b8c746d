/-
  Arguments that are cells or numbers, opened.
-/
import Derived.Test.YtmkoleioipklpaaNum
import Derived.ProofKit
import Derived.OpenShut
import Derived.Lib.SmallJoins
import Derived.ChangeOld
import Derived.Carry
import Derived.Deep.Strs
import Derived.SizedLaws
namespace Go.Proofs.Ytmkoleioipklpaa
open Go.ChangeShapes Go.WideShapes Go.ChangeAt Go.WideMaps Go.WideElems Go.RowKit Go.Deep Go.Joins
set_option linter.unusedVariables false
set_option linter.unusedSimpArgs false
set_option maxRecDepth 100000
theorem own : ownKnob Try.prog.godebug = none := by kernel_rfl
theorem laidOut : laidOutB Try.prog = true := by kernel_rfl
theorem bytes3 : Try.prog.bytesOf 3 = 8 := by kernel_rfl
theorem c3 : Try.prog.cellsOf 3 = 1 := by kernel_rfl
theorem c35 : Try.prog.cellsOf 35 = 2 := by kernel_rfl
section
variable {H : Type} {enc : TypeId × Value → H} {W : World} {base : Nat} {sp : Nat → Bool} {held : Bool} {fuel : Nat} {cs : List Value} {z : DataW H × List MemPlace}
theorem shape_of (h : DataW.trod enc Try.prog W base sp held fuel 35 cs = some z) : ∃ x y : Int, cs = [.int .i64 x, .int .i64 y] ∧ W64 x ∧ W64 y := by
  obtain ⟨y0, y1, n, rfl, hl, h0, h1⟩ := trod_struct2 Try.underlying35 h
  obtain ⟨a, e0, rfl, w0⟩ := DataW.trod_int Try.underlying3 h0
  obtain ⟨b, e1, rfl, w1⟩ := DataW.trod_int Try.underlying3 h1
  rw [c35] at hl
  match cs, hl, e0, e1 with
  | [u, v], _, e0, e1 =>
    simp [c3] at e0 e1
    subst e0; subst e1
    exact ⟨a, b, rfl, w0, w1⟩
theorem two_cells {b o : Nat} {c0 c1 : Value} (h : W.cells? base ⟨b, o, none⟩ 2 = some [c0, c1]) : W.cell? ⟨b, o, none⟩ = some c0 ∧ W.cell? ⟨b, o + 1, none⟩ = some c1 := by
  obtain ⟨_, _, hc⟩ := World.cells?_some h
  have h0 := hc 0 (by omega)
  have h1 := hc 1 (by omega)
  simp only [Addr.add_lit] at h0 h1
  exact ⟨h0, h1⟩
theorem range_get {α : Type} {T : Nat → α} {len : Nat} : ∀ (i : Nat) t, ((List.range len).map T)[i]? = some t → i < len ∧ t = T i := by
  intro i t ht
  simp only [List.getElem?_map, Option.map_eq_some_iff] at ht
  obtain ⟨j, hj, rfl⟩ := ht
  obtain ⟨h1, h2⟩ := List.getElem?_eq_some_iff.1 hj
  simp only [List.length_range] at h1
  simp only [List.getElem_range] at h2
  subst h2
  exact ⟨h1, rfl⟩
theorem opened_cells {v : Value} (h : DataW.trod enc Try.prog W base sp held fuel 22 [v] = some z) : ∃ P, CeR W v P := by
  rcases open_slice Try.underlying22 h with ⟨hcs, hx⟩ | ⟨a, len, cap, m, n, D, Pl, hcs, hb, hl, hm, hmm, hx, hel⟩
  · simp only [List.cons.injEq, and_true] at hcs
    subst hcs
    exact ⟨[], ⟨none, 0, rfl, Nat.le_refl _, by decide, fun _ => ⟨rfl, rfl⟩, fun i t h => by simp at h⟩⟩
  · simp only [List.cons.injEq, and_true] at hcs
    subst hcs
    have hlm : len ≤ m := by rw [hmm]; split <;> omega
    rw [c35] at hel
    obtain ⟨T, hT⟩ := choose_lt (α := Int × Int) (p := fun i q => ∃ g o, some a = some ⟨g, o, none⟩ ∧ g < W.heap.size ∧ ∀ j u, (ceCs q)[j]? = some u → W.cell? ⟨g, o + i * 2 + j, none⟩ = some u) (n := len) (fun i hi => by
      obtain ⟨cs', h1, h2⟩ := hel i (by omega)
      obtain ⟨x, y, rfl, -, -⟩ := shape_of h2
      obtain ⟨cs0, g1, g2⟩ := hel 0 (by omega)
      obtain ⟨x0, y0, rfl, -, -⟩ := shape_of g2
      have hc0 := (World.cells?_some g1).2.2 0 (by omega)
      obtain ⟨b, o, s⟩ := a
      have hsp : s = none := by
        have := World.cell?_spot (hc0.trans rfl)
        simpa [Addr.add] using this
      subst hsp
      rw [Addr.add_lit] at h1
      have h5 := two_cells h1
      refine ⟨(x, y), b, o, rfl, World.block_lt_of_cell? _ _ h5.1, fun j u hu => ?_⟩
      match j, hu with
      | 0, hu => cases hu; exact h5.1
      | 1, hu => cases hu; exact h5.2
      | j + 2, hu => simp [ceCs] at hu)
    refine ⟨(List.range len).map T, ⟨some a, cap, by simp, by simpa using hl, by simp; omega, (fun h => by cases h), fun i t ht => ?_⟩⟩
    obtain ⟨h1, rfl⟩ := range_get i t ht
    exact hT i h1
theorem opened_shapes {b0 : Nat} {r : Reach} {v : Value} {d : DataW H} {p : List MemPlace} (hv : Value.okWide Try.prog W r b0 22 v) (h : DataW.Trod enc Try.prog W base sp held 22 v d p) :
    ∃ P, CeR W v P := by
  obtain ⟨addr, len, cap, rfl⟩ := okWide_slice Try.underlying22 hv
  obtain ⟨fuel, hf⟩ := h
  exact opened_cells hf
theorem opened_nums {fuel : Nat} {v : Value} {x : DataW H × List MemPlace} (h : DataW.trod enc Try.prog W base sp held fuel 24 [v] = some x) : ∃ zs, Ir W v zs ∧ ((x.1.weights Try.prog 24).all (· ≤ reachBytes) = true → zs.length * 8 ≤ 140737488355328) := by
  rcases open_ints Try.underlying24 Try.underlying3 (by kernel_rfl) h with ⟨hcs, hx⟩ | ⟨a, l, c, zs, hcs, _, hl, hm, hz, hx, hcell, hwz⟩
  · simp at hcs
    subst hcs
    exact ⟨[], ⟨none, 0, rfl, Nat.le_refl _, by decide, fun _ => ⟨rfl, rfl⟩, fun i t h => by simp at h⟩, by simp⟩
  · simp at hcs
    subst hcs
    have hlz : l ≤ zs.length := by rw [hz]; split <;> omega
    have hl2 : (zs.take l).length = l := by rw [List.length_take]; omega
    refine ⟨zs.take l, ⟨some a, c, by rw [hl2], by rw [hl2]; simpa using hl, by rw [hl2]; simp only [maxLen] at hm ⊢; omega, (fun h => by cases h), fun i z hi => ?_⟩, ?_⟩
    · have hil : i < l := by have := (List.getElem?_eq_some_iff.1 hi).1; omega
      rw [List.getElem?_take_of_lt hil] at hi
      have hci := hcell i (by omega)
      rw [List.getD_eq_getElem?_getD, hi] at hci
      obtain ⟨b, o, s⟩ := a
      obtain rfl : s = none := by simpa [Addr.add] using World.cell?_spot (hcell 0 (by omega))
      have hc : W.cell? ⟨b, o + i, none⟩ = some (.int .i64 z) := by simpa [Addr.add_lit] using hci
      refine ⟨b, o, rfl, World.block_lt_of_cell? _ _ hc, fun j u hu => ?_⟩
      match j, hu with
      | 0, hu => cases hu; simpa using hc
      | j + 1, hu => simp [iCs] at hu
    · intro hw
      rw [hx] at hw
      have e : (lits (H := H) .i64 (zs.take l)).length = l := by rw [← hl2]; simp [lits]
      rw [List.all_eq_true] at hw
      have h1 : ((lits (H := H) .i64 (zs.take l)).length + (lits (H := H) .i64 (zs.drop l)).length) * 8 ≤ reachBytes := of_decide_eq_true (hw _ (by simp [DataW.weights, Try.underlying24, bytes3]))
      have h2 : reachBytes = 140737488351232 := rfl
      omega
theorem open_nums {b0 : Nat} {r : Reach} {v : Value} {d : DataW H} {p : List MemPlace} (hv : Value.okWide Try.prog W r b0 24 v) (h : DataW.Trod enc Try.prog W base sp held 24 v d p) : ∃ zs, Ir W v zs ∧ ((d.weights Try.prog 24).all (· ≤ reachBytes) = true → zs.length * 8 ≤ 140737488355328) := by
  obtain ⟨addr, len, cap, rfl⟩ := okWide_slice Try.underlying24 hv
  obtain ⟨fuel, hf⟩ := h
  exact opened_nums hf
end
end Go.Proofs.Ytmkoleioipklpaa
