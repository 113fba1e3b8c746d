/-
  An argument that is a list of acts, opened.
-/
import Derived.Test.YtihjmgdihpeffaaOpens
import Derived.Test.YtihjmgdihpeffaaLi
namespace Go.Proofs.Ytihjmgdihpeffaa
open Go.ChangeShapes Go.WideShapes Go.ChangeAt Go.WideMaps Go.WideElems Go.RowKit Go.Deep Go.Joins
set_option linter.unusedVariables false
set_option linter.unusedSimpArgs false
set_option maxRecDepth 100000
section
variable {H : Type} {enc : TypeId × Value → H} {W : World} {base : Nat} {sp : Nat → Bool} {held : Bool} {fuel : Nat} {cs : List Value} {z : DataW H × List MemPlace}
theorem way_of (h : DataW.trod enc Try.prog W base sp held fuel 39 cs = some z) : ∃ (o : Int) (v : Value) (P : List (Int × Int)), cs = [.int .i64 o, v] ∧ CeR W v P ∧ ((z.1.weights Try.prog 39).all (· ≤ reachBytes) = true → P.length * 16 ≤ 140737488355328) := by
  obtain ⟨y0, y1, n, rfl, hl, h0, h1⟩ := trod_struct2 Try.underlying39 h
  obtain ⟨a, e0, rfl, w0⟩ := DataW.trod_int Try.underlying3 h0
  rw [c39] at hl
  match cs, hl, e0, h1 with
  | [u, v], _, e0, h1 =>
    simp [c3] at e0
    subst e0
    simp only [c37, List.drop_succ_cons, List.drop_zero, List.take_succ_cons, List.take_zero] at h1
    obtain ⟨P, hP, hPL⟩ := opened_cells h1
    refine ⟨a, v, P, rfl, hP, fun hw => ?_⟩
    rcases hPL with rfl | ⟨elems, spare, he, hn⟩
    · simp
    · rw [List.all_eq_true] at hw
      have h1 : (elems.length + spare.length) * 16 ≤ reachBytes := of_decide_eq_true (hw ((elems.length + spare.length) * 16) (by simp [DataW.weights, DataW.weightsEach, Try.underlying39, Try.underlying37, bytes34, he]))
      have h2 : reachBytes = 140737488351232 := rfl
      omega
theorem act_of (h : DataW.trod enc Try.prog W base sp held fuel 41 cs = some z) : ∃ t : Ac, cs = acCs t ∧ W6 t.q ∧ CeR W (.slice t.a t.n t.c) t.P ∧ ((z.1.weights Try.prog 41).all (· ≤ reachBytes) = true → t.P.length * 16 ≤ 140737488355328) := by
  obtain ⟨y0, y1, y2, y3, n, rfl, hl, h0, h1, h2, h3⟩ := trod_struct4 Try.underlying41 h
  obtain ⟨g, e0, rfl⟩ := DataW.trod_bool Try.underlying4 h0
  obtain ⟨q, e1, hq⟩ := key_of h1
  obtain ⟨e, e2, rfl, we⟩ := DataW.trod_int Try.underlying3 h2
  obtain ⟨o, v, P, e3, hP, hw⟩ := way_of h3
  obtain ⟨a, c, rfl, -⟩ := hP.slice
  rw [c41] at hl
  match cs, hl, e0, e1, e2, e3 with
  | [u0, u1, u2, u3, u4, u5, u6, u7, u8, u9], _, e0, e1, e2, e3 =>
    simp [c4, c36, c3, c39, kCs] at e0 e1 e2 e3
    obtain ⟨rfl, rfl, rfl, rfl, rfl, rfl⟩ := e1
    obtain ⟨rfl, rfl⟩ := e3
    subst e0; subst e2
    refine ⟨⟨g, q, e, o, a, P.length, c, P⟩, rfl, hq, hP, fun hh => hw ?_⟩
    rw [List.all_eq_true] at hh ⊢
    intro k hk
    refine hh k ?_
    simp only [DataW.weights, Try.underlying41]
    simp only [DataW.weightsEach, List.map_cons, List.map_nil, List.mem_append]
    right; right; right; left
    exact hk
theorem ten_cells {b o : Nat} {l : List Value} (hl : l.length = 10) (h : W.cells? base ⟨b, o, none⟩ 10 = some l) : ∀ j u, l[j]? = some u → W.cell? ⟨b, o + j, none⟩ = some u := fun j u hu => by
  obtain ⟨_, _, hc⟩ := World.cells?_some h
  have hj := (List.getElem?_eq_some_iff.1 hu).1
  have := hc j (by omega)
  rw [Addr.add_lit] at this
  rw [this, hu]
theorem weights_all {P : Program} {e : TypeId} {n : Nat} : ∀ {l : List (DataW H)} {d : DataW H}, d ∈ l → n ∈ d.weights P e → n ∈ DataW.weightsAll P e l
  | [], d, h, _ => by cases h
  | x :: r, d, h, hn => by
    unfold DataW.weightsAll
    rcases List.mem_cons.1 h with rfl | h
    · exact List.mem_append.2 (.inl hn)
    · exact List.mem_append.2 (.inr (weights_all h hn))
theorem opened_acts {b0 : Nat} {r : Reach} {v : Value} {d : DataW H} {p : List MemPlace} (hv : Value.okWide Try.prog W r b0 22 v) (h : DataW.Trod enc Try.prog W base sp held 22 v d p) (hw : (d.weights Try.prog 22).all (· ≤ reachBytes) = true) :
    ∃ l, AcR W v l := by
  obtain ⟨a0, l0, c0, rfl⟩ := okWide_slice Try.underlying22 hv
  obtain ⟨fuel, hf⟩ := h
  simp only [Value.cells] at hf
  rcases open_slice Try.underlying22 hf with ⟨hcs, hx⟩ | ⟨a, len, cap, m, n, D, Pl, hcs, hb, hl, hm, hmm, hx, hel⟩
  · simp only [List.cons.injEq, and_true] at hcs
    rw [hcs]
    exact ⟨[], ⟨none, 0, rfl, Nat.le_refl _, by decide, fun _ => ⟨rfl, rfl⟩, fun i t h => by simp at h⟩, fun t ht => by simp at ht⟩
  · simp only [List.cons.injEq, and_true] at hcs
    rw [hcs]
    have hlm : len ≤ m := by rw [hmm]; split <;> omega
    rw [c41] at hel
    have hit : Inhabited Ac := ⟨⟨false, (0, 0, 0, 0, 0, 0), 0, 0, none, 0, 0, []⟩⟩
    have hd : d = .slice ((List.range len).map D) ((List.range (m - len)).map fun j => D (len + j)) := congrArg Prod.fst hx
    have hwt : ∀ i, i < len → ((D i).weights Try.prog 41).all (· ≤ reachBytes) = true := fun i hi => by
      rw [List.all_eq_true] at hw ⊢
      intro k hk
      refine hw k ?_
      rw [hd]
      simp only [DataW.weights, Try.underlying22]
      exact List.mem_cons_of_mem _ (List.mem_append.2 (.inl (weights_all (List.mem_map.2 ⟨i, List.mem_range.2 hi, rfl⟩) hk)))
    obtain ⟨T, hT⟩ := choose_lt (α := Ac) (p := fun i t => (∃ g o, some a = some ⟨g, o, none⟩ ∧ g < W.heap.size ∧ ∀ j u, (acCs t)[j]? = some u → W.cell? ⟨g, o + i * 10 + j, none⟩ = some u) ∧ W6 t.q ∧ CeR W (.slice t.a t.n t.c) t.P ∧ t.P.length * 16 ≤ 140737488355328) (n := len) (fun i hi => by
      obtain ⟨cs', h1, h2⟩ := hel i (by omega)
      obtain ⟨t, rfl, ht1, ht2, ht3⟩ := act_of h2
      obtain ⟨cs0, g1, g2⟩ := hel 0 (by omega)
      obtain ⟨t0, rfl, -⟩ := act_of g2
      have hc0 := (World.cells?_some g1).2.2 0 (by omega)
      obtain ⟨b, o, s⟩ := a
      have hsp : s = none := by
        have := World.cell?_spot (hc0.trans rfl)
        simpa [Addr.add] using this
      subst hsp
      rw [Addr.add_lit] at h1
      have h5 := ten_cells (acCs_len t) h1
      exact ⟨t, ⟨b, o, rfl, World.block_lt_of_cell? _ _ (h5 0 _ rfl), h5⟩, ht1, ht2, ht3 (hwt i hi)⟩)
    refine ⟨(List.range len).map T, ⟨some a, cap, by simp, by simpa using hl, by simp; omega, (fun h => by cases h), fun i t ht => ?_⟩, fun t ht => ?_⟩
    · obtain ⟨h1, rfl⟩ := range_get i t ht
      exact (hT i h1).1
    · obtain ⟨i, hi, rfl⟩ := List.mem_map.1 ht
      exact (hT i (List.mem_range.1 hi)).2
end
end Go.Proofs.Ytihjmgdihpeffaa
