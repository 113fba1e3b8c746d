/-
  Arguments that are maps, edits and four numbers, opened.
-/
import Derived.Test.YtobjadfchpgjeaaOpens
import Derived.Test.YtobjadfchpgjeaaMk
import Derived.Deep.Slices
import Derived.SizedLaws
import Derived.Deep.CondSized
namespace Go.Proofs.Ytobjadfchpgjeaa
open Go.ChangeShapes Go.WideShapes Go.ChangeAt Go.WideMaps Go.WideElems Go.RowKit Go.Deep Go.Joins
set_option linter.unusedVariables false
set_option linter.unusedSimpArgs false
set_option maxRecDepth 100000
theorem cMp : Try.prog.cellsOf 25 = 4 := by kernel_rfl
theorem cSl : Try.prog.cellsOf 22 = 1 := by kernel_rfl
theorem cSl2 : Try.prog.cellsOf 23 = 1 := by kernel_rfl
theorem cEd : Try.prog.cellsOf 57 = 6 := by kernel_rfl
theorem cBo : Try.prog.cellsOf 4 = 1 := by kernel_rfl
theorem cAr : Try.prog.cellsOf 36 = 4 := by kernel_rfl
theorem bytes5 : Try.prog.bytesOf 5 = 1 := by kernel_rfl
theorem bytes55 : Try.prog.bytesOf 55 = 40 := by kernel_rfl
theorem bytes57 : Try.prog.bytesOf 57 = 48 := by kernel_rfl
section
variable {H : Type} {enc : TypeId × Value → H} {W : World} {base : Nat} {sp : Nat → Bool} {held : Bool}
theorem opened_tiles {fuel : Nat} {v : Value} {x : DataW H × List MemPlace} (h : DataW.trod enc Try.prog W base sp held fuel 22 [v] = some x) : ∃ l, (TlR W v l ∧ ∀ n ∈ l, n < 256) ∧ (l = [] ∨ ∃ elems spare, x.1 = .slice elems spare ∧ elems.length = l.length) := by
  rcases open_ints Try.underlying22 Try.underlying5 (by kernel_rfl) h with ⟨hcs, hx⟩ | ⟨a, l, c, zs, hcs, _, hl, hm, hz, hx, hcell, hwz⟩
  · simp at hcs
    subst hcs
    exact ⟨[], ⟨⟨none, 0, rfl, Nat.le_refl _, by decide, fun _ => ⟨rfl, rfl⟩, fun i x hx => by simp at hx⟩, fun n hn => by simp at hn⟩, .inl rfl⟩
  · simp at hcs
    subst hcs
    have hlz : l ≤ zs.length := by rw [hz]; split <;> omega
    have hl2 : (zs.take l).length = l := by rw [List.length_take]; omega
    have hbz : ∀ z ∈ zs, 0 ≤ z ∧ z < 256 := fun z hz => by have := bounds_u8 (hwz z hz); omega
    refine ⟨(zs.take l).map Int.toNat, ⟨⟨some a, c, by rw [List.length_map, hl2], by rw [List.length_map, hl2]; exact hl, by rw [List.length_map, hl2]; omega, (fun h => by cases h), fun i x hx => ?_⟩, fun n hn => ?_⟩, .inr ⟨_, _, congrArg Prod.fst hx, by simp [lits]⟩⟩
    · rw [List.getElem?_map] at hx
      cases hi : (zs.take l)[i]? with
      | none => rw [hi] at hx; cases hx
      | some z =>
        rw [hi] at hx
        cases hx
        have hil : i < l := by have := (List.getElem?_eq_some_iff.1 hi).1; omega
        rw [List.getElem?_take_of_lt hil] at hi
        have hci := hcell i (by omega)
        rw [List.getD_eq_getElem?_getD, hi] at hci
        obtain ⟨b, o, s⟩ := a
        obtain rfl : s = none := by simpa [Addr.add] using World.cell?_spot (hcell 0 (by omega))
        rw [Addr.add_lit] at hci
        have hb := hbz z (List.mem_of_getElem? hi)
        refine ⟨b, o, rfl, World.block_lt_of_cell? _ _ hci, ?_⟩
        rw [hci]
        simp; omega
    · obtain ⟨z, hz, rfl⟩ := List.mem_map.1 hn
      have := hbz z (List.mem_of_mem_take hz)
      omega
theorem five_cells {b o : Nat} {c0 c1 c2 c3 c4 : Value} (h : W.cells? base ⟨b, o, none⟩ 5 = some [c0, c1, c2, c3, c4]) :
    W.cell? ⟨b, o, none⟩ = some c0 ∧ W.cell? ⟨b, o + 1, none⟩ = some c1 ∧ W.cell? ⟨b, o + 2, none⟩ = some c2 ∧ W.cell? ⟨b, o + 3, none⟩ = some c3 ∧ W.cell? ⟨b, o + 4, none⟩ = some c4 := by
  obtain ⟨_, _, hc⟩ := World.cells?_some h
  have h0 := hc 0 (by omega)
  have h1 := hc 1 (by omega)
  have h2 := hc 2 (by omega)
  have h3 := hc 3 (by omega)
  have h4 := hc 4 (by omega)
  simp only [Addr.add_lit] at h0 h1 h2 h3 h4
  exact ⟨h0, h1, h2, h3, h4⟩
theorem six_cells {b o : Nat} {c0 c1 c2 c3 c4 c5 : Value} (h : W.cells? base ⟨b, o, none⟩ 6 = some [c0, c1, c2, c3, c4, c5]) :
    W.cell? ⟨b, o, none⟩ = some c0 ∧ W.cell? ⟨b, o + 1, none⟩ = some c1 ∧ W.cell? ⟨b, o + 2, none⟩ = some c2 ∧ W.cell? ⟨b, o + 3, none⟩ = some c3 ∧ W.cell? ⟨b, o + 4, none⟩ = some c4 ∧ W.cell? ⟨b, o + 5, none⟩ = some c5 := by
  obtain ⟨_, _, hc⟩ := World.cells?_some h
  have h0 := hc 0 (by omega)
  have h1 := hc 1 (by omega)
  have h2 := hc 2 (by omega)
  have h3 := hc 3 (by omega)
  have h4 := hc 4 (by omega)
  have h5 := hc 5 (by omega)
  simp only [Addr.add_lit] at h0 h1 h2 h3 h4 h5
  exact ⟨h0, h1, h2, h3, h4, h5⟩
theorem range_get {α : Type} {T : Nat → α} {len : Nat} : ∀ (i : Nat) t, ((List.range len).map T)[i]? = some t → i < len ∧ t = T i := by
  intro i t ht
  simp only [List.getElem?_map, Option.map_eq_some_iff] at ht
  obtain ⟨j, hj, rfl⟩ := ht
  obtain ⟨h1, h2⟩ := List.getElem?_eq_some_iff.1 hj
  simp only [List.length_range] at h1
  simp only [List.getElem_range] at h2
  subst h2
  exact ⟨h1, rfl⟩
theorem opened_blds {fuel : Nat} {v : Value} {x : DataW H × List MemPlace} (h : DataW.trod enc Try.prog W base sp held fuel 23 [v] = some x) : ∃ L, BdR W v L ∧ (L = [] ∨ ∃ elems spare, x.1 = .slice elems spare ∧ elems.length = L.length) := by
  rcases open_slice Try.underlying23 h with ⟨hcs, hx⟩ | ⟨a, len, cap, m, n, D, Pl, hcs, hb, hl, hm, hmm, hx, hel⟩
  · simp only [List.cons.injEq, and_true] at hcs
    subst hcs
    exact ⟨[], BdR.nil W, .inl rfl⟩
  · simp only [List.cons.injEq, and_true] at hcs
    subst hcs
    have hlm : len ≤ m := by rw [hmm]; split <;> omega
    rw [c55] at hel
    have hit : Inhabited Bd := ⟨⟨0, 0, 0, 0, 0⟩⟩
    obtain ⟨T, hT⟩ := choose_lt (α := Bd) (p := fun i t => BdAtR W (some a) i t) (n := len) (fun i hi => by
      obtain ⟨cs', h1, h2⟩ := hel i (by omega)
      obtain ⟨t, rfl, -⟩ := bd_of h2
      obtain ⟨cs0, g1, g2⟩ := hel 0 (by omega)
      obtain ⟨t0, rfl, -⟩ := bd_of g2
      have hc0 := (World.cells?_some g1).2.2 0 (by omega)
      obtain ⟨b, o, s⟩ := a
      have hsp : s = none := by
        have := World.cell?_spot (hc0.trans rfl)
        simpa [Addr.add] using this
      subst hsp
      rw [Addr.add_lit] at h1
      have h5 := five_cells h1
      exact ⟨t, b, o, rfl, World.block_lt_of_cell? _ _ h5.1, h5.1, h5.2.1, h5.2.2.1, h5.2.2.2.1, h5.2.2.2.2⟩)
    refine ⟨(List.range len).map T, ⟨some a, cap, by simp, by simpa using hl, by simp; omega, (fun h => by cases h), fun i t ht => ?_⟩, .inr ⟨_, _, congrArg Prod.fst hx, by simp⟩⟩
    obtain ⟨h1, rfl⟩ := range_get i t ht
    exact hT i h1
/-- A map that was read. -/
theorem opened_map {b0 : Nat} {r : Reach} {v : Value} {d : DataW H} {p : List MemPlace} (hv : Value.okWide Try.prog W r b0 25 v) (h : DataW.Trod enc Try.prog W base sp held 25 v d p) :
    ∃ (Wd Hd : Int) (tv bv : Value) (tl : List Nat) (L : List Bd), v = mp Wd Hd tv bv ∧ TlR W tv tl ∧ (∀ n ∈ tl, n < 256) ∧ BdR W bv L ∧ ((d.weights Try.prog 25).all (· ≤ reachBytes) = true → tl.length ≤ 140737488355328 ∧ L.length * 40 ≤ 140737488355328) := by
  obtain ⟨cs, rfl, hsz⟩ := okWide_struct Try.underlying25 hv
  obtain ⟨fuel, hf⟩ := h
  obtain ⟨y0, y1, y2, y3, n, hx, hl, e0, e1, e2, e3⟩ := trod_struct4 Try.underlying25 hf
  rw [cMp] at hl
  obtain ⟨l⟩ := cs
  simp only [Value.cells] at hl e0 e1 e2 e3
  match l, hl with
  | [q0, q1, q2, q3], _ =>
    simp only [c3, cSl, cSl2, List.drop_zero, List.drop_succ_cons, List.take_succ_cons, List.take_zero] at e0 e1 e2 e3
    obtain ⟨x0, r0, -, -⟩ := DataW.trod_int Try.underlying3 e0
    obtain ⟨x1, r1, -, -⟩ := DataW.trod_int Try.underlying3 e1
    simp at r0 r1
    subst r0
    subst r1
    obtain ⟨tl, ⟨ht, hb⟩, htl⟩ := opened_tiles e2
    obtain ⟨L, hL, hLl⟩ := opened_blds e3
    refine ⟨x0, x1, q2, q3, tl, L, rfl, ht, hb, hL, fun hw => ?_⟩
    have hd : d = .agg [y0.1, y1.1, y2.1, y3.1] := congrArg Prod.fst hx
    subst hd
    rw [List.all_eq_true] at hw
    have h2 : reachBytes = 140737488351232 := rfl
    constructor
    · rcases htl with rfl | ⟨elems, spare, he, hn⟩
      · simp
      · rw [he] at hw
        have h1 : (elems.length + spare.length) * 1 ≤ reachBytes := of_decide_eq_true (hw ((elems.length + spare.length) * 1) (by simp [DataW.weights, DataW.weightsEach, Try.underlying25, Try.underlying22, bytes5]))
        omega
    · rcases hLl with rfl | ⟨elems, spare, he, hn⟩
      · simp
      · rw [he] at hw
        have h1 : (elems.length + spare.length) * 40 ≤ reachBytes := of_decide_eq_true (hw ((elems.length + spare.length) * 40) (by simp [DataW.weights, DataW.weightsEach, Try.underlying25, Try.underlying23, bytes55]))
        omega
theorem ed_of {fuel : Nat} {cs : List Value} {z : DataW H × List MemPlace} (h : DataW.trod enc Try.prog W base sp held fuel 57 cs = some z) : ∃ (b : Bool) (t : Bd), cs = [.bool b, .int .i64 t.id, .int .i64 t.x, .int .i64 t.y, .int .i64 t.a, .int .i64 t.b] := by
  obtain ⟨y0, y1, n, rfl, hl, h0, h1⟩ := trod_struct2 Try.underlying57 h
  obtain ⟨i, e0, -⟩ := DataW.trod_bool Try.underlying4 h0
  obtain ⟨t, e1, -⟩ := bd_of h1
  rw [cEd] at hl
  match cs, hl, e0, e1 with
  | [q, u, v, s, t', r], _, e0, e1 =>
    simp [cBo, c55, Bd.cs] at e0 e1
    subst e0
    obtain ⟨rfl, rfl, rfl, rfl, rfl⟩ := e1
    exact ⟨i, t, rfl⟩
theorem opened_edits {b0 : Nat} {r : Reach} {v : Value} {d : DataW H} {p : List MemPlace} (hv : Value.okWide Try.prog W r b0 26 v) (h : DataW.Trod enc Try.prog W base sp held 26 v d p) (hw : (d.weights Try.prog 26).all (· ≤ reachBytes) = true) :
    ∃ K, EdR W v K := by
  obtain ⟨a0, l0, c0, rfl⟩ := okWide_slice Try.underlying26 hv
  obtain ⟨fuel, hf⟩ := h
  simp only [Value.cells] at hf
  rcases open_slice Try.underlying26 hf with ⟨hcs, hx⟩ | ⟨a, len, cap, m, n, D, Pl, hcs, hb, hl, hm, hmm, hx, hel⟩
  · simp only [List.cons.injEq, and_true] at hcs
    rw [hcs]
    exact ⟨[], none, 0, rfl, Nat.le_refl _, by decide, fun i t h => by simp at h⟩
  · simp only [List.cons.injEq, and_true] at hcs
    rw [hcs]
    have hlm : len ≤ m := by rw [hmm]; split <;> omega
    rw [cEd] at hel
    have hit : Inhabited (Bool × Bd) := ⟨⟨false, ⟨0, 0, 0, 0, 0⟩⟩⟩
    obtain ⟨T, hT⟩ := choose_lt (α := Bool × Bd) (p := fun i t => EdAtR W (some a) i t) (n := len) (fun i hi => by
      obtain ⟨cs', h1, h2⟩ := hel i (by omega)
      obtain ⟨z, t, rfl⟩ := ed_of h2
      obtain ⟨cs0, g1, g2⟩ := hel 0 (by omega)
      obtain ⟨z0, t0, rfl⟩ := ed_of g2
      have hc0 := (World.cells?_some g1).2.2 0 (by omega)
      obtain ⟨b, o, s⟩ := a
      have hsp : s = none := by
        have := World.cell?_spot (hc0.trans rfl)
        simpa [Addr.add] using this
      subst hsp
      rw [Addr.add_lit] at h1
      have h5 := six_cells h1
      exact ⟨(z, t), b, o, rfl, World.block_lt_of_cell? _ _ h5.1, h5.1, h5.2.1, h5.2.2.1, h5.2.2.2.1, h5.2.2.2.2.1, h5.2.2.2.2.2⟩)
    obtain ⟨elems, spare, he, hn⟩ : ∃ elems spare, d = .slice elems spare ∧ elems.length = len := ⟨_, _, congrArg Prod.fst hx, by simp⟩
    subst he
    rw [List.all_eq_true] at hw
    have h1 : (elems.length + spare.length) * 48 ≤ reachBytes := of_decide_eq_true (hw ((elems.length + spare.length) * 48) (by simp [DataW.weights, Try.underlying26, bytes57]))
    have h2 : reachBytes = 140737488351232 := rfl
    refine ⟨(List.range len).map T, some a, cap, by simp, by simpa using hl, by simp; omega, fun i t ht => ?_⟩
    obtain ⟨h1, rfl⟩ := range_get i t ht
    exact hT i h1
theorem opened_four {b0 : Nat} {r : Reach} {v : Value} {d : DataW H} {p : List MemPlace} (hv : Value.okWide Try.prog W r b0 36 v) (h : DataW.Trod enc Try.prog W base sp held 36 v d p) :
    ∃ x0 x1 x2 x3 : Int, v = .agg #[.int .i64 x0, .int .i64 x1, .int .i64 x2, .int .i64 x3] ∧ W64 x0 ∧ W64 x1 := by
  simp only [Value.okWide, Try.underlying36] at hv
  obtain ⟨cs, rfl, hsz, -⟩ := hv
  obtain ⟨fuel, hf⟩ := h
  obtain ⟨xs, m1, rfl, hx1, hlen, hn, hel⟩ := DataW.trod_array Try.underlying36 hf
  rw [cAr] at hlen
  obtain ⟨l⟩ := cs
  simp only [Value.cells] at hlen hel
  have hE : ∀ k, k < 4 → ∃ a, (l.drop k).take 1 = [.int .i64 a] ∧ W64 a := fun k hk => by
    have hk' := hel k hk
    rw [c3] at hk'
    obtain ⟨z, hz⟩ : ∃ z, xs[k]? = some z := ⟨xs[k]'(by omega), List.getElem?_eq_getElem (by omega)⟩
    rw [hz] at hk'
    obtain ⟨a, hcs, rfl, hw⟩ := DataW.trod_int Try.underlying3 hk'
    exact ⟨a, by simpa using hcs, hw⟩
  match l, hlen with
  | [q0, q1, q2, q3], _ =>
    obtain ⟨x0, e0, w0⟩ := hE 0 (by omega)
    obtain ⟨x1, e1, w1⟩ := hE 1 (by omega)
    obtain ⟨x2, e2, -⟩ := hE 2 (by omega)
    obtain ⟨x3, e3, -⟩ := hE 3 (by omega)
    simp at e0 e1 e2 e3
    subst e0 e1 e2 e3
    exact ⟨x0, x1, x2, x3, rfl, w0, w1⟩
end
end Go.Proofs.Ytobjadfchpgjeaa
