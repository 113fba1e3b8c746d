/-
  Items that came in as an argument: what lies where; how many bytes they have together.
-/
import Derived.Test.YtaioniegggfcjaaOpens
import Derived.Lib.SmallJoins
import Derived.Deep.Slices
namespace Go.Proofs.Ytaioniegggfcjaa
open Go.ChangeShapes Go.WideShapes Go.ChangeAt Go.RowKit Go.Joins Go.Deep
set_option linter.unusedVariables false
/-- An item: what it is, its number, its bytes, the slice that leads to them, the most. -/
structure It where
  d : Int
  n : Nat
  b : List Nat
  s : Value
  m : Int
/-- Number i of the items that lie at a. -/
def ItemAt (w : World) (a : Option Addr) (i : Nat) (t : It) : Prop :=
  (∃ b o, a = some ⟨b, o, none⟩ ∧ b < w.heap.size ∧ w.cell? ⟨b, o + i * 4, none⟩ = some (.int .i64 t.d) ∧ w.cell? ⟨b, o + i * 4 + 1, none⟩ = some (.int .u64 (t.n : Nat)) ∧
    w.cell? ⟨b, o + i * 4 + 2, none⟩ = some t.s ∧ w.cell? ⟨b, o + i * 4 + 3, none⟩ = some (.int .i64 t.m)) ∧ (∃ a n c, t.s = .slice a n c) ∧ t.n < 18446744073709551616 ∧ (-9223372036854775808 ≤ t.m ∧ t.m ≤ 9223372036854775807)
def Items (w : World) (v : Value) (L : List It) : Prop :=
  ∃ a cap, v = .slice a L.length cap ∧ L.length ≤ cap ∧ ∀ i t, L[i]? = some t → ItemAt w a i t
theorem ItemAt.kept {w w' : World} {a : Option Addr} {i : Nat} {t : It} (h : ItemAt w a i t) (hb : Below w.heap.size w w') : ItemAt w' a i t := by
  obtain ⟨⟨b, o, e1, e2, e3, e4, e5, e6⟩, e7, e8, e9⟩ := h
  exact ⟨⟨b, o, e1, Nat.lt_of_lt_of_le e2 hb.size, by rw [hb.cell (p := ⟨b, _, none⟩) e2]; exact e3, by rw [hb.cell (p := ⟨b, _, none⟩) e2]; exact e4, by rw [hb.cell (p := ⟨b, _, none⟩) e2]; exact e5, by rw [hb.cell (p := ⟨b, _, none⟩) e2]; exact e6⟩, e7, e8, e9⟩
theorem cells28 : Try.prog.cellsOf 28 = 4 := by kernel_rfl
theorem cells3 : Try.prog.cellsOf 3 = 1 := by kernel_rfl
theorem cells26 : Try.prog.cellsOf 26 = 1 := by kernel_rfl
theorem cells22 : Try.prog.cellsOf 22 = 1 := by kernel_rfl
/-- What an item's reading says of its bytes, where they are not too many. -/
def Says {H : Type} (W : World) (x : DataW H) (t : It) : Prop :=
  ∃ y0 y1 y2 y3, x = .agg [y0, y1, y2, y3] ∧ ((∀ elems spare, y2 = .slice elems spare → elems.length ≤ 140737488355328) → Bys W t.s t.b ∧ ((y2 = .nil ∧ t.b = []) ∨ ∃ elems spare, y2 = .slice elems spare ∧ t.b.length = elems.length))
/-- One item that was read, cell by cell. -/
theorem opened_item {H : Type} {enc : TypeId × Value → H} {W : World} {base : Nat} {sp : Nat → Bool} {held : Bool} {fuel : Nat} {cs : List Value} {x : DataW H × List MemPlace}
    (h : DataW.trod enc Try.prog W base sp held fuel 28 cs = some x) :
    ∃ t : It, cs = [.int .i64 t.d, .int .u64 (t.n : Nat), t.s, .int .i64 t.m] ∧ (∃ a n c, t.s = .slice a n c) ∧ t.n < 18446744073709551616 ∧ (-9223372036854775808 ≤ t.m ∧ t.m ≤ 9223372036854775807) ∧ Says W x.1 t := by
  obtain ⟨y0, y1, y2, y3, n, hx, hl, e0, e1, e2, e3⟩ := trod_struct4 Try.underlying28 h
  rw [cells28] at hl
  match cs, hl with
  | [c0, c1, c2, c3], _ =>
    simp only [cells3, cells26, cells22, List.drop_zero, List.drop_succ_cons, List.take_succ_cons, List.take_zero] at e0 e1 e2 e3
    obtain ⟨x0, q0, -, wf0⟩ := DataW.trod_int Try.underlying3 e0
    obtain ⟨x1, q1, -, wf1⟩ := DataW.trod_int Try.underlying26 e1
    obtain ⟨x3, q3, -, wf3⟩ := DataW.trod_int Try.underlying3 e3
    simp at q0 q1 q3
    have hx1 : x.1 = .agg [y0.1, y1.1, y2.1, y3.1] := congrArg Prod.fst hx
    have b1 := bounds_u64 wf1
    have b3 := bounds_i64 wf3
    have hsl : ∃ a n c, c2 = .slice a n c := by
      obtain ⟨a, n, c, hc⟩ := slice_form Try.underlying22 e2
      simp only [List.cons.injEq, and_true] at hc
      exact ⟨a, n, c, hc⟩
    have hc : [c0, c1, c2, c3] = [.int .i64 x0, .int .u64 ((x1.toNat : Nat) : Int), c2, .int .i64 x3] := by
      rw [q0, q1, q3]
      simp only [List.cons.injEq, and_true, true_and, Value.int.injEq]
      omega
    by_cases hr : ∀ elems spare, y2.1 = .slice elems spare → elems.length ≤ 140737488355328
    · obtain ⟨b, hb, hbl⟩ := opened_trod e2 hr
      refine ⟨⟨x0, x1.toNat, b, c2, x3⟩, hc, hsl, by show x1.toNat < _; omega, by show _ ≤ x3 ∧ x3 ≤ _; omega, y0.1, y1.1, y2.1, y3.1, hx1, fun _ => ⟨hb, ?_⟩⟩
      show (_ ∧ b = []) ∨ ∃ elems spare, _ ∧ b.length = _
      rcases DataW.trod_slice Try.underlying22 e2 with ⟨hc, hn⟩ | ⟨a, len, cap, elems, rest, k, _, hc, hn, _⟩
      · left
        simp only [List.cons.injEq, and_true] at hc
        subst hc
        refine ⟨by rw [hn], ?_⟩
        obtain ⟨_, _, a', cap', he, hcc, ha, _⟩ := hb
        injection he with r1 r2 r3
        exact List.eq_nil_of_length_eq_zero r2.symm
      · right
        exact ⟨_, _, by rw [hn], hbl _ _ (by rw [hn])⟩
    · exact ⟨⟨x0, x1.toNat, [], c2, x3⟩, hc, hsl, by show x1.toNat < _; omega, by show _ ≤ x3 ∧ x3 ≤ _; omega, y0.1, y1.1, y2.1, y3.1, hx1, fun h => absurd h hr⟩
theorem four_cells {W : World} {base b o : Nat} {c0 c1 c2 c3 : Value} (h : W.cells? base ⟨b, o, none⟩ 4 = some [c0, c1, c2, c3]) :
    W.cell? ⟨b, o, none⟩ = some c0 ∧ W.cell? ⟨b, o + 1, none⟩ = some c1 ∧ W.cell? ⟨b, o + 2, none⟩ = some c2 ∧ W.cell? ⟨b, o + 3, none⟩ = some c3 := by
  obtain ⟨_, _, hc⟩ := World.cells?_some h
  have h0 := hc 0 (by omega)
  have h1 := hc 1 (by omega)
  have h2 := hc 2 (by omega)
  have h3 := hc 3 (by omega)
  simp only [Addr.add_lit] at h0 h1 h2 h3
  exact ⟨h0, h1, h2, h3⟩
/-- Items that were read. -/
theorem opened_items {H : Type} {enc : TypeId × Value → H} {W : World} {v : Value} {d : DataW H} {p : List MemPlace} (h : DataW.Trod enc Try.prog W 0 (fun _ => true) true 23 v d p)
    (hv : ∃ a n c, v = .slice a n c) : ∃ L : List It, Items W v L ∧ ((d = .nil ∧ L = []) ∨ ∃ (D : Nat → DataW H) (spare : List (DataW H)), d = .slice ((List.range L.length).map D) spare ∧ ∀ i t, L[i]? = some t → Says W (D i) t) := by
  obtain ⟨fuel, hf⟩ := h
  obtain ⟨a0, n0, c0, rfl⟩ := hv
  have hf' : DataW.trod enc Try.prog W 0 (fun _ => true) true fuel 23 [.slice a0 n0 c0] = some (d, p) := hf
  rcases open_slice Try.underlying23 hf' with ⟨hcs, hx⟩ | ⟨a, len, cap, m, n, D, Pl, hcs, hb, hl, hm, hmm, hx, hel⟩
  · simp only [List.cons.injEq, and_true] at hcs
    rw [hcs]
    refine ⟨[], ⟨none, 0, rfl, by simp, fun i t ht => by simp at ht⟩, Or.inl ⟨congrArg Prod.fst hx, rfl⟩⟩
  · simp only [List.cons.injEq, and_true] at hcs
    rw [hcs]
    simp only [if_true] at hmm
    rw [cells28] at hel
    have hit : Inhabited It := ⟨⟨0, 0, [], .slice none 0 0, 0⟩⟩
    obtain ⟨T, hT⟩ := choose_lt (α := It) (p := fun i t => ItemAt W (some a) i t ∧ Says W (D i) t) (n := len) (fun i hi => by
      obtain ⟨cs', h1, h2⟩ := hel i (by omega)
      obtain ⟨t, rfl, q1, q2, q3, q4⟩ := opened_item h2
      obtain ⟨cs0, g1, g2⟩ := hel 0 (by omega)
      obtain ⟨t0, rfl, _⟩ := opened_item g2
      have hc0 := (World.cells?_some g1).2.2 0 (by omega)
      obtain ⟨b, o, sp⟩ := a
      have hsp : sp = none := by
        have := World.cell?_spot (hc0.trans rfl)
        simpa [Addr.add] using this
      subst hsp
      rw [Addr.add_lit] at h1
      have h4 := four_cells h1
      exact ⟨t, ⟨⟨b, o, rfl, World.block_lt_of_cell? _ _ h4.1, h4.1, h4.2.1, h4.2.2.1, h4.2.2.2⟩, q1, q2, q3⟩, q4⟩)
    have hget : ∀ i t, ((List.range len).map T)[i]? = some t → i < len ∧ t = T i := by
      intro i t ht
      simp only [List.getElem?_map, Option.map_eq_some_iff] at ht
      obtain ⟨j, hj, rfl⟩ := ht
      obtain ⟨h1, h2⟩ := List.getElem?_eq_some_iff.1 hj
      simp only [List.length_range] at h1
      simp only [List.getElem_range] at h2
      subst h2
      exact ⟨h1, rfl⟩
    refine ⟨(List.range len).map T, ⟨some a, cap, by simp, by simpa using hl, fun i t ht => ?_⟩, Or.inr ⟨D, (List.range (m - len)).map fun j => D (len + j), ?_, fun i t ht => ?_⟩⟩
    · obtain ⟨h1, rfl⟩ := hget i t ht
      exact (hT i h1).1
    · rw [List.length_map, List.length_range]
      exact congrArg Prod.fst hx
    · obtain ⟨h1, rfl⟩ := hget i t ht
      exact (hT i h1).2
end Go.Proofs.Ytaioniegggfcjaa
