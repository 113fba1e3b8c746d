/-
  A map from numbers to rectangles, as a function; the index: where its two maps lie.
-/
import Derived.Test.YtkodeopkgmichaaNest
import Derived.Maps.RangeWalk
namespace Go.Proofs.Ytkodeopkgmichaa
open Go.RowKit Go.Shelf
set_option linter.unusedVariables false
structure Rc where
  x : Int
  y : Int
  a : Int
  b : Int
abbrev rct (x y a b : Int) : Value := .agg #[.int .i64 x, .int .i64 y, .int .i64 a, .int .i64 b]
abbrev ptr (p : Nat) : Value := .pointer (some ⟨p, 0, none⟩)
abbrev Rc.v (r : Rc) : Value := rct r.x r.y r.a r.b
def Rc.no : Rc := ⟨0, 0, 0, 0⟩
def Rc.d (r : Rc) : DataW Unit := .agg [.lit (.int .i64 r.x), .lit (.int .i64 r.y), .lit (.int .i64 r.a), .lit (.int .i64 r.b)]
/-- How a rectangle in a map reads. -/
def rcElem : Value → Option (DataW Unit × List MemPlace)
  | .agg xs => match xs.toList with
    | [.int .i64 x, .int .i64 y, .int .i64 a, .int .i64 b] => some (Rc.d ⟨x, y, a, b⟩, [])
    | _ => none
  | _ => none
theorem rcElem_mk (r : Rc) : rcElem r.v = some (r.d, []) := rfl
theorem Rc.d_inj {r s : Rc} (h : r.d = s.d) : r = s := by
  cases r; cases s; simpa [Rc.d] using h
theorem rcElem_inv {v : Value} {z : DataW Unit × List MemPlace} (h : rcElem v = some z) : ∃ r : Rc, v = r.v ∧ z = (r.d, []) := by
  unfold rcElem at h
  split at h
  · rename_i xs
    split at h
    · rename_i x y a b e
      cases h
      exact ⟨⟨x, y, a, b⟩, by rw [← Array.toArray_toList (xs := xs), e], rfl⟩
    · cases h
  · cases h
theorem law3 : Maps.Keyed Try.prog 3 := Maps.int_keyed Try.underlying3
theorem hk3 {i : Int} (hi : W64 i) : keyOf Try.prog 3 (.int .i64 i) = some (.int .i64 i) := Maps.keyOf_int_mk Try.underlying3 hi
theorem zero34 (w : World) : (zeroValue 34).run Try.prog w = .ok Rc.no.v w := by kernel_rfl
/-- Block b is a map of n units: g says where each stands. -/
def Feet (w : World) (b n : Nat) (g : Int → Option Rc) : Prop :=
  ∃ D : DataW Unit, w.ownsMap Try.prog 3 rcElem b n D ∧ Maps.size D = n ∧ ∀ i, W64 i → Maps.has D (.int .i64 i) = (g i).isSome ∧ D.atKey (.int .i64 i) Rc.no.d = ((g i).getD Rc.no).d
theorem Feet.lt {w : World} {b n : Nat} {g : Int → Option Rc} (h : Feet w b n g) : b < w.heap.size := by obtain ⟨D, h, _⟩ := h; exact h.lt
theorem Feet.kept {w w' : World} {b n : Nat} {g : Int → Option Rc} {S : Nat → Prop} (h : Feet w b n g) (ht : Turns S w w') (hb : ¬ S b) : Feet w' b n g := by
  obtain ⟨D, ⟨es, clock, h1, h2⟩, h3⟩ := h
  exact ⟨D, ⟨es, clock, ht.same hb h1, h2⟩, h3⟩
theorem Feet.upto {w w' : World} {b n : Nat} {g : Int → Option Rc} {N : Nat} (h : Feet w b n g) (hB : Below N w w') (hb : b < N) : Feet w' b n g := by
  obtain ⟨D, ⟨es, clock, h1, h2⟩, h3⟩ := h
  exact ⟨D, ⟨es, clock, (hB.block b hb).trans h1, h2⟩, h3⟩
theorem Who.upto {w w' : World} {b n : Nat} {f : Int → Int → Option Int} {N : Nat} (h : Who w b n f) (hB : Below N w w') (hb : b < N) : Who w' b n f := by
  obtain ⟨D, ⟨es, clock, h1, h2⟩, h3⟩ := h
  exact ⟨D, ⟨es, clock, (hB.block b hb).trans h1, h2⟩, h3⟩
theorem Feet.look {w : World} {b n : Nat} {g : Int → Option Rc} (h : Feet w b n g) {i : Int} (hi : W64 i) :
    (Instr.lookup 59 (.map (some b)) (.int .i64 i) true).run Try.prog w = .ok (.tuple #[((g i).getD Rc.no).v, .bool (g i).isSome]) w := by
  obtain ⟨D, h, _, hD⟩ := h
  obtain ⟨h1, h2⟩ := hD i hi
  obtain ⟨v, ps, hrun, hR⟩ := h.look_ok law3 Try.underlying59 (zero34 w) (rcElem_mk Rc.no) (hk3 hi)
  rw [h2] at hR
  obtain ⟨r, rfl, hz⟩ := rcElem_inv hR
  simp only [Prod.mk.injEq] at hz
  rw [hrun, h1, ← Rc.d_inj hz.1]
theorem Feet.len {w : World} {b n : Nat} {g : Int → Option Rc} (h : Feet w b n g) (ty : TypeId) : (Builtin.len_ #[59] ty #[.map (some b)]).run Try.prog w = .ok (.int .i64 n) w := by
  obtain ⟨D, h, hn, _⟩ := h
  have := h.len Try.underlying59 ty
  rwa [hn] at this
theorem Feet.put {w : World} {b n : Nat} {g : Int → Option Rc} (h : Feet w b n g) {i : Int} (hi : W64 i) (r : Rc) (hn : n < maxLen) :
    ∃ w', (Instr.mapUpdate 59 (.map (some b)) (.int .i64 i) r.v).run Try.prog w = .ok () w' ∧ Feet w' b (if (g i).isSome then n else n + 1) (fun j => if j = i then some r else g j) ∧ w.grownBy w' (some b) := by
  obtain ⟨D, h, hs, hD⟩ := h
  obtain ⟨w', hrun, hown, hg⟩ := h.update law3 Try.underlying59 hn (hk3 hi) (rcElem_mk r)
  have hz : Maps.size (D.put (.int .i64 i) r.d) = if (g i).isSome then n else n + 1 := by rw [Maps.size_put (h.tidy law3), (hD i hi).1, hs]
  refine ⟨w', hrun, ⟨_, ?_, hz, fun j hj => ?_⟩, hg⟩
  · obtain ⟨es, clock, e1, e2, e3, e4⟩ := hown
    refine ⟨es, clock, e1, e2, ?_, e4⟩
    rw [← hz, e4]; simp [Maps.size, length_sorted]
  · dsimp only
    by_cases e : j = i
    · rw [if_pos e, e]
      exact ⟨Maps.has_put_same h.isMap (law3.key (hk3 hi)) _, Maps.atKey_put_same h.isMap (law3.key (hk3 hi)) _ _⟩
    · rw [if_neg e]
      have hne : (Lit.int .i64 j) ≠ .int .i64 i := fun hh => e (by simpa using hh)
      rw [Maps.has_put_other hne, Maps.atKey_put_other hne]
      exact hD j hj
theorem Feet.drop {w : World} {b n : Nat} {g : Int → Option Rc} (h : Feet w b (n + 1) g) {i : Int} (hi : W64 i) (hs : (g i).isSome = true) (ty : TypeId) :
    ∃ w', (Builtin.delete_ #[59, 3] ty #[.map (some b), .int .i64 i]).run Try.prog w = .ok (.tuple #[]) w' ∧ Feet w' b n (fun j => if j = i then none else g j) ∧ w.grownBy w' (some b) := by
  obtain ⟨D, h, hz, hD⟩ := h
  obtain ⟨w', hrun, hown, hg⟩ := h.drop law3 Try.underlying59 (hk3 hi) ty
  have hz' : Maps.size (D.del (.int .i64 i)) = n := by
    have := Maps.size_del (k := .int .i64 i) (h.tidy law3)
    rw [(hD i hi).1, hs, hz] at this
    simpa using this
  refine ⟨w', hrun, ⟨_, ?_, hz', fun j hj => ?_⟩, hg.grown⟩
  · obtain ⟨es, clock, e1, e2, e3, e4⟩ := hown
    refine ⟨es, clock, e1, e2, ?_, e4⟩
    rw [← hz', e4]; simp [Maps.size, length_sorted]
  · dsimp only
    by_cases e : j = i
    · rw [if_pos e, e]
      exact ⟨Maps.has_del_same, Maps.atKey_del_same _⟩
    · rw [if_neg e]
      have hne : (Lit.int .i64 j) ≠ .int .i64 i := fun hh => e (by simpa using hh)
      rw [Maps.has_del_other hne, Maps.atKey_del_other hne]
      exact hD j hj
theorem Feet.made (w : World) : Feet (w.alloc (.map #[] 0)) w.heap.size 0 (fun _ => none) :=
  ⟨.map [], World.ownsMap_made w _ _ _, rfl, fun i _ => ⟨rfl, rfl⟩⟩
/-- In block p lies an index: its units in block fm, its cells in block bm. -/
structure Ix (w : World) (p fm bm n m : Nat) (g : Int → Option Rc) (f : Int → Int → Option Int) : Prop where
  c0 : w.cell? ⟨p, 0, none⟩ = some (.map (some fm))
  c1 : w.cell? ⟨p, 1, none⟩ = some (.map (some bm))
  feet : Feet w fm n g
  who : Who w bm m f
  ne : fm ≠ bm
theorem Ix.lt {w : World} {p fm bm n m : Nat} {g : Int → Option Rc} {f : Int → Int → Option Int} (h : Ix w p fm bm n m g f) : p < w.heap.size := World.block_lt_of_cell? w _ h.c0
theorem Ix.upto {w w' : World} {p fm bm n m N : Nat} {g : Int → Option Rc} {f : Int → Int → Option Int} (h : Ix w p fm bm n m g f) (hB : Below N w w') (hN : w.heap.size ≤ N) : Ix w' p fm bm n m g f :=
  ⟨(hB.cell (p := ⟨p, 0, none⟩) (Nat.lt_of_lt_of_le h.lt hN)).trans h.c0, (hB.cell (p := ⟨p, 1, none⟩) (Nat.lt_of_lt_of_le h.lt hN)).trans h.c1, h.feet.upto hB (Nat.lt_of_lt_of_le h.feet.lt hN), h.who.upto hB (Nat.lt_of_lt_of_le h.who.lt hN), h.ne⟩
theorem Ix.kept {w w' : World} {p fm bm n m : Nat} {g : Int → Option Rc} {f : Int → Int → Option Int} (h : Ix w p fm bm n m g f) (hB : Below w.heap.size w w') : Ix w' p fm bm n m g f := h.upto hB (Nat.le_refl _)
end Go.Proofs.Ytkodeopkgmichaa
