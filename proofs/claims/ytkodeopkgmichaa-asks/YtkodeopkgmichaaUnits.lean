/-
  A list of units by rising numbers, as both sides of an index have it.
-/
import Derived.Test.YtkodeopkgmichaaMove
import Derived.Maps.AppendAt
namespace Go.Proofs.Ytkodeopkgmichaa
open Go.RowKit Go.Shelf
set_option linter.unusedVariables false
set_option linter.unusedSimpArgs false
structure Bd where
  id : Int
  r : Rc
def Bd.cs (t : Bd) : List Value := [.int .i64 t.id, .int .i64 t.r.x, .int .i64 t.r.y, .int .i64 t.r.a, .int .i64 t.r.b]
abbrev Bd.v (t : Bd) : Value := .agg #[.int .i64 t.id, .int .i64 t.r.x, .int .i64 t.r.y, .int .i64 t.r.a, .int .i64 t.r.b]
theorem cs_len (l : List Bd) : (l.flatMap Bd.cs).length = l.length * 5 := by
  induction l with
  | nil => rfl
  | cons t r ih => rw [List.flatMap_cons, List.length_append, ih]; simp [Bd.cs]; omega
theorem cs_get : ∀ (l : List Bd) (i : Nat) (t : Bd) (j : Nat), l[i]? = some t → j < 5 → (l.flatMap Bd.cs)[i * 5 + j]? = t.cs[j]?
  | [], i, t, j, h, _ => by simp at h
  | s :: r, 0, t, j, h, hj => by
    simp at h; subst h
    rw [List.flatMap_cons, Nat.zero_mul, Nat.zero_add, List.getElem?_append_left (by simp [Bd.cs]; omega)]
  | s :: r, i + 1, t, j, h, hj => by
    simp at h
    rw [List.flatMap_cons, List.getElem?_append_right (by simp [Bd.cs]; omega)]
    rw [← cs_get r i t j h hj]
    congr 1
    simp [Bd.cs]; omega
def Sorted (l : List Bd) : Prop := l.Pairwise (fun s t => s.id < t.id)
/-- Where a unit stands. -/
def gOf (l : List Bd) (i : Int) : Option Rc := (l.find? (fun t => decide (t.id = i))).map Bd.r
/-- Who has a cell. -/
def fOf (l : List Bd) (x y : Int) : Option Int := (l.find? (fun t => has t.r.x t.r.y t.r.a t.r.b x y)).map Bd.id
theorem gOf_some {l : List Bd} {i : Int} {r : Rc} (h : gOf l i = some r) : ⟨i, r⟩ ∈ l := by
  unfold gOf at h
  cases hf : l.find? (fun t => decide (t.id = i)) with
  | none => rw [hf] at h; cases h
  | some t =>
    rw [hf] at h
    simp at h
    have h1 := List.mem_of_find?_eq_some hf
    have h2 := List.find?_some hf
    simp at h2
    subst h; subst h2
    exact h1
theorem gOf_mem {l : List Bd} (hs : Sorted l) {t : Bd} (h : t ∈ l) : gOf l t.id = some t.r := by
  induction l with
  | nil => simp at h
  | cons s r ih =>
    have hs' := List.pairwise_cons.1 hs
    unfold gOf
    rw [List.find?_cons]
    rcases List.mem_cons.1 h with rfl | h
    · simp
    · have := hs'.1 t h
      rw [show decide (s.id = t.id) = false by simp; omega]
      exact ih hs'.2 h
theorem gOf_none {l : List Bd} {i : Int} : gOf l i = none ↔ ∀ t ∈ l, t.id ≠ i := by
  unfold gOf
  simp [List.find?_eq_none]
theorem Sorted.nodup {l : List Bd} (h : Sorted l) : l.Nodup := h.imp (fun {a b} hab e => by subst e; omega)
theorem Sorted.perm_eq {l l' : List Bd} (h : Sorted l) (h' : Sorted l') (hp : l.Perm l') : l = l' :=
  hp.eq_of_pairwise (fun a b _ _ h1 h2 => by omega) h h'
end Go.Proofs.Ytkodeopkgmichaa
