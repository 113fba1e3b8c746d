/-
  The document's May.
-/
import Derived.Test.YtggaobcdogbjhaaGreatDoorRefW
namespace Go.Proofs.YtggaobcdogbjhaaGreatDoor
open Go.RowKit
set_option linter.unusedVariables false
/-- Whether a building's foot has a cell of one of the list. -/
def busyB (l : List Bd) (t : Bd) : Bool := l.any (fun s => mtB s.x s.y s.a s.b t.x t.y t.a t.b)
def refcode (W H : Int) (l : List Bd) (t : Bd) : Int :=
  if mb W H t = false then 1 else if found l t.id = true then 8 else if 256 ≤ l.length then 2 else if busyB l t = true then 6 else 0
theorem refmaybe_is {t : Bd} {W H : Int} {w : World} {c : Bool} (h : mb W H t = c) : Calls Tryz.prog 91 #[t.v, rct 0 0 W H] w fun e w' => e = .returned (.bool c) ∧ Below w.heap.size w w' := by subst h; exact refmaybe_any t W H w
theorem share_is {x y a b p q c d : Int} {w : World} {o : Bool} (h : mtB x y a b p q c d = o) : Calls Tryz.prog 92 #[rct x y a b, rct p q c d] w fun e w' => e = .returned (.bool o) ∧ Below w.heap.size w w' := by subst h; exact share_any x y a b p q c d w
theorem busy_no {l : List Bd} {t : Bd} (h : ∀ (j : Nat) s, l[j]? = some s → j < l.length → mtB s.x s.y s.a s.b t.x t.y t.a t.b = false) : busyB l t = false := by
  unfold busyB
  rw [List.any_eq_false]
  intro s hs
  obtain ⟨j, hj, rfl⟩ := List.getElem_of_mem hs
  simp [h j l[j] (List.getElem?_eq_getElem hj) hj]
theorem busy_yes {l : List Bd} {t s : Bd} {j : Nat} (hs : l[j]? = some s) (h : mtB s.x s.y s.a s.b t.x t.y t.a t.b = true) : busyB l t = true := by
  unfold busyB
  rw [List.any_eq_true]
  exact ⟨s, List.mem_of_getElem? hs, h⟩
end Go.Proofs.YtggaobcdogbjhaaGreatDoor
