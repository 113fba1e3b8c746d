/-
  Raze of a World.
-/
import Derived.Test.YthacppifndakjaaDoorAtW
import Derived.Test.YthacppifndakjaaDoorDelete
namespace Go.Proofs.YthacppifndakjaaDoor
open Go.RowKit Go.Shelf
set_option linter.unusedVariables false
attribute [local go_sem] Oper.semAt_some
/-- f, but nobody on the cells of pre. -/
def delAll (f : Int → Int → Option Int) (pre : List Cel) : Int → Int → Option Int := fun x y => if pre.any (fun q => decide (q.1.1 = x ∧ q.1.2 = y)) = true then none else f x y
theorem delAll_nil (f : Int → Int → Option Int) : delAll f [] = f := by funext x y; simp [delAll]
theorem delAll_snoc (f : Int → Int → Option Int) (pre : List Cel) (q : Cel) : delAll f (pre ++ [q]) = fun u v => if u = q.1.1 ∧ v = q.1.2 then none else delAll f pre u v := by
  funext u v
  unfold delAll
  rw [List.any_append]
  by_cases h : u = q.1.1 ∧ v = q.1.2
  · rw [if_pos h, if_pos]; simp [h.1, h.2]
  · rw [if_neg h]
    have : ([q].any fun q => decide (q.1.1 = u ∧ q.1.2 = v)) = false := by simp; intro h1 h2; exact h ⟨h1.symm, h2.symm⟩
    rw [this, Bool.or_false]
theorem ownFrom_who0 {B b n : Nat} {F : List Cel → Int → Int → Option Int} (hb : b < B) : OwnFrom B (fun (pre : List Cel) W => Who W b n (F pre)) := fun s X Y row hs hg hr =>
  hs.kept (Turns.of_grown (S := fun k => row = some k) hg (fun k e => e)) (fun e => by have := (hr _ e).1; omega)
def del (l : List Bd) (i : Nat) : List Bd := l.take i ++ l.drop (i + 1)
theorem del_len {l : List Bd} {i : Nat} (h : i < l.length) : (del l i).length = l.length - 1 := by simp [del]; omega
/-- What Raze leaves. -/
def Razed (w : World) (p bm n : Nat) (W H : Int) (tv bv ev : Value) (f : Int → Int → Option Int) (l : List Bd) (es : List Rc) (i : Nat) (t : Bd) (w' : World) : Prop :=
  ∃ bv' ev', Wd w' p W H tv bv' bm ev' ∧ Bds w' bv' (del l i) ∧ Who w' bm n (delAll f (allC t.x t.y t.a t.b)) ∧ Rcs w' ev' (es ++ [t.foot]) ∧
    Turns (fun k => k = p ∨ k = bm ∨ bv.ownBlock = some k ∨ ev.ownBlock = some k) w w' ∧ (∀ k, bv'.ownBlock = some k → bv.ownBlock = some k ∨ w.heap.size ≤ k) ∧ (∀ k, ev'.ownBlock = some k → ev.ownBlock = some k ∨ w.heap.size ≤ k)
end Go.Proofs.YthacppifndakjaaDoor
