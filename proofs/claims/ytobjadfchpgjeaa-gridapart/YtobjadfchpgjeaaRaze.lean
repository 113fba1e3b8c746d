/-
  Raze of a World.
-/
import Derived.Test.YtobjadfchpgjeaaAtW
import Derived.Test.YtobjadfchpgjeaaDelete
namespace Go.Proofs.Ytobjadfchpgjeaa
open Go.RowKit Go.Shelf
set_option linter.unusedVariables false
attribute [local go_sem] Oper.semAt_some
/-- f, but nobody on the cells of pre. -/
def delAll (f : Int → Int → Option Int) (pre : List Cel) : Int → Int → Option Int := fun x y => if pre.any (fun q => decide (q.1.1 = x ∧ q.1.2 = y)) = true then none else f x y
theorem delAll_nil (f : Int → Int → Option Int) : delAll f [] = f := by funext x y; simp [delAll]
theorem delAll_snoc (f : Int → Int → Option Int) (pre : List Cel) (q : Cel) : delAll f (pre ++ [q]) = fun u v => if u = q.1.1 ∧ v = q.1.2 then none else delAll f pre u v := by
  funext u v
  unfold delAll
  rw [List.any_append]
  by_cases h : u = q.1.1 ∧ v = q.1.2
  · rw [if_pos h, if_pos]; simp [h.1, h.2]
  · rw [if_neg h]
    have : ([q].any fun q => decide (q.1.1 = u ∧ q.1.2 = v)) = false := by simp; intro h1 h2; exact h ⟨h1.symm, h2.symm⟩
    rw [this, Bool.or_false]
theorem ownFrom_who0 {B b n : Nat} {F : List Cel → Int → Int → Option Int} (hb : b < B) : OwnFrom B (fun (pre : List Cel) W => Who W b n (F pre)) := fun s X Y row hs hg hr =>
  hs.kept (Turns.of_grown (S := fun k => row = some k) hg (fun k e => e)) (fun e => by have := (hr _ e).1; omega)
def del (l : List Bd) (i : Nat) : List Bd := l.take i ++ l.drop (i + 1)
theorem del_len {l : List Bd} {i : Nat} (h : i < l.length) : (del l i).length = l.length - 1 := by simp [del]; omega
theorem del_any (l : List Bd) (g cap i : Nat) (w : World) (hv : Bds w (.slice (some ⟨g, 0, none⟩) l.length cap) l) (hl : l.length ≤ 256) (hi : i < l.length) :
    Calls Try.prog 45 #[.slice (some ⟨g, 0, none⟩) l.length cap, .int .i64 i, .int .i64 ((i : Int) + 1)] w fun e w' => e = .returned (.slice (some ⟨g, 0, none⟩) (l.length - 1) cap) ∧ Bds w' (.slice (some ⟨g, 0, none⟩) (l.length - 1) cap) (del l i) ∧ w.grownBy w' (some g) := by
  refine (delete_any l g cap i w hv hl hi).mono ?_
  rintro e w' ⟨he, hb, hg⟩
  have hll := del_len hi
  unfold del at hll
  rw [hll] at he hb
  exact ⟨he, hb, hg⟩
/-- What Raze leaves. -/
def Razed (w : World) (p bm n : Nat) (W H : Int) (tv bv ev : Value) (f : Int → Int → Option Int) (l : List Bd) (es : List Rc) (i : Nat) (t : Bd) (w' : World) : Prop :=
  ∃ bv' ev', Wd w' p W H tv bv' bm ev' ∧ Bds w' bv' (del l i) ∧ Who w' bm n (delAll f (allC t.x t.y t.a t.b)) ∧ Rcs w' ev' (es ++ [t.foot]) ∧
    Turns (fun k => k = p ∨ k = bm ∨ bv.ownBlock = some k ∨ ev.ownBlock = some k) w w' ∧ (∀ k, bv'.ownBlock = some k → bv.ownBlock = some k ∨ w.heap.size ≤ k) ∧ (∀ k, ev'.ownBlock = some k → ev.ownBlock = some k ∨ w.heap.size ≤ k)
set_option maxRecDepth 100000 in
set_option maxHeartbeats 2000000 in
theorem raze_no (p bm : Nat) (W_ H : Int) (tv bv ev : Value) (l : List Bd) (i : Int) (w : World) (hd : Wd w p W_ H tv bv bm ev) (hl : Bds w bv l) (hs : Sorted l) (hlen : l.length ≤ 256) (hf : found l i = false) :
    Calls Try.prog 22 #[ptr p, .int .i64 i] w fun e w' => e = .returned (.tuple #[rct 0 0 0 0, .int .i64 4]) ∧ Below w.heap.size w w' := by
  refine (callsIn_wide (n := 10)).1 ?_
  refine callsIn_of_wp_marks Try.func22 rfl trivial ?_ rfl
  simp only [Try.ntmps22, List.size_toArray, List.length_cons, List.length_nil, Nat.reduceAdd, Nat.reduceSub, Array.replicate_succ, Array.replicate_zero, List.push_toArray, List.append_toArray, List.nil_append, List.cons_append]
  have B0 : Below w.heap.size w ((w.alloc (.cells #[ptr p] 27)).alloc (.cells #[.int .i64 0, .int .i64 0, .int .i64 0, .int .i64 0] 43)) := box2 _ _ _
  have T0 : Turns NoB w ((w.alloc (.cells #[ptr p] 27)).alloc (.cells #[.int .i64 0, .int .i64 0, .int .i64 0, .int .i64 0] 43)) := Turns.of_below B0
  have hd0 := hd.kept T0 id
  have hl0 := hl.kept T0 (fun _ _ => id)
  have HM := hide (made_is hd0)
  have HI := hide (index_is (hd0.c 5) hl0 hs hlen hf)
  have FR : Four ((w.alloc (.cells #[ptr p] 27)).alloc (.cells #[.int .i64 0, .int .i64 0, .int .i64 0, .int .i64 0] 43)) (w.heap.size + 1) 0 0 0 0 := cells4'' (Below.refl _ _)
  clear hd0 hl0 hd hl hs T0
  gi_wp2_with (first | (refine ⟨trivial, ?_⟩; gi_at_call 36; refine (callsIn_wide.2 HM.out).mono ?_; rintro e w1 ⟨rfl, rfl⟩)  | (refine ⟨trivial, ?_⟩; gi_at_call 39; refine (callsIn_wide.2 HI.out).mono ?_; rintro e w2 ⟨rfl, hb2⟩; have F2 := FR.kept hb2; obtain ⟨⟨c0, c1, c2, c3⟩, ⟨g0, g1, g2, g3⟩, zz⟩ := F2))
  refine ⟨.tuple #[rct 0 0 0 0, .int .i64 4], by simp [results, Try.results22, go_sem, c0, c1, c2, c3], rfl, ?_⟩
  exact set4 (bt B0 hb2) (by omega)
end Go.Proofs.Ytobjadfchpgjeaa
