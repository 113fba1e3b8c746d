/-
  Two heaps that know nothing of one another; what both hand out.
-/
import Derived.Test.YtdhiomahcilffaaSW1
namespace Go.Proofs.Ytdhiomahcilffaa
open Go.RowKit Go.Shelf
set_option linter.unusedVariables false
set_option linter.unusedSimpArgs false
section
variable {n l : Nat} {P : Program} {ops : Array Oper} {md : Region.Mode} {Q : Exit → Act → World → Prop}
theorem oper_inW {o : Oper} {a : Act} {w : World} {K K' : Act → World → Prop} (hnd : ∀ c, o.op ≠ .defer c) (hK : ∀ a w, K a w → K' a w) (h : o.wp P a w K Q) : o.wpIn Fence.wide n P a w K' Q := by
  unfold Oper.wp at h
  unfold Oper.wpIn
  refine ⟨fun _ _ => trivial, ?_⟩
  rw [Oper.semAt_eq _ _ _ hnd]
  generalize (execOp a.eval o).run P w = r at *
  cases r with
  | ok x w' =>
    cases x <;> simp only [Oper.upon] at h <;> simp only [Oper.uponIn]
    case value u => exact hK _ _ h
    case skip => exact hK _ _ h
    case defer d => exact hK _ _ h
    case enter f args =>
      refine ⟨(fun h => by cases h), callsIn_wide.2 (h.mono ?_)⟩
      rintro e w'' he
      cases e with
      | returned v => exact hK _ _ he
      | panicked ch => exact he
      | outgrown => exact he
    case row r args =>
      refine ⟨(fun h => by cases h), fun c cs _ => ?_⟩
      obtain ⟨v, w2, hr, hs⟩ := h c cs
      exact ⟨v, w2, hK _ _ hr, stepsIn_wide.2 hs⟩
  | halt x w' => cases x <;> exact h
theorem wpOp_inW {i : Nat} {a : Act} {w : World} {K K' : Act → World → Prop} (hno : ¬ LetsOut Q) (hnd : ∀ (i : Nat) (o : Oper), ops[i]? = some o → ∀ c, o.op ≠ .defer c) (hK : ∀ a w, K a w → K' a w)
    (h : wpOp P ops Q i K a w) : wpOpIn Fence.wide n P ops Q i K' a w := by
  unfold wpOp at h
  unfold wpOpIn
  split
  · rename_i ho; simp only [ho] at h; exact hK _ _ h
  · rename_i o ho
    simp only [ho] at h
    split
    · rename_i hw
      simp only [hw, if_true] at h
      rcases h with h | h
      · exact oper_inW (hnd i o ho) hK h
      · exact absurd h.2 hno
    · rename_i hw
      simp only [hw] at h
      exact ⟨fun _ _ => trivial, hK _ _ h⟩
theorem wpAny_inW (hno : ¬ LetsOut Q) (hnd : ∀ (i : Nat) (o : Oper), ops[i]? = some o → ∀ c, o.op ≠ .defer c) : ∀ (fuel : Nat) (listed : Array Bool) (a : Act) (w : World),
    wpAny P md ops Q fuel listed a w → wpAnyIn Fence.wide n P md ops Q fuel listed a w
  | 0, _, _, _, h => h
  | fuel + 1, _, _, _, h => ⟨h.1, fun i hi => wpOp_inW hno hnd (fun a' w' => wpAny_inW hno hnd fuel _ a' w') (h.2 i hi)⟩
end
theorem wpIn_region_heldW {n : Nat} {P : Program} {id : Nat} {Q : Exit → Act → World → Prop} {a : Act} {w : World} {L : List Oper} {S : World → Prop} (hno : ¬ LetsOut Q) (hm : P.follows .mixedOrders = true) (hd : noDefer L = true) (hS : S w.drew)
    (h : S w.drew → wpAnyH P .any L.toArray Q S L.toArray.size (Array.replicate L.toArray.size false) a w.drew) : (Code.region id L.toArray true).wpIn Fence.wide n P Q a w :=
  wpIn_region_any hm (wpAny_inW hno (fun i o ho => noDefer_at hd ho) _ _ _ _ (wpAny_of_held _ _ _ _ (h hS)))
theorem only_in {K : Act → World → Prop} : ¬ LetsOut (Only K) := fun ⟨_, _, h⟩ => h
theorem wpIn_only {n : Nat} {c : Code} {Q : Exit → Act → World → Prop} {a : Act} {w : World} (h : Code.wpIn Fence.wide n Try.prog c (Only (fun a' w' => Q .normal a' w')) a w) : Code.wpIn Fence.wide n Try.prog c Q a w := by
  refine wpIn_mono h ?_
  rintro (_ | _ | _ | _ | _) a' w' hO
  all_goals first | exact hO.elim | exact hO
theorem Hs.not_box {w : World} {b : Nat} {v : Value} {n : Int} {S : List It} (h : Hs w b v n S) {B : Nat} {t : TypeId} {u : Value} (hB : Boxed w B t u) (h1 : t ≠ 59) (h2 : t ≠ 56) : ¬ Hb b v B := by
  obtain ⟨l, q1, q2, _⟩ := h
  rintro (e | e)
  · subst e
    have h' : w.heap[B]? = _ := q1
    have h3 : w.heap[B]? = _ := hB
    rw [h'] at h3
    simp at h3
  · exact Boxed.not_row hB h1 q2 e.symm
/-- Two heaps, both in memory from block B on. -/
structure Dd (B b1 b2 : Nat) (u1 u2 : Value) (n1 n2 : Int) (S1 S2 : List It) (w : World) : Prop where
  h1 : Hs w b1 u1 n1 S1
  h2 : Hs w b2 u2 n2 S2
  nb : b1 ≠ b2
  nu : ∀ k, u1.ownBlock = some k → u2.ownBlock ≠ some k
  k1 : ∀ k, Hb b1 u1 k → B ≤ k
  k2 : ∀ k, Hb b2 u2 k → B ≤ k
section
variable {B b1 b2 : Nat} {u1 u2 u : Value} {n1 n2 n : Int} {S1 S2 S : List It} {w w' : World}
theorem Dd.symm (h : Dd B b1 b2 u1 u2 n1 n2 S1 S2 w) : Dd B b2 b1 u2 u1 n2 n1 S2 S1 w := ⟨h.h2, h.h1, fun e => h.nb e.symm, fun k e e' => h.nu k e' e, h.k2, h.k1⟩
theorem Dd.apart (h : Dd B b1 b2 u1 u2 n1 n2 S1 S2 w) : ∀ k, Hb b1 u1 k → ¬ Hb b2 u2 k := by
  obtain ⟨l1, p1, p2, _⟩ := h.h1
  obtain ⟨l2, q1, q2, _⟩ := h.h2
  rintro k (e | e) (e' | e')
  · exact h.nb (e.symm.trans e')
  · subst e; exact p1.ne_row q2 (by decide) e'
  · subst e'; exact q1.ne_row p2 (by decide) e
  · exact h.nu k e e'
theorem Dd.turn1 (h : Dd B b1 b2 u1 u2 n1 n2 S1 S2 w) (hB : B ≤ w.heap.size) (t : Turns (Hb b1 u1) w w') (hs : Hs w' b1 u n S) (ho : ∀ k, u.ownBlock = some k → u1.ownBlock = some k ∨ w.heap.size ≤ k) :
    Dd B b1 b2 u u2 n n2 S S2 w' ∧ Below B w w' := by
  obtain ⟨o1, o2, o3⟩ := h.h2.own
  refine ⟨⟨hs, h.h2.kept t (fun e => h.apart _ e (.inl rfl)) (fun k e e' => h.apart _ e' (.inr e)), h.nb, fun k e e' => ?_, fun k e => ?_, h.k2⟩, t.below (fun k e => h.k1 k e) hB⟩
  · rcases ho k e with q | q
    · exact h.nu k q e'
    · have := o2 k e'; omega
  · rcases e with e | e
    · exact h.k1 k (.inl e)
    · rcases ho k e with q | q
      · exact h.k1 k (.inr q)
      · omega
theorem Dd.upto (h : Dd B b1 b2 u1 u2 n1 n2 S1 S2 w) (hb : Below w.heap.size w w') : Dd B b1 b2 u1 u2 n1 n2 S1 S2 w' := { h with h1 := h.h1.upto hb, h2 := h.h2.upto hb }
theorem Dd.pushed (h : Dd B b1 b2 u1 u2 n1 n2 S1 S2 w) (hB : B ≤ w.heap.size) {t : It} (hp : Pushed w b1 u1 n1 S1 t w') : ∃ u, Dd B b1 b2 u u2 (n1 + 1) n2 (t :: S1) S2 w' ∧ Below B w w' := by
  obtain ⟨u, q1, q2, q3⟩ := hp
  exact ⟨u, h.turn1 hB q2 q1 q3⟩
theorem Dd.popped (h : Dd B b1 b2 u1 u2 n1 n2 S1 S2 w) (hB : B ≤ w.heap.size) {t : It} (hp : Popped w b1 u1 n1 S1 t w') : ∃ u R, (S1.Perm (t :: R) ∧ ∀ x ∈ S1, lt x t = false) ∧ Dd B b1 b2 u u2 n1 n2 R S2 w' ∧ Below B w w' := by
  obtain ⟨u, R, p1, p2, q1, q2, q3⟩ := hp
  exact ⟨u, R, ⟨p1, p2⟩, h.turn1 hB q2 q1 (fun k e => .inl (q3 k e))⟩
end
theorem its_uniq {zs : List Int} {s t : It} (hs : s ∈ its zs) (ht : t ∈ its zs) (h1 : lt s t = false) (h2 : lt t s = false) : s = t := by
  obtain ⟨i, hi, rfl⟩ := its_mem hs
  obtain ⟨j, hj, rfl⟩ := its_mem ht
  rw [lt_not] at h1 h2
  simp only at h1 h2
  have : i = j := by omega
  rw [this]
/-- Two that are the first of the same are one. -/
theorem both_first {zs : List Int} {R1 R2 R1' R2' : List It} {s t : It} (hp : R1.Perm R2) (hm : ∀ x ∈ R1, x ∈ its zs) (h1 : R1.Perm (s :: R1')) (m1 : ∀ x ∈ R1, lt x s = false) (h2 : R2.Perm (t :: R2')) (m2 : ∀ x ∈ R2, lt x t = false) : s = t ∧ R1'.Perm R2' := by
  have hs : s ∈ R1 := h1.mem_iff.2 (by simp)
  have ht : t ∈ R2 := h2.mem_iff.2 (by simp)
  have e : s = t := its_uniq (hm s hs) (hm t (hp.mem_iff.2 ht)) (m2 s (hp.mem_iff.1 hs)) (m1 t (hp.mem_iff.2 ht))
  subst e
  exact ⟨rfl, List.Perm.cons_inv ((h1.symm.trans hp).trans h2)⟩
theorem Drn.rest {S xs R1 R2 : List It} (h1 : Drn S xs R1) (h2 : Drn S xs R2) : R1.Perm R2 := (List.perm_append_left_iff xs).1 (h1.perm.symm.trans h2.perm)
theorem Drn.mem {S xs R : List It} (h : Drn S xs R) : ∀ x ∈ R, x ∈ S := fun x hx => h.perm.mem_iff.2 (List.mem_append_right _ hx)
theorem Drn.step {S xs R : List It} {t : It} (h : Drn S (xs ++ [t]) R) : ∃ R1, Drn S xs R1 ∧ R1.Perm (t :: R) ∧ ∀ u ∈ R1, lt u t = false := by
  generalize he : xs ++ [t] = ys at h
  cases h using Drn.cs with
  | start => simp at he
  | @next xs' R1 R' t' h1 h2 h3 =>
    have e1 := List.append_inj_left' he rfl
    have e2 := List.append_inj_right' he rfl
    simp at e2
    subst e1; subst e2
    exact ⟨R1, h1, h2, h3⟩
end Go.Proofs.Ytdhiomahcilffaa
