/-
  A world as the program has it and as the document has it, side by side.
-/
import Derived.Test.YtobjadfchpgjeaaRefRaze2
set_option linter.unusedSimpArgs false
namespace Go.Proofs.Ytobjadfchpgjeaa
open Go.RowKit
set_option linter.unusedVariables false
/-- The two worlds' own blocks lie apart. -/
structure BoAt (N : Nat) (w : World) (p r : Nat) (W H : Int) (tl : List Nat) (l : List Bd) (es : List Rc) (bm n : Nat) (tv bv ev rt rb re : Value) : Prop where
  d : Wd w p W H tv bv bm ev
  t : Tls w tv tl
  b : Bds w bv l
  f : Who w bm n (whoF l)
  e : Rcs w ev es
  d' : Rd w r W H rt rb re
  t' : Tls w rt tl
  b' : Bds w rb l
  e' : Rcs w re es
  sb : ∀ k, bv.ownBlock = some k → rb.ownBlock ≠ some k
  se : ∀ k, ev.ownBlock = some k → re.ownBlock ≠ some k
  np : N ≤ p
  nr : N ≤ r
  nm : N ≤ bm
  nb : ∀ k, bv.ownBlock = some k → N ≤ k
  ne : ∀ k, ev.ownBlock = some k → N ≤ k
  nb' : ∀ k, rb.ownBlock = some k → N ≤ k
  ne' : ∀ k, re.ownBlock = some k → N ≤ k
theorem wd_ne_rd {w : World} {p r bm : Nat} {W H W' H' : Int} {tv bv ev rt rb re : Value} (h : Wd w p W H tv bv bm ev) (h' : Rd w r W' H' rt rb re) : p ≠ r := fun e => by
  subst e
  have a : w.heap[p]? = _ := h
  have b : w.heap[p]? = _ := h'
  rw [a] at b
  cases b
theorem who_ne_cells {w : World} {b n r : Nat} {f : Int → Int → Option Int} {W H : Int} {rt rb re : Value} (h : Who w b n f) (h' : Rd w r W H rt rb re) : b ≠ r := fun e => by
  subst e
  obtain ⟨D, ⟨es, clock, h1, h2⟩, -⟩ := h
  have b' : w.heap[b]? = _ := h'
  rw [h1] at b'
  cases b'
section
variable {N : Nat} {w w' : World} {p r : Nat} {W H : Int} {tl : List Nat} {l : List Bd} {es : List Rc} {bm n : Nat} {tv bv ev rt rb re : Value}
/-- What the document has, behind a turn of the program's. -/
theorem BoAt.doc (h : BoAt N w p r W H tl l es bm n tv bv ev rt rb re) (T : Turns (fun k => k = p ∨ k = bm ∨ bv.ownBlock = some k ∨ ev.ownBlock = some k) w w') : Rd w' r W H rt rb re ∧ Tls w' rt tl ∧ Bds w' rb l ∧ Rcs w' re es := by
  refine ⟨h.d'.kept T ?_, h.t'.kept T (fun k e => ?_), h.b'.kept T (fun k e => ?_), h.e'.kept T (fun k e => ?_)⟩
  · rintro (q | q | q | q)
    · exact wd_ne_rd h.d h.d' q.symm
    · exact who_ne_cells h.f h.d' q.symm
    · exact h.d'.ne_row h.b (by decide) q
    · exact h.d'.ne_row h.e (by decide) q
  · rintro (q | q | q | q)
    · subst q; exact h.d.ne_row h.t' (by decide) e
    · subst q; exact row_ne_map h.t' h.f e
    · exact rows_ne h.t' h.b (by decide) e q
    · exact rows_ne h.t' h.e (by decide) e q
  · rintro (q | q | q | q)
    · subst q; exact h.d.ne_row h.b' (by decide) e
    · subst q; exact row_ne_map h.b' h.f e
    · exact h.sb k q e
    · exact rows_ne h.b' h.e (by decide) e q
  · rintro (q | q | q | q)
    · subst q; exact h.d.ne_row h.e' (by decide) e
    · subst q; exact row_ne_map h.e' h.f e
    · exact rows_ne h.e' h.b (by decide) e q
    · exact h.se k q e
/-- Behind a turn of the document's the program's is as it was. -/
theorem prog_kept {l l' : List Bd} {es es' : List Rc} {f : Int → Int → Option Int} (hd : Wd w p W H tv bv bm ev) (ht : Tls w tv tl) (hb : Bds w bv l) (hf : Who w bm n f) (he : Rcs w ev es) (hd' : Rd w r W H rt rb re) (hb' : Bds w rb l') (he' : Rcs w re es')
    (sb : ∀ k, bv.ownBlock = some k → rb.ownBlock ≠ some k) (se : ∀ k, ev.ownBlock = some k → re.ownBlock ≠ some k)
    (T : Turns (fun k => k = r ∨ rb.ownBlock = some k ∨ re.ownBlock = some k) w w') : Wd w' p W H tv bv bm ev ∧ Tls w' tv tl ∧ Bds w' bv l ∧ Who w' bm n f ∧ Rcs w' ev es := by
  refine ⟨hd.kept T ?_, ht.kept T (fun k e => ?_), hb.kept T (fun k e => ?_), hf.kept T ?_, he.kept T (fun k e => ?_)⟩
  · rintro (q | q | q)
    · exact wd_ne_rd hd hd' q
    · exact hd.ne_row hb' (by decide) q
    · exact hd.ne_row he' (by decide) q
  · rintro (q | q | q)
    · subst q; exact hd'.ne_row ht (by decide) e
    · exact rows_ne ht hb' (by decide) e q
    · exact rows_ne ht he' (by decide) e q
  · rintro (q | q | q)
    · subst q; exact hd'.ne_row hb (by decide) e
    · exact sb k e q
    · exact rows_ne hb he' (by decide) e q
  · rintro (q | q | q)
    · exact who_ne_cells hf hd' q
    · exact row_ne_map hb' hf q
    · exact row_ne_map he' hf q
  · rintro (q | q | q)
    · subst q; exact hd'.ne_row he (by decide) e
    · exact rows_ne he hb' (by decide) e q
    · exact se k e q
theorem BoAt.below (h : BoAt N w p r W H tl l es bm n tv bv ev rt rb re) (hb : Below w.heap.size w w') : BoAt N w' p r W H tl l es bm n tv bv ev rt rb re := by
  have T : Turns NoB w w' := Turns.of_below hb
  exact { h with d := h.d.kept T id, t := h.t.kept T (fun _ _ => id), b := h.b.kept T (fun _ _ => id), f := h.f.kept T id, e := h.e.kept T (fun _ _ => id), d' := h.d'.kept T id, t' := h.t'.kept T (fun _ _ => id), b' := h.b'.kept T (fun _ _ => id), e' := h.e'.kept T (fun _ _ => id) }
/-- Both have been turned, one behind the other. -/
theorem BoAt.two {w2 : World} {l' : List Bd} {es' : List Rc} {n' : Nat} {bv' ev' rb' re' : Value} (h : BoAt N w p r W H tl l es bm n tv bv ev rt rb re) (hN : N ≤ w.heap.size)
    (d1 : Wd w' p W H tv bv' bm ev') (b1 : Bds w' bv' l') (f1 : Who w' bm n' (whoF l')) (e1 : Rcs w' ev' es') (T1 : Turns (fun k => k = p ∨ k = bm ∨ bv.ownBlock = some k ∨ ev.ownBlock = some k) w w')
    (o1 : ∀ k, bv'.ownBlock = some k → bv.ownBlock = some k ∨ w.heap.size ≤ k) (o2 : ∀ k, ev'.ownBlock = some k → ev.ownBlock = some k ∨ w.heap.size ≤ k)
    (d2 : Rd w2 r W H rt rb' re') (b2 : Bds w2 rb' l') (e2 : Rcs w2 re' es') (T2 : Turns (fun k => k = r ∨ rb.ownBlock = some k ∨ re.ownBlock = some k) w' w2)
    (o3 : ∀ k, rb'.ownBlock = some k → rb.ownBlock = some k ∨ w'.heap.size ≤ k) (o4 : ∀ k, re'.ownBlock = some k → re.ownBlock = some k ∨ w'.heap.size ≤ k) :
    BoAt N w2 p r W H tl l' es' bm n' tv bv' ev' rt rb' re' ∧ Below N w w2 := by
  have hdoc := h.doc T1
  have t1 : Tls w' tv tl := h.t.kept T1 (fun k e => by
    rintro (q | q | q | q)
    · subst q; exact h.d.ne_row h.t (by decide) e
    · subst q; exact row_ne_map h.t h.f e
    · exact rows_ne h.t h.b (by decide) e q
    · exact rows_ne h.t h.e (by decide) e q)
  have sb1 : ∀ k, bv'.ownBlock = some k → rb.ownBlock ≠ some k := fun k e q => by
    rcases o1 k e with h1 | h1
    · exact h.sb k h1 q
    · have := (h.b'.lt k q).2; omega
  have se1 : ∀ k, ev'.ownBlock = some k → re.ownBlock ≠ some k := fun k e q => by
    rcases o2 k e with h1 | h1
    · exact h.se k h1 q
    · have := (h.e'.lt k q).2; omega
  obtain ⟨d3, t3, b3, f3, e3⟩ := prog_kept d1 t1 b1 f1 e1 hdoc.1 hdoc.2.2.1 hdoc.2.2.2 sb1 se1 T2
  have z1 := T1.size
  have B1 : Below N w w' := T1.below (fun k q => by
    rcases q with q | q | q | q
    · have := h.np; omega
    · have := h.nm; omega
    · exact h.nb k q
    · exact h.ne k q) hN
  have B2 : Below N w' w2 := T2.below (fun k q => by
    rcases q with q | q | q
    · have := h.nr; omega
    · exact h.nb' k q
    · exact h.ne' k q) (by omega)
  refine ⟨⟨d3, t3, b3, f3, e3, d2, hdoc.2.1.kept T2 (fun k e => ?_), b2, e2, fun k e q => ?_, fun k e q => ?_, h.np, h.nr, h.nm, fun k e => ?_, fun k e => ?_, fun k e => ?_, fun k e => ?_⟩, B1.trans B2⟩
  · rintro (q | q | q)
    · subst q; exact hdoc.1.ne_row hdoc.2.1 (by decide) e
    · exact rows_ne hdoc.2.1 hdoc.2.2.1 (by decide) e q
    · exact rows_ne hdoc.2.1 hdoc.2.2.2 (by decide) e q
  · rcases o3 k q with h1 | h1
    · exact sb1 k e h1
    · have := (b1.lt k e).2; omega
  · rcases o4 k q with h1 | h1
    · exact se1 k e h1
    · have := (e1.lt k e).2; omega
  · rcases o1 k e with h1 | h1
    · exact h.nb k h1
    · omega
  · rcases o2 k e with h1 | h1
    · exact h.ne k h1
    · omega
  · rcases o3 k e with h1 | h1
    · exact h.nb' k h1
    · omega
  · rcases o4 k e with h1 | h1
    · exact h.ne' k h1
    · omega
end
end Go.Proofs.Ytobjadfchpgjeaa
