/-
  A building that is placed and razed again.
-/
import Derived.Test.YtobjadfchpgjeaaSame
import Derived.Test.YtobjadfchpgjeaaMk2
import Derived.Test.YtobjadfchpgjeaaMapW
set_option linter.unusedSimpArgs false
namespace Go.Proofs.Ytobjadfchpgjeaa
open Go.RowKit
set_option linter.unusedVariables false
theorem pos_ins {l : List Bd} {t : Bd} : pos (ins l t) t.id = pos l t.id := by
  have h := @take_lt l t.id
  unfold pos
  rw [ins, List.takeWhile_append_of_pos (fun s hs => by simpa using h s hs)]
  simp
  have := pos_le l t.id
  unfold pos at *
  omega
theorem get_ins {l : List Bd} {t : Bd} : (ins l t)[pos (ins l t) t.id]? = some t := by
  rw [pos_ins, ins, List.getElem?_append_right (by simp; have := pos_le l t.id; omega)]
  have := pos_le l t.id
  simp [Nat.min_eq_left this]
theorem found_ins {l : List Bd} {t : Bd} : found (ins l t) t.id = true := by
  unfold found
  rw [List.any_eq_true]
  exact ⟨t, by simp [ins], by simp⟩
theorem del_ins {l : List Bd} {t : Bd} : del (ins l t) (pos (ins l t) t.id) = l := by
  rw [pos_ins]
  have hp := pos_le l t.id
  have hl : (l.take (pos l t.id)).length = pos l t.id := by rw [List.length_take]; omega
  unfold del ins
  obtain ⟨k, hk⟩ : ∃ k, pos l t.id = k := ⟨_, rfl⟩
  rw [hk] at hl ⊢
  rw [List.take_append_of_le_length (by omega), List.take_take, Nat.min_self, List.drop_append, hl, show (l.take k).drop (k + 1) = [] from List.drop_eq_nil_of_le (by omega), List.nil_append, show k + 1 - k = 1 by omega, List.drop_succ_cons, List.drop_zero, List.take_append_drop]
theorem fine_chk {W H : Int} {l : List Bd} {tl : List Nat} (h : Fine W H l) (hm : mt W H tl = true) : chkC W H tl l = 0 := by
  refine chkC_yes hm h.len (fun i t ht _ => ⟨h.all t (List.mem_of_getElem? ht), fun j s hs hj => ?_⟩)
  have hl : i < l.length := (List.getElem?_eq_some_iff.1 ht).1
  have e1 := (List.getElem?_eq_some_iff.1 ht).2
  have hj' : j < l.length := by omega
  have e2 : l[j] = s := (List.getElem?_eq_some_iff.1 hs).2
  have a1 := List.pairwise_iff_getElem.1 h.sorted j i hj' hl hj
  have a2 := List.pairwise_iff_getElem.1 h.apart j i hj' hl hj
  rw [e1, e2] at a1 a2
  exact ⟨a1, a2⟩
/-- The program's World. -/
structure Pa (w : World) (p : Nat) (W H : Int) (tl : List Nat) (l : List Bd) (es : List Rc) (bm n : Nat) (tv bv ev : Value) : Prop where
  d : Wd w p W H tv bv bm ev
  t : Tls w tv tl
  b : Bds w bv l
  f : Who w bm n (whoF l)
  e : Rcs w ev es
section
variable {N : Nat} {w w' : World} {p r : Nat} {W H : Int} {tl : List Nat} {l : List Bd} {es : List Rc} {bm n : Nat} {tv bv ev rt rb re : Value}
theorem Pa.below (h : Pa w p W H tl l es bm n tv bv ev) (hb : Below w.heap.size w w') : Pa w' p W H tl l es bm n tv bv ev := by
  have T : Turns NoB w w' := Turns.of_below hb
  exact ⟨h.d.kept T id, h.t.kept T (fun _ _ => id), h.b.kept T (fun _ _ => id), h.f.kept T id, h.e.kept T (fun _ _ => id)⟩
theorem BoAt.pa (h : BoAt N w p r W H tl l es bm n tv bv ev rt rb re) : Pa w p W H tl l es bm n tv bv ev := ⟨h.d, h.t, h.b, h.f, h.e⟩
/-- Tiles are not turned by an edit. -/
theorem Pa.tiles (h : Pa w p W H tl l es bm n tv bv ev) (T : Turns (fun k => k = p ∨ k = bm ∨ bv.ownBlock = some k ∨ ev.ownBlock = some k) w w') : Tls w' tv tl :=
  h.t.kept T (fun k e => by
    rintro (q | q | q | q)
    · subst q; exact h.d.ne_row h.t (by decide) e
    · subst q; exact row_ne_map h.t h.f e
    · exact rows_ne h.t h.b (by decide) e q
    · exact rows_ne h.t h.e (by decide) e q)
/-- What may have been turned: what lay from N up to M, and what is new since X. -/
def Mid (N M : Nat) (X : World) (k : Nat) : Prop := (N ≤ k ∧ k < M) ∨ X.heap.size ≤ k
theorem undo_yes {M : Nat} (X : World) (t : Bd) (h : Pa X p W H tl l es bm n tv bv ev) (lo : ∀ k, (k = p ∨ k = bm ∨ bv.ownBlock = some k ∨ ev.ownBlock = some k) → N ≤ k ∧ k < M) (hF : Fine W H l) (hn : n + 64 ≤ maxLen) (hes : (es.length + 2) * 32 ≤ 211106232532992) (hc : code W H (whoF l) l t = 0) :
    Calls Try.prog 23 #[ptr p, t.v] X fun e w1 => e = .returned (.int .i64 0) ∧ Turns (Mid N M X) X w1 ∧ Calls Try.prog 22 #[ptr p, .int .i64 t.id] w1 fun e w2 => e = .returned (.tuple #[rct t.x t.y t.a t.b, .int .i64 0]) ∧ Turns (Mid N M X) X w2 ∧
      ∃ bv' ev', Pa w2 p W H tl l (es ++ [t.foot] ++ [t.foot]) bm (n + 64) tv bv' ev' := by
  have hr : refcode W H l t = 0 := (code_ref W H l t).symm.trans hc
  have hF' := hF.ins hr
  refine (place_yes p bm n W H tv bv ev (whoF l) l es t X h.d h.f h.b h.e hF.sorted hF.len hn (by omega) hc).mono ?_
  rintro e w1 ⟨rfl, bv', ev', q1, q2, q3, q4, q5, q6, q7⟩
  rw [who_ins (refcode_zero hr).2.2.2] at q3
  have T1 : Turns (Mid N M X) X w1 := q5.mono (fun k _ s => .inl (lo k s))
  refine ⟨rfl, T1, ?_⟩
  have P1 : Pa w1 p W H tl (ins l t) (es ++ [t.foot]) bm (n + 64) tv bv' ev' := ⟨q1, h.tiles q5, q2, q3, q4⟩
  refine (raze_yes p bm (n + 64) W H tv bv' ev' (whoF (ins l t)) (ins l t) (es ++ [t.foot]) t.id t w1 q1 q3 q2 q4 hF'.sorted hF'.len (by simp; omega) found_ins get_ins).mono ?_
  rintro e w2 ⟨rfl, bv2, ev2, u1, u2, u3, u4, u5, u6, u7⟩
  rw [who_del get_ins hF'.apart, del_ins] at u3
  rw [del_ins] at u2
  refine ⟨rfl, T1.trans (u5.mono (fun k hk s => ?_)), bv2, ev2, u1, P1.tiles u5, u2, u3, u4⟩
  rcases s with s | s | s | s
  · exact .inl (.inl (lo k (.inl s)))
  · exact .inl (.inl (lo k (.inr (.inl s))))
  · rcases q6 k s with s | s
    · exact .inl (.inl (lo k (.inr (.inr (.inl s)))))
    · exact .inr s
  · rcases q7 k s with s | s
    · exact .inl (.inl (lo k (.inr (.inr (.inr s)))))
    · exact .inr s
end
end Go.Proofs.Ytobjadfchpgjeaa
