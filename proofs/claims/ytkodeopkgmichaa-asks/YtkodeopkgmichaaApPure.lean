/-
  What OccupyApart asks of the list; the document's list with one more.
-/
import Derived.Test.YtkodeopkgmichaaSame
import Derived.Test.YtkodeopkgmichaaRefFree
namespace Go.Proofs.Ytkodeopkgmichaa
open Go.RowKit Go.Shelf
set_option linter.unusedVariables false
set_option linter.unusedSimpArgs false
theorem mtB_iff (x y a b p q c d : Int) : mtB x y a b p q c d = true ↔ ∃ u v, has x y a b u v = true ∧ has p q c d u v = true := by
  constructor
  · intro h
    simp only [mtB, Bool.and_eq_true, decide_eq_true_eq] at h
    obtain ⟨h1, h2, h3, h4⟩ := h
    exact ⟨max x p, max y q, (has_iff _ _ _ _ _ _).2 ⟨h1, by omega, by omega, by omega, by omega⟩, (has_iff _ _ _ _ _ _).2 ⟨h2, by omega, by omega, by omega, by omega⟩⟩
  · rintro ⟨u, v, h1, h2⟩
    obtain ⟨m1, a1, a2, a3, a4⟩ := (has_iff _ _ _ _ _ _).1 h1
    obtain ⟨m2, b1, b2, b3, b4⟩ := (has_iff _ _ _ _ _ _).1 h2
    simp only [mtB, Bool.and_eq_true, decide_eq_true_eq]
    exact ⟨m1, m2, by omega, by omega⟩
/-- Two of an index stand apart: what the document's Free says of the one beside the other. -/
theorem Fine.free {l : List Bd} (h : Fine l) {s t : Bd} (hs : s ∈ l) (ht : t ∈ l) : freeR [s] t.id t.r.x t.r.y t.r.a t.r.b = true := by
  unfold freeR
  rw [(h.all t ht).2.1, Bool.true_and]
  simp only [List.any_cons, List.any_nil, Bool.or_false, Bool.not_eq_true', hits, Bool.and_eq_false_iff]
  by_cases e : s.id = t.id
  · exact .inl (by simpa using e)
  · right
    rw [Bool.eq_false_iff]
    intro hm
    obtain ⟨u, v, h1, h2⟩ := (mtB_iff _ _ _ _ _ _ _ _).1 hm
    exact e (congrArg Bd.id (h.apart.eq hs ht h1 h2))
/-- What the program's Free and the document's tell is one. -/
theorem free_one {l : List Bd} (h : Fine l) (i x y a b : Int) (hm : may x y a b = true) : freeR l i x y a b = frB l i x y a b := by
  rw [Bool.eq_iff_iff, frB_iff h.apart]
  unfold freeR
  rw [hm, Bool.true_and]
  simp only [Bool.not_eq_true', List.any_eq_false]
  constructor
  · intro hh t ht u v h1 h2
    have := hh t ht
    simp only [hits, Bool.and_eq_true, decide_eq_true_eq, not_and, Bool.not_eq_true] at this
    by_cases e : t.id = i
    · exact e
    · have h3 := this e
      rw [(mtB_iff _ _ _ _ _ _ _ _).2 ⟨u, v, h1, h2⟩] at h3
      cases h3
  · intro hh t ht
    simp only [hits, Bool.and_eq_true, decide_eq_true_eq, not_and, Bool.not_eq_true]
    intro e
    rw [Bool.eq_false_iff]
    intro hm'
    obtain ⟨u, v, h1, h2⟩ := (mtB_iff _ _ _ _ _ _ _ _).1 hm'
    exact e (hh t ht u v h1 h2)
def z58 : Value := .agg #[.int .i64 0, .int .i64 0, .int .i64 0, .int .i64 0, .int .i64 0]
theorem info58 : (Try.prog.info? 58).map (fun i => (i.zero, i.size, i.bytes)) = some (some z58, 5, 40) := by kernel_rfl
theorem Us.append {w : World} {v : Value} {l : List Bd} (h : Us w v l) (t : Bd) (hlen : l.length ≤ 1000) :
    ∃ v' w', (Builtin.append_ #[27, 27] 27 #[v, .slice (some ⟨w.heap.size, 0, none⟩) 1 1]).run Try.prog (w.alloc (.cells #[.int .i64 t.id, .int .i64 t.r.x, .int .i64 t.r.y, .int .i64 t.r.a, .int .i64 t.r.b] 58)) = .ok v' w' ∧ Us w' v' (l ++ [t]) ∧ (w.alloc (.cells #[.int .i64 t.id, .int .i64 t.r.x, .int .i64 t.r.y, .int .i64 t.r.a, .int .i64 t.r.b] 58)).grownBy w' v.ownBlock ∧ (v'.ownBlock = v.ownBlock ∨ ∃ k, v'.ownBlock = some k ∧ w.heap.size ≤ k) := by
  obtain ⟨fi, hf, hz, h5, h40⟩ := info_parts info58
  obtain ⟨v', w', q1, q2, q3, q4, q5⟩ := run_append_own_at (P := Try.prog) (w.alloc (.cells #[.int .i64 t.id, .int .i64 t.r.x, .int .i64 t.r.y, .int .i64 t.r.a, .int .i64 t.r.b] 58)) 0 27 27 58 fi z58 5 40 Try.underlying27 hf hz h5 h40 rfl (by decide) v l.length _ (World.ownsRow.alloc h _) ⟨w.heap.size, 0, none⟩ 1 1 t.cs rfl (fun j u hu => by
      rw [Addr.add_lit, Nat.zero_add, cell_of_row _ w.heap.size j _ _ _ (heap_alloc_new w _)]
      simpa [Bd.cs] using hu) one_bd (by unfold maxLen; omega) (by omega) (Nat.zero_le _)
  refine ⟨v', w', q1, ?_, q3, q5.imp id (fun e => ⟨_, e, by simp⟩)⟩
  unfold Us
  rw [List.flatMap_append, List.length_append]
  simpa using q2
theorem Us.nil (w : World) : Us w (.slice none 0 0) [] := ⟨rfl, .inl ⟨rfl, rfl⟩⟩
/-- One of the document's units by itself, as a slice of the row. -/
theorem Us.one {w : World} {a : Option Addr} {cap : Nat} {l : List Bd} (h : Us w (.slice a l.length cap) l) {k : Nat} {t : Bd} (ht : l[k]? = some t) {r : Nat} {g : Nat} (ha : a = some ⟨g, 0, none⟩) {c : Nat} (hc : 1 ≤ c) (hr : w.cell? ⟨r, 0, none⟩ = some (.slice (some ⟨g, k * 5, none⟩) 1 c)) : RxR w r (some ⟨g, k * 5, none⟩) c [t] := by
  obtain ⟨a', cap', e, -, -, hat⟩ := h.form
  cases e
  subst ha
  obtain ⟨g', e', hg, d0, d1, d2, d3, d4⟩ := hat k t ht
  cases e'
  refine ⟨hr, hc, by simp, fun i s hs => ?_⟩
  cases i with
  | zero => simp at hs; subst hs; exact ⟨g, k * 5, rfl, hg, by simpa using d0, by simpa using d1, by simpa using d2, by simpa using d3, by simpa using d4⟩
  | succ j => simp at hs
end Go.Proofs.Ytkodeopkgmichaa
