/-
  The law's own list of items in memory; which of it comes first.
-/
import Derived.Test.YtdhiomahcilffaaAwake
import Derived.ArgAppend
import Derived.Deep.QuietTactic
import Derived.BigQuiet
namespace Go.Proofs.Ytdhiomahcilffaa
open Go.RowKit
set_option linter.unusedVariables false
set_option linter.unusedSimpArgs false
def kc (t : It) : List Value := [.int .i64 t.k, .int .i64 t.n]
theorem kc_len (l : List It) : (l.flatMap kc).length = l.length * 2 := by
  induction l with
  | nil => rfl
  | cons t r ih => rw [List.flatMap_cons, List.length_append, ih]; simp [kc]; omega
theorem kc_get : ∀ (l : List It) (i : Nat) (t : It) (j : Nat), l[i]? = some t → j < 2 → (l.flatMap kc)[i * 2 + j]? = (kc t)[j]?
  | [], i, t, j, h, _ => by simp at h
  | s :: r, 0, t, j, h, hj => by
    simp at h; subst h
    rw [List.flatMap_cons, Nat.zero_mul, Nat.zero_add, List.getElem?_append_left (by simp [kc]; omega)]
  | s :: r, i + 1, t, j, h, hj => by
    simp at h
    rw [List.flatMap_cons, List.getElem?_append_right (by simp [kc]; omega)]
    rw [← kc_get r i t j h hj]
    congr 1
    simp [kc]; omega
/-- The slice v reads as the keys and numbers of l. -/
def Al (w : World) (v : Value) (l : List It) : Prop :=
  (v = .slice none 0 0 ∧ l = []) ∨ ∃ g cap cur, v = .slice (some ⟨g, 0, none⟩) l.length cap ∧ w.heap[g]? = some (.cells cur 26 (0, 0)) ∧ l.length ≤ cap ∧ cap ≤ maxLen ∧ cur.toList.take (l.length * 2) = l.flatMap kc ∧ (cur.size = cap * 2 ∨ cap = l.length)
theorem Al.kept {w w' : World} {v : Value} {l : List It} {S : Nat → Prop} (h : Al w v l) (ht : Turns S w w') (hs : ∀ k, v.ownBlock = some k → ¬ S k) : Al w' v l := by
  rcases h with h | ⟨g, cap, cur, e, hg, r⟩
  · exact .inl h
  · exact .inr ⟨g, cap, cur, e, ht.same (hs g (by rw [e]; rfl)) hg, r⟩
theorem Al.upto {w w' : World} {v : Value} {l : List It} (h : Al w v l) (hb : Below w.heap.size w w') : Al w' v l := h.kept (S := NoB) (Turns.of_below hb) (fun _ _ => id)
theorem Al.slice {w : World} {v : Value} {l : List It} (h : Al w v l) : ∃ a cap, v = .slice a l.length cap ∧ l.length ≤ cap ∧ cap ≤ maxLen := by
  rcases h with ⟨e, rfl⟩ | ⟨g, cap, cur, e, hg, h1, h2, _⟩
  · exact ⟨none, 0, e, Nat.le_refl _, by decide⟩
  · exact ⟨_, cap, e, h1, h2⟩
theorem Al.cells {w : World} {g n cap : Nat} {l : List It} (h : Al w (.slice (some ⟨g, 0, none⟩) n cap) l) : ∀ (j : Nat) u, (l.flatMap kc)[j]? = some u → w.cell? ⟨g, j, none⟩ = some u := fun j u hu => by
  rcases h with ⟨e, rfl⟩ | ⟨g', cap', cur, e, hg, h1, h2, h3, _⟩
  · cases e
  · simp only [Value.slice.injEq, Option.some.injEq, Addr.mk.injEq, and_true] at e
    obtain ⟨rfl, -, -⟩ := e
    rw [cell_of_row w g j _ _ _ hg]
    rw [← h3, List.getElem?_take] at hu
    split at hu
    · simpa using hu
    · cases hu
theorem Al.at {w : World} {g n cap : Nat} {l : List It} (h : Al w (.slice (some ⟨g, 0, none⟩) n cap) l) {i : Nat} {t : It} (ht : l[i]? = some t) :
    w.cell? ⟨g, i * 2, none⟩ = some (.int .i64 t.k) ∧ w.cell? ⟨g, i * 2 + 1, none⟩ = some (.int .i64 t.n) :=
  ⟨h.cells (i * 2) _ (by have := kc_get l i t 0 ht (by omega); simpa [kc] using this), h.cells (i * 2 + 1) _ (by have := kc_get l i t 1 ht (by omega); simpa [kc] using this)⟩
theorem Al.form {w : World} {v : Value} {l : List It} (h : Al w v l) (hl : 0 < l.length) : ∃ g cap, v = .slice (some ⟨g, 0, none⟩) l.length cap ∧ l.length ≤ cap ∧ cap ≤ maxLen := by
  rcases h with ⟨e, rfl⟩ | ⟨g, cap, cur, e, hg, h1, h2, _⟩
  · simp at hl
  · exact ⟨g, cap, e, h1, h2⟩
theorem Al.ne {w : World} {v u : Value} {l : List It} (h : Al w v l) {e : TypeId} {k m : Nat} {xs : List Value} (hu : w.ownsRow 0 e k u m xs) (he : e ≠ 26) {j : Nat} (hj : v.ownBlock = some j) : u.ownBlock ≠ some j := fun hh => by
  rcases h with ⟨rfl, _⟩ | ⟨g, cap, cur, rfl, hg, _⟩
  · simp [Value.ownBlock] at hj
  · simp [Value.ownBlock] at hj
    subst hj
    rcases hu.2 with ⟨rfl, _⟩ | ⟨g', cap', cur', rfl, _, hg', _⟩
    · simp [Value.ownBlock] at hh
    · simp [Value.ownBlock] at hh
      subst hh
      rw [hg] at hg'
      simp at hg'
      exact he hg'.2.symm
theorem Al.ne_hp {w : World} {v : Value} {l : List It} (h : Al w v l) {b : Nat} {u : Value} {n : Int} {q : Bool} (hp : Hp w b u n q) : v.ownBlock ≠ some b := fun hh => by
  rcases h with ⟨rfl, _⟩ | ⟨g, cap, cur, rfl, hg, _⟩
  · simp [Value.ownBlock] at hh
  · simp [Value.ownBlock] at hh
    subst hh
    rw [show w.heap[g]? = _ from hp] at hg
    simp at hg
theorem Al.lt {w : World} {v : Value} {l : List It} (h : Al w v l) {k : Nat} (hk : v.ownBlock = some k) : k < w.heap.size := by
  rcases h with ⟨rfl, _⟩ | ⟨g, cap, cur, rfl, hg, _⟩
  · simp [Value.ownBlock] at hk
  · simp [Value.ownBlock] at hk; subst hk; exact (Array.getElem?_eq_some_iff.1 hg).1
theorem al_of_row {w : World} {v : Value} {l : List It} (h : w.ownsRow 0 26 2 v l.length (l.flatMap kc)) : Al w v l := by
  rcases h.2 with ⟨e, h0⟩ | ⟨g, cap, cur, e, _, hg, h1, h2, h3, h4⟩
  · exact .inl ⟨e, List.eq_nil_of_length_eq_zero h0⟩
  · exact .inr ⟨g, cap, cur, e, hg, h1, h2, h4, .inl h3⟩
def z26 : Value := .agg #[.int .i64 0, .int .i64 0]
theorem info26 : (Try.prog.info? 26).map (fun i => (i.zero, i.size, i.bytes)) = some (some z26, 2, 16) := by kernel_rfl
theorem one_kc {r : It} : ∀ u ∈ kc r, u.oneCell' = true := by
  intro u hu
  simp only [kc, List.mem_cons, List.not_mem_nil, or_false] at hu
  rcases hu with rfl | rfl <;> rfl
theorem one_kcs (l : List It) : ∀ u ∈ l.flatMap kc, u.oneCell' = true := fun u hu => by
  obtain ⟨t, _, ht⟩ := List.mem_flatMap.1 hu
  exact one_kc u ht
/-- append onto the law's list, as an equation of its run. -/
theorem Al.append {w : World} {v : Value} {l : List It} (h : Al w v l) (M : List It) (ad : Addr) (c : Nat) (ty : TypeId) (hnews : ∀ j u, (M.flatMap kc)[j]? = some u → w.cell? (ad.add j) = some u) (hM : 0 < M.length) (hb : (l.length + M.length) * 16 ≤ 140737488355328) :
    ∃ v' w', (Builtin.append_ #[28, 28] ty #[v, .slice (some ad) M.length c]).run Try.prog w = .ok v' w' ∧ Al w' v' (l ++ M) ∧ w.grownBy w' v.ownBlock ∧ (v'.ownBlock = v.ownBlock ∨ ∃ k, v'.ownBlock = some k ∧ w.heap.size ≤ k) := by
  obtain ⟨fi, hf, hz, h2, h16⟩ := info_parts info26
  have hm : l.length + M.length ≤ maxLen := by unfold maxLen; omega
  have own : ∀ (hr : w.ownsRow 0 26 2 v l.length (l.flatMap kc)), ∃ v' w', (Builtin.append_ #[28, 28] ty #[v, .slice (some ad) M.length c]).run Try.prog w = .ok v' w' ∧ Al w' v' (l ++ M) ∧ w.grownBy w' v.ownBlock ∧ (v'.ownBlock = v.ownBlock ∨ ∃ k, v'.ownBlock = some k ∧ w.heap.size ≤ k) := fun hr => by
    obtain ⟨v', w', q1, q2, q3, q4, q5⟩ := run_append_own_at (P := Try.prog) w 0 28 ty 26 fi z26 2 16 Try.underlying28 hf hz h2 h16 rfl (by decide) v l.length _ hr ad M.length c (M.flatMap kc) (kc_len M) hnews (one_kcs M) hm hb (Nat.zero_le _)
    refine ⟨v', w', q1, al_of_row ?_, q3, q5.imp id (fun e => ⟨_, e, Nat.le_refl _⟩)⟩
    rw [List.flatMap_append, List.length_append]
    exact q2
  rcases h with ⟨rfl, rfl⟩ | ⟨g, cap, cur, rfl, hg, h3, h4, h5, h6⟩
  · exact own (World.ownsRow_nil w 0 26 2)
  · rcases h6 with h6 | h6
    · exact own ⟨kc_len l, .inr ⟨g, cap, cur, rfl, Nat.zero_le _, hg, h3, h4, h6, h5⟩⟩
    · subst h6
      have hal : Al w (.slice (some ⟨g, 0, none⟩) l.length l.length) l := .inr ⟨g, _, cur, rfl, hg, h3, h4, h5, .inr rfl⟩
      obtain ⟨v', w', q1, q2, q3⟩ := run_append_arg_grows (P := Try.prog) w 28 ty 26 fi z26 2 16 Try.underlying28 hf hz h2 h16 rfl (by decide) ⟨g, 0, none⟩ l.length l.length (l.flatMap kc) (kc_len l) (fun j u hu => by rw [Addr.add_lit, Nat.zero_add]; exact hal.cells j u hu) ad M.length c (M.flatMap kc) (kc_len M) hnews (by omega) hm hb
      refine ⟨v', w', q1, al_of_row ?_, ⟨q3.os, q3.tape, q3.output, q3.size, fun k hk _ => q3.block k hk (by simp)⟩, .inr ?_⟩
      · rw [List.flatMap_append, List.length_append]
        exact ⟨q2.1, q2.2.imp id (fun ⟨a, b, c, d, e, f⟩ => ⟨a, b, c, d, Nat.zero_le _, f⟩)⟩
      · rcases q2.2 with ⟨_, e0⟩ | ⟨g', cap', cur', e', hb', _⟩
        · omega
        · exact ⟨g', by rw [e']; rfl, hb'⟩
/-- Which comes first. -/
def Fst (l : List It) (k : Nat) (r : Int) : Prop := (k = 0 ∧ r = -1) ∨ ∃ i : Nat, i < k ∧ r = (i : Nat) ∧ (∀ j, j < k → ah (nth l j).k (nth l i).k = false) ∧ ∀ j, j < i → ah (nth l i).k (nth l j).k = true
theorem Fst.keep {l : List It} {k i : Nat} (h : Fst l k (i : Nat)) (ha : ah (nth l k).k (nth l i).k = false) : Fst l (k + 1) (i : Nat) := by
  rcases h with ⟨_, e⟩ | ⟨i', h1, e, h2, h3⟩
  · omega
  · have : i' = i := by omega
    subst this
    refine .inr ⟨i', by omega, rfl, fun j hj => ?_, h3⟩
    rcases Nat.lt_or_ge j k with h | h
    · exact h2 j h
    · rw [show j = k by omega]; exact ha
theorem Fst.turn {l : List It} {k i : Nat} (h : Fst l k (i : Nat)) (ha : ah (nth l k).k (nth l i).k = true) : Fst l (k + 1) (k : Nat) := by
  rcases h with ⟨_, e⟩ | ⟨i', h1, e, h2, h3⟩
  · omega
  · have : i' = i := by omega
    subst this
    have q : ∀ j, j < k → ah (nth l k).k (nth l j).k = true := fun j hj => by
      have := h2 j hj
      unfold ah at *
      simp at *
      omega
    refine .inr ⟨k, by omega, rfl, fun j hj => ?_, q⟩
    rcases Nat.lt_or_ge j k with h | h
    · have := q j h
      unfold ah at *
      simp at *
      omega
    · rw [show j = k by omega]; simp [ah]
theorem Fst.one {l : List It} : Fst l 1 ((0 : Nat) : Int) := .inr ⟨0, by omega, rfl, fun j hj => by rw [show j = 0 by omega]; simp [ah], fun j hj => by omega⟩
end Go.Proofs.Ytdhiomahcilffaa
