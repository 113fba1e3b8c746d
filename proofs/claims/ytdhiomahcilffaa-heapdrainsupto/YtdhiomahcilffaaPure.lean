/-
  A tree of items in a list: what lift and sink keep, and what they come to (no run of the program).
-/
import Derived.Test.YtdhiomahcilffaaSw
namespace Go.Proofs.Ytdhiomahcilffaa
open Go.RowKit
set_option linter.unusedVariables false
set_option linter.unusedSimpArgs false
theorem lt_not (a b : It) : lt a b = false ↔ (b.k / 4 < a.k / 4 ∨ b.k / 4 = a.k / 4 ∧ b.p ≤ a.p) := by
  rw [← Bool.not_eq_true, lt_iff]; omega
/-- Number i of a list. -/
def nth (l : List It) (i : Nat) : It := (l[i]?).getD ⟨0, 0, 0⟩
theorem nth_of {l : List It} {i : Nat} {t : It} (h : l[i]? = some t) : nth l i = t := by simp [nth, h]
theorem nth_get {l : List It} {i : Nat} (h : i < l.length) : l[i]? = some (nth l i) := by simp [nth, List.getElem?_eq_getElem h]
theorem nth_set {l : List It} {a i : Nat} {t : It} (ha : a < l.length) : nth (l.set a t) i = if i = a then t else nth l i := by
  unfold nth
  rw [List.getElem?_set]
  by_cases h : a = i
  · subst h; simp [ha]
  · rw [if_neg h, if_neg (fun e => h e.symm)]
/-- Two change places. -/
def swp (l : List It) (a b : Nat) : List It := (l.set a (nth l b)).set b (nth l a)
theorem swp_len (l : List It) (a b : Nat) : (swp l a b).length = l.length := by simp [swp]
theorem swp_nth {l : List It} {a b : Nat} (ha : a < l.length) (hb : b < l.length) (i : Nat) : nth (swp l a b) i = if i = b then nth l a else if i = a then nth l b else nth l i := by
  unfold swp
  rw [nth_set (by simpa using hb), nth_set ha]
theorem swp_perm {l : List It} {a b : Nat} (ha : a < l.length) (hb : b < l.length) : (swp l a b).Perm l := by
  have : ((l.set a l[b]).set b l[a]).Perm l := List.set_set_perm ha hb
  have e1 : nth l b = l[b] := by simp [nth, hb]
  have e2 : nth l a = l[a] := by simp [nth, ha]
  unfold swp
  rw [e1, e2]
  exact this
/-- No item is popped before the one above it. -/
def Heap (l : List It) : Prop := ∀ i, 0 < i → i < l.length → lt (nth l i) (nth l ((i - 1) / 2)) = false
/-- A heap but for place a, whose item may be too low. -/
def Low (l : List It) (a : Nat) : Prop := (∀ i, 0 < i → i < l.length → i ≠ a → lt (nth l i) (nth l ((i - 1) / 2)) = false) ∧ ∀ i, 0 < a → 0 < i → i < l.length → (i - 1) / 2 = a → lt (nth l i) (nth l ((a - 1) / 2)) = false
theorem Low.next {l : List It} {a : Nat} (h : Low l a) (ha0 : 0 < a) (ha : a < l.length) (hl : lt (nth l a) (nth l ((a - 1) / 2)) = true) : Low (swp l a ((a - 1) / 2)) ((a - 1) / 2) := by
  have hb : (a - 1) / 2 < l.length := by omega
  have hn := swp_nth ha hb
  rw [lt_iff] at hl
  refine ⟨fun i hi hil hne => ?_, fun i hp hi hil hpi => ?_⟩
  · rw [swp_len] at hil
    rw [hn, hn, if_neg hne]
    by_cases e1 : i = a
    · subst e1
      rw [if_pos rfl, if_pos rfl, lt_not]
      omega
    · rw [if_neg e1]
      by_cases e2 : (i - 1) / 2 = (a - 1) / 2
      · rw [if_pos e2]
        have := h.1 i hi hil e1
        rw [e2] at this
        rw [lt_not] at this ⊢
        omega
      · rw [if_neg e2]
        by_cases e3 : (i - 1) / 2 = a
        · rw [if_pos e3]
          exact h.2 i ha0 hi hil e3
        · rw [if_neg e3]
          exact h.1 i hi hil e1
  · rw [swp_len] at hil
    have e0 : ¬ i = (a - 1) / 2 := by omega
    have e4 : ¬ ((a - 1) / 2 - 1) / 2 = (a - 1) / 2 := by omega
    have e5 : ¬ ((a - 1) / 2 - 1) / 2 = a := by omega
    rw [hn, hn, if_neg e0, if_neg e4, if_neg e5]
    have q := h.1 ((a - 1) / 2) hp hb (by omega)
    by_cases e1 : i = a
    · rw [if_pos e1]
      exact q
    · rw [if_neg e1]
      have r := h.1 i hi hil e1
      rw [hpi] at r
      rw [lt_not] at q r ⊢
      omega
theorem Low.done {l : List It} {a : Nat} (h : Low l a) (he : a = 0 ∨ lt (nth l a) (nth l ((a - 1) / 2)) = false) : Heap l := fun i hi hil => by
  by_cases e : i = a
  · subst e
    rcases he with e | e
    · omega
    · exact e
  · exact h.1 i hi hil e
theorem Low.push {l : List It} (h : Heap l) (t : It) : Low (l ++ [t]) l.length := by
  have hn : ∀ i, i < l.length → nth (l ++ [t]) i = nth l i := fun i hi => by simp [nth, List.getElem?_append_left hi]
  refine ⟨fun i hi hil hne => ?_, fun i _ hi hil hp => ?_⟩
  · simp at hil
    rw [hn i (by omega), hn _ (by omega)]
    exact h i hi (by omega)
  · simp at hil
    omega
/-- A heap but for place a, whose item may be too high. -/
def High (l : List It) (a : Nat) : Prop := (∀ i, 0 < i → i < l.length → (i - 1) / 2 ≠ a → lt (nth l i) (nth l ((i - 1) / 2)) = false) ∧ ∀ i, 0 < a → 0 < i → i < l.length → (i - 1) / 2 = a → lt (nth l i) (nth l ((a - 1) / 2)) = false
theorem High.next {l : List It} {a c : Nat} (h : High l a) (hc : c < l.length) (hc0 : 0 < c) (hp : (c - 1) / 2 = a) (hl : lt (nth l c) (nth l a) = true) (hm : ∀ i, 0 < i → i < l.length → (i - 1) / 2 = a → lt (nth l i) (nth l c) = false) : High (swp l c a) c := by
  have ha : a < l.length := by omega
  have hn := swp_nth hc ha
  rw [lt_iff] at hl
  refine ⟨fun i hi hil hne => ?_, fun i hp' hi hil hpi => ?_⟩
  · rw [swp_len] at hil
    rw [hn, hn]
    by_cases e1 : i = a
    · have e2 : ¬ (i - 1) / 2 = a := by omega
      rw [if_pos e1, if_neg e2, if_neg hne]
      have := h.2 c (by omega) hc0 hc hp
      rw [← e1] at this
      exact this
    · rw [if_neg e1]
      by_cases e2 : i = c
      · subst e2
        rw [if_pos rfl, if_pos hp, lt_not]
        omega
      · rw [if_neg e2]
        by_cases e3 : (i - 1) / 2 = a
        · rw [if_pos e3]
          exact hm i hi hil e3
        · rw [if_neg e3, if_neg hne]
          exact h.1 i hi hil e3
  · rw [swp_len] at hil
    rw [hn, hn, if_neg (by omega), if_neg (by omega), if_pos hp]
    have := h.1 i hi hil (by omega)
    rw [hpi] at this
    exact this
theorem High.done {l : List It} {a : Nat} (h : High l a) (hm : ∀ i, 0 < i → i < l.length → (i - 1) / 2 = a → lt (nth l i) (nth l a) = false) : Heap l := fun i hi hil => by
  by_cases e : (i - 1) / 2 = a
  · rw [e]; exact hm i hi hil e
  · exact h.1 i hi hil e
/-- What Pop lays: the last one at the first place. -/
def pop (l : List It) : List It := (l.set 0 (nth l (l.length - 1))).take (l.length - 1)
theorem pop_len (l : List It) : (pop l).length = l.length - 1 := by simp [pop]
theorem pop_nth {l : List It} {i : Nat} (h0 : 0 < i) (hi : i < l.length - 1) : nth (pop l) i = nth l i := by
  unfold pop nth
  rw [List.getElem?_take, if_pos hi, List.getElem?_set, if_neg (by omega)]
theorem High.pop {l : List It} (h : Heap l) : High (pop l) 0 := by
  refine ⟨fun i hi hil hne => ?_, fun i h0 => by omega⟩
  rw [pop_len] at hil
  rw [pop_nth hi hil, pop_nth (by omega) (by omega)]
  exact h i hi (by omega)
theorem pop_perm {l : List It} (h : 0 < l.length) : l.Perm (nth l 0 :: pop l) := by
  cases l with
  | nil => simp at h
  | cons t r =>
    rcases List.eq_nil_or_concat r with rfl | ⟨m, z, rfl⟩
    · simp [pop, nth]
    · have e : pop (t :: (m ++ [z])) = z :: m := by
        unfold pop nth
        simp
      rw [List.concat_eq_append, e]
      have e2 : nth (t :: (m ++ [z])) 0 = t := rfl
      rw [e2]
      exact List.Perm.cons t (List.perm_append_comm.trans (by simp))
theorem Heap.top {l : List It} (h : Heap l) : ∀ i, i < l.length → lt (nth l i) (nth l 0) = false := by
  intro i
  induction i using Nat.strongRecOn with
  | _ i ih =>
    intro hi
    by_cases e : i = 0
    · subst e
      rw [lt_not]; omega
    · have q := ih ((i - 1) / 2) (by omega) (by omega)
      have r := h i (by omega) hi
      rw [lt_not] at q r ⊢
      omega
theorem Heap.least {l : List It} (h : Heap l) {t : It} (ht : t ∈ l) : lt t (nth l 0) = false := by
  obtain ⟨i, hi, rfl⟩ := List.getElem_of_mem ht
  have := h.top i hi
  rwa [show nth l i = l[i] by simp [nth, hi]] at this
theorem Heap.nil : Heap [] := fun i _ h => by simp at h
end Go.Proofs.Ytdhiomahcilffaa
