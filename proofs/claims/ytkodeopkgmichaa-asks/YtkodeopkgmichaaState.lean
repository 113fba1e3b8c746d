/-
  The state of an index as a sorted list of units that stand apart; what Put, Move and Take make of it.
-/
import Derived.Test.YtkodeopkgmichaaUnits
namespace Go.Proofs.Ytkodeopkgmichaa
open Go.RowKit Go.Shelf
set_option linter.unusedVariables false
set_option linter.unusedSimpArgs false
def Bd.has (t : Bd) (u v : Int) : Bool := Ytkodeopkgmichaa.has t.r.x t.r.y t.r.a t.r.b u v
theorem has_iff (x y a b u v : Int) : has x y a b u v = true ↔ may x y a b = true ∧ x ≤ u ∧ u ≤ x + a - 1 ∧ y ≤ v ∧ v ≤ y + b - 1 := by simp [has]
theorem has_w64 {x y a b u v : Int} (h : has x y a b u v = true) : W64 u ∧ W64 v := by
  obtain ⟨m, h1, h2, h3, h4⟩ := (has_iff _ _ _ _ _ _).1 h
  have := (may_iff _ _ _ _).1 m
  exact ⟨w64_of (by omega), w64_of (by omega)⟩
theorem mem_allC (x y a b : Int) (q : Cel) : q ∈ allC x y a b ↔ has x y a b q.1.1 q.1.2 = true := by
  rw [has_iff]
  by_cases hm : may x y a b = true
  · have hb := (may_iff _ _ _ _).1 hm
    obtain ⟨A, hA⟩ : ∃ A : Nat, a.toNat = A := ⟨_, rfl⟩
    obtain ⟨B, hB⟩ : ∃ B : Nat, b.toNat = B := ⟨_, rfl⟩
    have hA' : a = (A : Int) := by omega
    have hB' : b = (B : Int) := by omega
    have hA0 : 0 < A := by omega
    rw [allC, if_pos hm, hA, hB]
    simp only [upto, List.mem_map, List.mem_range]
    constructor
    · rintro ⟨i, hi, rfl⟩
      have h1 : i % A < A := Nat.mod_lt _ hA0
      have h2 : i / A < B := by rw [Nat.div_lt_iff_lt_mul hA0]; exact hi
      unfold cellAt
      obtain ⟨m, hm1⟩ : ∃ m : Nat, i % A = m := ⟨_, rfl⟩
      obtain ⟨d, hd1⟩ : ∃ d : Nat, i / A = d := ⟨_, rfl⟩
      rw [hm1] at h1 ⊢
      rw [hd1] at h2 ⊢
      clear hm1 hd1 hi
      have hw : W64 (x + (m : Nat), y + (d : Nat)).1 ∧ W64 (x + (m : Nat), y + (d : Nat)).2 := by
        dsimp only
        exact ⟨w64_of (by omega), w64_of (by omega)⟩
      rw [mkC_is hw]
      dsimp only
      exact ⟨hm, by omega, by omega, by omega, by omega⟩
    · rintro ⟨-, h1, h2, h3, h4⟩
      obtain ⟨j, hj⟩ : ∃ j : Nat, q.1.1 = x + (j : Nat) := ⟨(q.1.1 - x).toNat, by omega⟩
      obtain ⟨k, hk⟩ : ∃ k : Nat, q.1.2 = y + (k : Nat) := ⟨(q.1.2 - y).toNat, by omega⟩
      have hjA : j < A := by omega
      have hkB : k < B := by omega
      refine ⟨k * A + j, row_lt hkB hjA (Nat.le_refl _), ?_⟩
      apply Subtype.ext
      have he : cellAt x y A (k * A + j) = q.1 := by
        rw [cellAt_row x y A k j hjA]
        exact Prod.ext hj.symm hk.symm
      rw [mkC_is (by rw [he]; exact q.2), he]
  · rw [allC, if_neg hm]
    simp [hm]
theorem any_allC (x y a b u v : Int) : (allC x y a b).any (fun q => decide (q.1.1 = u ∧ q.1.2 = v)) = has x y a b u v := by
  rw [Bool.eq_iff_iff, List.any_eq_true]
  constructor
  · rintro ⟨q, hq, h⟩
    obtain ⟨rfl, rfl⟩ := of_decide_eq_true h
    exact (mem_allC _ _ _ _ _).1 hq
  · intro h
    exact ⟨⟨(u, v), has_w64 h⟩, (mem_allC _ _ _ _ _).2 h, by simp⟩
def pos (l : List Bd) (i : Int) : Nat := (l.takeWhile (fun t => decide (t.id < i))).length
theorem pos_le : ∀ (l : List Bd) (i : Int), pos l i ≤ l.length
  | [], _ => Nat.le_refl _
  | t :: r, i => by
    unfold pos
    rw [List.takeWhile_cons]
    split
    · have := pos_le r i; unfold pos at this; simpa using this
    · simp
theorem pos_iff : ∀ {l : List Bd}, Sorted l → ∀ (i : Int) (k : Nat) (t : Bd), l[k]? = some t → (t.id < i ↔ k < pos l i)
  | [], _, _, _, _, h => by simp at h
  | s :: r, hs, i, 0, t, h => by
    simp at h; subst h
    unfold pos
    rw [List.takeWhile_cons]
    split <;> simp_all
  | s :: r, hs, i, k + 1, t, h => by
    simp at h
    obtain ⟨h1, h2⟩ := List.pairwise_cons.1 hs
    have hm : t ∈ r := List.mem_of_getElem? h
    have ih := pos_iff h2 i k t h
    have := h1 t hm
    unfold pos at ih ⊢
    rw [List.takeWhile_cons]
    split
    · rename_i hd; rw [ih]; simp
    · rename_i hd; simp at hd; simp; omega
def ins (l : List Bd) (t : Bd) : List Bd := l.take (pos l t.id) ++ t :: l.drop (pos l t.id)
theorem ins_len (l : List Bd) (t : Bd) : (ins l t).length = l.length + 1 := by
  have := pos_le l t.id
  simp [ins]; omega
theorem take_lt {l : List Bd} {i : Int} : ∀ s ∈ l.take (pos l i), s.id < i := by
  induction l with
  | nil => simp
  | cons t r ih =>
    intro s hs
    by_cases h : t.id < i
    · rw [show pos (t :: r) i = pos r i + 1 by simp [pos, h], List.take_succ_cons] at hs
      rcases List.mem_cons.1 hs with rfl | hs
      · exact h
      · exact ih s hs
    · rw [show pos (t :: r) i = 0 by simp [pos, h], List.take_zero] at hs
      cases hs

theorem drop_gt {l : List Bd} {i : Int} (hs : Sorted l) (hf : gOf l i = none) : ∀ s ∈ l.drop (pos l i), i < s.id := by
  intro s hm
  obtain ⟨j, hj, rfl⟩ := List.getElem_of_mem hm
  rw [List.length_drop] at hj
  rw [List.getElem_drop]
  have hlt : pos l i + j < l.length := by omega
  have h1 := pos_iff hs i (pos l i + j) l[pos l i + j] (List.getElem?_eq_getElem hlt)
  have h2 : l[pos l i + j].id ≠ i := gOf_none.1 hf _ (List.getElem_mem hlt)
  omega
/-- No cell has two. -/
def Apart (l : List Bd) : Prop := l.Pairwise (fun s t => ∀ u v, s.has u v = true → t.has u v = false)
structure Fine (l : List Bd) : Prop where
  sorted : Sorted l
  len : l.length ≤ 256
  all : ∀ t ∈ l, W64 t.id ∧ may t.r.x t.r.y t.r.a t.r.b = true ∧ sm t.r.a t.r.b = true
  apart : Apart l
theorem Fine.nil : Fine [] := ⟨List.Pairwise.nil, by simp, by simp, List.Pairwise.nil⟩
theorem Apart.eq : ∀ {l : List Bd}, Apart l → ∀ {s t : Bd}, s ∈ l → t ∈ l → ∀ {u v : Int}, s.has u v = true → t.has u v = true → s = t
  | [], _, _, _, h, _, _, _, _, _ => by simp at h
  | c :: r, ha, s, t, hs, ht, u, v, h1, h2 => by
    obtain ⟨a1, a2⟩ := List.pairwise_cons.1 ha
    rcases List.mem_cons.1 hs with rfl | hs1
    · rcases List.mem_cons.1 ht with rfl | ht1
      · rfl
      · rw [a1 t ht1 u v h1] at h2; cases h2
    · rcases List.mem_cons.1 ht with rfl | ht1
      · rw [a1 s hs1 u v h2] at h1; cases h1
      · exact Apart.eq a2 hs1 ht1 h1 h2
/-- Who has a cell, told by a member. -/
theorem fOf_iff {l : List Bd} (ha : Apart l) {u v i : Int} : fOf l u v = some i ↔ ∃ t ∈ l, t.has u v = true ∧ t.id = i := by
  unfold fOf
  constructor
  · intro h
    cases hf : l.find? (fun t => Ytkodeopkgmichaa.has t.r.x t.r.y t.r.a t.r.b u v) with
    | none => rw [hf] at h; cases h
    | some t =>
      rw [hf] at h
      simp at h
      exact ⟨t, List.mem_of_find?_eq_some hf, List.find?_some (p := fun t : Bd => Ytkodeopkgmichaa.has t.r.x t.r.y t.r.a t.r.b u v) hf, h⟩
  · rintro ⟨t, ht, hh, rfl⟩
    cases hf : l.find? (fun t => Ytkodeopkgmichaa.has t.r.x t.r.y t.r.a t.r.b u v) with
    | none => exact absurd hh (List.find?_eq_none.1 hf t ht)
    | some s =>
      have h1 := List.mem_of_find?_eq_some hf
      have h2 := List.find?_some (p := fun t : Bd => Ytkodeopkgmichaa.has t.r.x t.r.y t.r.a t.r.b u v) hf
      rw [ha.eq h1 ht h2 hh]
      rfl
theorem opt_ext {a b : Option Int} (h : ∀ i, a = some i ↔ b = some i) : a = b := by
  cases a with
  | none =>
    cases b with
    | none => rfl
    | some i => exact ((h i).2 rfl)
  | some i => exact ((h i).1 rfl).symm
/-- Nobody but perhaps i has a cell of a rectangle: what the program asks. -/
def frB (l : List Bd) (i x y a b : Int) : Bool := (onL (fOf l) (allC x y a b)).all (fun j => decide (j = i))
theorem frB_iff {l : List Bd} (ha : Apart l) {i x y a b : Int} : frB l i x y a b = true ↔ ∀ t ∈ l, ∀ u v, t.has u v = true → has x y a b u v = true → t.id = i := by
  unfold frB onL
  rw [List.all_eq_true]
  constructor
  · intro h t ht u v h1 h2
    have := h t.id (List.mem_filterMap.2 ⟨⟨(u, v), has_w64 h2⟩, (mem_allC _ _ _ _ _).2 h2, (fOf_iff ha).2 ⟨t, ht, h1, rfl⟩⟩)
    exact of_decide_eq_true this
  · intro h j hj
    obtain ⟨q, hq, hf⟩ := List.mem_filterMap.1 hj
    obtain ⟨t, ht, h1, rfl⟩ := (fOf_iff ha).1 hf
    exact decide_eq_true (h t ht _ _ h1 ((mem_allC _ _ _ _ _).1 hq))
/-- A unit taken away. -/
def del (l : List Bd) (i : Int) : List Bd := l.filter (fun t => decide (t.id ≠ i))
theorem mem_del {l : List Bd} {i : Int} {t : Bd} : t ∈ del l i ↔ t ∈ l ∧ t.id ≠ i := by simp [del]
theorem mem_ins {l : List Bd} {s t : Bd} : s ∈ ins l t ↔ s ∈ l ∨ s = t := by
  unfold ins
  rw [List.mem_append, List.mem_cons]
  have : s ∈ l ↔ s ∈ l.take (pos l t.id) ∨ s ∈ l.drop (pos l t.id) := by rw [← List.mem_append, List.take_append_drop]
  rw [this]
  constructor
  · rintro (h | h | h)
    · exact .inl (.inl h)
    · exact .inr h
    · exact .inl (.inr h)
  · rintro ((h | h) | h)
    · exact .inl h
    · exact .inr (.inr h)
    · exact .inr (.inl h)
theorem gOf_iff {l : List Bd} (hs : Sorted l) {i : Int} {r : Rc} : gOf l i = some r ↔ ⟨i, r⟩ ∈ l := ⟨gOf_some, fun h => gOf_mem hs h⟩
theorem ropt_ext {a b : Option Rc} (h : ∀ i, a = some i ↔ b = some i) : a = b := by
  cases a with
  | none =>
    cases b with
    | none => rfl
    | some i => exact ((h i).2 rfl)
  | some i => exact ((h i).1 rfl).symm
theorem Fine.del {l : List Bd} (h : Fine l) (i : Int) : Fine (del l i) := by
  have hsub : (Ytkodeopkgmichaa.del l i).Sublist l := List.filter_sublist
  exact ⟨h.sorted.sublist hsub, Nat.le_trans hsub.length_le h.len, fun t ht => h.all t (hsub.subset ht), h.apart.sublist hsub⟩
theorem gOf_del {l : List Bd} (hs : Sorted l) (i : Int) : (fun j => if j = i then none else gOf l j) = gOf (del l i) := by
  funext j
  have hd : Sorted (Ytkodeopkgmichaa.del l i) := hs.sublist List.filter_sublist
  refine ropt_ext (fun r => ?_)
  rw [gOf_iff hd, mem_del]
  by_cases h : j = i
  · rw [if_pos h]; simp [h]
  · rw [if_neg h, gOf_iff hs]; simp [h]
theorem gOf_del_none {l : List Bd} {i : Int} : gOf (del l i) i = none := gOf_none.2 (fun t ht => (mem_del.1 ht).2)
theorem del_none {l : List Bd} {i : Int} (h : gOf l i = none) : del l i = l := List.filter_eq_self.2 (fun t ht => by have := gOf_none.1 h t ht; simpa using this)
theorem Fine.ins {l : List Bd} {t : Bd} (h : Fine l) (hg : gOf l t.id = none) (hlen : l.length < 256) (hi : W64 t.id) (hm : may t.r.x t.r.y t.r.a t.r.b = true) (hsm : sm t.r.a t.r.b = true) (hf : frB l t.id t.r.x t.r.y t.r.a t.r.b = true) : Fine (ins l t) := by
  have hl : l.take (pos l t.id) ++ l.drop (pos l t.id) = l := List.take_append_drop _ _
  have hs := h.sorted
  have ha := h.apart
  have hlt := @take_lt l t.id
  have hgt := drop_gt hs hg
  have hb : ∀ s ∈ l, ∀ u v, s.has u v = true → t.has u v = false := fun s hm u v h1 => by
    rw [Bool.eq_false_iff]
    intro h2
    exact gOf_none.1 hg s hm ((frB_iff ha).1 hf s hm u v h1 h2)
  refine ⟨?_, by rw [ins_len]; omega, ?_, ?_⟩
  · unfold Sorted Ytkodeopkgmichaa.ins at *
    rw [← hl] at hs
    obtain ⟨a1, a2, a3⟩ := List.pairwise_append.1 hs
    refine List.pairwise_append.2 ⟨a1, List.pairwise_cons.2 ⟨hgt, a2⟩, fun a ha b hb => ?_⟩
    rcases List.mem_cons.1 hb with rfl | hb
    · exact hlt a ha
    · exact a3 a ha b hb
  · intro s hs'
    rcases mem_ins.1 hs' with h1 | rfl
    · exact h.all s h1
    · exact ⟨hi, hm, hsm⟩
  · unfold Apart Ytkodeopkgmichaa.ins at *
    rw [← hl] at ha
    obtain ⟨a1, a2, a3⟩ := List.pairwise_append.1 ha
    refine List.pairwise_append.2 ⟨a1, List.pairwise_cons.2 ⟨fun s hm u v h1 => ?_, a2⟩, fun a ha b hb' => ?_⟩
    · rw [Bool.eq_false_iff]
      intro h2
      rw [hb s (List.mem_of_mem_drop hm) u v h2] at h1
      cases h1
    · rcases List.mem_cons.1 hb' with rfl | hb'
      · exact hb a (List.mem_of_mem_take ha)
      · exact a3 a ha b hb'
theorem gOf_ins {l : List Bd} {i : Int} {r : Rc} (hs : Sorted l) (hs' : Sorted (ins l ⟨i, r⟩)) (hg : gOf l i = none) : (fun j => if j = i then some r else gOf l j) = gOf (ins l ⟨i, r⟩) := by
  funext j
  refine ropt_ext (fun c => ?_)
  rw [gOf_iff hs', mem_ins]
  by_cases h : j = i
  · subst h
    rw [if_pos rfl]
    constructor
    · intro e; cases e; exact .inr rfl
    · rintro (e | e)
      · exact absurd rfl (gOf_none.1 hg _ e)
      · cases e; rfl
  · rw [if_neg h, gOf_iff hs]
    constructor
    · exact .inl
    · rintro (e | e)
      · exact e
      · cases e; exact absurd rfl h
theorem fOf_ins {l : List Bd} {i x y a b : Int} (ha : Apart l) (ha' : Apart (ins l ⟨i, ⟨x, y, a, b⟩⟩)) (hg : gOf l i = none) (hf : frB l i x y a b = true) : putAll (fOf l) (allC x y a b) i = fOf (ins l ⟨i, ⟨x, y, a, b⟩⟩) := by
  funext u v
  refine opt_ext (fun j => ?_)
  rw [fOf_iff ha']
  unfold putAll
  rw [any_allC]
  by_cases hh : has x y a b u v = true
  · rw [if_pos hh]
    constructor
    · intro e; cases e; exact ⟨⟨i, ⟨x, y, a, b⟩⟩, mem_ins.2 (.inr rfl), hh, rfl⟩
    · rintro ⟨t, ht, h1, rfl⟩
      rcases mem_ins.1 ht with h2 | rfl
      · exact congrArg some ((frB_iff ha).1 hf t h2 u v h1 hh).symm
      · rfl
  · rw [if_neg hh, fOf_iff ha]
    constructor
    · rintro ⟨t, ht, h1, h2⟩; exact ⟨t, mem_ins.2 (.inl ht), h1, h2⟩
    · rintro ⟨t, ht, h1, h2⟩
      rcases mem_ins.1 ht with h3 | rfl
      · exact ⟨t, h3, h1, h2⟩
      · exact absurd h1 hh
theorem fOf_del {l : List Bd} {i : Int} {r : Rc} (hs : Sorted l) (ha : Apart l) (hg : gOf l i = some r) : delAll (fOf l) (allC r.x r.y r.a r.b) = fOf (del l i) := by
  funext u v
  have hm := gOf_some hg
  refine opt_ext (fun j => ?_)
  have hd : Apart (Ytkodeopkgmichaa.del l i) := ha.sublist List.filter_sublist
  rw [fOf_iff hd]
  unfold delAll
  rw [any_allC]
  by_cases hh : has r.x r.y r.a r.b u v = true
  · rw [if_pos hh]
    constructor
    · intro e; cases e
    · rintro ⟨t, ht, h1, rfl⟩
      obtain ⟨h2, h3⟩ := mem_del.1 ht
      exact absurd (congrArg Bd.id (ha.eq h2 hm h1 hh)) h3
  · rw [if_neg hh, fOf_iff ha]
    constructor
    · rintro ⟨t, ht, h1, h2⟩
      refine ⟨t, mem_del.2 ⟨ht, fun e => ?_⟩, h1, h2⟩
      have h3 : gOf l t.id = some t.r := gOf_mem hs ht
      rw [e, hg] at h3
      cases h3
      exact hh h1
    · rintro ⟨t, ht, h1, h2⟩
      exact ⟨t, (mem_del.1 ht).1, h1, h2⟩
theorem del_len {l : List Bd} {i : Int} {r : Rc} (hs : Sorted l) (hg : gOf l i = some r) : (del l i).length + 1 = l.length := by
  induction l with
  | nil => cases hg
  | cons s t ih =>
    obtain ⟨h1, h2⟩ := List.pairwise_cons.1 hs
    by_cases h : s.id = i
    · have : Ytkodeopkgmichaa.del (s :: t) i = t := by
        unfold Ytkodeopkgmichaa.del
        rw [List.filter_cons, if_neg (by simp [h])]
        exact List.filter_eq_self.2 (fun u hu => by have := h1 u hu; simp; omega)
      rw [this]; rfl
    · have e : gOf t i = some r := by unfold gOf at hg ⊢; rwa [List.find?_cons, show decide (s.id = i) = false by simpa using h] at hg
      have := ih h2 e
      unfold Ytkodeopkgmichaa.del at this ⊢
      rw [List.filter_cons, if_pos (by simp [h])]
      simp only [List.length_cons]
      omega
theorem frB_del {l : List Bd} {i x y a b : Int} (ha : Apart l) (h : frB l i x y a b = true) : frB (del l i) i x y a b = true := (frB_iff (ha.sublist List.filter_sublist)).2 (fun t ht => (frB_iff ha).1 h t (mem_del.1 ht).1)
theorem allC_16 {x y a b : Int} (hm : may x y a b = true) (hs : sm a b = true) : (allC x y a b).length ≤ 16 := by
  rw [allC, if_pos hm, upto_length]
  simp only [sm, Bool.and_eq_true, decide_eq_true_eq] at hs
  have h1 : a.toNat ≤ 4 := by omega
  have h2 : b.toNat ≤ 4 := by omega
  exact Nat.mul_le_mul h2 h1
/-- An index whose units are l. -/
structure St (w : World) (p fm bm m : Nat) (l : List Bd) : Prop where
  ix : Ix w p fm bm l.length m (gOf l) (fOf l)
  fine : Fine l
theorem St.kept {w w' : World} {p fm bm m : Nat} {l : List Bd} (h : St w p fm bm m l) (hB : Below w.heap.size w w') : St w' p fm bm m l := ⟨h.ix.kept hB, h.fine⟩
theorem St.turned {S : Nat → Prop} {w w' : World} {p fm bm m : Nat} {l : List Bd} (h : St w p fm bm m l) (ht : Turns S w w') (h1 : ¬ S p) (h2 : ¬ S fm) (h3 : ¬ S bm) : St w' p fm bm m l := ⟨h.ix.turned ht h1 h2 h3, h.fine⟩
/-- What an act may have turned. -/
abbrev Tn (fm bm : Nat) (w w' : World) : Prop := Turns (fun k => k = fm ∨ k = bm) w w'
def takeC (l : List Bd) (i : Int) : Int := if (gOf l i).isSome then 0 else 4
theorem take_st {p fm bm m : Nat} {l : List Bd} {i : Int} {w : World} (h : St w p fm bm m l) (hi : W64 i) :
    Calls Try.prog 18 #[ptr p, .int .i64 i] w fun e w' => e = .returned (.int .i64 (takeC l i)) ∧ St w' p fm bm m (del l i) ∧ Tn fm bm w w' := by
  unfold takeC
  cases hg : gOf l i with
  | none =>
    refine (take_none p fm bm _ m _ _ i w h.ix hi hg).mono ?_
    rintro e w' ⟨rfl, hB⟩
    rw [del_none hg]
    exact ⟨rfl, h.kept hB, Turns.of_below hB⟩
  | some r =>
    have hl := del_len h.fine.sorted hg
    have hx := h.ix
    rw [← hl] at hx
    refine (take_ok p fm bm _ m _ _ i r w hx hi hg).mono ?_
    rintro e w' ⟨rfl, h1, h2⟩
    rw [gOf_del h.fine.sorted, fOf_del h.fine.sorted h.fine.apart hg] at h1
    exact ⟨rfl, ⟨h1, h.fine.del i⟩, h2⟩
def putC (l : List Bd) (i x y a b : Int) : Int :=
  if may x y a b = false ∨ sm a b = false then 1 else if (gOf l i).isSome then 8 else if 256 ≤ l.length then 2 else if frB l i x y a b then 0 else 6
def putL (l : List Bd) (i x y a b : Int) : List Bd := if putC l i x y a b = 0 then ins l ⟨i, ⟨x, y, a, b⟩⟩ else l
theorem put_st {p fm bm m : Nat} {l : List Bd} {i x y a b : Int} {w : World} (h : St w p fm bm m l) (hi : W64 i) (hmm : m + 16 < maxLen) :
    Calls Try.prog 19 #[ptr p, .int .i64 i, rct x y a b] w fun e w' => e = .returned (.int .i64 (putC l i x y a b)) ∧ (∃ m', m' ≤ m + 16 ∧ St w' p fm bm m' (putL l i x y a b)) ∧ Tn fm bm w w' := by
  have no : ∀ {c : Int}, c ≠ 0 → putC l i x y a b = c → (Calls Try.prog 19 #[ptr p, .int .i64 i, rct x y a b] w fun e w' => e = .returned (.int .i64 c) ∧ Below w.heap.size w w') →
      Calls Try.prog 19 #[ptr p, .int .i64 i, rct x y a b] w fun e w' => e = .returned (.int .i64 (putC l i x y a b)) ∧ (∃ m', m' ≤ m + 16 ∧ St w' p fm bm m' (putL l i x y a b)) ∧ Tn fm bm w w' := by
    intro c hc e hC
    refine hC.mono ?_
    rintro e' w' ⟨rfl, hB⟩
    rw [e, putL, e, if_neg hc]
    exact ⟨rfl, ⟨m, by omega, h.kept hB⟩, Turns.of_below hB⟩
  by_cases hm : may x y a b = true
  · by_cases hs : sm a b = true
    · cases hg : gOf l i with
      | some r => exact no (c := 8) (by decide) (by simp [putC, hm, hs, hg]) (put_same p fm bm _ m _ _ i x y a b w h.ix hi hm hs hg)
      | none =>
        by_cases hn : 256 ≤ l.length
        · exact no (c := 2) (by decide) (by simp [putC, hm, hs, hg, hn]) (put_full p fm bm _ m _ _ i x y a b w h.ix hi hm hs hg hn)
        · by_cases hf : frB l i x y a b = true
          · have e0 : putC l i x y a b = 0 := by simp [putC, hm, hs, hg, hn, hf]
            have h16 := allC_16 hm hs
            refine (put_ok p fm bm _ m _ _ i x y a b w h.ix hi (by omega) (by omega) hm hs hg hf).mono ?_
            rintro e w' ⟨rfl, h1, h2⟩
            have hF : Fine (ins l ⟨i, ⟨x, y, a, b⟩⟩) := h.fine.ins hg (by omega) hi hm hs hf
            rw [gOf_ins h.fine.sorted hF.sorted hg, fOf_ins h.fine.apart hF.apart hg hf, ← ins_len l ⟨i, ⟨x, y, a, b⟩⟩] at h1
            rw [e0, putL, e0, if_pos rfl]
            exact ⟨rfl, ⟨_, by omega, h1, hF⟩, h2⟩
          · exact no (c := 6) (by decide) (by simp [putC, hm, hs, hg, hn, hf]) (put_busy p fm bm _ m _ _ i x y a b w h.ix hi hm hs hg (by omega) (by simpa [frB] using hf))
    · exact no (c := 1) (by decide) (by simp [putC, hs]) (put_big p fm bm _ m _ _ i x y a b w h.ix hm (by simpa using hs))
  · exact no (c := 1) (by decide) (by simp [putC, hm]) (put_may p fm bm _ m _ _ i x y a b w h.ix (by simpa using hm))
def moveC (l : List Bd) (i x y : Int) : Int :=
  match gOf l i with
  | none => 4
  | some r => if may x y r.a r.b = false then 1 else if frB l i x y r.a r.b then 0 else 6
def moveL (l : List Bd) (i x y : Int) : List Bd :=
  match gOf l i with
  | none => l
  | some r => if moveC l i x y = 0 then ins (del l i) ⟨i, ⟨x, y, r.a, r.b⟩⟩ else l
theorem move_st {p fm bm m : Nat} {l : List Bd} {i x y : Int} {w : World} (h : St w p fm bm m l) (hi : W64 i) (hmm : m + 16 < maxLen) :
    Calls Try.prog 17 #[ptr p, .int .i64 i, cel x y] w fun e w' => e = .returned (.int .i64 (moveC l i x y)) ∧ (∃ m', m' ≤ m + 16 ∧ St w' p fm bm m' (moveL l i x y)) ∧ Tn fm bm w w' := by
  have no : ∀ {c : Int}, moveC l i x y = c → moveL l i x y = l → (Calls Try.prog 17 #[ptr p, .int .i64 i, cel x y] w fun e w' => e = .returned (.int .i64 c) ∧ Below w.heap.size w w') →
      Calls Try.prog 17 #[ptr p, .int .i64 i, cel x y] w fun e w' => e = .returned (.int .i64 (moveC l i x y)) ∧ (∃ m', m' ≤ m + 16 ∧ St w' p fm bm m' (moveL l i x y)) ∧ Tn fm bm w w' := by
    intro c e e2 hC
    refine hC.mono ?_
    rintro e' w' ⟨rfl, hB⟩
    rw [e, e2]
    exact ⟨rfl, ⟨m, by omega, h.kept hB⟩, Turns.of_below hB⟩
  cases hg : gOf l i with
  | none => exact no (c := 4) (by simp [moveC, hg]) (by simp [moveL, hg]) (move_none p fm bm _ m _ _ i x y w h.ix hi hg)
  | some r =>
    obtain ⟨-, -, hs⟩ := h.fine.all _ (gOf_some hg)
    by_cases hm : may x y r.a r.b = true
    · by_cases hf : frB l i x y r.a r.b = true
      · have e0 : moveC l i x y = 0 := by simp [moveC, hm, hg, hf]
        have h16 := allC_16 hm hs
        have hl := del_len h.fine.sorted hg
        have hx := h.ix
        have hle := h.fine.len
        rw [← hl] at hx
        refine (move_ok p fm bm _ m _ _ i x y w hx hi hg (by omega) (by omega) hm hs hf).mono ?_
        rintro e w' ⟨rfl, h1, h2⟩
        have hD := h.fine.del i
        have hF : Fine (ins (del l i) ⟨i, ⟨x, y, r.a, r.b⟩⟩) := hD.ins gOf_del_none (by omega) hi hm hs (frB_del h.fine.apart hf)
        have eg : (fun j => if j = i then some ⟨x, y, r.a, r.b⟩ else gOf l j) = gOf (ins (del l i) ⟨i, ⟨x, y, r.a, r.b⟩⟩) := by
          rw [← gOf_ins hD.sorted hF.sorted gOf_del_none, ← gOf_del h.fine.sorted]
          funext j
          by_cases hj : j = i <;> simp [hj]
        rw [eg, fOf_del h.fine.sorted h.fine.apart hg, fOf_ins hD.apart hF.apart gOf_del_none (frB_del h.fine.apart hf), ← ins_len (del l i) ⟨i, ⟨x, y, r.a, r.b⟩⟩] at h1
        rw [e0, show moveL l i x y = ins (del l i) ⟨i, ⟨x, y, r.a, r.b⟩⟩ by simp [moveL, hg, e0]]
        exact ⟨rfl, ⟨_, by omega, h1, hF⟩, h2⟩
      · exact no (c := 6) (by simp [moveC, hm, hg, hf]) (by simp [moveL, moveC, hm, hg, hf]) (move_busy p fm bm _ m _ _ i x y w h.ix hi hg hm hs (by simpa [frB] using hf))
    · exact no (c := 1) (by simp [moveC, hm, hg]) (by simp [moveL, moveC, hm, hg]) (move_may p fm bm _ m _ _ i x y w h.ix hi hg (by simpa using hm))
end Go.Proofs.Ytkodeopkgmichaa
