/-
  Parts as plain numbers: which cells are joined, and the numbers that a walk row by row gives them. Parts in memory: the object, its numbers, its list of parts; made, index, At, Len, has, Size, First, Joined, isNew. Where a shape stands, by the number of the cell, and the neighbours of a cell. Parts: At, Joined, Size, First, isNew of parts that New gave.
-/
import Derived.Test.YtoheibfijpdmfaaGreatDoorClr
import Derived.Test.YtoheibfijpdmfaaGreatDoorFld
set_option linter.unusedSimpArgs false
namespace Go.Proofs.YtoheibfijpdmfaaGreatDoor
open Go.RowKit
set_option linter.unusedVariables false
/-- Joined by steps: from a cell where one stands, each step to a neighbour where one stands. -/
def Cn (St : Nat → Bool) (Ad : Nat → Nat → Prop) (i k : Nat) : Prop := ∀ M : Nat → Prop, (St i = true → M i) → (∀ j k, M j → Ad j k → St k = true → M k) → M k
theorem Cn.refl {St : Nat → Bool} {Ad : Nat → Nat → Prop} (i : Nat) (h : St i = true) : Cn St Ad i i := fun _ m1 _ => m1 h
theorem Cn.step {St : Nat → Bool} {Ad : Nat → Nat → Prop} (i j k : Nat) (h : Cn St Ad i j) (ha : Ad j k) (hs : St k = true) : Cn St Ad i k := fun M m1 m2 => m2 _ _ (h M m1 m2) ha hs
theorem Cn.ind {St : Nat → Bool} {Ad : Nat → Nat → Prop} {i : Nat} {motive : (k : Nat) → Cn St Ad i k → Prop} (refl : ∀ h : St i = true, motive i (Cn.refl i h)) (step : ∀ (j k : Nat) (h : Cn St Ad i j) (ha : Ad j k) (hs : St k = true), motive j h → motive k (Cn.step i j k h ha hs)) {k : Nat} (h : Cn St Ad i k) : motive k h := by
  obtain ⟨h', hm⟩ : ∃ h' : Cn St Ad i k, motive k h' := h (fun k => ∃ h' : Cn St Ad i k, motive k h') (fun h => ⟨_, refl h⟩) (fun j k ⟨h', hm⟩ ha hs => ⟨_, step j k h' ha hs hm⟩)
  exact hm
theorem Cn.cs {St : Nat → Bool} {Ad : Nat → Nat → Prop} {i : Nat} {motive : (k : Nat) → Cn St Ad i k → Prop} (refl : ∀ h : St i = true, motive i (Cn.refl i h)) (step : ∀ (j k : Nat) (h : Cn St Ad i j) (ha : Ad j k) (hs : St k = true), motive k (Cn.step i j k h ha hs)) {k : Nat} (h : Cn St Ad i k) : motive k h := Cn.ind refl (fun j k h ha hs _ => step j k h ha hs) h
theorem Cn.left {St : Nat → Bool} {Ad : Nat → Nat → Prop} {i j : Nat} (h : Cn St Ad i j) : St i = true := by
  induction h using Cn.ind with
  | refl h => exact h
  | step j k _ _ _ ih => exact ih
theorem Cn.right {St : Nat → Bool} {Ad : Nat → Nat → Prop} {i j : Nat} (h : Cn St Ad i j) : St j = true := by
  cases h using Cn.cs with
  | refl h => exact h
  | step _ _ _ _ h => exact h
theorem Cn.trans {St : Nat → Bool} {Ad : Nat → Nat → Prop} {i j k : Nat} (h : Cn St Ad i j) (g : Cn St Ad j k) : Cn St Ad i k := by
  induction g using Cn.ind with
  | refl _ => exact h
  | step b c _ ha hs ih => exact .step _ _ _ ih ha hs
theorem Cn.symm {St : Nat → Bool} {Ad : Nat → Nat → Prop} (hA : ∀ a b, Ad a b → Ad b a) {i j : Nat} (h : Cn St Ad i j) : Cn St Ad j i := by
  induction h using Cn.ind with
  | refl h => exact .refl _ h
  | step b c hab ha hs ih => exact (Cn.step _ _ _ (.refl c hs) (hA _ _ ha) hab.right).trans ih
theorem Cn.mono {St : Nat → Bool} {Ad Bd : Nat → Nat → Prop} (hA : ∀ a b, St a = true → St b = true → Ad a b → Cn St Bd a b) {i j : Nat} (h : Cn St Ad i j) : Cn St Bd i j := by
  induction h using Cn.ind with
  | refl h => exact .refl _ h
  | step b c hab ha hs ih => exact ih.trans (hA _ _ hab.right hs ha)
set_option linter.unusedSectionVars false
variable [DecCn : ∀ (St : Nat → Bool) (Ad : Nat → Nat → Prop) (k i : Nat), Decidable (Cn St Ad k i)]
/-- One cell of the walk: a new part begins here where one stands and has no number yet. -/
def lbS (St : Nat → Bool) (Ad : Nat → Nat → Prop) (s : (Nat → Nat) × List Nat) (k : Nat) : (Nat → Nat) × List Nat :=
  if St k = true ∧ s.1 k = 0 then (fun i => if Cn St Ad k i then s.2.length + 1 else s.1 i, s.2 ++ [k]) else s
def lb (St : Nat → Bool) (Ad : Nat → Nat → Prop) : Nat → (Nat → Nat) × List Nat
  | 0 => (fun _ => 0, [])
  | k + 1 => lbS St Ad (lb St Ad k) k
section
variable {St : Nat → Bool} {Ad : Nat → Nat → Prop}
theorem lb_new {k : Nat} (h1 : St k = true) (h2 : (lb St Ad k).1 k = 0) : (∀ i, Cn St Ad k i → (lb St Ad (k + 1)).1 i = (lb St Ad k).2.length + 1) ∧ (∀ i, ¬ Cn St Ad k i → (lb St Ad (k + 1)).1 i = (lb St Ad k).1 i) ∧ (lb St Ad (k + 1)).2 = (lb St Ad k).2 ++ [k] := by
  have e : lb St Ad (k + 1) = lbS St Ad (lb St Ad k) k := rfl
  rw [e, lbS, if_pos ⟨h1, h2⟩]
  exact ⟨fun i hi => if_pos hi, fun i hi => if_neg hi, rfl⟩
theorem lb_old {k : Nat} (h : ¬ (St k = true ∧ (lb St Ad k).1 k = 0)) : lb St Ad (k + 1) = lb St Ad k := by
  have e : lb St Ad (k + 1) = lbS St Ad (lb St Ad k) k := rfl
  rw [e, lbS, if_neg h]
theorem lb_cn (hA : ∀ a b, Ad a b → Ad b a) : ∀ (k : Nat) {i j : Nat}, Cn St Ad i j → (lb St Ad k).1 i = (lb St Ad k).1 j
  | 0, i, j, h => rfl
  | k + 1, i, j, h => by
    by_cases hn : St k = true ∧ (lb St Ad k).1 k = 0
    · obtain ⟨a1, a2, -⟩ := lb_new hn.1 hn.2
      by_cases hi : Cn St Ad k i
      · rw [a1 i hi, a1 j (hi.trans h)]
      · rw [a2 i hi, a2 j (fun hj => hi (hj.trans (h.symm hA)))]
        exact lb_cn hA k h
    · rw [lb_old hn]; exact lb_cn hA k h
theorem lb_st : ∀ (k : Nat) {i : Nat}, (lb St Ad k).1 i ≠ 0 → St i = true
  | 0, i, h => absurd rfl h
  | k + 1, i, h => by
    by_cases hn : St k = true ∧ (lb St Ad k).1 k = 0
    · obtain ⟨a1, a2, -⟩ := lb_new hn.1 hn.2
      by_cases hi : Cn St Ad k i
      · exact hi.right
      · rw [a2 i hi] at h; exact lb_st k h
    · rw [lb_old hn] at h; exact lb_st k h
theorem lb_le : ∀ (k i : Nat), (lb St Ad k).1 i ≤ (lb St Ad k).2.length
  | 0, i => Nat.zero_le _
  | k + 1, i => by
    by_cases hn : St k = true ∧ (lb St Ad k).1 k = 0
    · obtain ⟨a1, a2, a3⟩ := lb_new hn.1 hn.2
      have := lb_le k i
      rw [a3, List.length_append, List.length_singleton]
      by_cases hi : Cn St Ad k i
      · rw [a1 i hi]; omega
      · rw [a2 i hi]; omega
    · rw [lb_old hn]; exact lb_le k i
theorem lb_len : ∀ (k : Nat), (lb St Ad k).2.length ≤ k
  | 0 => Nat.le_refl _
  | k + 1 => by
    have := lb_len k
    by_cases hn : St k = true ∧ (lb St Ad k).1 k = 0
    · rw [(lb_new hn.1 hn.2).2.2, List.length_append, List.length_singleton]; omega
    · rw [lb_old hn]; omega
/-- A number once given stays. -/
theorem lb_stay1 (hA : ∀ a b, Ad a b → Ad b a) (k : Nat) {i : Nat} (h : (lb St Ad k).1 i ≠ 0) : (lb St Ad (k + 1)).1 i = (lb St Ad k).1 i := by
  by_cases hn : St k = true ∧ (lb St Ad k).1 k = 0
  · by_cases hi : Cn St Ad k i
    · exact absurd ((lb_cn hA k hi).symm.trans hn.2) h
    · exact (lb_new hn.1 hn.2).2.1 i hi
  · rw [lb_old hn]
theorem lb_stay (hA : ∀ a b, Ad a b → Ad b a) {k m : Nat} (hkm : k ≤ m) {i : Nat} (h : (lb St Ad k).1 i ≠ 0) : (lb St Ad m).1 i = (lb St Ad k).1 i := by
  induction hkm with
  | refl => rfl
  | step _ ih => exact (lb_stay1 hA _ (by rw [ih]; exact h)).trans ih
theorem lb_seen (hA : ∀ a b, Ad a b → Ad b a) {k : Nat} (h : St k = true) : (lb St Ad (k + 1)).1 k ≠ 0 := by
  by_cases hn : St k = true ∧ (lb St Ad k).1 k = 0
  · rw [(lb_new hn.1 hn.2).1 k (.refl k h)]; omega
  · rw [lb_old hn]; exact fun e => hn ⟨h, e⟩
theorem lb_fin (hA : ∀ a b, Ad a b → Ad b a) {k m : Nat} (hkm : k < m) : (lb St Ad m).1 k = (lb St Ad (k + 1)).1 k := by
  by_cases h : St k = true
  · exact lb_stay hA hkm (lb_seen hA h)
  · have h1 : (lb St Ad m).1 k = 0 := Decidable.byContradiction fun e => h (lb_st m e)
    have h2 : (lb St Ad (k + 1)).1 k = 0 := Decidable.byContradiction fun e => h (lb_st (k + 1) e)
    rw [h1, h2]
/-- A new part's first cell has a number above all before, any other one's is none above. -/
theorem lb_first (hA : ∀ a b, Ad a b → Ad b a) {k m : Nat} (hkm : k < m) : (St k = true ∧ (lb St Ad k).1 k = 0 ∧ (lb St Ad m).1 k = (lb St Ad k).2.length + 1 ∧ (lb St Ad (k + 1)).2 = (lb St Ad k).2 ++ [k]) ∨ ((lb St Ad m).1 k ≤ (lb St Ad k).2.length ∧ (lb St Ad (k + 1)).2 = (lb St Ad k).2) := by
  by_cases hn : St k = true ∧ (lb St Ad k).1 k = 0
  · refine .inl ⟨hn.1, hn.2, ?_, (lb_new hn.1 hn.2).2.2⟩
    rw [lb_fin hA hkm, (lb_new hn.1 hn.2).1 k (.refl k hn.1)]
  · refine .inr ⟨?_, by rw [lb_old hn]⟩
    rw [lb_fin hA hkm, lb_old hn]; exact lb_le k k
theorem lb_pre {k m : Nat} (hkm : k ≤ m) : ∃ t, (lb St Ad m).2 = (lb St Ad k).2 ++ t := by
  induction hkm with
  | refl => exact ⟨[], by simp⟩
  | @step m _ ih =>
    obtain ⟨t, ht⟩ := ih
    by_cases hn : St m = true ∧ (lb St Ad m).1 m = 0
    · exact ⟨t ++ [m], by rw [(lb_new hn.1 hn.2).2.2, ht, List.append_assoc]⟩
    · exact ⟨t, by rw [lb_old hn]; exact ht⟩
/-- The n-th part is all that is joined to its first cell. -/
theorem lb_part (hA : ∀ a b, Ad a b → Ad b a) : ∀ (k n f : Nat), (lb St Ad k).2[n]? = some f → (f < k ∧ St f = true) ∧ ∀ i, (lb St Ad k).1 i = n + 1 ↔ Cn St Ad f i
  | 0, n, f, h => by simp [lb] at h
  | k + 1, n, f, h => by
    by_cases hn : St k = true ∧ (lb St Ad k).1 k = 0
    · obtain ⟨a1, a2, a3⟩ := lb_new hn.1 hn.2
      rw [a3] at h
      by_cases hl : n < (lb St Ad k).2.length
      · rw [List.getElem?_append_left hl] at h
        obtain ⟨⟨h1, h2⟩, h3⟩ := lb_part hA k n f h
        refine ⟨⟨by omega, h2⟩, fun i => ?_⟩
        by_cases hi : Cn St Ad k i
        · rw [a1 i hi]
          refine ⟨fun e => by omega, fun e => ?_⟩
          have := (h3 k).2 (e.trans (hi.symm hA))
          omega
        · rw [a2 i hi]; exact h3 i
      · rw [List.getElem?_append_right (by omega)] at h
        have he : n = (lb St Ad k).2.length := by
          have := (List.getElem?_eq_some_iff.1 h).1
          simp at this; omega
        rw [he, Nat.sub_self] at h
        have hf : f = k := by simpa using h.symm
        subst hf
        refine ⟨⟨by omega, hn.1⟩, fun i => ?_⟩
        by_cases hi : Cn St Ad f i
        · rw [a1 i hi]; exact ⟨fun _ => hi, fun _ => by omega⟩
        · rw [a2 i hi]
          have := lb_le (St := St) (Ad := Ad) f i
          exact ⟨fun e => by omega, fun e => absurd e hi⟩
    · rw [lb_old hn] at h ⊢
      obtain ⟨⟨h1, h2⟩, h3⟩ := lb_part hA k n f h
      exact ⟨⟨by omega, h2⟩, h3⟩
/-- Joined: both stand, and have one number. -/
theorem lb_same (hA : ∀ a b, Ad a b → Ad b a) {N : Nat} (hN : ∀ i, St i = true → i < N) (i j : Nat) : Cn St Ad i j ↔ (lb St Ad N).1 i ≠ 0 ∧ (lb St Ad N).1 i = (lb St Ad N).1 j := by
  constructor
  · intro h
    refine ⟨?_, lb_cn hA N h⟩
    rw [lb_fin hA (hN i h.left)]
    exact lb_seen hA h.left
  · rintro ⟨h1, h2⟩
    have h3 := lb_le (St := St) (Ad := Ad) N i
    obtain ⟨f, hf⟩ : ∃ f, (lb St Ad N).2[(lb St Ad N).1 i - 1]? = some f := ⟨_, List.getElem?_eq_getElem (by omega)⟩
    have h4 := (lb_part hA N _ f hf).2
    have e1 := (h4 i).1 (by omega)
    have e2 := (h4 j).1 (by omega)
    exact (e1.symm hA).trans e2
end
/-- How many cells of a world a question takes. -/
def cntP (N : Nat) (P : Nat → Bool) : Nat := ((List.range N).filter P).length
theorem cntP_le (N : Nat) (P : Nat → Bool) : cntP N P ≤ N := by
  have := List.length_filter_le P (List.range N)
  simpa [cntP] using this
theorem cntP_congr {N : Nat} {P Q : Nat → Bool} (h : ∀ i, i < N → P i = Q i) : cntP N P = cntP N Q := by
  unfold cntP
  rw [List.filter_congr (fun i hi => h i (List.mem_range.1 hi))]
theorem cntP_succ (N : Nat) (P : Nat → Bool) : cntP (N + 1) P = cntP N P + (if P N = true then 1 else 0) := by
  unfold cntP
  rw [List.range_succ, List.filter_append, List.length_append]
  cases h : P N <;> simp [h]
/-- A list without doubles that holds just what a question takes has so many. -/
theorem cntP_list {N : Nat} {P : Nat → Bool} {l : List Nat} (hd : l.Nodup) (hl : ∀ i, i ∈ l ↔ i < N ∧ P i = true) : l.length = cntP N P := by
  have h1 : List.Perm l ((List.range N).filter P) := (List.perm_ext_iff_of_nodup hd (List.nodup_range.filter P)).2 fun i => by
    rw [hl i, List.mem_filter, List.mem_range]
  exact h1.length_eq
/-- Beside each other: one step to the right, below, to the left, above. -/
def adI (w : Nat) (i j : Nat) : Prop := (j % w = i % w + 1 ∧ j / w = i / w) ∨ (j % w = i % w ∧ j / w = i / w + 1) ∨ (i % w = j % w + 1 ∧ i / w = j / w) ∨ (i % w = j % w ∧ i / w = j / w + 1)
theorem adI_symm (w : Nat) (a b : Nat) (h : adI w a b) : adI w b a := by
  unfold adI at *
  omega
section
variable {St : Nat → Bool} {Ad : Nat → Nat → Prop}
theorem nodup_le {N : Nat} {l : List Nat} (hd : l.Nodup) (h : ∀ a ∈ l, a < N) : l.length ≤ N := by
  have := cntP_list (N := N) (P := fun i => decide (i ∈ l)) hd (fun i => by simp only [decide_eq_true_eq]; exact ⟨fun hi => ⟨h i hi, hi⟩, fun hi => hi.2⟩)
  rw [this]; exact cntP_le _ _
/-- How many cells the n-th part has (from 0 on). -/
def szF (St : Nat → Bool) (Ad : Nat → Nat → Prop) (N n : Nat) : Nat := cntP N (fun i => decide ((lb St Ad N).1 i = n + 1))
theorem szF_le (N n : Nat) : szF St Ad N n ≤ N := cntP_le _ _
theorem szF_new (hA : ∀ a b, Ad a b → Ad b a) {N : Nat} (hN : ∀ i, St i = true → i < N) {k : Nat} (hk : k < N) (h1 : St k = true) (h2 : (lb St Ad k).1 k = 0) {l : List Nat} (hd : l.Nodup) (hl : ∀ j, j ∈ l ↔ Cn St Ad k j) : l.length = szF St Ad N (lb St Ad k).2.length := by
  obtain ⟨t, ht⟩ := lb_pre (St := St) (Ad := Ad) (k := k + 1) (m := N) hk
  have hf : (lb St Ad N).2[(lb St Ad k).2.length]? = some k := by
    rw [ht, (lb_new h1 h2).2.2, List.append_assoc, List.getElem?_append_right (Nat.le_refl _), Nat.sub_self]; rfl
  have hp := (lb_part hA N _ k hf).2
  exact cntP_list hd (fun i => by
    rw [hl i, decide_eq_true_eq, hp i]
    exact ⟨fun h => ⟨hN i h.right, h⟩, fun h => h.2⟩)
/-- A flood: what is found so far; of the first i all neighbours are found. -/
structure Fl (St : Nat → Bool) (Ad : Nat → Nat → Prop) (k : Nat) (l : List Nat) (i : Nat) : Prop where
  nd : l.Nodup
  cn : ∀ a, a ∈ l → Cn St Ad k a
  hd : k ∈ l
  cl : ∀ t a, t < i → l[t]? = some a → ∀ j, Ad a j → St j = true → j ∈ l
theorem Fl.start {k : Nat} (h : St k = true) : Fl St Ad k [k] 0 := ⟨by simp, fun a ha => by simp at ha; subst ha; exact .refl _ h, by simp, fun t a ht => by omega⟩
theorem Fl.len {k N i : Nat} {l : List Nat} (hN : ∀ i, St i = true → i < N) (h : Fl St Ad k l i) : l.length ≤ N := nodup_le h.nd (fun a ha => hN a (h.cn a ha).right)
theorem Fl.done {k i : Nat} {l : List Nat} (h : Fl St Ad k l i) (hi : l.length ≤ i) : ∀ j, j ∈ l ↔ Cn St Ad k j := fun j => ⟨h.cn j, fun hj => by
  induction hj using Cn.ind with
  | refl _ => exact h.hd
  | step b c _ hbc hs ih =>
    obtain ⟨t, ht, hb⟩ := List.getElem_of_mem ih
    exact h.cl t b (by omega) (by rw [List.getElem?_eq_getElem ht, hb]) c hbc hs⟩
theorem Fl.push {k i a j : Nat} {l : List Nat} (h : Fl St Ad k l i) (ha : a ∈ l) (hi : i ≤ l.length) (hj : Ad a j) (hs : St j = true) (hn : j ∉ l) : Fl St Ad k (l ++ [j]) i := by
  refine ⟨?_, ?_, List.mem_append_left _ h.hd, ?_⟩
  · rw [List.nodup_append]
    exact ⟨h.nd, by simp, fun x hx y hy e => by simp at hy; subst hy; subst e; exact hn hx⟩
  · intro b hb
    rcases List.mem_append.1 hb with hb | hb
    · exact h.cn b hb
    · simp at hb; subst hb; exact .step _ _ _ (h.cn a ha) hj hs
  · intro t b ht hb m hm hsm
    rw [List.getElem?_append_left (by omega)] at hb
    exact List.mem_append_left _ (h.cl t b ht hb m hm hsm)
theorem Fl.next {k i a : Nat} {l : List Nat} (h : Fl St Ad k l i) (hi : l[i]? = some a) (hc : ∀ j, Ad a j → St j = true → j ∈ l) : Fl St Ad k l (i + 1) := by
  refine ⟨h.nd, h.cn, h.hd, fun t b ht hb => ?_⟩
  by_cases e : t = i
  · subst e; rw [hi] at hb; cases hb; exact hc
  · exact h.cl t b (by omega) hb
/-- A search with a stack: what is met, what is still to be looked at; c: the one that is being looked at. -/
structure Df (St : Nat → Bool) (Ad : Nat → Nat → Prop) (k : Nat) (l : List Nat) (td : List Nat) (c : Option Nat) : Prop where
  nd : l.Nodup
  cn : ∀ a, a ∈ l → Cn St Ad k a
  hd : k ∈ l
  tl : ∀ a, a ∈ td → a ∈ l
  cl : ∀ a, a ∈ l → some a ≠ c → a ∈ td ∨ ∀ j, Ad a j → St j = true → j ∈ l
theorem Df.start {k : Nat} (h : St k = true) : Df St Ad k [k] [k] none := ⟨by simp, fun a ha => by simp at ha; subst ha; exact .refl _ h, by simp, fun a ha => ha, fun a ha _ => .inl ha⟩
theorem Df.len {k N : Nat} {l td : List Nat} {c : Option Nat} (hN : ∀ i, St i = true → i < N) (h : Df St Ad k l td c) : l.length ≤ N := nodup_le h.nd (fun a ha => hN a (h.cn a ha).right)
theorem Df.done {k : Nat} {l : List Nat} (h : Df St Ad k l [] none) : ∀ j, j ∈ l ↔ Cn St Ad k j := fun j => ⟨h.cn j, fun hj => by
  induction hj using Cn.ind with
  | refl _ => exact h.hd
  | step b c _ hbc hs ih =>
    rcases h.cl b ih (by simp) with h1 | h1
    · cases h1
    · exact h1 c hbc hs⟩
theorem Df.pop {k c : Nat} {l td : List Nat} (h : Df St Ad k l (td ++ [c]) none) : c ∈ l ∧ Df St Ad k l td (some c) := by
  refine ⟨h.tl c (by simp), h.nd, h.cn, h.hd, fun a ha => h.tl a (List.mem_append_left _ ha), fun a ha hne => ?_⟩
  rcases h.cl a ha (by simp) with h1 | h1
  · rcases List.mem_append.1 h1 with h2 | h2
    · exact .inl h2
    · simp at h2; subst h2; exact absurd rfl hne
  · exact .inr h1
theorem Df.push {k c j : Nat} {l td : List Nat} (h : Df St Ad k l td (some c)) (hc : c ∈ l) (hj : Cn St Ad c j) (hn : j ∉ l) : Df St Ad k (l ++ [j]) (td ++ [j]) (some c) := by
  refine ⟨?_, ?_, List.mem_append_left _ h.hd, ?_, ?_⟩
  · rw [List.nodup_append]
    exact ⟨h.nd, by simp, fun x hx y hy e => by simp at hy; subst hy; subst e; exact hn hx⟩
  · intro b hb
    rcases List.mem_append.1 hb with hb | hb
    · exact h.cn b hb
    · simp at hb; subst hb; exact (h.cn c hc).trans hj
  · intro b hb
    rcases List.mem_append.1 hb with hb | hb
    · exact List.mem_append_left _ (h.tl b hb)
    · exact List.mem_append_right _ hb
  · intro b hb hne
    rcases List.mem_append.1 hb with hb | hb
    · rcases h.cl b hb hne with h1 | h1
      · exact .inl (List.mem_append_left _ h1)
      · exact .inr (fun m hm hs => List.mem_append_left _ (h1 m hm hs))
    · exact .inl (List.mem_append_right _ hb)
theorem Df.back {k c : Nat} {l td : List Nat} (h : Df St Ad k l td (some c)) (hc : ∀ j, Ad c j → St j = true → j ∈ l) : Df St Ad k l td none := by
  refine ⟨h.nd, h.cn, h.hd, h.tl, fun a ha _ => ?_⟩
  by_cases e : a = c
  · subst e; exact .inr hc
  · exact h.cl a ha (fun h => e (Option.some.inj h))
/-- The numbers while a part is being gone through. -/
def ov (L : Nat → Nat) (n : Nat) (l : List Nat) (i : Nat) : Nat := if i ∈ l then n else L i
theorem ov_push (L : Nat → Nat) (n : Nat) (l : List Nat) (j i : Nat) : ov L n (l ++ [j]) i = if i = j then n else ov L n l i := by
  unfold ov
  by_cases e : i = j
  · subst e; simp
  · rw [if_neg e]; simp [e]
theorem ov_one (L : Nat → Nat) (n k i : Nat) : ov L n [k] i = if i = k then n else L i := by simp [ov]
theorem ov_lb {k : Nat} (h1 : St k = true) (h2 : (lb St Ad k).1 k = 0) {l : List Nat} (hl : ∀ j, j ∈ l ↔ Cn St Ad k j) : ov (lb St Ad k).1 ((lb St Ad k).2.length + 1) l = (lb St Ad (k + 1)).1 := by
  funext i
  obtain ⟨a1, a2, -⟩ := lb_new h1 h2
  unfold ov
  by_cases hi : i ∈ l
  · rw [if_pos hi, a1 i ((hl i).1 hi)]
  · rw [if_neg hi, a2 i (fun h => hi ((hl i).2 h))]
/-- A neighbour where one stands has no number of another part: it is met just where it has one. -/
theorem ov_zero (hA : ∀ a b, Ad a b → Ad b a) {k : Nat} (h2 : (lb St Ad k).1 k = 0) {l : List Nat} {j : Nat} (hj : Cn St Ad k j) : ov (lb St Ad k).1 ((lb St Ad k).2.length + 1) l j = 0 ↔ j ∉ l := by
  unfold ov
  have : (lb St Ad k).1 j = 0 := (lb_cn hA k hj).symm.trans h2
  by_cases hi : j ∈ l
  · simp [hi]
  · simp [hi, this]
end
section
variable {St : Nat → Bool} {Ad : Nat → Nat → Prop}
theorem lbS_new {s : (Nat → Nat) × List Nat} {k : Nat} (h : St k = true ∧ s.1 k = 0) : (∀ i, Cn St Ad k i → (lbS St Ad s k).1 i = s.2.length + 1) ∧ (∀ i, ¬ Cn St Ad k i → (lbS St Ad s k).1 i = s.1 i) ∧ (lbS St Ad s k).2 = s.2 ++ [k] := by
  rw [lbS, if_pos h]
  exact ⟨fun i hi => if_pos hi, fun i hi => if_neg hi, rfl⟩
theorem lbS_old {s : (Nat → Nat) × List Nat} {k : Nat} (h : ¬ (St k = true ∧ s.1 k = 0)) : lbS St Ad s k = s := by rw [lbS, if_neg h]
/-- The numbers behind a walk over some cells. -/
def lbF (St : Nat → Bool) (Ad : Nat → Nat → Prop) (pre : List Nat) : (Nat → Nat) × List Nat := pre.foldl (lbS St Ad) (fun _ => 0, [])
theorem lbF_nil : lbF St Ad [] = (fun _ => 0, []) := rfl
theorem lbF_snoc (pre : List Nat) (k : Nat) : lbF St Ad (pre ++ [k]) = lbS St Ad (lbF St Ad pre) k := by simp [lbF, List.foldl_append]
theorem lbF_range : ∀ k : Nat, lbF St Ad (List.range k) = lb St Ad k
  | 0 => rfl
  | k + 1 => by rw [List.range_succ, lbF_snoc, lbF_range k]; rfl
theorem lbS_cn (hA : ∀ a b, Ad a b → Ad b a) {s : (Nat → Nat) × List Nat} (hs : ∀ i j, Cn St Ad i j → s.1 i = s.1 j) (k : Nat) : ∀ i j, Cn St Ad i j → (lbS St Ad s k).1 i = (lbS St Ad s k).1 j := fun i j h => by
  by_cases hn : St k = true ∧ s.1 k = 0
  · obtain ⟨a1, a2, -⟩ := lbS_new (Ad := Ad) hn
    by_cases hi : Cn St Ad k i
    · rw [a1 i hi, a1 j (hi.trans h)]
    · rw [a2 i hi, a2 j (fun hj => hi (hj.trans (h.symm hA)))]
      exact hs i j h
  · rw [lbS_old hn]; exact hs i j h
theorem foldl_cn (hA : ∀ a b, Ad a b → Ad b a) : ∀ (pre : List Nat) (s : (Nat → Nat) × List Nat), (∀ i j, Cn St Ad i j → s.1 i = s.1 j) → ∀ i j, Cn St Ad i j → (pre.foldl (lbS St Ad) s).1 i = (pre.foldl (lbS St Ad) s).1 j
  | [], s, hs => hs
  | k :: r, s, hs => foldl_cn hA r _ (lbS_cn hA hs k)
theorem lbF_cn (hA : ∀ a b, Ad a b → Ad b a) (pre : List Nat) : ∀ i j, Cn St Ad i j → (lbF St Ad pre).1 i = (lbF St Ad pre).1 j := foldl_cn hA pre _ (fun _ _ _ => rfl)
theorem foldl_len : ∀ (pre : List Nat) (s : (Nat → Nat) × List Nat), (pre.foldl (lbS St Ad) s).2.length ≤ s.2.length + pre.length
  | [], s => Nat.le_refl _
  | k :: r, s => by
    refine Nat.le_trans (foldl_len r _) ?_
    by_cases hn : St k = true ∧ s.1 k = 0
    · rw [(lbS_new hn).2.2, List.length_append, List.length_singleton, List.length_cons]; omega
    · rw [lbS_old hn, List.length_cons]; omega
theorem lbF_len (pre : List Nat) : (lbF St Ad pre).2.length ≤ pre.length := by
  have := foldl_len (St := St) (Ad := Ad) pre (fun _ => 0, [])
  simpa [lbF] using this
theorem ov_lbS {s : (Nat → Nat) × List Nat} {k : Nat} (h : St k = true ∧ s.1 k = 0) {l : List Nat} (hl : ∀ j, j ∈ l ↔ Cn St Ad k j) : ov s.1 (s.2.length + 1) l = (lbS St Ad s k).1 := by
  funext i
  obtain ⟨a1, a2, -⟩ := lbS_new (Ad := Ad) h
  unfold ov
  by_cases hi : i ∈ l
  · rw [if_pos hi, a1 i ((hl i).1 hi)]
  · rw [if_neg hi, a2 i (fun h => hi ((hl i).2 h))]
/-- How many cells are joined to one. -/
def szC (St : Nat → Bool) (Ad : Nat → Nat → Prop) (N k : Nat) : Nat := cntP N (fun j => decide (Cn St Ad k j))
theorem szC_le (N k : Nat) : szC St Ad N k ≤ N := cntP_le _ _
theorem szC_len {N k : Nat} (hN : ∀ i, St i = true → i < N) {l : List Nat} (hd : l.Nodup) (hl : ∀ j, j ∈ l ↔ Cn St Ad k j) : l.length = szC St Ad N k :=
  cntP_list hd (fun i => (hl i).trans ⟨fun h => ⟨hN i h.right, by simp only [decide_eq_true_eq]; exact h⟩, fun h => by have := h.2; simp only [decide_eq_true_eq] at this; exact this⟩)
/-- The list of parts: each one's first cell, and how many it has. -/
def prS (St : Nat → Bool) (Ad : Nat → Nat → Prop) (N : Nat) (l : List Nat) : List (Nat × Nat) := l.map fun k => (k, szC St Ad N k)
theorem prS_get (hA : ∀ a b, Ad a b → Ad b a) {N n f : Nat} (h : (lb St Ad N).2[n]? = some f) : (prS St Ad N (lb St Ad N).2)[n]? = some (f, szF St Ad N n) := by
  rw [prS, List.getElem?_map, h]
  have hp := (lb_part hA N n f h).2
  show some (f, szC St Ad N f) = _
  rw [szC, szF, cntP_congr (fun i _ => decide_eq_decide.2 (hp i).symm)]
end
end Go.Proofs.YtoheibfijpdmfaaGreatDoor
set_option linter.unusedSimpArgs false
namespace Go.Proofs.YtoheibfijpdmfaaGreatDoor
open Go.RowKit
set_option linter.unusedVariables false
section
variable {α : Type} {t k : Nat} {cs : α → List Value} {w w' : World} {v : Value} {l : List α}
/-- The slice v reads as the list l, each of k cells. -/
def Rw (t k : Nat) (cs : α → List Value) (w : World) (v : Value) (l : List α) : Prop := w.ownsRow 0 t k v l.length (l.flatMap cs)
theorem rw_get (hk : ∀ a, (cs a).length = k) : ∀ (l : List α) (i : Nat) (x : α) (j : Nat), l[i]? = some x → j < k → (l.flatMap cs)[i * k + j]? = (cs x)[j]?
  | [], i, x, j, h, _ => by simp at h
  | s :: r, 0, x, j, h, hj => by
    simp at h; subst h
    rw [List.flatMap_cons, Nat.zero_mul, Nat.zero_add, List.getElem?_append_left (by rw [hk]; exact hj)]
  | s :: r, i + 1, x, j, h, hj => by
    simp at h
    have e : (i + 1) * k = i * k + k := Nat.succ_mul i k
    rw [List.flatMap_cons, List.getElem?_append_right (by rw [hk]; omega)]
    rw [← rw_get hk r i x j h hj, hk]
    congr 1
    omega
theorem Rw.kept {S : Nat → Prop} (h : Rw t k cs w v l) (ht : Turns S w w') (hs : ∀ g, v.ownBlock = some g → ¬ S g) : Rw t k cs w' v l := by
  refine ⟨h.1, ?_⟩
  rcases h.2 with h1 | ⟨g, cap, cur, e, hb, hg, r⟩
  · exact .inl h1
  · exact .inr ⟨g, cap, cur, e, hb, ht.same (hs g (by rw [e]; rfl)) hg, r⟩
theorem Rw.upto (h : Rw t k cs w v l) (hb : Below w.heap.size w w') : Rw t k cs w' v l := h.kept (Turns.of_below (S := NoB) hb) (fun _ _ s => s)
theorem Rw.blk (h : Rw t k cs w v l) {g : Nat} (hg : v.ownBlock = some g) : ∃ cur, w.heap[g]? = some (.cells cur t (0, 0)) := by
  rcases h.2 with ⟨e, -⟩ | ⟨g', cap, cur, e, -, hc, -⟩
  · rw [e] at hg; cases hg
  · rw [e] at hg; cases hg; exact ⟨cur, hc⟩
theorem Rw.ne (h : Rw t k cs w v l) {g : Nat} (hg : v.ownBlock = some g) {p t' : Nat} {cur : Array Value} (hp : w.heap[p]? = some (.cells cur t' (0, 0))) (hn : t' ≠ t) : g ≠ p := by
  rintro rfl
  obtain ⟨c, hc⟩ := h.blk hg
  rw [hc] at hp
  injection hp with hp
  injection hp with _ hp
  exact hn hp.symm
theorem Rw.form (hk : ∀ a, (cs a).length = k) (h : Rw t k cs w v l) : ∃ a cap, v = .slice a l.length cap ∧ l.length ≤ cap ∧ ∀ i x, l[i]? = some x → ∃ g, a = some ⟨g, 0, none⟩ ∧ g < w.heap.size ∧ ∀ j u, (cs x)[j]? = some u → w.cell? ⟨g, i * k + j, none⟩ = some u := by
  rcases h.2 with ⟨e, h0⟩ | ⟨g, cap, cur, e, hb, hg, hn, hm, hs, ht⟩
  · exact ⟨none, 0, by rw [h0]; exact e, by omega, fun i x hi => by
      have := List.eq_nil_of_length_eq_zero h0; subst this; simp at hi⟩
  · refine ⟨_, cap, e, hn, fun i x hi => ⟨g, rfl, (Array.getElem?_eq_some_iff.1 hg).1, fun j u hu => ?_⟩⟩
    have hj : j < k := by rw [← hk x]; exact (List.getElem?_eq_some_iff.1 hu).1
    have := h.cells (g := g) (by rw [e]; rfl) (i * k + j) u (by rw [rw_get hk l i x j hi hj]; exact hu)
    simpa [Addr.add_lit] using this
theorem Rw.nil (t k : Nat) (cs : α → List Value) (w : World) : Rw t k cs w (.slice none 0 0) [] := World.ownsRow_nil _ _ _ _
end
theorem wp_only {c : Code} {Q : Exit → Act → World → Prop} {a : Act} {w : World} (h : Code.wp Tryz.prog c (Only (fun a' w' => Q .normal a' w')) a w) : Code.wp Tryz.prog c Q a w := by
  refine Code.wp_mono ?_ h
  rintro (_ | _ | _ | _ | _) a' w' hO
  all_goals first | exact hO.elim | exact hO
/-- A cell by its number, row by row. -/
def cA (wd : Nat) (i : Nat) : List Value := [.int .i64 ((i % wd : Nat) : Int), .int .i64 ((i / wd : Nat) : Int)]
theorem cA_len (wd i : Nat) : (cA wd i).length = 2 := rfl
/-- A part: its first cell, how many it has. -/
def cP (wd : Nat) (a : Nat × Nat) : List Value := [.int .i64 ((a.1 % wd : Nat) : Int), .int .i64 ((a.1 / wd : Nat) : Int), .int .i64 ((a.2 : Nat) : Int)]
theorem cP_len (wd : Nat) (a : Nat × Nat) : (cP wd a).length = 3 := rfl
/-- In block p lies a Parts of the Field in block f. -/
def Pd (w : World) (p f : Nat) (s W H : Int) (av pv : Value) : Prop :=
  w.heap[p]? = some (.cells #[ptr f, .int .i64 s, .int .i64 0, .int .i64 0, .int .i64 W, .int .i64 H, av, pv] 68 (0, 0))
/-- In block b lie n numbers. -/
def Nms (w : World) (b n : Nat) (L : Nat → Nat) : Prop := w.heap[b]? = some (.cells ((List.range n).map (fun k => Value.int .i64 (L k : Nat))).toArray 3 (0, 0))
section
variable {w w' : World} {p f b n : Nat} {s W H : Int} {av pv : Value} {L L' : Nat → Nat}
theorem Pd.lt (h : Pd w p f s W H av pv) : p < w.heap.size := (Array.getElem?_eq_some_iff.1 h).1
theorem Pd.kept {S : Nat → Prop} (h : Pd w p f s W H av pv) (ht : Turns S w w') (hs : ¬ S p) : Pd w' p f s W H av pv := ht.same hs h
theorem Pd.upto (h : Pd w p f s W H av pv) (hb : Below w.heap.size w w') : Pd w' p f s W H av pv := (hb.block p h.lt).trans h
theorem Pd.c (h : Pd w p f s W H av pv) (j : Nat) : w.cell? ⟨p, j, none⟩ = (#[ptr f, .int .i64 s, .int .i64 0, .int .i64 0, .int .i64 W, .int .i64 H, av, pv] : Array Value)[j]? := cell_of_row w p j _ _ _ h
theorem Pd.fz (h : Pd w p f s W H av pv) (j : Nat) : w.frozen? ⟨p, j, none⟩ = false := by
  have h' : w.heap[p]? = _ := h
  simp [World.frozen?, h']
theorem Pd.setA (h : Pd w p f s W H av pv) (u : Value) : Pd (w.setCell ⟨p, 6, none⟩ u) p f s W H u pv := by
  have h' : w.heap[p]? = _ := h
  unfold Pd
  simp [World.setCell, Array.getElem?_modify, h']
theorem Pd.setP (h : Pd w p f s W H av pv) (u : Value) : Pd (w.setCell ⟨p, 7, none⟩ u) p f s W H av u := by
  have h' : w.heap[p]? = _ := h
  unfold Pd
  simp [World.setCell, Array.getElem?_modify, h']
theorem Nms.lt (h : Nms w b n L) : b < w.heap.size := (Array.getElem?_eq_some_iff.1 h).1
theorem Nms.kept {S : Nat → Prop} (h : Nms w b n L) (ht : Turns S w w') (hs : ¬ S b) : Nms w' b n L := ht.same hs h
theorem Nms.upto (h : Nms w b n L) (hb : Below w.heap.size w w') : Nms w' b n L := (hb.block b h.lt).trans h
theorem Nms.c (h : Nms w b n L) {j : Nat} (hj : j < n) : w.cell? ⟨b, j, none⟩ = some (.int .i64 (L j : Nat)) := by
  rw [cell_of_row w b j _ _ _ h]; simp [hj]
theorem Nms.fz (h : Nms w b n L) (j : Nat) : w.frozen? ⟨b, j, none⟩ = false := by
  have h' : w.heap[b]? = _ := h
  simp [World.frozen?, h']
theorem Nms.congr (h : Nms w b n L) (e : ∀ k, k < n → L k = L' k) : Nms w b n L' := by
  have h' : w.heap[b]? = _ := h
  unfold Nms
  rw [h', List.map_congr_left (fun k hk => by rw [e k (List.mem_range.1 hk)])]
theorem Nms.set (h : Nms w b n L) {j : Nat} (hj : j < n) (x : Nat) : Nms (w.setCell ⟨b, j, none⟩ (.int .i64 (x : Nat))) b n (fun i => if i = j then x else L i) := by
  have h' : w.heap[b]? = _ := h
  unfold Nms
  have e : ((List.range n).map (fun k => Value.int .i64 (L k : Nat))).set j (.int .i64 (x : Nat)) = (List.range n).map (fun i => Value.int .i64 ((if i = j then x else L i : Nat) : Nat)) := by
    refine List.ext_getElem (by simp) (fun i h1 h2 => ?_)
    simp only [List.getElem_set, List.getElem_map, List.getElem_range]
    by_cases hik : j = i
    · subst hik; simp
    · rw [if_neg hik, if_neg (fun e => hik e.symm)]
  simp [World.setCell, Array.getElem?_modify, h', e]
end
/-- All that Parts lie in: the object, its field, the clearances, the numbers. -/
structure Pf (w : World) (p f q : Nat) (cl ep : Int) (wd ht : Nat) (car : Int → Int → Bool) (s b2 b : Nat) (pv : Value) (L : Nat → Nat) : Prop where
  pd : Pd w p f s wd ht (sl b (wd * ht)) pv
  fd : Fd w f q cl wd ht b2 (wd * ht) ep
  sz : Szs w b2 ((List.range (wd * ht)).map (clrK car wd))
  nm : Nms w b (wd * ht) L
section
variable {w w' : World} {p f q : Nat} {cl ep : Int} {wd ht : Nat} {car : Int → Int → Bool} {s b2 b : Nat} {pv : Value} {L : Nat → Nat}
theorem Pf.upto (h : Pf w p f q cl ep wd ht car s b2 b pv L) (hb : Below w.heap.size w w') : Pf w' p f q cl ep wd ht car s b2 b pv L := ⟨h.pd.upto hb, h.fd.upto hb, h.sz.upto hb, h.nm.upto hb⟩
theorem Pf.ne (h : Pf w p f q cl ep wd ht car s b2 b pv L) : (b ≠ p ∧ b ≠ f ∧ b ≠ b2) ∧ p ≠ f ∧ p ≠ b2 := by
  obtain ⟨h1, h2, h3, h4⟩ := h
  unfold Pd at h1; unfold Fd at h2; unfold Szs at h3; unfold Nms at h4
  refine ⟨⟨?_, ?_, ?_⟩, ?_, ?_⟩ <;> rintro rfl
  · rw [h1] at h4; simp at h4
  · rw [h2] at h4; simp at h4
  · rw [h3] at h4; simp at h4
  · rw [h1] at h2; simp at h2
  · rw [h1] at h3; simp at h3
theorem Pf.set (h : Pf w p f q cl ep wd ht car s b2 b pv L) {j : Nat} (hj : j < wd * ht) (x : Nat) : Pf (w.setCell ⟨b, j, none⟩ (.int .i64 (x : Nat))) p f q cl ep wd ht car s b2 b pv (fun i => if i = j then x else L i) := by
  obtain ⟨⟨n1, n2, n3⟩, -, -⟩ := h.ne
  have ht' : Turns (fun k => k = b) w (w.setCell ⟨b, j, none⟩ (.int .i64 (x : Nat))) := Turns.set (S := fun k => k = b) w (p := ⟨b, j, none⟩) rfl _
  exact ⟨h.pd.kept ht' (fun e => n1 e.symm), h.fd.kept ht' (fun e => n2 e.symm), h.sz.kept ht' (fun e => n3 e.symm), h.nm.set hj x⟩
theorem Pf.congr {L' : Nat → Nat} (h : Pf w p f q cl ep wd ht car s b2 b pv L) (e : ∀ k, k < wd * ht → L k = L' k) : Pf w p f q cl ep wd ht car s b2 b pv L' := ⟨h.pd, h.fd, h.sz, h.nm.congr e⟩
end
theorem neqQ (p : Nat) (w : World) : (binOp .neq 33 (ptr p) (.pointer none)).run Tryz.prog w = .ok (.bool true) w := by kernel_rfl
theorem neqQ0 (w : World) : (binOp .neq 33 (.pointer none) (.pointer none)).run Tryz.prog w = .ok (.bool false) w := by kernel_rfl
section
variable {w : World} {p f b n : Nat} {s W H : Int} {av pv : Value}
set_option maxHeartbeats 1000000 in
theorem pmade_is (h : Pd w p f s W H av pv) : Calls Tryz.prog 27 #[ptr p] w fun e w' => e = .returned (.bool true) ∧ w' = w := by
  have c0 := h.c 0
  simp only [List.getElem?_toArray, List.getElem?_cons_zero] at c0
  clear h
  go_enter Tryz.func27, Tryz.ntmps27
  go_wp2
  go_ret
  exact ⟨rfl, rfl⟩
set_option maxHeartbeats 1000000 in
theorem pmade_nil (w : World) : Calls Tryz.prog 27 #[.pointer none] w fun e w' => e = .returned (.bool false) ∧ w' = w := by
  go_enter Tryz.func27, Tryz.ntmps27
  go_wp2
  go_ret
  exact ⟨rfl, rfl⟩
set_option maxHeartbeats 1000000 in
theorem pmade_zero (h : w.cell? ⟨p, 0, none⟩ = some (.pointer none)) : Calls Tryz.prog 27 #[ptr p] w fun e w' => e = .returned (.bool false) ∧ w' = w := by
  go_enter Tryz.func27, Tryz.ntmps27
  go_wp2
  go_ret
  exact ⟨rfl, rfl⟩
set_option maxRecDepth 100000 in
set_option maxHeartbeats 2000000 in
theorem pindex_any (x y z : Int) (k : Nat) (hw1 : IntKind.i64.wrap (y * W) = z) (hw2 : IntKind.i64.wrap (z + x) = (k : Nat)) (h : Pd w p f s W H av pv) :
    Calls Tryz.prog 47 #[ptr p, cel x y] w fun e w' => e = .returned (.int .i64 (k : Nat)) ∧ Below w.heap.size w w' := by
  obtain ⟨X, hX⟩ : ∃ X, w.alloc (.cells #[.int .i64 x, .int .i64 y] 46) = X := ⟨_, rfl⟩
  have B0 : Below w.heap.size w X := hX ▸ box1 _ _
  have bX : Two X w.heap.size x y := hX ▸ Two.newAt rfl
  obtain ⟨d0, d1⟩ := bX.lat
  have hX0 := h.upto B0
  have c4 : ∀ m : Lat X, m.w.cell? ⟨p, 4, none⟩ = some (.int .i64 W) := fun m => (hX0.upto m.h).c 4
  have hne := lat_some X
  clear h hX0 bX
  go_enter Tryz.func47, Tryz.ntmps47
  go_wp2_with fail
  clear hX
  refine wp_region_lat (by kernel_rfl) (by kernel_rfl) ?_
  repeat (go_big_quiet_step (fail))
  refine wpQuiet_nil ?_
  rintro _ ⟨m, rfl⟩
  go_wp2_with fail
  go_ret
  exact ⟨rfl, bt B0 m.h⟩
set_option maxHeartbeats 1000000 in
theorem plen_nil (w : World) : Calls Tryz.prog 18 #[.pointer none] w fun e w' => e = .returned (.int .i64 0) ∧ w' = w := by
  go_enter Tryz.func18, Tryz.ntmps18
  go_wp2_with (go_at_call 27; refine (pmade_nil _).mono ?_; rintro e w' ⟨rfl, rfl⟩)
  go_ret
  exact ⟨rfl, rfl⟩
set_option maxHeartbeats 1000000 in
theorem plen_zero (h : w.cell? ⟨p, 0, none⟩ = some (.pointer none)) : Calls Tryz.prog 18 #[ptr p] w fun e w' => e = .returned (.int .i64 0) ∧ w' = w := by
  have HF := hide (pmade_zero h)
  clear h
  go_enter Tryz.func18, Tryz.ntmps18
  go_wp2_with (go_at_call 27; refine HF.out.mono ?_; rintro e w' ⟨rfl, rfl⟩)
  go_ret
  exact ⟨rfl, rfl⟩
set_option maxHeartbeats 1000000 in
theorem plen_is {a : Option Addr} {m cap : Nat} (h : Pd w p f s W H av (.slice a m cap)) : Calls Tryz.prog 18 #[ptr p] w fun e w' => e = .returned (.int .i64 (m : Nat)) ∧ w' = w := by
  have HF := hide (pmade_is h)
  have c7 : w.cell? ⟨p, 7, none⟩ = some (.slice a m cap) := h.c 7
  clear h
  go_enter Tryz.func18, Tryz.ntmps18
  go_wp2_with (go_at_call 27; refine HF.out.mono ?_; rintro e w' ⟨rfl, rfl⟩)
  go_ret
  exact ⟨rfl, rfl⟩
/-- Whether there is a part of a number, by what Len tells. -/
theorem phas_of (vp : Value) (n : Int) (m : Nat) (r : Bool) (hr : decide (1 ≤ n ∧ n ≤ (m : Nat)) = r) (hl : Calls Tryz.prog 18 #[vp] w fun e w' => e = .returned (.int .i64 (m : Nat)) ∧ w' = w) : Calls Tryz.prog 62 #[vp, .int .i64 n] w fun e w' => e = .returned (.bool r) ∧ w' = w := by
  have HL := hide hl
  clear hl
  by_cases h1 : 1 ≤ n
  · by_cases h2 : n ≤ (m : Nat)
    · have : r = true := by rw [← hr]; exact decide_eq_true ⟨h1, h2⟩
      subst this
      clear hr
      go_enter Tryz.func62, Tryz.ntmps62
      go_wp2_with (go_at_call 18; refine HL.out.mono ?_; rintro e w' ⟨rfl, rfl⟩)
      go_ret
      exact ⟨by simp [h2], rfl⟩
    · have : r = false := by rw [← hr]; exact decide_eq_false (fun h => h2 h.2)
      subst this
      clear hr
      go_enter Tryz.func62, Tryz.ntmps62
      go_wp2_with (go_at_call 18; refine HL.out.mono ?_; rintro e w' ⟨rfl, rfl⟩)
      go_ret
      exact ⟨by simp [h2], rfl⟩
  · have : r = false := by rw [← hr]; exact decide_eq_false (fun h => h1 h.1)
    subst this
    clear hr
    go_enter Tryz.func62, Tryz.ntmps62
    go_wp2_with (go_at_call 18; refine HL.out.mono ?_; rintro e w' ⟨rfl, rfl⟩)
    go_ret
    exact ⟨rfl, rfl⟩
set_option maxHeartbeats 1000000 in
theorem psize_no (vp : Value) (n : Int) (hh : Calls Tryz.prog 62 #[vp, .int .i64 n] w fun e w' => e = .returned (.bool false) ∧ w' = w) : Calls Tryz.prog 31 #[vp, .int .i64 n] w fun e w' => e = .returned (.int .i64 0) ∧ w' = w := by
  have HF := hide hh
  clear hh
  go_enter Tryz.func31, Tryz.ntmps31
  go_wp2_with (go_at_call 62; refine HF.out.mono ?_; rintro e w' ⟨rfl, rfl⟩)
  go_ret
  exact ⟨rfl, rfl⟩
set_option maxHeartbeats 1000000 in
theorem pfirst_no (vp : Value) (n : Int) (hh : ∀ wx, Below w.heap.size w wx → Calls Tryz.prog 62 #[vp, .int .i64 n] wx fun e w' => e = .returned (.bool false) ∧ w' = wx) : Calls Tryz.prog 30 #[vp, .int .i64 n] w fun e w' => e = .returned (.tuple #[cel 0 0, .bool false]) ∧ Below w.heap.size w w' := by
  obtain ⟨X, hX⟩ : ∃ X, w.alloc (.cells #[.int .i64 0, .int .i64 0] 46) = X := ⟨_, rfl⟩
  have B0 : Below w.heap.size w X := hX ▸ box1 _ _
  have bX : Two X w.heap.size 0 0 := hX ▸ Two.newAt rfl
  have HF := hide (hh X B0)
  obtain ⟨⟨x0, x1⟩, x2, x3⟩ := id bX
  clear hh
  go_enter Tryz.func30, Tryz.ntmps30
  go_wp2_with fail
  try rw [hX]
  refine HF.out.mono ?_
  rintro e w' ⟨rfl, rfl⟩
  have y := bX.set (s := 0) (t := 0)
  obtain ⟨⟨y0, y1⟩, -, -⟩ := id y
  clear hX
  go_wp2_with fail
  refine bodyPost_ret (v := .tuple #[cel 0 0, .bool false]) (by simp [results, Tryz.results30, go_sem, y0, y1]) rfl ⟨rfl, ?_⟩
  exact set2 B0 (Nat.le_refl _) (Nat.le_refl _)
end
end Go.Proofs.YtoheibfijpdmfaaGreatDoor
set_option linter.unusedSimpArgs false
namespace Go.Proofs.YtoheibfijpdmfaaGreatDoor
open Go.RowKit
set_option linter.unusedVariables false
/-- A shape of size s stands at the i-th cell. -/
def stI (car : Int → Int → Bool) (wd N s i : Nat) : Bool := decide (i < N) && sqB car ((i % wd : Nat) : Int) ((i / wd : Nat) : Int) s
theorem stI_iff (car : Int → Int → Bool) (wd N s i : Nat) : stI car wd N s i = true ↔ i < N ∧ sqB car ((i % wd : Nat) : Int) ((i / wd : Nat) : Int) s = true := by simp [stI]
theorem stI_lt {car : Int → Int → Bool} {wd N s : Nat} (i : Nat) (h : stI car wd N s i = true) : i < N := ((stI_iff _ _ _ _ _).1 h).1
/-- The cell at a place, where a shape stands there. -/
theorem stI_at {car : Int → Int → Bool} {wd ht s : Nat} (hwd : wd ≤ 128 ∧ ht ≤ 128) (hs : 1 ≤ s) (hcar : ∀ x y, car x y = true → has 0 0 (wd : Int) (ht : Int) x y = true) {x y : Int} (h : sqB car x y s = true) :
    ∃ j : Nat, j = y.toNat * wd + x.toNat ∧ j < wd * ht ∧ ((j % wd : Nat) : Int) = x ∧ ((j / wd : Nat) : Int) = y ∧ stI car wd (wd * ht) s j = true ∧ has 0 0 (wd : Int) (ht : Int) x y = true := by
  have h1 : car x y = true := by
    have := (sqB_iff car x y s).1 h 0 0 (by omega) (by omega)
    simpa using this
  have h2 := hcar x y h1
  obtain ⟨⟨a1, a2⟩, a3, a4⟩ := (has_in hwd).1 h2
  obtain ⟨X, rfl⟩ := Int.eq_ofNat_of_zero_le a1
  obtain ⟨Y, rfl⟩ := Int.eq_ofNat_of_zero_le a3
  have hX : X < wd := by omega
  have hY : Y < ht := by omega
  have e := idx_mod (y := Y) hX
  have hlt := idx_lt hX hY
  refine ⟨Y * wd + X, by simp, hlt, by rw [e.1], by rw [e.2], ?_, h2⟩
  rw [stI_iff, e.1, e.2]
  exact ⟨hlt, h⟩
theorem idx_eq {wd i j : Nat} (h1 : i % wd = j % wd) (h2 : i / wd = j / wd) : i = j := by
  rw [← Nat.div_add_mod i wd, ← Nat.div_add_mod j wd, h1, h2]
/-- j lies one step from a in direction d. -/
def nbr (wd a j d : Nat) : Prop := ((j % wd : Nat) : Int) = ((a % wd : Nat) : Int) + dX d ∧ ((j / wd : Nat) : Int) = ((a / wd : Nat) : Int) + dY d
theorem nbr_ad {wd a j : Nat} {d : Nat} (hd : d < 4) (h : nbr wd a j d) : adI wd a j := by
  unfold nbr at h
  unfold adI
  match d, hd with
  | 0, _ => simp only [dX, dY] at h; omega
  | 1, _ => simp only [dX, dY] at h; omega
  | 2, _ => simp only [dX, dY] at h; omega
  | 3, _ => simp only [dX, dY] at h; omega
theorem ad_nbr {wd a j : Nat} (h : adI wd a j) : ∃ d, d < 4 ∧ nbr wd a j d := by
  unfold adI at h
  rcases h with h | h | h | h
  · exact ⟨0, by omega, by simp only [nbr, dX, dY]; omega⟩
  · exact ⟨1, by omega, by simp only [nbr, dX, dY]; omega⟩
  · exact ⟨2, by omega, by simp only [nbr, dX, dY]; omega⟩
  · exact ⟨3, by omega, by simp only [nbr, dX, dY]; omega⟩
/-- A cell of a world and where a step from it leads are near. -/
theorem step_near {wd ht a : Nat} (hwd : (1 ≤ wd ∧ wd ≤ 128) ∧ 1 ≤ ht ∧ ht ≤ 128) (ha : a < wd * ht) {d : Nat} (hd : d < 8) : sB ((a % wd : Nat) : Int) ((a / wd : Nat) : Int) d = true ∧ sX ((a % wd : Nat) : Int) ((a / wd : Nat) : Int) d = ((a % wd : Nat) : Int) + dX d ∧ sY ((a % wd : Nat) : Int) ((a / wd : Nat) : Int) d = ((a / wd : Nat) : Int) + dY d := by
  have h1 : a % wd < wd := Nat.mod_lt _ (by omega)
  have h2 : a / wd < ht := by rw [Nat.div_lt_iff_lt_mul (by omega), Nat.mul_comm]; exact ha
  have r1 := dX_range d
  have r2 := dY_range d
  generalize a % wd = X at *
  generalize a / wd = Y at *
  have h3 : sB ((X : Nat) : Int) ((Y : Nat) : Int) d = true := by
    simp only [sB, Bool.and_eq_true, isD_iff, nrC_iff, Int.toNat_natCast]
    omega
  refine ⟨h3, ?_, ?_⟩
  · rw [sX, if_pos h3, Int.toNat_natCast]
  · rw [sY, if_pos h3, Int.toNat_natCast]
theorem at_clr {car : Int → Int → Bool} {wd ht : Nat} (hwd : wd ≤ 128 ∧ ht ≤ 128) (hcar : ∀ x y, car x y = true → has 0 0 (wd : Int) (ht : Int) x y = true) (x y : Int) :
    atL wd ht ((List.range (wd * ht)).map (clrK car wd)) x y = clr car x y := by
  unfold atL
  split
  · rename_i hh
    have hin := (has_in hwd).1 hh
    obtain ⟨X, rfl⟩ := Int.eq_ofNat_of_zero_le hin.1.1
    obtain ⟨Y, rfl⟩ := Int.eq_ofNat_of_zero_le hin.2.1
    have hlt := idx_lt (w := wd) (h := ht) (x := X) (y := Y) (by omega) (by omega)
    have e2 : ((Y : Int) * (wd : Int) + (X : Int)) = ((Y * wd + X : Nat) : Int) := by simp
    have e := idx_mod (w := wd) (x := X) (y := Y) (by omega)
    rw [e2, Int.toNat_natCast, List.getD_eq_getElem?_getD, List.getElem?_map, List.getElem?_range hlt]
    show clrK car wd (Y * wd + X) = _
    unfold clrK
    rw [e.1, e.2]
  · rename_i hh
    refine (clr_no ?_).symm
    rw [Bool.eq_false_iff]
    exact fun hc => hh (hcar _ _ hc)
theorem clr_bytes (car : Int → Int → Bool) (wd N : Nat) : ∀ u ∈ (List.range N).map (clrK car wd), u < 256 := by
  intro u hu
  obtain ⟨k, -, rfl⟩ := List.mem_map.1 hu
  have := clr_le car ((k % wd : Nat) : Int) ((k / wd : Nat) : Int)
  unfold clrK
  omega
end Go.Proofs.YtoheibfijpdmfaaGreatDoor
set_option linter.unusedSimpArgs false
namespace Go.Proofs.YtoheibfijpdmfaaGreatDoor
open Go.RowKit
set_option linter.unusedVariables false
/-- A cell's number of part: 0 outside. -/
def atF (wd ht : Nat) (L : Nat → Nat) (x y : Int) : Nat := if has 0 0 (wd : Int) (ht : Int) x y = true then L (y.toNat * wd + x.toNat) else 0
/-- Where a cell of the world stands in the list. -/
theorem inF {wd ht : Nat} {x y : Int} (hw : wd ≤ 128 ∧ ht ≤ 128) (hh : has 0 0 (wd : Int) (ht : Int) x y = true) :
    ∃ (k : Nat) (z : Int), k = y.toNat * wd + x.toNat ∧ k < wd * ht ∧ IntKind.i64.wrap (y * (wd : Int)) = z ∧ IntKind.i64.wrap (z + x) = (k : Nat) := by
  have hin := (has_in hw).1 hh
  obtain ⟨X, rfl⟩ := Int.eq_ofNat_of_zero_le hin.1.1
  obtain ⟨Y, rfl⟩ := Int.eq_ofNat_of_zero_le hin.2.1
  have hk := idx_lt (w := wd) (h := ht) (x := X) (y := Y) (by omega) (by omega)
  have e1 : ((Y : Int) * (wd : Int)) = ((Y * wd : Nat) : Int) := by simp
  have e2 : (((Y * wd : Nat) : Int) + (X : Int)) = ((Y * wd + X : Nat) : Int) := by simp
  have hn : wd * ht ≤ 16384 := by have := Nat.mul_le_mul hw.1 hw.2; omega
  refine ⟨Y * wd + X, ((Y * wd : Nat) : Int), by simp, hk, ?_, ?_⟩
  · rw [e1, IntKind.wrap_i64]; omega
  · rw [e2, IntKind.wrap_i64]; omega
section
variable {w : World} {p f q : Nat} {cl ep : Int} {wd ht : Nat} {car : Int → Int → Bool} {s b2 b : Nat} {pv : Value} {L : Nat → Nat}
set_option maxRecDepth 100000 in
set_option maxHeartbeats 4000000 in
theorem pat_any (x y : Int) (h : Pf w p f q cl ep wd ht car s b2 b pv L) (hw : wd ≤ 128 ∧ ht ≤ 128) :
    Calls Tryz.prog 19 #[ptr p, cel x y] w fun e w' => e = .returned (.int .i64 (atF wd ht L x y : Nat)) ∧ Below w.heap.size w w' := by
  obtain ⟨N, hN⟩ : ∃ N, N = wd * ht := ⟨_, rfl⟩
  have hN2 : N ≤ 16384 := by have := Nat.mul_le_mul hw.1 hw.2; omega
  obtain ⟨X, hX⟩ : ∃ X, w.alloc (.cells #[.int .i64 x, .int .i64 y] 46) = X := ⟨_, rfl⟩
  have B0 : Below w.heap.size w X := hX ▸ box1 _ _
  have bX : Two X w.heap.size x y := hX ▸ Two.newAt rfl
  obtain ⟨d0, d1⟩ := bX.lat
  have key : ∀ m : Lat X, Pf m.w p f q cl ep wd ht car s b2 b pv L := fun m => (h.upto B0).upto m.h
  have HK := hide key
  have c2 : ∀ m : Lat X, m.w.cell? ⟨p, 2, none⟩ = some (.int .i64 0) := fun m => (key m).pd.c 2
  have c3 : ∀ m : Lat X, m.w.cell? ⟨p, 3, none⟩ = some (.int .i64 0) := fun m => (key m).pd.c 3
  have c4 : ∀ m : Lat X, m.w.cell? ⟨p, 4, none⟩ = some (.int .i64 wd) := fun m => (key m).pd.c 4
  have c5 : ∀ m : Lat X, m.w.cell? ⟨p, 5, none⟩ = some (.int .i64 ht) := fun m => (key m).pd.c 5
  have c6 : ∀ m : Lat X, m.w.cell? ⟨p, 6, none⟩ = some (sl b N) := fun m => by rw [hN]; exact (key m).pd.c 6
  have hne := lat_some X
  cases hh : has 0 0 (wd : Int) (ht : Int) x y
  · have HB := hide hh
    rw [show atF wd ht L x y = 0 by simp [atF, hh]]
    clear key h bX hh hw hN
    go_enter Tryz.func19, Tryz.ntmps19
    go_wp2_with fail
    clear hX
    refine wp_region_lat (by kernel_rfl) (by kernel_rfl) ?_
    repeat (go_big_quiet_step (first | (go_at_call 27; exact calls_lat_same (pmade_is (HK.out _).pd)) | (go_at_call 46; exact calls_lat (hasc_is _ HB.out))))
    refine wpQuiet_nil ?_
    rintro _ ⟨m, rfl⟩
    go_wp2_with fail
    go_ret
    exact ⟨rfl, bt B0 m.h⟩
  · have HB := hide hh
    obtain ⟨k, z, hk, hkN, hw1, hw2⟩ := inF hw hh
    rw [← hN] at hkN
    have hat : atF wd ht L x y = L k := by rw [atF, if_pos hh, hk]
    obtain ⟨u, hu⟩ : ∃ u, L k = u := ⟨_, rfl⟩
    have hk1 : (k : Int) < (N : Nat) := by omega
    have hk0 : (0 : Int) ≤ (k : Int) := by omega
    have hlI : (N : Int) ≤ 16384 := by omega
    have hcell : ∀ m : Lat X, m.w.cell? ⟨b, k, none⟩ = some (.int .i64 (u : Nat)) := fun m => by rw [← hu]; exact (HK.out m).nm.c (by rw [← hN]; exact hkN)
    have HI : Hid (∀ m : Lat X, Calls Tryz.prog 47 #[ptr p, cel x y] m.w fun e w' => e = .returned (.int .i64 (k : Nat)) ∧ Below m.w.heap.size m.w w') := hide fun m => pindex_any x y z k hw1 hw2 (HK.out m).pd
    rw [hat, hu]
    clear key h bX hh hw hat hw1 hw2 hk hu hN
    go_enter Tryz.func19, Tryz.ntmps19
    go_wp2_with fail
    clear hX
    refine wp_region_lat (by kernel_rfl) (by kernel_rfl) ?_
    repeat (go_big_quiet_step (first | (go_at_call 27; exact calls_lat_same (pmade_is (HK.out _).pd)) | (go_at_call 46; exact calls_lat (hasc_is _ HB.out))))
    refine wpQuiet_nil ?_
    rintro _ ⟨m, rfl⟩
    go_wp2_with fail
    have e0 : ∀ i : Lat m.w, i.w.cell? ⟨w.heap.size, 0, none⟩ = some (.int .i64 x) := fun i => d0 ⟨i.w, bt m.h i.h⟩
    have e1 : ∀ i : Lat m.w, i.w.cell? ⟨w.heap.size, 1, none⟩ = some (.int .i64 y) := fun i => d1 ⟨i.w, bt m.h i.h⟩
    have e6 : ∀ i : Lat m.w, i.w.cell? ⟨p, 6, none⟩ = some (sl b N) := fun i => c6 ⟨i.w, bt m.h i.h⟩
    have e7 : ∀ i : Lat m.w, i.w.cell? ⟨b, k, none⟩ = some (.int .i64 (u : Nat)) := fun i => hcell ⟨i.w, bt m.h i.h⟩
    have HI2 : Hid (∀ i : Lat m.w, Calls Tryz.prog 47 #[ptr p, cel x y] i.w fun e w' => e = .returned (.int .i64 (k : Nat)) ∧ Below i.w.heap.size i.w w') := hide fun i => HI.out ⟨i.w, bt m.h i.h⟩
    have hne2 := lat_some m.w
    clear d0 d1 c2 c3 c4 c5 c6 hcell hne HI
    refine wp_region_lat (by kernel_rfl) (by kernel_rfl) ?_
    repeat (go_big_quiet_step (first | (go_at_call 47; exact calls_lat (HI2.out _))))
    refine wpQuiet_nil ?_
    rintro _ ⟨i, rfl⟩
    go_wp2_with fail
    go_ret
    exact ⟨rfl, bt B0 (bt m.h i.h)⟩
theorem pat_is (x y : Int) {v : Nat} (hv : atF wd ht L x y = v) (h : Pf w p f q cl ep wd ht car s b2 b pv L) (hw : wd ≤ 128 ∧ ht ≤ 128) :
    Calls Tryz.prog 19 #[ptr p, cel x y] w fun e w' => e = .returned (.int .i64 (v : Nat)) ∧ Below w.heap.size w w' := by subst hv; exact pat_any x y h hw
/-- Whether a shape stands at a cell that has no number yet. -/
def nwB (car : Int → Int → Bool) (s wd : Nat) (L : Nat → Nat) (x y : Int) : Bool := sqB car x y s && decide (L (y.toNat * wd + x.toNat) = 0)
set_option maxRecDepth 100000 in
set_option maxHeartbeats 4000000 in
theorem isnew_any (x y : Int) (h : Pf w p f q cl ep wd ht car s b2 b pv L) (hw : wd ≤ 128 ∧ ht ≤ 128) (hs : 1 ≤ s ∧ s ≤ 4) (hcar : ∀ x y, car x y = true → has 0 0 (wd : Int) (ht : Int) x y = true) :
    Calls Tryz.prog 44 #[ptr p, cel x y] w fun e w' => e = .returned (.bool (nwB car s wd L x y)) ∧ Below w.heap.size w w' := by
  obtain ⟨N, hN⟩ : ∃ N, N = wd * ht := ⟨_, rfl⟩
  have hN2 : N ≤ 16384 := by have := Nat.mul_le_mul hw.1 hw.2; omega
  obtain ⟨X, hX⟩ : ∃ X, w.alloc (.cells #[.int .i64 x, .int .i64 y] 46) = X := ⟨_, rfl⟩
  have B0 : Below w.heap.size w X := hX ▸ box1 _ _
  have bX : Two X w.heap.size x y := hX ▸ Two.newAt rfl
  obtain ⟨d0, d1⟩ := bX.lat
  have key : ∀ m : Lat X, Pf m.w p f q cl ep wd ht car s b2 b pv L := fun m => (h.upto B0).upto m.h
  have HK := hide key
  have c0 : ∀ m : Lat X, m.w.cell? ⟨p, 0, none⟩ = some (ptr f) := fun m => (key m).pd.c 0
  have c1 : ∀ m : Lat X, m.w.cell? ⟨p, 1, none⟩ = some (.int .i64 s) := fun m => (key m).pd.c 1
  have c6 : ∀ m : Lat X, m.w.cell? ⟨p, 6, none⟩ = some (sl b N) := fun m => by rw [hN]; exact (key m).pd.c 6
  obtain ⟨c, hc⟩ : ∃ c, clr car x y = c := ⟨_, rfl⟩
  have hc4 : c ≤ 4 := by rw [← hc]; exact clr_le _ _ _
  have HA : Hid (∀ m : Lat X, Calls Tryz.prog 77 #[ptr f, cel x y] m.w fun e w' => e = .returned (.int .i64 (c : Nat)) ∧ Below m.w.heap.size m.w w') := hide fun m => by
    refine fat_is x y ?_ (HK.out m).fd (HK.out m).sz hw (by simp) (by simp) (clr_bytes _ _ _)
    rw [← hc]; exact at_clr hw hcar x y
  have hge := clr_ge (car := car) (x := x) (y := y) hs.2
  rw [hc] at hge
  have hne := lat_some X
  cases hq : sqB car x y s
  · have hlt : ¬ s ≤ c := fun hh => by rw [hge.1 hh] at hq; cases hq
    rw [show nwB car s wd L x y = false by simp [nwB, hq]]
    have g1 : decide ((s : Int) ≤ (c : Nat)) = false := decide_eq_false (by omega)
    have g2 : decide (s ≤ c) = false := decide_eq_false hlt
    clear key h bX hw hN hge hq hc hlt c6
    go_enter Tryz.func44, Tryz.ntmps44
    go_wp2_with fail
    clear hX
    refine wp_region_lat (by kernel_rfl) (by kernel_rfl) ?_
    repeat (go_big_quiet_step (first | (go_at_call 77; exact calls_lat (HA.out _))))
    refine wpQuiet_nil ?_
    rintro _ ⟨m, rfl⟩
    go_wp2_with fail
    go_ret
    exact ⟨rfl, bt B0 m.h⟩
  · have hlt : s ≤ c := hge.2 hq
    obtain ⟨j, hj, hjN, -, -, -, hh⟩ := stI_at hw hs.1 hcar hq
    obtain ⟨k, z, hk, hkN, hw1, hw2⟩ := inF hw hh
    rw [← hN] at hkN
    obtain ⟨u, hu⟩ : ∃ u, L k = u := ⟨_, rfl⟩
    have g1 : decide ((s : Int) ≤ (c : Nat)) = true := decide_eq_true (by omega)
    have g2 : decide (s ≤ c) = true := decide_eq_true hlt
    have hk1 : (k : Int) < (N : Nat) := by omega
    have hk0 : (0 : Int) ≤ (k : Int) := by omega
    have hlI : (N : Int) ≤ 16384 := by omega
    have hcell : ∀ m : Lat X, m.w.cell? ⟨b, k, none⟩ = some (.int .i64 (u : Nat)) := fun m => by rw [← hu]; exact (HK.out m).nm.c (by rw [← hN]; exact hkN)
    have HI : Hid (∀ m : Lat X, Calls Tryz.prog 47 #[ptr p, cel x y] m.w fun e w' => e = .returned (.int .i64 (k : Nat)) ∧ Below m.w.heap.size m.w w') := hide fun m => pindex_any x y z k hw1 hw2 (HK.out m).pd
    obtain ⟨r, hr⟩ : ∃ r : Bool, decide (u = 0) = r := ⟨_, rfl⟩
    rw [show nwB car s wd L x y = r by rw [nwB, hq, Bool.true_and, ← hk, hu]; exact hr]
    have hr2 : decide ((u : Int) = 0) = r := by rw [← hr]; exact decide_eq_decide.2 (by omega)
    have hr3 : ((u : Int) == 0) = r := by rw [← hr2, Bool.eq_iff_iff]; simp
    have HR3 := hide hr3
    clear key h bX hh hw hw1 hw2 hk hu hN hge hq hc hj hjN hlt hr3
    go_enter Tryz.func44, Tryz.ntmps44
    go_wp2_with fail
    clear hX
    refine wp_region_lat (by kernel_rfl) (by kernel_rfl) ?_
    repeat (go_big_quiet_step (first | (go_at_call 77; exact calls_lat (HA.out _)) | (go_at_call 47; exact calls_lat (HI.out _))))
    refine wpQuiet_nil ?_
    rintro _ ⟨m, rfl⟩
    go_wp2_with fail
    go_ret
    exact ⟨by simp [hr, hr2, HR3.out], bt B0 m.h⟩
end
end Go.Proofs.YtoheibfijpdmfaaGreatDoor
