/-
  The theory of the search: what its table of costs and its queue keep, and what follows when it ends. The theory of the search and the search: what reach keeps. Octile turns by a step's cost at most. What is known when reach has ended.
-/
import Init
import Derived.Test.YtggaobcdogbjhaaGreatDoorRcAll
import Derived.Test.YtggaobcdogbjhaaGreatDoorOctAll
namespace Go.Proofs.YtggaobcdogbjhaaGreatDoor
set_option linter.unusedVariables false
set_option linter.unusedSectionVars false
section
variable {α : Type} {step : α → α → Nat → Prop} {s goal : α} {left : α → Nat} {C : α → Option Nat} {H : List (α × Nat)}
/-- A walk from one to another, and what it costs. -/
def Wk (step : α → α → Nat → Prop) (a c : α) (n : Nat) : Prop := ∀ M : α → Nat → Prop, M a 0 → (∀ b c n w, M b n → step b c w → M c (n + w)) → M c n
theorem Wk.nil {step : α → α → Nat → Prop} (c : α) : Wk step c c 0 := fun _ h _ => h
theorem Wk.snoc {step : α → α → Nat → Prop} {a b c : α} {n w : Nat} (h : Wk step a b n) (hs : step b c w) : Wk step a c (n + w) := fun M h1 h2 => h2 _ _ _ _ (h M h1 h2) hs
theorem Wk.ind {step : α → α → Nat → Prop} {a : α} {motive : (c : α) → (n : Nat) → Wk step a c n → Prop} (nil : motive a 0 (Wk.nil a)) (snoc : ∀ {b c : α} {n w : Nat} (h : Wk step a b n) (hs : step b c w), motive b n h → motive c (n + w) (Wk.snoc h hs)) {c : α} {n : Nat} (h : Wk step a c n) : motive c n h := by
  obtain ⟨h', hm⟩ : ∃ h' : Wk step a c n, motive c n h' := h (fun c n => ∃ h' : Wk step a c n, motive c n h') ⟨_, nil⟩ (fun b c n w ⟨h', hm⟩ hs => ⟨_, snoc h' hs hm⟩)
  exact hm
theorem Wk.cs {step : α → α → Nat → Prop} {a : α} {motive : (c : α) → (n : Nat) → Wk step a c n → Prop} (nil : motive a 0 (Wk.nil a)) (snoc : ∀ {b c : α} {n w : Nat} (h : Wk step a b n) (hs : step b c w), motive c (n + w) (Wk.snoc h hs)) {c : α} {n : Nat} (h : Wk step a c n) : motive c n h := Wk.ind nil (fun h hs _ => snoc h hs) h
theorem Wk.one {a b : α} {w : Nat} (h : step a b w) : Wk step a b w := by
  have := Wk.snoc (.nil a) h
  rwa [Nat.zero_add] at this
theorem Wk.trans {a b c : α} {m n : Nat} (h : Wk step a b m) (k : Wk step b c n) : Wk step a c (m + n) := by
  induction k using Wk.ind with
  | nil => exact h
  | snoc _ hs ih => rw [← Nat.add_assoc]; exact .snoc ih hs
theorem Wk.rev (hsym : ∀ a b w, step a b w → step b a w) {a b : α} {n : Nat} (h : Wk step a b n) : Wk step b a n := by
  induction h using Wk.ind with
  | nil => exact .nil _
  | snoc _ hs ih => rw [Nat.add_comm]; exact (Wk.one (hsym _ _ _ hs)).trans ih
/-- The distance: a walk costs so much, and none costs less. -/
def Least (step : α → α → Nat → Prop) (a b : α) (n : Nat) : Prop := Wk step a b n ∧ ∀ m, Wk step a b m → n ≤ m
theorem Least.eq {a b : α} {m n : Nat} (h : Least step a b m) (k : Least step a b n) : m = n := Nat.le_antisymm (h.2 n k.1) (k.2 m h.1)
theorem Least.exists : ∀ (n : Nat) {a b : α}, Wk step a b n → ∃ m, m ≤ n ∧ Least step a b m := by
  intro n
  induction n using Nat.strongRecOn with
  | _ n ih =>
    intro a b h
    by_cases hl : ∃ m, m < n ∧ Wk step a b m
    · obtain ⟨m, hm, hw⟩ := hl
      obtain ⟨k, hk, hL⟩ := ih m hm hw
      exact ⟨k, by omega, hL⟩
    · exact ⟨n, Nat.le_refl _, h, fun m hm => by
        rcases Nat.lt_or_ge m n with q | q
        · exact absurd ⟨m, q, hm⟩ hl
        · exact q⟩
theorem Least.rev (hsym : ∀ a b w, step a b w → step b a w) {a b : α} {n : Nat} (h : Least step a b n) : Least step b a n :=
  ⟨h.1.rev hsym, fun m hm => h.2 m (hm.rev hsym)⟩
theorem Least.triangle {a b c : α} {l m n : Nat} (h : Least step a c l) (h1 : Least step a b m) (h2 : Least step b c n) : l ≤ m + n := h.2 _ (h1.1.trans h2.1)
/-- The part of a walk of least cost up to its last step is one of least cost. -/
theorem Least.part {a b c : α} {n w : Nat} (h : Wk step a b n) (hs : step b c w) (hL : Least step a c (n + w)) : Least step a b n :=
  ⟨h, fun m hm => by have := hL.2 _ (Wk.snoc hm hs); omega⟩
/-- What the search keeps. -/
structure Sk (step : α → α → Nat → Prop) (s : α) (C : α → Option Nat) (H : List (α × Nat)) : Prop where
  src : C s = some 0
  real : ∀ c g, C c = some g → Wk step s c g
  rest : ∀ c g, C c = some g → (∀ d w, step c d w → ∃ h, C d = some h ∧ h ≤ g + w) ∨ (c, g) ∈ H
/-- If the table is wrong of c, somebody in the queue has the right cost, and lies on a walk of least cost to c. -/
theorem Sk.wrong (h : Sk step s C H) {c : α} {n : Nat} (hw : Wk step s c n) : Least step s c n → C c = some n ∨ ∃ b m k, (b, m) ∈ H ∧ Least step s b m ∧ C b = some m ∧ Wk step b c k ∧ m + k = n := by
  induction hw using Wk.ind with
  | nil => exact fun _ => .inl h.src
  | @snoc b c n w hb hs ih =>
    intro hL
    have hLb := Least.part hb hs hL
    rcases ih hLb with hC | ⟨d, m, k, h1, h2, h3, h4, h5⟩
    · rcases h.rest b n hC with hcl | hin
      · obtain ⟨g, hg, hle⟩ := hcl c w hs
        have := hL.2 g (h.real c g hg)
        left
        rw [hg]
        congr 1
        omega
      · exact .inr ⟨b, n, w, hin, hLb, hC, .one hs, rfl⟩
    · exact .inr ⟨d, m, k + w, h1, h2, h3, .snoc h4 hs, by omega⟩
/-- The queue is empty: the table is right. -/
theorem Sk.done (h : Sk step s C []) {c : α} {n : Nat} (hL : Least step s c n) : C c = some n := by
  rcases h.wrong hL.1 hL with q | ⟨b, m, k, hb, -⟩
  · exact q
  · cases hb
theorem Sk.no (h : Sk step s C []) {c : α} (hc : C c = none) : ∀ n, ¬ Wk step s c n := fun n hw => by
  obtain ⟨m, -, hL⟩ := Least.exists n hw
  have := h.done hL
  rw [hc] at this
  cases this
/-- Nobody in the queue can lie on a walk to the goal that costs at most D: the table is right of all that lie on one. -/
theorem Sk.ends (h : Sk step s C H) {D : Nat} (hadm : ∀ c n, Wk step c goal n → left c ≤ n) (hH : ∀ c g, (c, g) ∈ H → D < g + left c) {c : α} {m n : Nat} (hL : Least step s c m) (hw : Wk step c goal n) (hmn : m + n ≤ D) : C c = some m := by
  rcases h.wrong hL.1 hL with q | ⟨b, m', k, h1, h2, h3, h4, h5⟩
  · exact q
  · have := hH b m' h1
    have := hadm b (k + n) (h4.trans hw)
    omega
theorem Sk.told (h : Sk step s C H) {D : Nat} (hD : C goal = some D) (h0 : left goal = 0) (hadm : ∀ c n, Wk step c goal n → left c ≤ n) (hH : ∀ c g, (c, g) ∈ H → D < g + left c) : Least step s goal D := by
  obtain ⟨m, hm, hL⟩ := Least.exists D (h.real goal D hD)
  have := h.ends hadm hH hL (.nil goal) (by omega)
  rw [hD] at this
  cases this
  exact hL
/-- Whoever comes first, and has the cost that the table tells, has the right cost. -/
theorem Sk.first (h : Sk step s C H) (hcon : ∀ c d w, step c d w → left c ≤ w + left d) {c : α} {g : Nat} (hC : C c = some g) (hmin : ∀ d k, (d, k) ∈ H → g + left c ≤ k + left d) : Least step s c g := by
  have hpath : ∀ {a b : α} {n : Nat}, Wk step a b n → left a ≤ n + left b := fun hw => by
    induction hw using Wk.ind with
    | nil => omega
    | snoc _ hs ih => have := hcon _ _ _ hs; omega
  obtain ⟨m, hm, hL⟩ := Least.exists g (h.real c g hC)
  rcases h.wrong hL.1 hL with q | ⟨b, m', k, h1, h2, h3, h4, h5⟩
  · rw [hC] at q
    cases q
    exact hL
  · have h6 := hmin b m' h1
    have h7 := hpath h4
    have : m = g := by omega
    subst this
    exact hL
end
section
variable {α : Type} [DecidableEq α] {step : α → α → Nat → Prop} {s : α} {C : α → Option Nat} {H : List (α × Nat)}
/-- A cell met at a cost: kept if none is known, or a dearer one. -/
def better (C : α → Option Nat) (d : α) (g : Nat) : Bool := match C d with
  | some h => decide (g < h)
  | none => true
def put (C : α → Option Nat) (d : α) (g : Nat) : α → Option Nat := fun c => if c = d then some g else C c
theorem Sk.begin (step : α → α → Nat → Prop) (s : α) : Sk step s (put (fun _ => none) s 0) [(s, 0)] where
  src := by simp [put]
  real := fun c g h => by
    unfold put at h
    split at h
    · rename_i e; cases h; subst e; exact .nil _
    · cases h
  rest := fun c g h => by
    unfold put at h
    split at h
    · rename_i e; cases h; subst e; exact .inr (by simp)
    · cases h
/-- While c is gone on from: c alone may be neither in the queue nor done with. -/
structure Sp (step : α → α → Nat → Prop) (s : α) (C : α → Option Nat) (H : List (α × Nat)) (c : α) (g : Nat) (todo : α → Nat → Prop) : Prop where
  src : C s = some 0
  real : ∀ c g, C c = some g → Wk step s c g
  rest : ∀ b h, C b = some h → b ≠ c → (∀ d w, step b d w → ∃ k, C d = some k ∧ k ≤ h + w) ∨ (b, h) ∈ H
  here : C c = some g
  gone : ∀ d w, step c d w → todo d w ∨ ∃ k, C d = some k ∧ k ≤ g + w
theorem Sk.take {c : α} {g : Nat} (h : Sk step s C H) {H' : List (α × Nat)} (hc : C c = some g) (hH : ∀ e ∈ H, e = (c, g) ∨ e ∈ H') : Sp step s C H' c g (step c) where
  src := h.src
  real := h.real
  rest := fun b k hb hne => (h.rest b k hb).imp id (fun e => (hH _ e).resolve_left (fun q => hne (congrArg Prod.fst q)))
  here := hc
  gone := fun d w hs => .inl hs
theorem Sk.drop {c : α} {g : Nat} (h : Sk step s C H) {H' : List (α × Nat)} (hc : C c ≠ some g) (hH : ∀ e ∈ H, e = (c, g) ∨ e ∈ H') : Sk step s C H' where
  src := h.src
  real := h.real
  rest := fun b k hb => (h.rest b k hb).imp id (fun e => (hH _ e).resolve_left (fun q => by cases q; exact hc hb))
theorem Sp.done {c : α} {g : Nat} (h : Sp step s C H c g (fun _ _ => False)) : Sk step s C H where
  src := h.src
  real := h.real
  rest := fun b k hb => by
    by_cases e : b = c
    · subst e
      have := h.here
      rw [hb] at this
      cases this
      exact .inl (fun d w hs => (h.gone d w hs).resolve_left id)
    · exact h.rest b k hb e
/-- The step to d is no step, or no better than what is known. -/
theorem Sp.pass {c d : α} {g w : Nat} {todo : α → Nat → Prop} (h : Sp step s C H c g todo) (hd : ¬ step c d w ∨ ∃ k, C d = some k ∧ k ≤ g + w) (huniq : ∀ v, step c d v → v = w) : Sp step s C H c g (fun e v => e ≠ d ∧ todo e v) where
  src := h.src
  real := h.real
  rest := h.rest
  here := h.here
  gone := fun e v hs => by
    rcases h.gone e v hs with q | q
    · by_cases hed : e = d
      · subst hed
        have := huniq v hs
        subst this
        rcases hd with hn | hk
        · exact absurd hs hn
        · exact .inr hk
      · exact .inl ⟨hed, q⟩
    · exact .inr q
/-- The step to d is better than what is known: it is written down, and d waits. -/
theorem Sp.meet {c d : α} {g w : Nat} {todo : α → Nat → Prop} (h : Sp step s C H c g todo) (hs : step c d w) (hb : better C d (g + w) = true) (hne : d ≠ c) (hds : d ≠ s) (huniq : ∀ v, step c d v → v = w) {H' : List (α × Nat)} (hH : ∀ e ∈ H, e ∈ H') (hin : (d, g + w) ∈ H') : Sp step s (put C d (g + w)) H' c g (fun e v => e ≠ d ∧ todo e v) := by
  have less : ∀ e k, C e = some k → ∃ k', put C d (g + w) e = some k' ∧ k' ≤ k := fun e k he => by
    unfold put
    by_cases q : e = d
    · subst q
      rw [if_pos rfl]
      refine ⟨_, rfl, ?_⟩
      unfold better at hb
      rw [he] at hb
      simp at hb
      omega
    · rw [if_neg q]
      exact ⟨k, he, Nat.le_refl _⟩
  refine ⟨?_, fun b k hbk => ?_, fun b k hbk hbc => ?_, ?_, fun e v hv => ?_⟩
  · unfold put
    rw [if_neg (fun e => hds e.symm)]
    exact h.src
  · unfold put at hbk
    split at hbk
    · rename_i e
      cases hbk
      subst e
      exact .snoc (h.real c g h.here) hs
    · exact h.real b k hbk
  · by_cases q : b = d
    · subst q
      unfold put at hbk
      rw [if_pos rfl] at hbk
      cases hbk
      exact .inr hin
    · unfold put at hbk
      rw [if_neg q] at hbk
      rcases h.rest b k hbk hbc with hcl | hi
      · left
        intro e v hv
        obtain ⟨k1, hk1, hle⟩ := hcl e v hv
        obtain ⟨k2, hk2, hle2⟩ := less e k1 hk1
        exact ⟨k2, hk2, by omega⟩
      · exact .inr (hH _ hi)
  · unfold put
    rw [if_neg (fun e => hne e.symm)]
    exact h.here
  · by_cases hed : e = d
    · subst hed
      have := huniq v hv
      subst this
      exact .inr ⟨g + v, by simp [put], Nat.le_refl _⟩
    · rcases h.gone e v hv with q | ⟨k, hk, hle⟩
      · exact .inl ⟨hed, q⟩
      · obtain ⟨k2, hk2, hle2⟩ := less e k hk
        exact .inr ⟨k2, hk2, by omega⟩
/-- Nobody is gone on from twice: E are those that were. -/
structure Se (step : α → α → Nat → Prop) (s : α) (C : α → Option Nat) (H : List (α × Nat)) (E : List α) : Prop where
  nd : H.Nodup
  above : ∀ c k, (c, k) ∈ H → ∃ h, C c = some h ∧ h ≤ k
  en : E.Nodup
  fin : ∀ c ∈ E, ∃ g, C c = some g ∧ Least step s c g ∧ (c, g) ∉ H
theorem Se.begin (step : α → α → Nat → Prop) (s : α) : Se step s (put (fun _ => none) s 0) [(s, 0)] [] where
  nd := by simp
  above := fun c k h => by
    simp at h
    obtain ⟨rfl, rfl⟩ := h
    exact ⟨0, by simp [put], Nat.le_refl _⟩
  en := List.nodup_nil
  fin := fun c h => by cases h
theorem Se.drop {H' : List (α × Nat)} {E : List α} {e : α × Nat} (h : Se step s C H E) (hp : H.Perm (e :: H')) : Se step s C H' E where
  nd := (List.nodup_cons.1 (hp.nodup_iff.1 h.nd)).2
  above := fun c k hk => h.above c k (hp.mem_iff.2 (List.mem_cons_of_mem _ hk))
  en := h.en
  fin := fun c hc => by
    obtain ⟨g, h1, h2, h3⟩ := h.fin c hc
    exact ⟨g, h1, h2, fun q => h3 (hp.mem_iff.2 (List.mem_cons_of_mem _ q))⟩
theorem Se.take {H' : List (α × Nat)} {E : List α} {c : α} {g : Nat} (h : Se step s C H E) (hp : H.Perm ((c, g) :: H')) (hc : C c = some g) (hL : Least step s c g) : c ∉ E ∧ Se step s C H' (c :: E) := by
  have hin : (c, g) ∈ H := hp.mem_iff.2 List.mem_cons_self
  have hno : c ∉ E := fun q => by
    obtain ⟨g', h1, -, h3⟩ := h.fin c q
    rw [hc] at h1
    cases h1
    exact h3 hin
  have hd := h.drop hp
  refine ⟨hno, hd.nd, hd.above, List.nodup_cons.2 ⟨hno, h.en⟩, fun b hb => ?_⟩
  rcases List.mem_cons.1 hb with rfl | hb
  · exact ⟨g, hc, hL, (List.nodup_cons.1 (hp.nodup_iff.1 h.nd)).1⟩
  · exact hd.fin b hb
theorem Se.meet {H' : List (α × Nat)} {E : List α} {d : α} {k : Nat} (h : Se step s C H E) (hw : Wk step s d k) (hb : better C d k = true) (hp : H'.Perm ((d, k) :: H)) : Se step s (put C d k) H' E := by
  have hle : ∀ j, (d, j) ∈ H → k < j := fun j hj => by
    obtain ⟨g, h1, h2⟩ := h.above d j hj
    unfold better at hb
    rw [h1] at hb
    simp at hb
    omega
  refine ⟨hp.nodup_iff.2 (List.nodup_cons.2 ⟨fun q => by have := hle k q; omega, h.nd⟩), fun c j hj => ?_, h.en, fun c hc => ?_⟩
  · rcases List.mem_cons.1 (hp.mem_iff.1 hj) with q | q
    · cases q
      exact ⟨k, by simp [put], Nat.le_refl _⟩
    · obtain ⟨g, h1, h2⟩ := h.above c j q
      unfold put
      by_cases e : c = d
      · subst e
        rw [if_pos rfl]
        exact ⟨k, rfl, Nat.le_of_lt (hle j q)⟩
      · rw [if_neg e]
        exact ⟨g, h1, h2⟩
  · obtain ⟨g, h1, h2, h3⟩ := h.fin c hc
    have e : c ≠ d := fun e => by
      subst e
      unfold better at hb
      rw [h1] at hb
      simp at hb
      have := h2.2 k hw
      omega
    refine ⟨g, by unfold put; rw [if_neg e]; exact h1, h2, fun q => ?_⟩
    rcases List.mem_cons.1 (hp.mem_iff.1 q) with q | q
    · cases q; exact e rfl
    · exact h3 q
end
end Go.Proofs.YtggaobcdogbjhaaGreatDoor
namespace Go.Proofs.YtggaobcdogbjhaaGreatDoor
open Go.RowKit Go.Shelf
set_option linter.unusedVariables false
set_option linter.unusedSimpArgs false
/-- A cell of the rectangle. -/
abbrev inB (ix iy iw ih : Int) (q : Int × Int) : Prop := (0 ≤ q.1 - ix ∧ q.1 - ix < iw) ∧ 0 ≤ q.2 - iy ∧ q.2 - iy < ih
/-- A legal step within the rectangle, and what it costs. -/
def stepR (W H : Int) (tl : List Nat) (f : Int → Int → Option Int) (c s ix iy iw ih : Int) (a b : Int × Int) (k : Nat) : Prop :=
  ∃ t : Fin 8, inn a.1 a.2 ix iy iw ih t.val = true ∧ stp W H tl f c s a.1 a.2 ((t.val : Nat) : Int) = true ∧ b = (a.1 + dX t.val, a.2 + dY t.val) ∧ (k : Int) = co ((t.val : Nat) : Int)
/-- The table of costs. -/
def tab (ix iy iw ih : Int) (C : List Int) (q : Int × Int) : Option Nat :=
  if inB ix iy iw ih q then (match C[ij ix iy iw q.1 q.2]? with
    | some m => if m = -1 then none else some m.toNat
    | none => none) else none
/-- The queue. -/
def qu (S : List It) : List ((Int × Int) × Nat) := S.map fun t => ((t.x, t.y), t.c.toNat)
theorem nb_inj : ∀ t u : Fin 8, dX t.val = dX u.val → dY t.val = dY u.val → t = u := by decide
theorem nb_ne : ∀ t : Fin 8, ¬ (dX t.val = 0 ∧ dY t.val = 0) := by decide
theorem ij_inj {ix iy iw ih : Int} {p q : Int × Int} (hp : inB ix iy iw ih p) (hq : inB ix iy iw ih q) (h : ij ix iy iw p.1 p.2 = ij ix iy iw q.1 q.2) : p = q := by
  obtain ⟨⟨p1, p2⟩, p3, p4⟩ := hp
  obtain ⟨⟨q1, q2⟩, q3, q4⟩ := hq
  have a := idx_in (c := 0) (d := 0) p3 p4 p1 p2
  have b := idx_in (c := 0) (d := 0) q3 q4 q1 q2
  unfold ij at h
  have e : (p.2 - iy) * iw + (p.1 - ix) = (q.2 - iy) * iw + (q.1 - ix) := by omega
  have hy : p.2 - iy = q.2 - iy := by
    rcases Int.lt_trichotomy (p.2 - iy) (q.2 - iy) with h1 | h1 | h1
    · have : (p.2 - iy + 1) * iw ≤ (q.2 - iy) * iw := Int.mul_le_mul_of_nonneg_right (by omega) (by omega)
      rw [Int.add_mul] at this
      omega
    · exact h1
    · have : (q.2 - iy + 1) * iw ≤ (p.2 - iy) * iw := Int.mul_le_mul_of_nonneg_right (by omega) (by omega)
      rw [Int.add_mul] at this
      omega
  rw [hy] at e
  exact Prod.ext (by omega) (by omega)
theorem ij_lt {ix iy iw ih : Int} {p : Int × Int} (hp : inB ix iy iw ih p) : ij ix iy iw p.1 p.2 < (ih * iw).toNat := by
  obtain ⟨⟨p1, p2⟩, p3, p4⟩ := hp
  have a := idx_in (c := 0) (d := 0) p3 p4 p1 p2
  unfold ij
  omega
theorem few : ∀ (N : Nat) (l : List Nat), l.Nodup → (∀ x ∈ l, x < N) → l.length ≤ N
  | 0, l, _, h => by cases l with
    | nil => simp
    | cons a l => have := h a (by simp); omega
  | N + 1, l, hn, h => by
    by_cases hm : N ∈ l
    · have h1 := few N (l.erase N) (hn.erase N) (fun x hx => by
        have h2 := (hn.mem_erase_iff).1 hx
        have := h x h2.2
        have := h2.1
        omega)
      have := List.length_erase_of_mem hm
      have : 0 < l.length := List.length_pos_of_mem hm
      omega
    · have := few N l hn (fun x hx => by
        have := h x hx
        have : x ≠ N := fun e => hm (e ▸ hx)
        omega)
      omega
theorem few_cells {ix iy iw ih : Int} {E : List (Int × Int)} (hn : E.Nodup) (h : ∀ q ∈ E, inB ix iy iw ih q) : E.length ≤ (ih * iw).toNat := by
  have h1 : (E.map fun q => ij ix iy iw q.1 q.2).Nodup := by
    rw [List.Nodup, List.pairwise_map]
    exact hn.imp_of_mem (fun ha hb hne e => hne (ij_inj (h _ ha) (h _ hb) e))
  have := few (ih * iw).toNat _ h1 (fun x hx => by
    obtain ⟨q, hq, rfl⟩ := List.mem_map.1 hx
    exact ij_lt (h q hq))
  simpa using this
theorem tab_of {ix iy iw ih : Int} {C : List Int} {q : Int × Int} {m : Int} (hq : inB ix iy iw ih q) (hm : C[ij ix iy iw q.1 q.2]? = some m) : tab ix iy iw ih C q = if m = -1 then none else some m.toNat := by
  unfold tab
  rw [if_pos hq, hm]
theorem tab_set {ix iy iw ih : Int} {C : List Int} {d : Int × Int} {g : Int} (hd : inB ix iy iw ih d) (hC : C.length = (ih * iw).toNat) (hg : 0 ≤ g) : tab ix iy iw ih (C.set (ij ix iy iw d.1 d.2) g) = put (tab ix iy iw ih C) d g.toNat := by
  funext q
  unfold put
  by_cases e : q = d
  · subst e
    rw [if_pos rfl, tab_of hd (m := g) (by rw [List.getElem?_set_self]; rw [hC]; exact ij_lt hd), if_neg (by omega)]
  · rw [if_neg e]
    unfold tab
    by_cases hq : inB ix iy iw ih q
    · rw [if_pos hq, if_pos hq, List.getElem?_set_ne (fun h => e (ij_inj hd hq h).symm)]
    · rw [if_neg hq, if_neg hq]
theorem Sp.weaken {α : Type} {step : α → α → Nat → Prop} {s : α} {C : α → Option Nat} {H : List (α × Nat)} {c : α} {g : Nat} {P Q : α → Nat → Prop} (h : Sp step s C H c g P) (hpq : ∀ d w, step c d w → P d w → Q d w) : Sp step s C H c g Q :=
  ⟨h.src, h.real, h.rest, h.here, fun d w hs => (h.gone d w hs).imp (hpq d w hs) id⟩
theorem Drn.last {S xs R : List It} {t : It} (h : Drn S (xs ++ [t]) R) : ∃ R0, Drn S xs R0 ∧ R0.Perm (t :: R) ∧ ∀ u ∈ R0, lt u t = false := by
  generalize he : xs ++ [t] = ys at h
  cases h using Drn.cs with
  | start => simp at he
  | @next xs' R0 R' t' h1 h2 h3 =>
    obtain ⟨e1, e2⟩ := List.append_inj' he rfl
    simp at e2
    subst e1; subst e2
    exact ⟨R0, h1, h2, h3⟩
section
variable {W H : Int} {tl : List Nat} {f : Int → Int → Option Int} {c s ix iy iw ih : Int} {L : Int → Int → Int} {sx sy : Int}
/-- What reach keeps. -/
structure Okk (W H : Int) (tl : List Nat) (f : Int → Int → Option Int) (c s ix iy iw ih : Int) (L : Int → Int → Int) (sx sy : Int) (i : Nat) (C : List Int) (n : Int) (S : List It) : Prop where
  len : C.length = (ih * iw).toNat
  inr : InR ix iy iw ih S
  cst : ∀ t ∈ S, 0 ≤ t.c ∧ t.c ≤ 14 * i
  whole : ∀ t ∈ S, t.f = t.c + L t.x t.y
  tb : ∀ m ∈ C, -1 ≤ m ∧ m ≤ 14 * i
  cnt : 0 ≤ n ∧ n ≤ 8 * i + 1
  few : S.length ≤ 8 * i + 1
  sk : Sk (stepR W H tl f c s ix iy iw ih) (sx, sy) (tab ix iy iw ih C) (qu S)
  se : ∃ E, Se (stepR W H tl f c s ix iy iw ih) (sx, sy) (tab ix iy iw ih C) (qu S) E ∧ E.length = i ∧ ∀ q ∈ E, inB ix iy iw ih q
theorem Okk.small {i : Nat} {C : List Int} {n : Int} {S : List It} (h : Okk W H tl f c s ix iy iw ih L sx sy i C n S) : i ≤ (ih * iw).toNat := by
  obtain ⟨E, h1, h2, h3⟩ := h.se
  rw [← h2]
  exact few_cells h1.en h3
/-- Items that the table does not know are dropped. -/
theorem Okk.drops {i : Nat} {C : List Int} {n : Int} {S xs R : List It} (h : Okk W H tl f c s ix iy iw ih L sx sy i C n S) (hd : Drn S xs R) (hx : ∀ u ∈ xs, hit ix iy iw C u = false) : Okk W H tl f c s ix iy iw ih L sx sy i C n R := by
  induction hd using Drn.ind with
  | start => exact h
  | @next xs R R' u h1 h2 h3 ih2 =>
    have ho := ih2 (fun v hv => hx v (List.mem_append_left _ hv))
    have hu := hx u (by simp)
    have hm : u ∈ R := h2.mem_iff.2 List.mem_cons_self
    have sub : ∀ t ∈ R', t ∈ R := fun t ht => h2.mem_iff.2 (List.mem_cons_of_mem _ ht)
    have hp : (qu R).Perm (((u.x, u.y), u.c.toNat) :: qu R') := h2.map _
    obtain ⟨E, e1, e2, e3⟩ := ho.se
    refine ⟨ho.len, fun t ht => ho.inr t (sub t ht), fun t ht => ho.cst t (sub t ht), fun t ht => ho.whole t (sub t ht), ho.tb, ho.cnt, by have := h2.length_eq; simp at this; have := ho.few; omega, ho.sk.drop (c := (u.x, u.y)) (g := u.c.toNat) (fun q => ?_) (fun e he => List.mem_cons.1 (hp.mem_iff.1 he)), E, e1.drop hp, e2, e3⟩
    have hin : inB ix iy iw ih (u.x, u.y) := ho.inr u hm
    have hl := ij_lt hin
    rw [← ho.len] at hl
    have hg : C[ij ix iy iw u.x u.y]? = some (C[ij ix iy iw u.x u.y]'hl) := List.getElem?_eq_getElem hl
    have hb := ho.tb _ (List.getElem_mem hl)
    generalize (C[ij ix iy iw u.x u.y]'hl) = m at hg hb
    rw [tab_of hin hg] at q
    unfold hit at hu
    rw [hg] at hu
    simp at hu
    have hc := (ho.cst u hm).1
    split at q
    · cases q
    · injection q with q
      omega
/-- While the neighbours of a cell are met. -/
structure Okm (W H : Int) (tl : List Nat) (f : Int → Int → Option Int) (c s ix iy iw ih : Int) (L : Int → Int → Int) (sx sy : Int) (x y g : Int) (i : Nat) (a : AS) (rest : List (Fin 8)) : Prop where
  len : a.1.length = (ih * iw).toNat
  inr : InR ix iy iw ih a.2.2
  cst : ∀ t ∈ a.2.2, 0 ≤ t.c ∧ t.c ≤ 14 * i + 14
  whole : ∀ t ∈ a.2.2, t.f = t.c + L t.x t.y
  tb : ∀ m ∈ a.1, -1 ≤ m ∧ m ≤ 14 * i + 14
  sp : Sp (stepR W H tl f c s ix iy iw ih) (sx, sy) (tab ix iy iw ih a.1) (qu a.2.2) (x, y) g.toNat (fun d v => ∃ t ∈ rest, d = (x + dX t.val, y + dY t.val))
  se : ∃ E, Se (stepR W H tl f c s ix iy iw ih) (sx, sy) (tab ix iy iw ih a.1) (qu a.2.2) E ∧ E.length = i + 1 ∧ ∀ q ∈ E, inB ix iy iw ih q
theorem Okm.go {x y g : Int} {i : Nat} {a : AS} {t : Fin 8} {rest : List (Fin 8)} (hg : 0 ≤ g ∧ g ≤ 14 * i) (hin : inn x y ix iy iw ih t.val = true) (h : Okm W H tl f c s ix iy iw ih L sx sy x y g i a (t :: rest)) : Okm W H tl f c s ix iy iw ih L sx sy x y g i (goF (fun d => stp W H tl f c s x y (d : Int)) ix iy iw L x y g a t) rest := by
  obtain ⟨C, n, S⟩ := a
  have hco := co_pos t
  have hd : inB ix iy iw ih (x + dX t.val, y + dY t.val) := inn_in hin
  have huniq : ∀ v, stepR W H tl f c s ix iy iw ih (x, y) (x + dX t.val, y + dY t.val) v → v = (co ((t.val : Nat) : Int)).toNat := by
    rintro v ⟨u, u1, u2, u3, u4⟩
    simp only [Prod.mk.injEq] at u3
    have e : t = u := nb_inj t u (by omega) (by omega)
    subst e
    omega
  have hweak : ∀ {P : Int × Int → Nat → Prop}, ∀ d v, stepR W H tl f c s ix iy iw ih (x, y) d v → (d ≠ (x + dX t.val, y + dY t.val) ∧ ∃ u ∈ t :: rest, d = (x + dX u.val, y + dY u.val)) → ∃ u ∈ rest, d = (x + dX u.val, y + dY u.val) := by
    rintro P d v - ⟨h1, u, hu, rfl⟩
    rcases List.mem_cons.1 hu with rfl | hu
    · exact absurd rfl h1
    · exact ⟨u, hu, rfl⟩
  unfold goF
  by_cases hs : stp W H tl f c s x y ((t.val : Nat) : Int) = true
  · rw [if_pos hs]
    have hst : stepR W H tl f c s ix iy iw ih (x, y) (x + dX t.val, y + dY t.val) (co ((t.val : Nat) : Int)).toNat := ⟨t, hin, hs, rfl, by omega⟩
    have hl := ij_lt hd
    rw [← h.len] at hl
    have hgt : C[ij ix iy iw (x + dX t.val) (y + dY t.val)]? = some (C[ij ix iy iw (x + dX t.val) (y + dY t.val)]'hl) := List.getElem?_eq_getElem hl
    have hb := h.tb _ (List.getElem_mem hl)
    simp only at hb
    generalize (C[ij ix iy iw (x + dX t.val) (y + dY t.val)]'hl) = m at hgt hb
    have htab := tab_of hd hgt
    unfold meetF
    simp only [hgt, Option.getD_some]
    by_cases hm : m ≠ -1 ∧ m ≤ g + co ((t.val : Nat) : Int)
    · rw [if_pos hm]
      refine ⟨h.len, h.inr, h.cst, h.whole, h.tb, (h.sp.pass (d := (x + dX t.val, y + dY t.val)) (.inr ⟨m.toNat, by simp only; rw [htab, if_neg hm.1], by omega⟩) huniq).weaken (hweak (P := fun _ _ => True)), h.se⟩
    · rw [if_neg hm]
      have hbt : better (tab ix iy iw ih C) (x + dX t.val, y + dY t.val) (g.toNat + (co ((t.val : Nat) : Int)).toNat) = true := by
        unfold better
        rw [htab]
        split
        · rename_i q
          split at q
          · cases q
          · injection q with q; simp; omega
        · rfl
      have hsum : (g + co ((t.val : Nat) : Int)).toNat = g.toNat + (co ((t.val : Nat) : Int)).toNat := by omega
      have hset := tab_set (C := C) (g := g + co ((t.val : Nat) : Int)) hd h.len (by omega)
      rw [hsum] at hset
      have hne : (x + dX t.val, y + dY t.val) ≠ (x, y) := fun e => nb_ne t (by simp only [Prod.mk.injEq] at e; omega)
      have hds : (x + dX t.val, y + dY t.val) ≠ (sx, sy) := fun e => by
        rw [e] at hbt
        unfold better at hbt
        rw [h.sp.src] at hbt
        simp at hbt
      have hqu : qu (⟨x + dX t.val, y + dY t.val, g + co ((t.val : Nat) : Int), g + co ((t.val : Nat) : Int) + L (x + dX t.val) (y + dY t.val), n⟩ :: S) = ((x + dX t.val, y + dY t.val), g.toNat + (co ((t.val : Nat) : Int)).toNat) :: qu S := by simp only [qu, List.map_cons, hsum]
      obtain ⟨E, e1, e2, e3⟩ := h.se
      refine ⟨by simp only [List.length_set]; exact h.len, fun u hu => ?_, fun u hu => ?_, fun u hu => ?_, fun k hk => ?_, ?_, E, ?_, e2, e3⟩
      · rcases List.mem_cons.1 hu with rfl | hu
        · exact hd
        · exact h.inr u hu
      · rcases List.mem_cons.1 hu with rfl | hu
        · simp only; omega
        · exact h.cst u hu
      · rcases List.mem_cons.1 hu with rfl | hu
        · rfl
        · exact h.whole u hu
      · rcases List.mem_or_eq_of_mem_set hk with hk | rfl
        · exact h.tb k hk
        · omega
      · simp only
        rw [hset, hqu]
        exact (h.sp.meet hst hbt hne hds huniq (fun e he => List.mem_cons_of_mem _ he) List.mem_cons_self).weaken (hweak (P := fun _ _ => True))
      · simp only
        rw [hset, hqu]
        exact e1.meet ((h.sp.real _ _ h.sp.here).snoc hst) hbt (List.Perm.refl _)
  · rw [if_neg hs]
    refine ⟨h.len, h.inr, h.cst, h.whole, h.tb, (h.sp.pass (d := (x + dX t.val, y + dY t.val)) (w := (co ((t.val : Nat) : Int)).toNat) (.inl ?_) huniq).weaken (hweak (P := fun _ _ => True)), h.se⟩
    rintro ⟨u, u1, u2, u3, u4⟩
    simp only [Prod.mk.injEq] at u3
    have e : t = u := nb_inj t u (by omega) (by omega)
    subst e
    exact hs u2
theorem Okm.goes {x y g : Int} {i : Nat} (hg : 0 ≤ g ∧ g ≤ 14 * i) : ∀ (l : List (Fin 8)) (a : AS), (∀ t ∈ l, inn x y ix iy iw ih t.val = true) → Okm W H tl f c s ix iy iw ih L sx sy x y g i a l → Okm W H tl f c s ix iy iw ih L sx sy x y g i (spreadF (fun d => stp W H tl f c s x y (d : Int)) ix iy iw L x y g a l) []
  | [], a, _, h => h
  | t :: l, a, hi, h => Okm.goes hg l _ (fun u hu => hi u (List.mem_cons_of_mem _ hu)) (h.go hg (hi t List.mem_cons_self))
/-- A cell is gone on from. -/
theorem Okk.next (hcon : ∀ a b k, stepR W H tl f c s ix iy iw ih a b k → (L a.1 a.2).toNat ≤ k + (L b.1 b.2).toNat) (hL : ∀ u v, 0 ≤ L u v) {i : Nat} {C : List Int} {n : Int} {S R : List It} {tx ty tc tf : Int} (h : Okk W H tl f c s ix iy iw ih L sx sy i C n S) (hx : Nx ix iy iw C S tx ty tc tf true R) {a : AS}
    (ha : a = spreadF (fun d => stp W H tl f c s tx ty (d : Int)) ix iy iw L tx ty tc (C, n, R) (roundN tx ty ix iy iw ih 8)) : Okk W H tl f c s ix iy iw ih L sx sy (i + 1) a.1 a.2.1 a.2.2 := by
  obtain ⟨xs, h1, ⟨q, -⟩ | ⟨-, pre, t, rfl, h2, h3, rfl, rfl, rfl, rfl⟩⟩ := hx
  · cases q
  obtain ⟨R0, d1, d2, d3⟩ := h1.last
  have ho := h.drops d1 h2
  have hm : t ∈ R0 := d2.mem_iff.2 List.mem_cons_self
  have sub : ∀ u ∈ R, u ∈ R0 := fun u hu => d2.mem_iff.2 (List.mem_cons_of_mem _ hu)
  have hp : (qu R0).Perm (((t.x, t.y), t.c.toNat) :: qu R) := d2.map _
  have hin : inB ix iy iw ih (t.x, t.y) := ho.inr t hm
  have hc := ho.cst t hm
  have hg : C[ij ix iy iw t.x t.y]? = some t.c := by simpa [hit] using h3
  have htab : tab ix iy iw ih C (t.x, t.y) = some t.c.toNat := by rw [tab_of hin hg, if_neg (by omega)]
  have hLe : Least (stepR W H tl f c s ix iy iw ih) (sx, sy) (t.x, t.y) t.c.toNat := by
    refine ho.sk.first (left := fun q => (L q.1 q.2).toNat) hcon htab (fun d k hd => ?_)
    obtain ⟨u, hu, e⟩ := List.mem_map.1 hd
    simp only [Prod.mk.injEq] at e
    obtain ⟨rfl, rfl⟩ := e
    have e1 := ho.whole t hm
    have e2 := ho.whole u hu
    have e3 := d3 u hu
    have e4 : t.f ≤ u.f := by
      by_cases q : u.f < t.f
      · rw [(lt_iff u t).2 (.inl q)] at e3; cases e3
      · omega
    have := ho.cst u hu
    have := hL t.x t.y
    have := hL u.x u.y
    simp only
    omega
  obtain ⟨E, e1, e2, e3⟩ := ho.se
  obtain ⟨k1, k2⟩ := e1.take hp htab hLe
  have hsp := ho.sk.take (c := (t.x, t.y)) (g := t.c.toNat) htab (fun e he => List.mem_cons.1 (hp.mem_iff.1 he))
  have hk : Okm W H tl f c s ix iy iw ih L sx sy t.x t.y t.c i (C, n, R) (roundN t.x t.y ix iy iw ih 8) := ⟨ho.len, fun u hu => ho.inr u (sub u hu), fun u hu => by have := ho.cst u (sub u hu); omega, fun u hu => ho.whole u (sub u hu), fun m hm => by have := ho.tb m hm; omega, hsp.weaken (fun d v hs _ => by
    obtain ⟨u, u1, u2, u3, u4⟩ := hs
    exact ⟨u, List.mem_filter.2 ⟨by simp [List.mem_take_iff_getElem]; exact ⟨u.val, u.isLt, rfl⟩, u1⟩, u3⟩), _, k2, by simp [e2], fun q hq => by
    rcases List.mem_cons.1 hq with rfl | hq
    · exact hin
    · exact e3 q hq⟩
  have hf := hk.goes hc _ _ (fun u hu => mem_inn hu)
  have hle := spreadF_le (fun d => stp W H tl f c s t.x t.y (d : Int)) ix iy iw L t.x t.y t.c (roundN t.x t.y ix iy iw ih 8) (C, n, R)
  rw [← ha] at hf hle
  have hl8 := roundN_len t.x t.y ix iy iw ih 8
  have hR := d2.length_eq
  simp only [List.length_cons] at hR hle
  have hf1 := ho.few
  have hn := ho.cnt
  exact ⟨hf.len, hf.inr, fun u hu => by have := hf.cst u hu; push_cast; omega, hf.whole, fun m hm => by have := hf.tb m hm; push_cast; omega, by push_cast; omega, by omega, (hf.sp.weaken (Q := fun _ _ => False) (fun d v _ hd => by obtain ⟨u, hu, -⟩ := hd; cases hu)).done, hf.se⟩
end
end Go.Proofs.YtggaobcdogbjhaaGreatDoor
namespace Go.Proofs.YtggaobcdogbjhaaGreatDoor
open Go.RowKit Go.Shelf
set_option linter.unusedVariables false
set_option linter.unusedSimpArgs false
theorem octN_nonneg (x y : Int) : 0 ≤ octN x y := by
  unfold octN amt
  split <;> split <;> omega
theorem octN_le {x y : Int} (hx : -4194304 ≤ x ∧ x ≤ 4194304) (hy : -4194304 ≤ y ∧ y ≤ 4194304) : octN x y ≤ 1099511627776 := by
  unfold octN amt
  split <;> split <;> omega
theorem octN_step : ∀ (t : Fin 8) (x y : Int), octN x y ≤ co ((t.val : Nat) : Int) + octN (x + dX t.val) (y + dY t.val) := by
  intro t x y
  have hc : co ((t.val : Nat) : Int) = if dX t.val = 0 ∨ dY t.val = 0 then 10 else 14 := by revert t; decide
  have h1 := dX_range t.val
  have h2 := dY_range t.val
  rw [hc]
  generalize dX t.val = a at *
  generalize dY t.val = b at *
  unfold octN amt
  split <;> split <;> split <;> split <;> split <;> omega
theorem ocN_nonneg (x y a b : Int) : 0 ≤ ocN x y a b := by
  unfold ocN
  split
  · exact octN_nonneg _ _
  · omega
theorem ocN_le (x y a b : Int) : ocN x y a b ≤ 1099511627776 := by
  unfold ocN
  split
  · rename_i h
    rw [Bool.and_eq_true, nrC_iff, nrC_iff] at h
    exact octN_le (by omega) (by omega)
  · omega
/-- What is left turns by a step's cost at most. -/
theorem ocN_con {W H : Int} {tl : List Nat} {f : Int → Int → Option Int} {c s ix iy iw ih fx fy : Int} (hi : 0 ≤ ix ∧ 0 ≤ iy ∧ ix + iw ≤ 1048576 ∧ iy + ih ≤ 1048576) (hf : inB ix iy iw ih (fx, fy)) :
    ∀ a b k, stepR W H tl f c s ix iy iw ih a b k → (ocN a.1 a.2 fx fy).toNat ≤ k + (ocN b.1 b.2 fx fy).toNat := by
  rintro ⟨x, y⟩ b k ⟨t, h1, h2, rfl, h4⟩
  simp only at h1 h4 ⊢
  have hin := h1
  rw [inn, Bool.and_eq_true, sB, Bool.and_eq_true, Bool.and_eq_true] at hin
  have hb := inn_in h1
  have hn1 : nrC (x + dX t.val) (y + dY t.val) = true := by have := hin.1.2; rwa [Int.toNat_natCast] at this
  have hn2 : nrC fx fy = true := (nrC_iff _ _).2 (by obtain ⟨⟨a1, a2⟩, a3, a4⟩ := hf; simp only at a1 a2 a3 a4; omega)
  rw [ocN_yes hin.1.1.2 hn2, ocN_yes hn1 hn2]
  have := octN_step t (x - fx) (y - fy)
  rw [show x - fx + dX t.val = x + dX t.val - fx by omega, show y - fy + dY t.val = y + dY t.val - fy by omega] at this
  have := octN_nonneg (x - fx) (y - fy)
  have := octN_nonneg (x + dX t.val - fx) (y + dY t.val - fy)
  omega
theorem ocN_goal (fx fy : Int) : ocN fx fy fx fy = 0 := by
  unfold ocN
  split
  · rw [Int.sub_self, Int.sub_self]; rfl
  · rfl
end Go.Proofs.YtggaobcdogbjhaaGreatDoor
namespace Go.Proofs.YtggaobcdogbjhaaGreatDoor
open Go.RowKit Go.Shelf
set_option linter.unusedVariables false
set_option linter.unusedSimpArgs false
theorem Wk.left {α : Type} {step : α → α → Nat → Prop} {left : α → Nat} (hcon : ∀ a b k, step a b k → left a ≤ k + left b) {a b : α} {n : Nat} (h : Wk step a b n) : left a ≤ n + left b := by
  induction h using Wk.ind with
  | nil => omega
  | snoc _ hs ih => have := hcon _ _ _ hs; omega
section
variable {W H : Int} {tl : List Nat} {f : Int → Int → Option Int} {c s ix iy iw ih : Int} {L : Int → Int → Int} {sx sy gx gy : Int}
/-- Reach came to its end: the table tells what the goal costs. -/
theorem Okk.told (hcon : ∀ a b k, stepR W H tl f c s ix iy iw ih a b k → (L a.1 a.2).toNat ≤ k + (L b.1 b.2).toNat) (hL : ∀ u v, 0 ≤ L u v) (hL0 : L gx gy = 0) (hgo : inB ix iy iw ih (gx, gy)) {i : Nat} {C : List Int} {n : Int} {S R : List It} {tx ty tc tf : Int} {ok : Bool}
    (h : Okk W H tl f c s ix iy iw ih L sx sy i C n S) (hx : Nx ix iy iw C S tx ty tc tf ok R) (he : ok = false ∨ Stp ix iy iw gx gy C tf) {m : Int} (hm : C[ij ix iy iw gx gy]? = some m) :
    (m = -1 ∧ ∀ k, ¬ Wk (stepR W H tl f c s ix iy iw ih) (sx, sy) (gx, gy) k) ∨
    (0 ≤ m ∧ Least (stepR W H tl f c s ix iy iw ih) (sx, sy) (gx, gy) m.toNat ∧ ∃ Hq, Sk (stepR W H tl f c s ix iy iw ih) (sx, sy) (tab ix iy iw ih C) Hq ∧ ∀ q g, (q, g) ∈ Hq → m.toNat < g + (L q.1 q.2).toNat) := by
  have htab := tab_of hgo hm
  have hmb := h.tb m (List.mem_of_getElem? hm)
  have hadm : ∀ q k, Wk (stepR W H tl f c s ix iy iw ih) q (gx, gy) k → (L q.1 q.2).toNat ≤ k := fun q k hw => by
    have := Wk.left (left := fun q : Int × Int => (L q.1 q.2).toNat) hcon hw
    simp only [hL0] at this
    omega
  obtain ⟨xs, h1, ⟨rfl, rfl, h2⟩ | ⟨rfl, pre, t, rfl, h2, h3, rfl, rfl, rfl, rfl⟩⟩ := hx
  · have ho := h.drops h1 h2
    have hsk : Sk (stepR W H tl f c s ix iy iw ih) (sx, sy) (tab ix iy iw ih C) [] := ho.sk
    by_cases hm1 : m = -1
    · rw [if_pos hm1] at htab
      exact .inl ⟨hm1, hsk.no htab⟩
    · rw [if_neg hm1] at htab
      refine .inr ⟨by omega, ?_, [], hsk, fun q g hq => by cases hq⟩
      exact hsk.told (left := fun q : Int × Int => (L q.1 q.2).toNat) htab (by simp only [hL0]; rfl) hadm (fun q g hq => by cases hq)
  · rcases he with he | ⟨m', e1, e2, e3⟩
    · cases he
    rw [hm] at e1
    cases e1
    rw [if_neg e2] at htab
    obtain ⟨R0, d1, d2, d3⟩ := h1.last
    have ho := h.drops d1 h2
    have hH : ∀ q g, (q, g) ∈ qu R0 → m.toNat < g + (L q.1 q.2).toNat := fun q g hq => by
      obtain ⟨u, hu, e⟩ := List.mem_map.1 hq
      simp only [Prod.mk.injEq] at e
      obtain ⟨rfl, rfl⟩ := e
      have f2 := ho.whole u hu
      have f3 := d3 u hu
      have f4 : t.f ≤ u.f := by
        by_cases q : u.f < t.f
        · rw [(lt_iff u t).2 (.inl q)] at f3; cases f3
        · omega
      have := ho.cst u hu
      have := hL u.x u.y
      simp only
      omega
    exact .inr ⟨by omega, ho.sk.told (left := fun q : Int × Int => (L q.1 q.2).toNat) htab (by simp only [hL0]; rfl) hadm hH, qu R0, ho.sk, hH⟩
/-- A search that was just begun. -/
theorem Okk.begin {N : Nat} (hN : N = (ih * iw).toNat) (hs : inB ix iy iw ih (sx, sy)) : Okk W H tl f c s ix iy iw ih L sx sy 0 ((List.replicate N (-1)).set (ij ix iy iw sx sy) 0) 1 [⟨sx, sy, 0, L sx sy, 0⟩] := by
  have hemp : tab ix iy iw ih (List.replicate N (-1)) = fun _ => none := by
    funext q
    unfold tab
    split
    · rename_i hq
      rw [List.getElem?_replicate, if_pos (by rw [hN]; exact ij_lt hq)]
      simp
    · rfl
  have ht : tab ix iy iw ih ((List.replicate N (-1)).set (ij ix iy iw sx sy) 0) = put (fun _ => none) (sx, sy) 0 := by
    have := tab_set (C := List.replicate N (-1)) (g := 0) hs (by simp [hN]) (by omega)
    rw [hemp] at this
    exact this
  refine ⟨by simp [hN], fun t ht => ?_, fun t ht => ?_, fun t ht => ?_, fun m hm => ?_, by omega, by simp, ?_, [], ?_, rfl, fun q hq => by cases hq⟩
  · simp at ht; subst ht; exact hs
  · simp at ht; subst ht; simp
  · simp at ht; subst ht; simp
  · rcases List.mem_or_eq_of_mem_set hm with hm | rfl
    · have := List.eq_of_mem_replicate hm; subst this; omega
    · omega
  · rw [ht]; exact Sk.begin _ _
  · rw [ht]; exact Se.begin _ _
end
end Go.Proofs.YtggaobcdogbjhaaGreatDoor
