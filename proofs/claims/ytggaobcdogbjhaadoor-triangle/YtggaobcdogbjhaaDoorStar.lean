/-
  The theory of the search: what its table of costs and its queue keep, and what follows when it ends.
-/
import Init
namespace Go.Proofs.YtggaobcdogbjhaaDoor
set_option linter.unusedVariables false
set_option linter.unusedSectionVars false
section
variable {α : Type} {step : α → α → Nat → Prop} {s goal : α} {left : α → Nat} {C : α → Option Nat} {H : List (α × Nat)}
/-- A walk from one to another, and what it costs. -/
def Wk (step : α → α → Nat → Prop) (a c : α) (n : Nat) : Prop := ∀ M : α → Nat → Prop, M a 0 → (∀ b c n w, M b n → step b c w → M c (n + w)) → M c n
theorem Wk.nil {step : α → α → Nat → Prop} (c : α) : Wk step c c 0 := fun _ h _ => h
theorem Wk.snoc {step : α → α → Nat → Prop} {a b c : α} {n w : Nat} (h : Wk step a b n) (hs : step b c w) : Wk step a c (n + w) := fun M h1 h2 => h2 _ _ _ _ (h M h1 h2) hs
theorem Wk.ind {step : α → α → Nat → Prop} {a : α} {motive : (c : α) → (n : Nat) → Wk step a c n → Prop} (nil : motive a 0 (Wk.nil a)) (snoc : ∀ {b c : α} {n w : Nat} (h : Wk step a b n) (hs : step b c w), motive b n h → motive c (n + w) (Wk.snoc h hs)) {c : α} {n : Nat} (h : Wk step a c n) : motive c n h := by
  obtain ⟨h', hm⟩ : ∃ h' : Wk step a c n, motive c n h' := h (fun c n => ∃ h' : Wk step a c n, motive c n h') ⟨_, nil⟩ (fun b c n w ⟨h', hm⟩ hs => ⟨_, snoc h' hs hm⟩)
  exact hm
theorem Wk.cs {step : α → α → Nat → Prop} {a : α} {motive : (c : α) → (n : Nat) → Wk step a c n → Prop} (nil : motive a 0 (Wk.nil a)) (snoc : ∀ {b c : α} {n w : Nat} (h : Wk step a b n) (hs : step b c w), motive c (n + w) (Wk.snoc h hs)) {c : α} {n : Nat} (h : Wk step a c n) : motive c n h := Wk.ind nil (fun h hs _ => snoc h hs) h
theorem Wk.one {a b : α} {w : Nat} (h : step a b w) : Wk step a b w := by
  have := Wk.snoc (.nil a) h
  rwa [Nat.zero_add] at this
theorem Wk.trans {a b c : α} {m n : Nat} (h : Wk step a b m) (k : Wk step b c n) : Wk step a c (m + n) := by
  induction k using Wk.ind with
  | nil => exact h
  | snoc _ hs ih => rw [← Nat.add_assoc]; exact .snoc ih hs
theorem Wk.rev (hsym : ∀ a b w, step a b w → step b a w) {a b : α} {n : Nat} (h : Wk step a b n) : Wk step b a n := by
  induction h using Wk.ind with
  | nil => exact .nil _
  | snoc _ hs ih => rw [Nat.add_comm]; exact (Wk.one (hsym _ _ _ hs)).trans ih
/-- The distance: a walk costs so much, and none costs less. -/
def Least (step : α → α → Nat → Prop) (a b : α) (n : Nat) : Prop := Wk step a b n ∧ ∀ m, Wk step a b m → n ≤ m
theorem Least.eq {a b : α} {m n : Nat} (h : Least step a b m) (k : Least step a b n) : m = n := Nat.le_antisymm (h.2 n k.1) (k.2 m h.1)
theorem Least.exists : ∀ (n : Nat) {a b : α}, Wk step a b n → ∃ m, m ≤ n ∧ Least step a b m := by
  intro n
  induction n using Nat.strongRecOn with
  | _ n ih =>
    intro a b h
    by_cases hl : ∃ m, m < n ∧ Wk step a b m
    · obtain ⟨m, hm, hw⟩ := hl
      obtain ⟨k, hk, hL⟩ := ih m hm hw
      exact ⟨k, by omega, hL⟩
    · exact ⟨n, Nat.le_refl _, h, fun m hm => by
        rcases Nat.lt_or_ge m n with q | q
        · exact absurd ⟨m, q, hm⟩ hl
        · exact q⟩
theorem Least.rev (hsym : ∀ a b w, step a b w → step b a w) {a b : α} {n : Nat} (h : Least step a b n) : Least step b a n :=
  ⟨h.1.rev hsym, fun m hm => h.2 m (hm.rev hsym)⟩
theorem Least.triangle {a b c : α} {l m n : Nat} (h : Least step a c l) (h1 : Least step a b m) (h2 : Least step b c n) : l ≤ m + n := h.2 _ (h1.1.trans h2.1)
/-- The part of a walk of least cost up to its last step is one of least cost. -/
theorem Least.part {a b c : α} {n w : Nat} (h : Wk step a b n) (hs : step b c w) (hL : Least step a c (n + w)) : Least step a b n :=
  ⟨h, fun m hm => by have := hL.2 _ (Wk.snoc hm hs); omega⟩
/-- What the search keeps. -/
structure Sk (step : α → α → Nat → Prop) (s : α) (C : α → Option Nat) (H : List (α × Nat)) : Prop where
  src : C s = some 0
  real : ∀ c g, C c = some g → Wk step s c g
  rest : ∀ c g, C c = some g → (∀ d w, step c d w → ∃ h, C d = some h ∧ h ≤ g + w) ∨ (c, g) ∈ H
/-- If the table is wrong of c, somebody in the queue has the right cost, and lies on a walk of least cost to c. -/
theorem Sk.wrong (h : Sk step s C H) {c : α} {n : Nat} (hw : Wk step s c n) : Least step s c n → C c = some n ∨ ∃ b m k, (b, m) ∈ H ∧ Least step s b m ∧ C b = some m ∧ Wk step b c k ∧ m + k = n := by
  induction hw using Wk.ind with
  | nil => exact fun _ => .inl h.src
  | @snoc b c n w hb hs ih =>
    intro hL
    have hLb := Least.part hb hs hL
    rcases ih hLb with hC | ⟨d, m, k, h1, h2, h3, h4, h5⟩
    · rcases h.rest b n hC with hcl | hin
      · obtain ⟨g, hg, hle⟩ := hcl c w hs
        have := hL.2 g (h.real c g hg)
        left
        rw [hg]
        congr 1
        omega
      · exact .inr ⟨b, n, w, hin, hLb, hC, .one hs, rfl⟩
    · exact .inr ⟨d, m, k + w, h1, h2, h3, .snoc h4 hs, by omega⟩
/-- The queue is empty: the table is right. -/
theorem Sk.done (h : Sk step s C []) {c : α} {n : Nat} (hL : Least step s c n) : C c = some n := by
  rcases h.wrong hL.1 hL with q | ⟨b, m, k, hb, -⟩
  · exact q
  · cases hb
theorem Sk.no (h : Sk step s C []) {c : α} (hc : C c = none) : ∀ n, ¬ Wk step s c n := fun n hw => by
  obtain ⟨m, -, hL⟩ := Least.exists n hw
  have := h.done hL
  rw [hc] at this
  cases this
/-- Nobody in the queue can lie on a walk to the goal that costs at most D: the table is right of all that lie on one. -/
theorem Sk.ends (h : Sk step s C H) {D : Nat} (hadm : ∀ c n, Wk step c goal n → left c ≤ n) (hH : ∀ c g, (c, g) ∈ H → D < g + left c) {c : α} {m n : Nat} (hL : Least step s c m) (hw : Wk step c goal n) (hmn : m + n ≤ D) : C c = some m := by
  rcases h.wrong hL.1 hL with q | ⟨b, m', k, h1, h2, h3, h4, h5⟩
  · exact q
  · have := hH b m' h1
    have := hadm b (k + n) (h4.trans hw)
    omega
theorem Sk.told (h : Sk step s C H) {D : Nat} (hD : C goal = some D) (h0 : left goal = 0) (hadm : ∀ c n, Wk step c goal n → left c ≤ n) (hH : ∀ c g, (c, g) ∈ H → D < g + left c) : Least step s goal D := by
  obtain ⟨m, hm, hL⟩ := Least.exists D (h.real goal D hD)
  have := h.ends hadm hH hL (.nil goal) (by omega)
  rw [hD] at this
  cases this
  exact hL
/-- Whoever comes first, and has the cost that the table tells, has the right cost. -/
theorem Sk.first (h : Sk step s C H) (hcon : ∀ c d w, step c d w → left c ≤ w + left d) {c : α} {g : Nat} (hC : C c = some g) (hmin : ∀ d k, (d, k) ∈ H → g + left c ≤ k + left d) : Least step s c g := by
  have hpath : ∀ {a b : α} {n : Nat}, Wk step a b n → left a ≤ n + left b := fun hw => by
    induction hw using Wk.ind with
    | nil => omega
    | snoc _ hs ih => have := hcon _ _ _ hs; omega
  obtain ⟨m, hm, hL⟩ := Least.exists g (h.real c g hC)
  rcases h.wrong hL.1 hL with q | ⟨b, m', k, h1, h2, h3, h4, h5⟩
  · rw [hC] at q
    cases q
    exact hL
  · have h6 := hmin b m' h1
    have h7 := hpath h4
    have : m = g := by omega
    subst this
    exact hL
end
section
variable {α : Type} [DecidableEq α] {step : α → α → Nat → Prop} {s : α} {C : α → Option Nat} {H : List (α × Nat)}
/-- A cell met at a cost: kept if none is known, or a dearer one. -/
def better (C : α → Option Nat) (d : α) (g : Nat) : Bool := match C d with
  | some h => decide (g < h)
  | none => true
def put (C : α → Option Nat) (d : α) (g : Nat) : α → Option Nat := fun c => if c = d then some g else C c
theorem Sk.begin (step : α → α → Nat → Prop) (s : α) : Sk step s (put (fun _ => none) s 0) [(s, 0)] where
  src := by simp [put]
  real := fun c g h => by
    unfold put at h
    split at h
    · rename_i e; cases h; subst e; exact .nil _
    · cases h
  rest := fun c g h => by
    unfold put at h
    split at h
    · rename_i e; cases h; subst e; exact .inr (by simp)
    · cases h
/-- While c is gone on from: c alone may be neither in the queue nor done with. -/
structure Sp (step : α → α → Nat → Prop) (s : α) (C : α → Option Nat) (H : List (α × Nat)) (c : α) (g : Nat) (todo : α → Nat → Prop) : Prop where
  src : C s = some 0
  real : ∀ c g, C c = some g → Wk step s c g
  rest : ∀ b h, C b = some h → b ≠ c → (∀ d w, step b d w → ∃ k, C d = some k ∧ k ≤ h + w) ∨ (b, h) ∈ H
  here : C c = some g
  gone : ∀ d w, step c d w → todo d w ∨ ∃ k, C d = some k ∧ k ≤ g + w
theorem Sk.take {c : α} {g : Nat} (h : Sk step s C H) {H' : List (α × Nat)} (hc : C c = some g) (hH : ∀ e ∈ H, e = (c, g) ∨ e ∈ H') : Sp step s C H' c g (step c) where
  src := h.src
  real := h.real
  rest := fun b k hb hne => (h.rest b k hb).imp id (fun e => (hH _ e).resolve_left (fun q => hne (congrArg Prod.fst q)))
  here := hc
  gone := fun d w hs => .inl hs
theorem Sk.drop {c : α} {g : Nat} (h : Sk step s C H) {H' : List (α × Nat)} (hc : C c ≠ some g) (hH : ∀ e ∈ H, e = (c, g) ∨ e ∈ H') : Sk step s C H' where
  src := h.src
  real := h.real
  rest := fun b k hb => (h.rest b k hb).imp id (fun e => (hH _ e).resolve_left (fun q => by cases q; exact hc hb))
theorem Sp.done {c : α} {g : Nat} (h : Sp step s C H c g (fun _ _ => False)) : Sk step s C H where
  src := h.src
  real := h.real
  rest := fun b k hb => by
    by_cases e : b = c
    · subst e
      have := h.here
      rw [hb] at this
      cases this
      exact .inl (fun d w hs => (h.gone d w hs).resolve_left id)
    · exact h.rest b k hb e
/-- The step to d is no step, or no better than what is known. -/
theorem Sp.pass {c d : α} {g w : Nat} {todo : α → Nat → Prop} (h : Sp step s C H c g todo) (hd : ¬ step c d w ∨ ∃ k, C d = some k ∧ k ≤ g + w) (huniq : ∀ v, step c d v → v = w) : Sp step s C H c g (fun e v => e ≠ d ∧ todo e v) where
  src := h.src
  real := h.real
  rest := h.rest
  here := h.here
  gone := fun e v hs => by
    rcases h.gone e v hs with q | q
    · by_cases hed : e = d
      · subst hed
        have := huniq v hs
        subst this
        rcases hd with hn | hk
        · exact absurd hs hn
        · exact .inr hk
      · exact .inl ⟨hed, q⟩
    · exact .inr q
/-- The step to d is better than what is known: it is written down, and d waits. -/
theorem Sp.meet {c d : α} {g w : Nat} {todo : α → Nat → Prop} (h : Sp step s C H c g todo) (hs : step c d w) (hb : better C d (g + w) = true) (hne : d ≠ c) (hds : d ≠ s) (huniq : ∀ v, step c d v → v = w) {H' : List (α × Nat)} (hH : ∀ e ∈ H, e ∈ H') (hin : (d, g + w) ∈ H') : Sp step s (put C d (g + w)) H' c g (fun e v => e ≠ d ∧ todo e v) := by
  have less : ∀ e k, C e = some k → ∃ k', put C d (g + w) e = some k' ∧ k' ≤ k := fun e k he => by
    unfold put
    by_cases q : e = d
    · subst q
      rw [if_pos rfl]
      refine ⟨_, rfl, ?_⟩
      unfold better at hb
      rw [he] at hb
      simp at hb
      omega
    · rw [if_neg q]
      exact ⟨k, he, Nat.le_refl _⟩
  refine ⟨?_, fun b k hbk => ?_, fun b k hbk hbc => ?_, ?_, fun e v hv => ?_⟩
  · unfold put
    rw [if_neg (fun e => hds e.symm)]
    exact h.src
  · unfold put at hbk
    split at hbk
    · rename_i e
      cases hbk
      subst e
      exact .snoc (h.real c g h.here) hs
    · exact h.real b k hbk
  · by_cases q : b = d
    · subst q
      unfold put at hbk
      rw [if_pos rfl] at hbk
      cases hbk
      exact .inr hin
    · unfold put at hbk
      rw [if_neg q] at hbk
      rcases h.rest b k hbk hbc with hcl | hi
      · left
        intro e v hv
        obtain ⟨k1, hk1, hle⟩ := hcl e v hv
        obtain ⟨k2, hk2, hle2⟩ := less e k1 hk1
        exact ⟨k2, hk2, by omega⟩
      · exact .inr (hH _ hi)
  · unfold put
    rw [if_neg (fun e => hne e.symm)]
    exact h.here
  · by_cases hed : e = d
    · subst hed
      have := huniq v hv
      subst this
      exact .inr ⟨g + v, by simp [put], Nat.le_refl _⟩
    · rcases h.gone e v hv with q | ⟨k, hk, hle⟩
      · exact .inl ⟨hed, q⟩
      · obtain ⟨k2, hk2, hle2⟩ := less e k hk
        exact .inr ⟨k2, hk2, by omega⟩
/-- Nobody is gone on from twice: E are those that were. -/
structure Se (step : α → α → Nat → Prop) (s : α) (C : α → Option Nat) (H : List (α × Nat)) (E : List α) : Prop where
  nd : H.Nodup
  above : ∀ c k, (c, k) ∈ H → ∃ h, C c = some h ∧ h ≤ k
  en : E.Nodup
  fin : ∀ c ∈ E, ∃ g, C c = some g ∧ Least step s c g ∧ (c, g) ∉ H
theorem Se.begin (step : α → α → Nat → Prop) (s : α) : Se step s (put (fun _ => none) s 0) [(s, 0)] [] where
  nd := by simp
  above := fun c k h => by
    simp at h
    obtain ⟨rfl, rfl⟩ := h
    exact ⟨0, by simp [put], Nat.le_refl _⟩
  en := List.nodup_nil
  fin := fun c h => by cases h
theorem Se.drop {H' : List (α × Nat)} {E : List α} {e : α × Nat} (h : Se step s C H E) (hp : H.Perm (e :: H')) : Se step s C H' E where
  nd := (List.nodup_cons.1 (hp.nodup_iff.1 h.nd)).2
  above := fun c k hk => h.above c k (hp.mem_iff.2 (List.mem_cons_of_mem _ hk))
  en := h.en
  fin := fun c hc => by
    obtain ⟨g, h1, h2, h3⟩ := h.fin c hc
    exact ⟨g, h1, h2, fun q => h3 (hp.mem_iff.2 (List.mem_cons_of_mem _ q))⟩
theorem Se.take {H' : List (α × Nat)} {E : List α} {c : α} {g : Nat} (h : Se step s C H E) (hp : H.Perm ((c, g) :: H')) (hc : C c = some g) (hL : Least step s c g) : c ∉ E ∧ Se step s C H' (c :: E) := by
  have hin : (c, g) ∈ H := hp.mem_iff.2 List.mem_cons_self
  have hno : c ∉ E := fun q => by
    obtain ⟨g', h1, -, h3⟩ := h.fin c q
    rw [hc] at h1
    cases h1
    exact h3 hin
  have hd := h.drop hp
  refine ⟨hno, hd.nd, hd.above, List.nodup_cons.2 ⟨hno, h.en⟩, fun b hb => ?_⟩
  rcases List.mem_cons.1 hb with rfl | hb
  · exact ⟨g, hc, hL, (List.nodup_cons.1 (hp.nodup_iff.1 h.nd)).1⟩
  · exact hd.fin b hb
theorem Se.meet {H' : List (α × Nat)} {E : List α} {d : α} {k : Nat} (h : Se step s C H E) (hw : Wk step s d k) (hb : better C d k = true) (hp : H'.Perm ((d, k) :: H)) : Se step s (put C d k) H' E := by
  have hle : ∀ j, (d, j) ∈ H → k < j := fun j hj => by
    obtain ⟨g, h1, h2⟩ := h.above d j hj
    unfold better at hb
    rw [h1] at hb
    simp at hb
    omega
  refine ⟨hp.nodup_iff.2 (List.nodup_cons.2 ⟨fun q => by have := hle k q; omega, h.nd⟩), fun c j hj => ?_, h.en, fun c hc => ?_⟩
  · rcases List.mem_cons.1 (hp.mem_iff.1 hj) with q | q
    · cases q
      exact ⟨k, by simp [put], Nat.le_refl _⟩
    · obtain ⟨g, h1, h2⟩ := h.above c j q
      unfold put
      by_cases e : c = d
      · subst e
        rw [if_pos rfl]
        exact ⟨k, rfl, Nat.le_of_lt (hle j q)⟩
      · rw [if_neg e]
        exact ⟨g, h1, h2⟩
  · obtain ⟨g, h1, h2, h3⟩ := h.fin c hc
    have e : c ≠ d := fun e => by
      subst e
      unfold better at hb
      rw [h1] at hb
      simp at hb
      have := h2.2 k hw
      omega
    refine ⟨g, by unfold put; rw [if_neg e]; exact h1, h2, fun q => ?_⟩
    rcases List.mem_cons.1 (hp.mem_iff.1 q) with q | q
    · cases q; exact e rfl
    · exact h3 q
end
end Go.Proofs.YtggaobcdogbjhaaDoor
