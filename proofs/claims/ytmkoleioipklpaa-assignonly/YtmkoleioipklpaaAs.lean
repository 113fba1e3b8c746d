/-
  Layer 18's plain theory: the nearest pair first, stable matches. It speaks of no program.
-/
import Derived.Test.YtmkoleioipklpaaZk
namespace Go.Proofs.Ytmkoleioipklpaa
set_option linter.unusedVariables false
set_option linter.unusedSimpArgs false
section
variable {n : Nat} {lt : Nat × Nat → Nat × Nat → Prop}
/-- Neither the unit nor the place has one yet. -/
def Free (L : List (Nat × Nat)) (q : Nat × Nat) : Prop := ∀ e ∈ L, e.1 ≠ q.1 ∧ e.2 ≠ q.2
def InN (n : Nat) (q : Nat × Nat) : Prop := q.1 < n ∧ q.2 < n
/-- Pairs, each the first of those that are left. -/
def Grd (n : Nat) (lt : Nat × Nat → Nat × Nat → Prop) (L : List (Nat × Nat)) : Prop :=
  ∀ i q, L[i]? = some q → InN n q ∧ Free (L.take i) q ∧ ∀ e, InN n e → Free (L.take i) e → ¬ lt e q
/-- An order of pairs. -/
structure OrdP (lt : Nat × Nat → Nat × Nat → Prop) : Prop where
  irr : ∀ a, ¬ lt a a
  tr : ∀ a b c, lt a b → lt b c → lt a c
  tot : ∀ a b, lt a b ∨ a = b ∨ lt b a
theorem Grd.nil : Grd n lt [] := fun i q h => by simp at h
theorem Grd.snoc {L : List (Nat × Nat)} {q : Nat × Nat} (h : Grd n lt L) (hi : InN n q) (hf : Free L q) (hl : ∀ e, InN n e → Free L e → ¬ lt e q) : Grd n lt (L ++ [q]) := fun i e he => by
  rcases Nat.lt_trichotomy i L.length with q1 | q1 | q1
  · rw [List.getElem?_append_left q1] at he
    rw [List.take_append_of_le_length (by omega)]
    exact h i e he
  · subst q1
    rw [List.getElem?_append_right (Nat.le_refl _)] at he
    simp at he
    subst he
    rw [List.take_left]
    exact ⟨hi, hf, hl⟩
  · rw [List.getElem?_eq_none (by simp; omega)] at he
    cases he
theorem Grd.same (ho : OrdP lt) {L M : List (Nat × Nat)} (h : Grd n lt L) (k : Grd n lt M) : ∀ i, i ≤ L.length → i ≤ M.length → L.take i = M.take i := by
  intro i
  induction i with
  | zero => intro _ _; simp
  | succ i ih =>
    intro h1 h2
    have e := ih (by omega) (by omega)
    have a1 : L[i]? = some L[i] := List.getElem?_eq_getElem (by omega)
    have a2 : M[i]? = some M[i] := List.getElem?_eq_getElem (by omega)
    obtain ⟨b1, b2, b3⟩ := h i _ a1
    obtain ⟨c1, c2, c3⟩ := k i _ a2
    have h4 := b3 _ c1 (by rw [e]; exact c2)
    have h5 := c3 _ b1 (by rw [← e]; exact b2)
    have h6 : L[i] = M[i] := by
      rcases ho.tot L[i] M[i] with q | q | q
      · exact absurd q h5
      · exact q
      · exact absurd q h4
    rw [List.take_add_one, List.take_add_one, a1, a2, e, h6]
/-- Two such lists of one length are one. -/
theorem Grd.one (ho : OrdP lt) {L M : List (Nat × Nat)} (h : Grd n lt L) (k : Grd n lt M) (hl : L.length = M.length) : L = M := by
  have := h.same ho k L.length (Nat.le_refl _) (by omega)
  rw [List.take_length, hl, List.take_length] at this
  exact this
/-- Each unit, each place stands in one pair at most. -/
theorem Grd.once {L : List (Nat × Nat)} (h : Grd n lt L) {i k : Nat} {a b : Nat × Nat} (ha : L[i]? = some a) (hb : L[k]? = some b) (he : a.1 = b.1 ∨ a.2 = b.2) : i = k := by
  have key : ∀ {i k : Nat} {a b : Nat × Nat}, L[i]? = some a → L[k]? = some b → (a.1 = b.1 ∨ a.2 = b.2) → ¬ i < k := fun {i k a b} ha hb he q => by
    have h1 := (h k b hb).2.1 a (List.mem_of_getElem? (i := i) (by rw [List.getElem?_take_of_lt q]; exact ha))
    rcases he with he | he
    · exact h1.1 he
    · exact h1.2 he
  rcases Nat.lt_trichotomy i k with q | q | q
  · exact absurd q (key ha hb he)
  · exact q
  · exact absurd q (key hb ha (he.imp Eq.symm Eq.symm))
/-- As many unlike ones as there is room for: all are there. -/
theorem len_le {l : List Nat} : ∀ {m : List Nat}, l.Nodup → (∀ x ∈ l, x ∈ m) → l.length ≤ m.length := by
  induction l with
  | nil => intro m _ _; simp
  | cons a l ih =>
    intro m hn hs
    obtain ⟨h1, h2⟩ := List.nodup_cons.1 hn
    have ha := hs a List.mem_cons_self
    have h3 := ih (m := m.erase a) h2 (fun x hx => by
      have hne : x ≠ a := fun e => h1 (by rw [← e]; exact hx)
      exact (List.mem_erase_of_ne hne).2 (hs x (List.mem_cons_of_mem _ hx)))
    rw [List.length_erase_of_mem ha] at h3
    have := List.length_pos_of_mem ha
    simp
    omega
theorem all_there {l : List Nat} (hn : l.Nodup) (hb : ∀ x ∈ l, x < n) (hl : l.length = n) {p : Nat} (hp : p < n) : p ∈ l := by
  rcases Classical.em (p ∈ l) with q | q
  · exact q
  · have h1 := len_le (m := (List.range n).erase p) hn (fun x hx => by
      have hne : x ≠ p := fun e => q (by rw [← e]; exact hx)
      exact (List.mem_erase_of_ne hne).2 (List.mem_range.2 (hb x hx)))
    rw [List.length_erase_of_mem (List.mem_range.2 hp), List.length_range, hl] at h1
    omega
/-- A match: a place for each unit, each place once. -/
structure Once (n : Nat) (m : List Nat) : Prop where
  len : m.length = n
  lt : ∀ p ∈ m, p < n
  nd : m.Nodup
theorem Once.at {m : List Nat} (h : Once n m) {u v p : Nat} (hu : m[u]? = some p) (hv : m[v]? = some p) : u = v := by
  obtain ⟨a1, a2⟩ := List.getElem?_eq_some_iff.1 hu
  obtain ⟨b1, b2⟩ := List.getElem?_eq_some_iff.1 hv
  exact (List.getElem_inj h.nd).1 (a2.trans b2.symm)
theorem Once.has {m : List Nat} (h : Once n m) {p : Nat} (hp : p < n) : ∃ v : Nat, v < n ∧ m[v]? = some p := by
  obtain ⟨v, hv⟩ := List.mem_iff_getElem?.1 (all_there h.nd h.lt h.len hp)
  exact ⟨v, by rw [← h.len]; exact (List.getElem?_eq_some_iff.1 hv).1, hv⟩
/-- No unit and no place would rather have each other. -/
def Stb (lt : Nat × Nat → Nat × Nat → Prop) (m : List Nat) : Prop := ∀ u v p q : Nat, m[u]? = some q → m[v]? = some p → u ≠ v → ¬ (lt (u, p) (u, q) ∧ lt (u, p) (v, p))
theorem least_of (ho : OrdP lt) : ∀ {l : List (Nat × Nat)}, l ≠ [] → ∃ a ∈ l, ∀ b ∈ l, ¬ lt b a := by
  intro l
  induction l with
  | nil => intro h; exact absurd rfl h
  | cons a l ih =>
    intro _
    rcases Classical.em (l = []) with q | q
    · subst q
      exact ⟨a, List.mem_cons_self, fun b hb => by
        rcases List.mem_cons.1 hb with rfl | hb
        · exact ho.irr _
        · cases hb⟩
    · obtain ⟨b, hb, hm⟩ := ih q
      rcases Classical.em (lt a b) with h1 | h1
      · refine ⟨a, List.mem_cons_self, fun c hc => ?_⟩
        rcases List.mem_cons.1 hc with rfl | hc
        · exact ho.irr _
        · exact fun h2 => hm c hc (ho.tr _ _ _ h2 h1)
      · refine ⟨b, List.mem_cons_of_mem _ hb, fun c hc => ?_⟩
        rcases List.mem_cons.1 hc with rfl | hc
        · exact h1
        · exact hm c hc
theorem least_in (ho : OrdP lt) {P : Nat × Nat → Prop} {q : Nat × Nat} (hq : InN n q) (hP : P q) : ∃ a, InN n a ∧ P a ∧ ∀ b, InN n b → P b → ¬ lt b a := by
  have hm : ∀ e, InN n e → P e → e ∈ ((List.range n).flatMap fun u => (List.range n).map fun p => (u, p)).filter (fun e => @decide (P e) (Classical.propDecidable _)) := fun e he hp => by
    refine List.mem_filter.2 ⟨List.mem_flatMap.2 ⟨e.1, List.mem_range.2 he.1, List.mem_map.2 ⟨e.2, List.mem_range.2 he.2, rfl⟩⟩, ?_⟩
    simp [hp]
  obtain ⟨a, ha, hl⟩ := least_of ho (List.ne_nil_of_mem (hm q hq hP))
  obtain ⟨h1, h2⟩ := List.mem_filter.1 ha
  obtain ⟨u, hu, h3⟩ := List.mem_flatMap.1 h1
  obtain ⟨p, hp, rfl⟩ := List.mem_map.1 h3
  exact ⟨_, ⟨List.mem_range.1 hu, List.mem_range.1 hp⟩, by simpa using h2, fun b hb hPb => hl b (hm b hb hPb)⟩
/-- Stable matches are one. -/
theorem stable_one (ho : OrdP lt) {m k : List Nat} (h1 : Once n m) (h2 : Once n k) (s1 : Stb lt m) (s2 : Stb lt k) : m = k := by
  refine List.ext_getElem? fun u => ?_
  refine Classical.byContradiction fun hne => ?_
  have hlen : ∀ (l : List Nat), Once n l → ∀ i, l[i]? = none ∨ ∃ p, l[i]? = some p ∧ i < n ∧ p < n := fun l hl i => by
    rcases Nat.lt_or_ge i l.length with q | q
    · refine .inr ⟨l[i], List.getElem?_eq_getElem q, by rw [← hl.len]; exact q, hl.lt _ (List.getElem_mem q)⟩
    · exact .inl (List.getElem?_eq_none q)
  have hD : ∃ q, InN n q ∧ ((m[q.1]? = some q.2 ∧ k[q.1]? ≠ some q.2) ∨ (k[q.1]? = some q.2 ∧ m[q.1]? ≠ some q.2)) := by
    rcases hlen m h1 u with q | ⟨p, e, a, b⟩
    · rcases hlen k h2 u with r | ⟨p, e, a, b⟩
      · exact absurd (q.trans r.symm) hne
      · exact ⟨(u, p), ⟨a, b⟩, .inr ⟨e, by rw [q]; simp⟩⟩
    · exact ⟨(u, p), ⟨a, b⟩, .inl ⟨e, fun r => hne (e.trans r.symm)⟩⟩
  obtain ⟨q, hq, hP⟩ := hD
  obtain ⟨a, ha, hPa, hl⟩ := least_in (P := fun q => (m[q.1]? = some q.2 ∧ k[q.1]? ≠ some q.2) ∨ (k[q.1]? = some q.2 ∧ m[q.1]? ≠ some q.2)) ho hq hP
  have main : ∀ (m k : List Nat), Once n m → Once n k → Stb lt k → m[a.1]? = some a.2 → k[a.1]? ≠ some a.2 → (∀ b, InN n b → ((m[b.1]? = some b.2 ∧ k[b.1]? ≠ some b.2) ∨ (k[b.1]? = some b.2 ∧ m[b.1]? ≠ some b.2)) → ¬ lt b a) → False := fun m k h1 h2 s2 e1 e2 hl => by
    obtain ⟨u, p⟩ := a
    dsimp only at e1 e2
    obtain ⟨v, hv, ev⟩ := h2.has ha.2
    dsimp only at ev
    have hk : u < k.length := by rw [h2.len]; exact ha.1
    have eq : k[u]? = some k[u] := List.getElem?_eq_getElem hk
    have hqn : k[u] < n := h2.lt _ (List.getElem_mem hk)
    have hne1 : k[u] ≠ p := fun e => e2 (by rw [eq, e])
    have huv : u ≠ v := fun e => by subst e; exact e2 ev
    have b1 : lt (u, p) (u, k[u]) := by
      have := hl (u, k[u]) ⟨ha.1, hqn⟩ (.inr ⟨eq, by rw [e1]; exact fun e => hne1 (Option.some.inj e).symm⟩)
      rcases ho.tot (u, p) (u, k[u]) with q | q | q
      · exact q
      · exact absurd (Prod.mk.inj q).2.symm hne1
      · exact absurd q this
    have b2 : lt (u, p) (v, p) := by
      have := hl (v, p) ⟨hv, ha.2⟩ (.inr ⟨ev, fun e => huv (h1.at e1 e)⟩)
      rcases ho.tot (u, p) (v, p) with q | q | q
      · exact q
      · exact absurd (Prod.mk.inj q).1 huv
      · exact absurd q this
    exact s2 u v p k[u] eq ev huv ⟨b1, b2⟩
  rcases hPa with ⟨e1, e2⟩ | ⟨e1, e2⟩
  · exact main m k h1 h2 s2 e1 e2 hl
  · exact main k m h2 h1 s1 e1 e2 (fun b hb hp => hl b hb hp.symm)
/-- What the list of pairs makes: the place of each unit. -/
def Mat (n : Nat) (L : List (Nat × Nat)) (m : List Nat) : Prop := m.length = n ∧ ∀ u p, m[u]? = some p → (u, p) ∈ L
theorem Grd.match_once {L : List (Nat × Nat)} {m : List Nat} (h : Grd n lt L) (hm : Mat n L m) : Once n m := by
  have hin : ∀ u p, m[u]? = some p → p < n := fun u p e => by
    obtain ⟨i, hi⟩ := List.mem_iff_getElem?.1 (hm.2 u p e)
    exact (h i _ hi).1.2
  refine ⟨hm.1, fun p hp => ?_, ?_⟩
  · obtain ⟨u, hu⟩ := List.mem_iff_getElem?.1 hp
    exact hin u p hu
  · refine List.pairwise_iff_getElem.2 fun u v hu hv huv e => ?_
    have e1 : m[u]? = some m[u] := List.getElem?_eq_getElem hu
    have e2 : m[v]? = some m[u] := by rw [List.getElem?_eq_getElem hv, e]
    obtain ⟨i, hi⟩ := List.mem_iff_getElem?.1 (hm.2 _ _ e1)
    obtain ⟨k, hk⟩ := List.mem_iff_getElem?.1 (hm.2 _ _ e2)
    have := h.once hi hk (.inr rfl)
    subst this
    rw [hi] at hk
    injection hk with hk
    have := congrArg Prod.fst hk
    simp at this
    omega
/-- The nearest pair first: stable. -/
theorem Grd.stable {L : List (Nat × Nat)} {m : List Nat} (h : Grd n lt L) (hm : Mat n L m) : Stb lt m := fun u v p q eu ev huv ⟨l1, l2⟩ => by
  have o := h.match_once hm
  obtain ⟨i, hi⟩ := List.mem_iff_getElem?.1 (hm.2 _ _ eu)
  obtain ⟨k, hk⟩ := List.mem_iff_getElem?.1 (hm.2 _ _ ev)
  have hik : i ≠ k := fun e => by
    subst e
    rw [hi] at hk
    injection hk with hk
    exact huv (congrArg Prod.fst hk)
  have hpq : p ≠ q := fun e => by subst e; exact huv (o.at eu ev)
  -- neither u nor p is taken ahead of the first of both
  have free : ∀ j, j ≤ i → j ≤ k → Free (L.take j) (u, p) := fun j j1 j2 e he => by
    obtain ⟨r, hr⟩ := List.mem_iff_getElem?.1 he
    have hrj : r < j := by
      have := (List.getElem?_eq_some_iff.1 hr).1
      simp at this
      omega
    rw [List.getElem?_take_of_lt hrj] at hr
    refine ⟨fun q => ?_, fun q => ?_⟩
    · have := h.once hr hi (.inl q)
      omega
    · have := h.once hr hk (.inr q)
      omega
  have hin : InN n (u, p) := ⟨(h i _ hi).1.1, (h k _ hk).1.2⟩
  rcases Nat.lt_or_gt_of_ne hik with c | c
  · exact (h i _ hi).2.2 _ hin (free i (Nat.le_refl _) (by omega)) l1
  · exact (h k _ hk).2.2 _ hin (free k (by omega) (Nat.le_refl _)) l2
/-- Among as many free units as places there is a pair that is left. -/
theorem more_left {L : List (Nat × Nat)} (hl : L.length < n) : ∃ e, InN n e ∧ Free L e := by
  have key : ∀ f : Nat × Nat → Nat, ∃ p, p < n ∧ ∀ e ∈ L, f e ≠ p := fun f => by
    refine Classical.byContradiction fun hc => ?_
    have hall : ∀ p ∈ List.range n, p ∈ L.map f := fun p hp => by
      refine Classical.byContradiction fun hq => hc ⟨p, List.mem_range.1 hp, fun e he e2 => hq (List.mem_map.2 ⟨e, he, e2⟩)⟩
    have := len_le (List.nodup_range (n := n)) hall
    simp at this
    omega
  obtain ⟨u, hu, h1⟩ := key Prod.fst
  obtain ⟨p, hp, h2⟩ := key Prod.snd
  exact ⟨(u, p), ⟨hu, hp⟩, fun e he => ⟨h1 e he, h2 e he⟩⟩
end
/-- Pairs by a distance, then by unit, then by place. -/
def ltD (d : Nat → Nat → Int) (a b : Nat × Nat) : Prop := d a.1 a.2 < d b.1 b.2 ∨ (d a.1 a.2 = d b.1 b.2 ∧ (a.1 < b.1 ∨ (a.1 = b.1 ∧ a.2 < b.2)))
theorem ltD_ord (d : Nat → Nat → Int) : OrdP (ltD d) := by
  refine ⟨fun a => ?_, fun a b c => ?_, fun a b => ?_⟩
  · unfold ltD; omega
  · unfold ltD; omega
  · unfold ltD
    rcases Int.lt_trichotomy (d a.1 a.2) (d b.1 b.2) with q | q | q
    · exact .inl (.inl q)
    · rcases Nat.lt_trichotomy a.1 b.1 with r | r | r
      · exact .inl (.inr ⟨q, .inl r⟩)
      · rcases Nat.lt_trichotomy a.2 b.2 with t | t | t
        · exact .inl (.inr ⟨q, .inr ⟨r, t⟩⟩)
        · exact .inr (.inl (Prod.ext r t))
        · exact .inr (.inr (.inr ⟨q.symm, .inr ⟨r.symm, t⟩⟩))
      · exact .inr (.inr (.inr ⟨q.symm, .inl r⟩))
    · exact .inr (.inr (.inl q))
/-- All pairs, unit by unit. -/
def allP (n : Nat) : List (Nat × Nat) := (List.range n).flatMap fun u => (List.range n).map fun p => (u, p)
theorem mem_allP {n : Nat} {e : Nat × Nat} : e ∈ allP n ↔ InN n e := by
  unfold allP InN
  constructor
  · intro h
    obtain ⟨u, hu, h3⟩ := List.mem_flatMap.1 h
    obtain ⟨p, hp, rfl⟩ := List.mem_map.1 h3
    exact ⟨List.mem_range.1 hu, List.mem_range.1 hp⟩
  · rintro ⟨h1, h2⟩
    exact List.mem_flatMap.2 ⟨e.1, List.mem_range.2 h1, List.mem_map.2 ⟨e.2, List.mem_range.2 h2, rfl⟩⟩
/-- What the chosen pairs make: each unit's place, -1 where it has none. -/
def mF (n : Nat) (G : List (Nat × Nat)) : List Int := G.foldl (fun m e => m.set e.1 ((e.2 : Nat) : Int)) (List.replicate n (-1))
def tF (n : Nat) (G : List (Nat × Nat)) : List Bool := G.foldl (fun m e => m.set e.2 true) (List.replicate n false)
theorem mF_nil (n : Nat) : mF n [] = List.replicate n (-1) := rfl
theorem tF_nil (n : Nat) : tF n [] = List.replicate n false := rfl
theorem mF_snoc (n : Nat) (G : List (Nat × Nat)) (q : Nat × Nat) : mF n (G ++ [q]) = (mF n G).set q.1 ((q.2 : Nat) : Int) := by simp [mF]
theorem tF_snoc (n : Nat) (G : List (Nat × Nat)) (q : Nat × Nat) : tF n (G ++ [q]) = (tF n G).set q.2 true := by simp [tF]
theorem snoc_ind {α : Type} {C : List α → Prop} (h0 : C []) (h1 : ∀ G q, C G → C (G ++ [q])) (G : List α) : C G := by
  rw [← G.reverse_reverse]
  induction G.reverse with
  | nil => exact h0
  | cons a l ih => rw [List.reverse_cons]; exact h1 _ _ ih
theorem mF_len (n : Nat) (G : List (Nat × Nat)) : (mF n G).length = n := by
  refine snoc_ind (C := fun G => (mF n G).length = n) (by simp [mF_nil]) (fun G q h => ?_) G
  rw [mF_snoc, List.length_set]; exact h
theorem tF_len (n : Nat) (G : List (Nat × Nat)) : (tF n G).length = n := by
  refine snoc_ind (C := fun G => (tF n G).length = n) (by simp [tF_nil]) (fun G q h => ?_) G
  rw [tF_snoc, List.length_set]; exact h
theorem mF_get {n : Nat} (G : List (Nat × Nat)) {u : Nat} (hu : u < n) : (∃ p, (u, p) ∈ G ∧ (mF n G)[u]? = some ((p : Nat) : Int)) ∨ ((∀ e ∈ G, e.1 ≠ u) ∧ (mF n G)[u]? = some (-1)) := by
  refine snoc_ind (C := fun G => (∃ p, (u, p) ∈ G ∧ (mF n G)[u]? = some ((p : Nat) : Int)) ∨ ((∀ e ∈ G, e.1 ≠ u) ∧ (mF n G)[u]? = some (-1))) (.inr ⟨by simp, by simp [mF_nil, hu]⟩) (fun G q h => ?_) G
  rw [mF_snoc]
  rcases Classical.em (q.1 = u) with e | e
  · subst e
    exact .inl ⟨q.2, by simp, by rw [List.getElem?_set_self (by rw [mF_len]; exact hu)]⟩
  · rw [List.getElem?_set_ne e]
    rcases h with ⟨p, h1, h2⟩ | ⟨h1, h2⟩
    · exact .inl ⟨p, List.mem_append_left _ h1, h2⟩
    · refine .inr ⟨fun x hx => ?_, h2⟩
      rcases List.mem_append.1 hx with hx | hx
      · exact h1 x hx
      · rw [List.mem_singleton.1 hx]; exact e
theorem tF_get {n : Nat} (G : List (Nat × Nat)) {p : Nat} (hp : p < n) : ∃ b, (tF n G)[p]? = some b ∧ (b = true ↔ ∃ e ∈ G, e.2 = p) := by
  refine snoc_ind (C := fun G => ∃ b, (tF n G)[p]? = some b ∧ (b = true ↔ ∃ e ∈ G, e.2 = p)) ⟨false, by simp [tF_nil, hp], by simp⟩ (fun G q h => ?_) G
  rw [tF_snoc]
  rcases Classical.em (q.2 = p) with e | e
  · subst e
    exact ⟨true, by rw [List.getElem?_set_self (by rw [tF_len]; exact hp)], by simp⟩
  · rw [List.getElem?_set_ne e]
    obtain ⟨b, h1, h2⟩ := h
    refine ⟨b, h1, h2.trans ⟨?_, ?_⟩⟩
    · rintro ⟨x, hx, h⟩
      exact ⟨x, List.mem_append_left _ hx, h⟩
    · rintro ⟨x, hx, h⟩
      rcases List.mem_append.1 hx with hx | hx
      · exact ⟨x, hx, h⟩
      · rw [List.mem_singleton.1 hx] at h
        exact absurd h e
theorem free_iff {n : Nat} {G : List (Nat × Nat)} {q : Nat × Nat} (hq : InN n q) {x : Int} {b : Bool} (hx : (mF n G)[q.1]? = some x) (hb : (tF n G)[q.2]? = some b) : Free G q ↔ (x = -1 ∧ b = false) := by
  obtain ⟨c, h1, h2⟩ := tF_get G hq.2
  rw [hb] at h1
  cases h1
  constructor
  · intro hf
    constructor
    · rcases mF_get G hq.1 with ⟨p, h3, h4⟩ | ⟨h3, h4⟩
      · exact absurd rfl (hf _ h3).1
      · rw [hx] at h4
        exact Option.some.inj h4
    · cases b
      · rfl
      · obtain ⟨e, h3, h4⟩ := h2.1 rfl
        exact absurd h4 (hf e h3).2
  · rintro ⟨rfl, rfl⟩ e he
    constructor
    · rcases mF_get G hq.1 with ⟨p, h3, h4⟩ | ⟨h3, h4⟩
      · rw [hx] at h4
        have := Option.some.inj h4
        omega
      · exact h3 e he
    · intro h
      have := h2.2 ⟨e, he, h⟩
      cases this
theorem neg_iff {n : Nat} {G : List (Nat × Nat)} {u : Nat} (hq : u < n) {x : Int} (hx : (mF n G)[u]? = some x) : (x = -1 ↔ ∀ e ∈ G, e.1 ≠ u) ∧ (x = -1 ∨ 0 ≤ x ∧ (u, x.toNat) ∈ G) := by
  rcases mF_get G hq with ⟨p, h3, h4⟩ | ⟨h3, h4⟩
  · rw [hx] at h4
    cases h4
    exact ⟨⟨fun h => by omega, fun h => absurd rfl (h _ h3)⟩, .inr ⟨by omega, by simpa using h3⟩⟩
  · rw [hx] at h4
    cases h4
    exact ⟨⟨fun _ => h3, fun _ => rfl⟩, .inl rfl⟩
/-- Through the pairs in their order: those that were free are taken. -/
structure Gdy (n : Nat) (lt : Nat × Nat → Nat × Nat → Prop) (L : List (Nat × Nat)) (k : Nat) (G : List (Nat × Nat)) : Prop where
  grd : Grd n lt G
  none : ∀ j e, j < k → L[j]? = some e → ¬ Free G e
theorem Gdy.zero {n : Nat} {lt : Nat × Nat → Nat × Nat → Prop} {L : List (Nat × Nat)} : Gdy n lt L 0 [] := ⟨Grd.nil, fun j e h => absurd h (Nat.not_lt_zero j)⟩
theorem Gdy.skip {n : Nat} {lt : Nat × Nat → Nat × Nat → Prop} {L G : List (Nat × Nat)} {k : Nat} (h : Gdy n lt L k G) {q : Nat × Nat} (hq : L[k]? = some q) (hf : ¬ Free G q) : Gdy n lt L (k + 1) G := ⟨h.grd, fun j e hj he => by
  rcases Nat.lt_or_ge j k with c | c
  · exact h.none j e c he
  · rw [show j = k by omega, hq] at he
    cases he
    exact hf⟩
theorem Gdy.take {n : Nat} {lt : Nat × Nat → Nat × Nat → Prop} (ho : OrdP lt) {L G : List (Nat × Nat)} (hp : L.Perm (allP n)) (hs : L.Pairwise (fun p q => ¬ lt q p)) {k : Nat} (h : Gdy n lt L k G) {q : Nat × Nat} (hq : L[k]? = some q) (hf : Free G q) : Gdy n lt L (k + 1) (G ++ [q]) := by
  refine ⟨h.grd.snoc (mem_allP.1 (hp.mem_iff.1 (List.mem_of_getElem? hq))) hf (fun e he hfe hl => ?_), fun j e hj he hfe => ?_⟩
  · obtain ⟨j, hj⟩ := List.mem_iff_getElem?.1 (hp.mem_iff.2 (mem_allP.2 he))
    rcases Nat.lt_trichotomy j k with c | c | c
    · exact h.none j e c hj hfe
    · subst c
      rw [hq] at hj
      cases hj
      exact ho.irr _ hl
    · obtain ⟨h1, h2⟩ := List.getElem?_eq_some_iff.1 hj
      obtain ⟨h3, h4⟩ := List.getElem?_eq_some_iff.1 hq
      have := List.pairwise_iff_getElem.1 hs k j h3 h1 c
      rw [h2, h4] at this
      exact this hl
  · rcases Nat.lt_or_ge j k with c | c
    · exact h.none j e c he (fun x hx => hfe x (List.mem_append_left _ hx))
    · rw [show j = k by omega, hq] at he
      cases he
      exact (hfe q (by simp)).1 rfl
theorem Grd.len_le {n : Nat} {lt : Nat × Nat → Nat × Nat → Prop} {G : List (Nat × Nat)} (h : Grd n lt G) : G.length ≤ n := by
  have hn : (G.map Prod.fst).Nodup := by
    refine List.pairwise_iff_getElem.2 fun i j hi hj hij e => ?_
    have hi' : i < G.length := by simpa using hi
    have hj' : j < G.length := by simpa using hj
    simp only [List.getElem_map] at e
    have := h.once (List.getElem?_eq_getElem hi') (List.getElem?_eq_getElem hj') (.inl e)
    omega
  have := _root_.Go.Proofs.Ytmkoleioipklpaa.len_le (m := List.range n) hn (fun x hx => by
    obtain ⟨e, he, rfl⟩ := List.mem_map.1 hx
    obtain ⟨i, hi⟩ := List.mem_iff_getElem?.1 he
    exact List.mem_range.2 (h i e hi).1.1)
  simpa using this
theorem Gdy.full {n : Nat} {lt : Nat × Nat → Nat × Nat → Prop} {L G : List (Nat × Nat)} (hp : L.Perm (allP n)) (h : Gdy n lt L L.length G) : G.length = n := by
  rcases Nat.lt_or_ge G.length n with c | c
  · obtain ⟨e, he, hf⟩ := more_left c
    obtain ⟨j, hj⟩ := List.mem_iff_getElem?.1 (hp.mem_iff.2 (mem_allP.2 he))
    exact absurd hf (h.none j e (List.getElem?_eq_some_iff.1 hj).1 hj)
  · exact Nat.le_antisymm h.grd.len_le c
def cast (ks : List Nat) : List Int := ks.map (fun k => ((k : Nat) : Int))
theorem cast_len (ks : List Nat) : (cast ks).length = ks.length := by simp [cast]
theorem cast_get {ks : List Nat} {i : Nat} {k : Nat} (h : ks[i]? = some k) : (cast ks)[i]? = some ((k : Nat) : Int) := by simp [cast, h]
theorem cast_inj {ks ls : List Nat} (h : cast ks = cast ls) : ks = ls := by
  refine List.ext_getElem? fun i => ?_
  have := congrArg (fun l => l[i]?) h
  simp only [cast, List.getElem?_map] at this
  cases h1 : ks[i]? <;> cases h2 : ls[i]? <;> rw [h1, h2] at this
  · simp at this
  · simp at this
  · simp at this
    rw [show _ = _ from Int.ofNat.inj this]
/-- The match that n pairs make. -/
theorem Grd.nats {n : Nat} {lt : Nat × Nat → Nat × Nat → Prop} {G : List (Nat × Nat)} (h : Grd n lt G) (hl : G.length = n) : ∃ ks, mF n G = cast ks ∧ Mat n G ks := by
  have key : ∀ u, u < n → ∃ p, (u, p) ∈ G ∧ (mF n G)[u]? = some ((p : Nat) : Int) := fun u hu => by
    rcases mF_get G hu with q | ⟨q, -⟩
    · exact q
    · have hn : (G.map Prod.fst).Nodup := by
        refine List.pairwise_iff_getElem.2 fun i j hi hj hij e => ?_
        have hi' : i < G.length := by simpa using hi
        have hj' : j < G.length := by simpa using hj
        simp only [List.getElem_map] at e
        have := h.once (List.getElem?_eq_getElem hi') (List.getElem?_eq_getElem hj') (.inl e)
        omega
      have := all_there (p := u) (n := n) hn (fun x hx => by
        obtain ⟨e, he, rfl⟩ := List.mem_map.1 hx
        obtain ⟨i, hi⟩ := List.mem_iff_getElem?.1 he
        exact (h i e hi).1.1) (by simpa using hl) hu
      obtain ⟨e, he, h2⟩ := List.mem_map.1 this
      exact absurd h2 (q e he)
  refine ⟨(mF n G).map Int.toNat, List.ext_getElem? fun u => ?_, by rw [List.length_map, mF_len], fun u p hu => ?_⟩
  · unfold cast
    rw [List.map_map, List.getElem?_map]
    rcases Nat.lt_or_ge u n with c | c
    · obtain ⟨p, -, hp⟩ := key u c
      rw [hp]
      simp
    · rw [List.getElem?_eq_none (by rw [mF_len]; exact c)]
      rfl
  · rw [List.getElem?_map] at hu
    rcases Nat.lt_or_ge u n with c | c
    · obtain ⟨r, h1, h2⟩ := key u c
      rw [h2] at hu
      simp at hu
      subst hu
      exact h1
    · rw [List.getElem?_eq_none (by rw [mF_len]; exact c)] at hu
      cases hu
/-- Places, each once, as a list of integers. -/
def PO (n : Nat) (M : List Int) : Prop := ∃ ks : List Nat, M = cast ks ∧ (∀ p ∈ ks, p < n) ∧ ks.Nodup
theorem PO.take {n : Nat} {M : List Int} (h : PO n M) (k : Nat) : PO n (M.take k) := by
  obtain ⟨ks, rfl, h1, h2⟩ := h
  exact ⟨ks.take k, by simp [cast, List.map_take], fun p hp => h1 p (List.mem_of_mem_take hp), h2.sublist (List.take_sublist k ks)⟩
theorem PO.snoc {n : Nat} {ks : List Nat} {x : Int} (h1 : ∀ p ∈ ks, p < n) (h2 : ks.Nodup) : PO n (cast ks ++ [x]) ↔ (0 ≤ x ∧ x < (n : Nat) ∧ x.toNat ∉ ks) := by
  constructor
  · rintro ⟨ls, e, h3, h4⟩
    have hl : ls = ks ++ [x.toNat] ∧ 0 ≤ x := by
      have he : ls.length = ks.length + 1 := by have := congrArg List.length e; simpa [cast] using this.symm
      have h5 : ∀ i, i < ks.length → ls[i]? = ks[i]? := fun i hi => by
        have := congrArg (fun l => l[i]?) e
        simp only [cast, List.getElem?_map] at this
        rw [List.getElem?_append_left (by simpa using hi), List.getElem?_map, List.getElem?_eq_getElem (l := ks) hi, List.getElem?_eq_getElem (l := ls) (by omega)] at this
        rw [List.getElem?_eq_getElem (l := ks) hi, List.getElem?_eq_getElem (l := ls) (by omega)]
        have h7 := Option.some.inj this
        exact congrArg some (Int.ofNat.inj h7).symm
      have h6 : x = ((ls[ks.length]'(by omega) : Nat) : Int) := by
        have := congrArg (fun l => l[ks.length]?) e
        simp only [cast, List.getElem?_map] at this
        rw [List.getElem?_append_right (by simp), List.getElem?_eq_getElem (l := ls) (by omega)] at this
        simpa using this
      refine ⟨List.ext_getElem? fun i => ?_, by omega⟩
      rcases Nat.lt_trichotomy i ks.length with c | c | c
      · rw [h5 i c, List.getElem?_append_left c]
      · subst c
        rw [List.getElem?_append_right (Nat.le_refl _), List.getElem?_eq_getElem (by omega)]
        simp
        omega
      · rw [List.getElem?_eq_none (by omega), List.getElem?_eq_none (by simp; omega)]
    obtain ⟨rfl, h0⟩ := hl
    refine ⟨h0, ?_, ?_⟩
    · have := h3 x.toNat (by simp)
      omega
    · have h5 := List.nodup_append.1 h4
      exact fun hx => h5.2.2 _ hx _ (by simp) rfl
  · rintro ⟨h3, h4, h5⟩
    refine ⟨ks ++ [x.toNat], by simp [cast]; omega, fun p hp => ?_, ?_⟩
    · rcases List.mem_append.1 hp with hp | hp
      · exact h1 p hp
      · rw [List.mem_singleton.1 hp]; omega
    · exact List.nodup_append.2 ⟨h2, by simp, fun a ha b hb => by rw [List.mem_singleton.1 hb]; exact fun e => h5 (e ▸ ha)⟩
theorem PO.once {n : Nat} {ks : List Nat} (h : ∀ p ∈ ks, p < n) (h2 : ks.Nodup) (hl : ks.length = n) : Once n ks := ⟨hl, h, h2⟩
/-- Whose each place is, behind some units. -/
def wF (n : Nat) (ks : List Nat) : List Int := mF n ks.zipIdx
theorem wF_nil (n : Nat) : wF n [] = List.replicate n (-1) := rfl
theorem wF_snoc (n : Nat) (ks : List Nat) (x : Nat) : wF n (ks ++ [x]) = (wF n ks).set x ((ks.length : Nat) : Int) := by
  unfold wF
  rw [List.zipIdx_append, Nat.zero_add]
  exact mF_snoc n _ _
theorem wF_len (n : Nat) (ks : List Nat) : (wF n ks).length = n := mF_len _ _
theorem wF_get {n : Nat} {ks : List Nat} {p : Nat} (hp : p < n) {x : Int} (hx : (wF n ks)[p]? = some x) : (x = -1 ↔ p ∉ ks) ∧ (x = -1 ∨ 0 ≤ x ∧ ks[x.toNat]? = some p) := by
  obtain ⟨h1, h2⟩ := neg_iff hp hx
  refine ⟨h1.trans ⟨fun h hm => ?_, fun h e he => ?_⟩, h2.imp id (And.imp id fun h => ?_)⟩
  · obtain ⟨i, hi⟩ := List.mem_iff_getElem?.1 hm
    exact h (p, i) (List.mem_zipIdx_iff_getElem?.2 hi) rfl
  · have := List.mem_zipIdx_iff_getElem?.1 he
    exact fun hh => h (hh ▸ List.mem_of_getElem? this)
  · exact List.mem_zipIdx_iff_getElem?.1 h
/-- Which places were met. -/
def gF (n : Nat) (ks : List Nat) : List Bool := tF n (ks.map fun p => (0, p))
theorem gF_nil (n : Nat) : gF n [] = List.replicate n false := rfl
theorem gF_snoc (n : Nat) (ks : List Nat) (x : Nat) : gF n (ks ++ [x]) = (gF n ks).set x true := by
  unfold gF
  rw [List.map_append]
  exact tF_snoc n _ _
theorem gF_len (n : Nat) (ks : List Nat) : (gF n ks).length = n := tF_len _ _
theorem gF_get {n : Nat} {ks : List Nat} {p : Nat} (hp : p < n) : ∃ b, (gF n ks)[p]? = some b ∧ (b = true ↔ p ∈ ks) := by
  obtain ⟨b, h1, h2⟩ := tF_get (ks.map fun p => ((0 : Nat), p)) hp
  refine ⟨b, h1, h2.trans ⟨?_, fun h => ⟨(0, p), List.mem_map.2 ⟨p, h, rfl⟩, rfl⟩⟩⟩
  rintro ⟨e, he, rfl⟩
  obtain ⟨x, hx, rfl⟩ := List.mem_map.1 he
  exact hx
/-- All distances, added. -/
def totN (d : Nat → Nat → Int) (ks : List Nat) : Int := (ks.zipIdx.map fun e => d e.2 e.1).sum
theorem totN_nil (d : Nat → Nat → Int) : totN d [] = 0 := rfl
theorem totN_snoc (d : Nat → Nat → Int) (ks : List Nat) (x : Nat) : totN d (ks ++ [x]) = totN d ks + d ks.length x := by
  unfold totN
  rw [List.zipIdx_append]
  simp
theorem totN_in {d : Nat → Nat → Int} (hd : ∀ u p, 0 ≤ d u p ∧ d u p ≤ 29360128) (ks : List Nat) : 0 ≤ totN d ks ∧ totN d ks ≤ 29360128 * (ks.length : Int) := by
  refine snoc_ind (C := fun ks => 0 ≤ totN d ks ∧ totN d ks ≤ 29360128 * (ks.length : Int)) (by simp [totN_nil]) (fun ks x h => ?_) ks
  rw [totN_snoc]
  have := hd ks.length x
  simp
  omega
/-- u and p would rather have each other. -/
def Bad (lt : Nat × Nat → Nat × Nat → Prop) (ks : List Nat) (u p : Nat) : Prop := ∃ q v, ks[u]? = some q ∧ ks[v]? = some p ∧ lt (u, p) (u, q) ∧ lt (u, p) (v, p)
theorem stb_bad {lt : Nat × Nat → Nat × Nat → Prop} (ho : OrdP lt) {ks : List Nat} : Stb lt ks ↔ ∀ u p, ¬ Bad lt ks u p := by
  constructor
  · rintro h u p ⟨q, v, h1, h2, h3, h4⟩
    refine h u v p q h1 h2 (fun e => ?_) ⟨h3, h4⟩
    subst e
    exact ho.irr _ h4
  · rintro h u v p q h1 h2 hne ⟨h3, h4⟩
    exact h u p ⟨q, v, h1, h2, h3, h4⟩
theorem stb_pairs {n : Nat} {lt : Nat × Nat → Nat × Nat → Prop} (ho : OrdP lt) {ks : List Nat} (h : Once n ks) (hb : ∀ e ∈ allP n, ¬ Bad lt ks e.1 e.2) : Stb lt ks := (stb_bad ho).2 fun u p hq => by
  obtain ⟨q, v, h1, h2, h3, h4⟩ := hq
  exact hb (u, p) (mem_allP.2 ⟨by rw [← h.len]; exact (List.getElem?_eq_some_iff.1 h1).1, h.lt p (List.mem_of_getElem? h2)⟩) ⟨q, v, h1, h2, h3, h4⟩
end Go.Proofs.Ytmkoleioipklpaa
