/-
  Buildings in a slice; cmp.Compare, slices.BinarySearchFunc over buildings by rising number. slices.BinarySearchFunc over buildings by rising number; where a number stands, or would come.
-/
import Derived.Test.YtekpamilcpeanaaDoorWho
import Derived.WalkLawsBesides
namespace Go.Proofs.YtekpamilcpeanaaDoor
open Go.RowKit
set_option linter.unusedVariables false
structure Bd where
  id : Int
  x : Int
  y : Int
  a : Int
  b : Int
def Bd.cs (t : Bd) : List Value := [.int .i64 t.id, .int .i64 t.x, .int .i64 t.y, .int .i64 t.a, .int .i64 t.b]
abbrev Bd.v (t : Bd) : Value := .agg #[.int .i64 t.id, .int .i64 t.x, .int .i64 t.y, .int .i64 t.a, .int .i64 t.b]
theorem cs_len (l : List Bd) : (l.flatMap Bd.cs).length = l.length * 5 := by
  induction l with
  | nil => rfl
  | cons t r ih => rw [List.flatMap_cons, List.length_append, ih]; simp [Bd.cs]; omega
theorem cs_get : ∀ (l : List Bd) (i : Nat) (t : Bd) (j : Nat), l[i]? = some t → j < 5 → (l.flatMap Bd.cs)[i * 5 + j]? = t.cs[j]?
  | [], i, t, j, h, _ => by simp at h
  | s :: r, 0, t, j, h, hj => by
    simp at h; subst h
    rw [List.flatMap_cons, Nat.zero_mul, Nat.zero_add, List.getElem?_append_left (by simp [Bd.cs]; omega)]
  | s :: r, i + 1, t, j, h, hj => by
    simp at h
    rw [List.flatMap_cons, List.getElem?_append_right (by simp [Bd.cs]; omega)]
    rw [← cs_get r i t j h hj]
    congr 1
    simp [Bd.cs]; omega
/-- The slice v reads as the buildings l. -/
def Bds (w : World) (v : Value) (l : List Bd) : Prop := w.ownsRow 0 78 5 v l.length (l.flatMap Bd.cs)
theorem Bds.kept {w w' : World} {v : Value} {l : List Bd} {S : Nat → Prop} (h : Bds w v l) (ht : Turns S w w') (hs : ∀ k, v.ownBlock = some k → ¬ S k) : Bds w' v l := by
  refine ⟨h.1, ?_⟩
  rcases h.2 with h1 | ⟨g, cap, cur, e, hb, hg, r⟩
  · exact .inl h1
  · exact .inr ⟨g, cap, cur, e, hb, ht.same (hs g (by rw [e]; rfl)) hg, r⟩
/-- Number i of the buildings that lie at a. -/
def BdAt (w : World) (a : Option Addr) (i : Nat) (t : Bd) : Prop :=
  ∃ g, a = some ⟨g, 0, none⟩ ∧ g < w.heap.size ∧ w.cell? ⟨g, i * 5, none⟩ = some (.int .i64 t.id) ∧ w.cell? ⟨g, i * 5 + 1, none⟩ = some (.int .i64 t.x) ∧ w.cell? ⟨g, i * 5 + 2, none⟩ = some (.int .i64 t.y) ∧
    w.cell? ⟨g, i * 5 + 3, none⟩ = some (.int .i64 t.a) ∧ w.cell? ⟨g, i * 5 + 4, none⟩ = some (.int .i64 t.b)
theorem Bds.form {w : World} {v : Value} {l : List Bd} (h : Bds w v l) :
    ∃ a cap, v = .slice a l.length cap ∧ l.length ≤ cap ∧ cap ≤ maxLen ∧ ∀ i t, l[i]? = some t → BdAt w a i t := by
  rcases h.2 with ⟨e, h0⟩ | ⟨g, cap, cur, e, hb, hg, hn, hm, hs, ht⟩
  · exact ⟨none, 0, by rw [h0]; exact e, by omega, by decide, fun i t hi => by
      have := List.eq_nil_of_length_eq_zero h0; subst this; simp at hi⟩
  · refine ⟨_, cap, e, hn, hm, fun i t hi => ?_⟩
    have hc : ∀ j u, t.cs[j]? = some u → j < 5 → w.cell? ⟨g, i * 5 + j, none⟩ = some u := fun j u hu hj => by
      have := h.cells (g := g) (by rw [e]; rfl) (i * 5 + j) u (by rw [cs_get l i t j hi hj]; exact hu)
      simpa [Addr.add_lit] using this
    exact ⟨g, rfl, (Array.getElem?_eq_some_iff.1 hg).1, hc 0 _ rfl (by omega), hc 1 _ rfl (by omega), hc 2 _ rfl (by omega), hc 3 _ rfl (by omega), hc 4 _ rfl (by omega)⟩
theorem BdAt.kept {w w' : World} {a : Option Addr} {i : Nat} {t : Bd} (h : BdAt w a i t) (hb : Below w.heap.size w w') : BdAt w' a i t := by
  obtain ⟨g, e1, e2, c0, c1, c2, c3, c4⟩ := h
  have hc := fun o => hb.cell (p := ⟨g, o, none⟩) e2
  exact ⟨g, e1, Nat.lt_of_lt_of_le e2 hb.size, (hc _).trans c0, (hc _).trans c1, (hc _).trans c2, (hc _).trans c3, (hc _).trans c4⟩
def cmpI (x y : Int) : Int := if x < y then -1 else if y < x then 1 else 0
theorem nan_any (x : Int) (w : World) : Calls Tryd.prog 66 #[.int .i64 x] w fun e w' => e = .returned (.bool false) ∧ w' = w := by
  go_enter Tryd.func66, Tryd.ntmps66
  go_wp2
  go_ret
  exact ⟨rfl, rfl⟩
set_option maxHeartbeats 400000 in
theorem cmp_any (x y : Int) (w : World) : Calls Tryd.prog 44 #[.int .i64 x, .int .i64 y] w fun e w' => e = .returned (.int .i64 (cmpI x y)) ∧ w' = w := by
  by_cases h1 : x < y
  · rw [show cmpI x y = -1 by simp [cmpI, h1]]
    go_enter Tryd.func44, Tryd.ntmps44
    go_wp2_with (go_at_call 66; refine (nan_any _ _).mono ?_; rintro e w' ⟨rfl, rfl⟩)
    go_ret
    exact ⟨rfl, rfl⟩
  · by_cases h2 : y < x
    · rw [show cmpI x y = 1 by simp [cmpI, h1, h2]]
      go_enter Tryd.func44, Tryd.ntmps44
      go_wp2_with (go_at_call 66; refine (nan_any _ _).mono ?_; rintro e w' ⟨rfl, rfl⟩)
      go_ret
      exact ⟨rfl, rfl⟩
    · rw [show cmpI x y = 0 by simp [cmpI, h1, h2]]
      go_enter Tryd.func44, Tryd.ntmps44
      go_wp2_with (go_at_call 66; refine (nan_any _ _).mono ?_; rintro e w' ⟨rfl, rfl⟩)
      go_ret
      exact ⟨rfl, rfl⟩
theorem clo_any (t : Bd) (i : Int) (w : World) : Calls Tryd.prog 81 #[t.v, .int .i64 i] w fun e w' => e = .returned (.int .i64 (cmpI t.id i)) ∧ Below w.heap.size w w' := by
  go_enter Tryd.func81, Tryd.ntmps81
  go_wp2_with (go_at_call 44; refine (cmp_any _ _ _).mono ?_; rintro e w' ⟨rfl, rfl⟩)
  go_ret
  exact ⟨rfl, box1 _ _⟩
end Go.Proofs.YtekpamilcpeanaaDoor
namespace Go.Proofs.YtekpamilcpeanaaDoor
open Go.RowKit
set_option linter.unusedVariables false
def Sorted (l : List Bd) : Prop := l.Pairwise (fun s t => s.id < t.id)
def pos (l : List Bd) (i : Int) : Nat := (l.takeWhile (fun t => decide (t.id < i))).length
def found (l : List Bd) (i : Int) : Bool := l.any (fun t => decide (t.id = i))
theorem pos_le : ∀ (l : List Bd) (i : Int), pos l i ≤ l.length
  | [], _ => Nat.le_refl _
  | t :: r, i => by
    unfold pos
    rw [List.takeWhile_cons]
    split
    · have := pos_le r i; unfold pos at this; simpa using this
    · simp
theorem pos_iff : ∀ {l : List Bd}, Sorted l → ∀ (i : Int) (k : Nat) (t : Bd), l[k]? = some t → (t.id < i ↔ k < pos l i)
  | [], _, _, _, _, h => by simp at h
  | s :: r, hs, i, 0, t, h => by
    simp at h; subst h
    unfold pos
    rw [List.takeWhile_cons]
    split <;> simp_all
  | s :: r, hs, i, k + 1, t, h => by
    simp at h
    obtain ⟨h1, h2⟩ := List.pairwise_cons.1 hs
    have hm : t ∈ r := List.mem_of_getElem? h
    have ih := pos_iff h2 i k t h
    have := h1 t hm
    unfold pos at ih ⊢
    rw [List.takeWhile_cons]
    split
    · rename_i hd; rw [ih]; simp
    · rename_i hd; simp at hd; simp; omega
theorem found_iff {l : List Bd} (hs : Sorted l) (i : Int) : found l i = true ↔ ∃ t, l[pos l i]? = some t ∧ t.id = i := by
  unfold found
  rw [List.any_eq_true]
  constructor
  · rintro ⟨t, hm, ht⟩
    simp at ht
    obtain ⟨k, hk⟩ := List.getElem?_of_mem hm
    have h1 := pos_iff hs i k t hk
    refine ⟨t, ?_, ht⟩
    have hle : pos l i ≤ k := by omega
    by_cases he : pos l i = k
    · rw [he]; exact hk
    · have hlt : pos l i < l.length := by have := (List.getElem?_eq_some_iff.1 hk).1; omega
      have h2 := pos_iff hs i (pos l i) l[pos l i] (List.getElem?_eq_getElem hlt)
      have h3 : l[pos l i].id < t.id := by
        have := List.pairwise_iff_getElem.1 hs (pos l i) k hlt (List.getElem?_eq_some_iff.1 hk).1 (by omega)
        rwa [(List.getElem?_eq_some_iff.1 hk).2] at this
      omega
  · rintro ⟨t, h1, h2⟩
    exact ⟨t, List.mem_of_getElem? h1, by simp [h2]⟩
theorem found_at {l : List Bd} (hs : Sorted l) {i : Int} {t : Bd} (h : l[pos l i]? = some t) : found l i = decide (t.id = i) := by
  rw [Bool.eq_iff_iff, found_iff hs, decide_eq_true_iff]
  exact ⟨fun ⟨u, h1, h2⟩ => by rw [h] at h1; cases h1; exact h2, fun e => ⟨t, h, e⟩⟩
theorem found_end {l : List Bd} (hs : Sorted l) {i : Int} (h : pos l i = l.length) : found l i = false := by
  rw [Bool.eq_false_iff]
  intro hf
  obtain ⟨t, h1, _⟩ := (found_iff hs i).1 hf
  rw [h] at h1
  simp at h1
theorem ret_ib {a b : Int} {c d : Bool} (h1 : a = b) (h2 : c = d) : Ending.returned (.tuple #[.int .i64 a, .bool c]) = .returned (.tuple #[.int .i64 b, .bool d]) := by rw [h1, h2]
theorem cmp_neg {x y : Int} : cmpI x y < 0 ↔ x < y := by unfold cmpI; split <;> (try split) <;> omega
theorem cmp_zero {x y : Int} : cmpI x y = 0 ↔ x = y := by unfold cmpI; split <;> (try split) <;> omega
set_option maxHeartbeats 1000000 in
set_option maxRecDepth 100000 in
theorem search_any (l : List Bd) (v : Value) (i : Int) (w : World) (hv : Bds w v l) (hs : Sorted l) (hl : l.length ≤ 256) :
    Calls Tryd.prog 80 #[v, .int .i64 i, .func (.func 81) #[] #[]] w fun e w' => e = .returned (.tuple #[.int .i64 (pos l i), .bool (found l i)]) ∧ Below w.heap.size w w' := by
  obtain ⟨a, cap, rfl, hcap, hmax, hat⟩ := hv.form
  have hlen : (0 : Int) ≤ (l.length : Nat) ∧ ((l.length : Nat) : Int) ≤ 256 := by omega
  go_enter Tryd.func80, Tryd.ntmps80
  go_wp2_with fail
  go_loopw [9, 10, 11] (fun p q r wr => ∃ m n : Nat, m ≤ pos l i ∧ pos l i ≤ n ∧ n ≤ l.length ∧ p = .int .i64 m ∧ q = .int .i64 n ∧ Below w.heap.size w wr) (fun p q r _ => (intOf q).toNat - (intOf p).toNat)
  case atStart =>
    exact ⟨0, l.length, Nat.zero_le _, pos_le l i, Nat.le_refl _, rfl, rfl, Below.refl _ _⟩
  case round =>
    obtain ⟨m, n, hm, hn, hn2, rfl, rfl, hb⟩ := hrel
    by_cases hlt : m < n
    · obtain ⟨h, hh, hmh, hhn⟩ : ∃ h : Nat, ((m : Int) + n) / 2 = (h : Int) ∧ m ≤ h ∧ h < n := ⟨(m + n) / 2, by omega, by omega, by omega⟩
      have hk : l[h]? = some l[h] := List.getElem?_eq_getElem (by omega)
      obtain ⟨t, ht⟩ : ∃ t, l[h]? = some t := ⟨_, hk⟩
      have hp := pos_iff hs i h t ht
      obtain ⟨g, rfl, hg, c0, c1, c2, c3, c4⟩ := (hat h t ht).kept hb
      have hsz : (h : Int) < (l.length : Nat) := by omega
      have Hp := hide hp
      have Hs := hide hs
      clear hk hp hs ht hat
      by_cases hc : t.id < i
      · have hc' : cmpI t.id i < 0 := cmp_neg.2 hc
        go_wp2_with fail
        refine (clo_any t i _).mono ?_
        rintro e w1 ⟨rfl, hb1⟩
        have hb2 := bt hb hb1
        go_wp2_with fail
        go_roundw
        case rel => exact ⟨h + 1, n, (Hp.out.1 hc), hn, hn2, by go_num, rfl, hb2⟩
        case measure => simp [intOf]; omega
      · have hc' : ¬ cmpI t.id i < 0 := fun e => hc (cmp_neg.1 e)
        go_wp2_with fail
        refine (clo_any t i _).mono ?_
        rintro e w1 ⟨rfl, hb1⟩
        have hb2 := bt hb hb1
        go_wp2_with fail
        go_roundw
        case rel => exact ⟨m, h, hm, by have := Hp.out; omega, by omega, rfl, rfl, hb2⟩
        case measure => simp [intOf]; omega
    · have hmn : m = pos l i := by omega
      have hnn : n = pos l i := by omega
      subst hmn
      subst hnn
      generalize hpl : pos l i = P at *
      have Hpl := hide hpl
      by_cases hP : P < l.length
      · obtain ⟨t, ht⟩ : ∃ t, l[P]? = some t := ⟨_, List.getElem?_eq_getElem hP⟩
        have hf : found l i = decide (t.id = i) := found_at hs (by rw [hpl]; exact ht)
        have Hf := hide hf
        obtain ⟨g, rfl, hg, c0, c1, c2, c3, c4⟩ := (hat P t ht).kept hb
        have hsz : (P : Int) < (l.length : Nat) := by omega
        clear hpl hf hat ht hs
        go_wp2_with fail
        refine (clo_any t i _).mono ?_
        rintro e w1 ⟨rfl, hb1⟩
        have hb2 := bt hb hb1
        go_wp2_with fail
        go_ret2
        exact ⟨ret_ib (by rw [Hpl.out]) (by rw [Hf.out, Bool.eq_iff_iff, decide_eq_true_iff]; simp [cmp_zero]), hb2⟩
      · have hf : found l i = false := found_end hs (by rw [hpl]; omega)
        have Hf := hide hf
        have hsz : ¬ (P : Int) < (l.length : Nat) := by omega
        clear hpl hf hat hs
        go_wp2_with fail
        go_ret2
        exact ⟨ret_ib (by rw [Hpl.out]) (by rw [Hf.out]), hb⟩
theorem index_any (l : List Bd) (v : Value) (i : Int) (p : Nat) (w : World) (hc : w.cell? ⟨p, 5, none⟩ = some v) (hv : Bds w v l) (hs : Sorted l) (hl : l.length ≤ 256) :
    Calls Tryd.prog 62 #[.pointer (some ⟨p, 0, none⟩), .int .i64 i] w fun e w' => e = .returned (.tuple #[.int .i64 (pos l i), .bool (found l i)]) ∧ Below w.heap.size w w' := by
  obtain ⟨a, cap, rfl, hcap, hmax, hat⟩ := hv.form
  go_enter Tryd.func62, Tryd.ntmps62
  go_wp2_with (go_at_call 80; refine (search_any l _ i _ hv hs hl).mono ?_; rintro e w1 ⟨rfl, hb1⟩)
  go_ret2
  exact ⟨rfl, hb1⟩
end Go.Proofs.YtekpamilcpeanaaDoor
