/-
  slices.BinarySearchFunc over buildings by rising number; where a number stands, or would come.
-/
import Derived.Test.YtggaobcdogbjhaaGreatDoorSearch
namespace Go.Proofs.YtggaobcdogbjhaaGreatDoor
open Go.RowKit
set_option linter.unusedVariables false
def Sorted (l : List Bd) : Prop := l.Pairwise (fun s t => s.id < t.id)
def pos (l : List Bd) (i : Int) : Nat := (l.takeWhile (fun t => decide (t.id < i))).length
def found (l : List Bd) (i : Int) : Bool := l.any (fun t => decide (t.id = i))
theorem pos_le : ∀ (l : List Bd) (i : Int), pos l i ≤ l.length
  | [], _ => Nat.le_refl _
  | t :: r, i => by
    unfold pos
    rw [List.takeWhile_cons]
    split
    · have := pos_le r i; unfold pos at this; simpa using this
    · simp
theorem pos_iff : ∀ {l : List Bd}, Sorted l → ∀ (i : Int) (k : Nat) (t : Bd), l[k]? = some t → (t.id < i ↔ k < pos l i)
  | [], _, _, _, _, h => by simp at h
  | s :: r, hs, i, 0, t, h => by
    simp at h; subst h
    unfold pos
    rw [List.takeWhile_cons]
    split <;> simp_all
  | s :: r, hs, i, k + 1, t, h => by
    simp at h
    obtain ⟨h1, h2⟩ := List.pairwise_cons.1 hs
    have hm : t ∈ r := List.mem_of_getElem? h
    have ih := pos_iff h2 i k t h
    have := h1 t hm
    unfold pos at ih ⊢
    rw [List.takeWhile_cons]
    split
    · rename_i hd; rw [ih]; simp
    · rename_i hd; simp at hd; simp; omega
theorem found_iff {l : List Bd} (hs : Sorted l) (i : Int) : found l i = true ↔ ∃ t, l[pos l i]? = some t ∧ t.id = i := by
  unfold found
  rw [List.any_eq_true]
  constructor
  · rintro ⟨t, hm, ht⟩
    simp at ht
    obtain ⟨k, hk⟩ := List.getElem?_of_mem hm
    have h1 := pos_iff hs i k t hk
    refine ⟨t, ?_, ht⟩
    have hle : pos l i ≤ k := by omega
    by_cases he : pos l i = k
    · rw [he]; exact hk
    · have hlt : pos l i < l.length := by have := (List.getElem?_eq_some_iff.1 hk).1; omega
      have h2 := pos_iff hs i (pos l i) l[pos l i] (List.getElem?_eq_getElem hlt)
      have h3 : l[pos l i].id < t.id := by
        have := List.pairwise_iff_getElem.1 hs (pos l i) k hlt (List.getElem?_eq_some_iff.1 hk).1 (by omega)
        rwa [(List.getElem?_eq_some_iff.1 hk).2] at this
      omega
  · rintro ⟨t, h1, h2⟩
    exact ⟨t, List.mem_of_getElem? h1, by simp [h2]⟩
theorem found_at {l : List Bd} (hs : Sorted l) {i : Int} {t : Bd} (h : l[pos l i]? = some t) : found l i = decide (t.id = i) := by
  rw [Bool.eq_iff_iff, found_iff hs, decide_eq_true_iff]
  exact ⟨fun ⟨u, h1, h2⟩ => by rw [h] at h1; cases h1; exact h2, fun e => ⟨t, h, e⟩⟩
theorem found_end {l : List Bd} (hs : Sorted l) {i : Int} (h : pos l i = l.length) : found l i = false := by
  rw [Bool.eq_false_iff]
  intro hf
  obtain ⟨t, h1, _⟩ := (found_iff hs i).1 hf
  rw [h] at h1
  simp at h1
theorem ret_ib {a b : Int} {c d : Bool} (h1 : a = b) (h2 : c = d) : Ending.returned (.tuple #[.int .i64 a, .bool c]) = .returned (.tuple #[.int .i64 b, .bool d]) := by rw [h1, h2]
theorem cmp_neg {x y : Int} : cmpI x y < 0 ↔ x < y := by unfold cmpI; split <;> (try split) <;> omega
theorem cmp_zero {x y : Int} : cmpI x y = 0 ↔ x = y := by unfold cmpI; split <;> (try split) <;> omega
set_option maxHeartbeats 1000000 in
set_option maxRecDepth 100000 in
theorem search_any (l : List Bd) (v : Value) (i : Int) (w : World) (hv : Bds w v l) (hs : Sorted l) (hl : l.length ≤ 256) :
    Calls Tryz.prog 114 #[v, .int .i64 i, .func (.func 115) #[] #[]] w fun e w' => e = .returned (.tuple #[.int .i64 (pos l i), .bool (found l i)]) ∧ Below w.heap.size w w' := by
  obtain ⟨a, cap, rfl, hcap, hmax, hat⟩ := hv.form
  have hlen : (0 : Int) ≤ (l.length : Nat) ∧ ((l.length : Nat) : Int) ≤ 256 := by omega
  go_enter Tryz.func114, Tryz.ntmps114
  go_wp2_with fail
  go_loopw [9, 10, 11] (fun p q r wr => ∃ m n : Nat, m ≤ pos l i ∧ pos l i ≤ n ∧ n ≤ l.length ∧ p = .int .i64 m ∧ q = .int .i64 n ∧ Below w.heap.size w wr) (fun p q r _ => (intOf q).toNat - (intOf p).toNat)
  case atStart =>
    exact ⟨0, l.length, Nat.zero_le _, pos_le l i, Nat.le_refl _, rfl, rfl, Below.refl _ _⟩
  case round =>
    obtain ⟨m, n, hm, hn, hn2, rfl, rfl, hb⟩ := hrel
    by_cases hlt : m < n
    · obtain ⟨h, hh, hmh, hhn⟩ : ∃ h : Nat, ((m : Int) + n) / 2 = (h : Int) ∧ m ≤ h ∧ h < n := ⟨(m + n) / 2, by omega, by omega, by omega⟩
      have hk : l[h]? = some l[h] := List.getElem?_eq_getElem (by omega)
      obtain ⟨t, ht⟩ : ∃ t, l[h]? = some t := ⟨_, hk⟩
      have hp := pos_iff hs i h t ht
      obtain ⟨g, rfl, hg, c0, c1, c2, c3, c4⟩ := (hat h t ht).kept hb
      have hsz : (h : Int) < (l.length : Nat) := by omega
      have Hp := hide hp
      have Hs := hide hs
      clear hk hp hs ht hat
      by_cases hc : t.id < i
      · have hc' : cmpI t.id i < 0 := cmp_neg.2 hc
        go_wp2_with fail
        refine (clo_any t i _).mono ?_
        rintro e w1 ⟨rfl, hb1⟩
        have hb2 := bt hb hb1
        go_wp2_with fail
        go_roundw
        case rel => exact ⟨h + 1, n, (Hp.out.1 hc), hn, hn2, by go_num, rfl, hb2⟩
        case measure => simp [intOf]; omega
      · have hc' : ¬ cmpI t.id i < 0 := fun e => hc (cmp_neg.1 e)
        go_wp2_with fail
        refine (clo_any t i _).mono ?_
        rintro e w1 ⟨rfl, hb1⟩
        have hb2 := bt hb hb1
        go_wp2_with fail
        go_roundw
        case rel => exact ⟨m, h, hm, by have := Hp.out; omega, by omega, rfl, rfl, hb2⟩
        case measure => simp [intOf]; omega
    · have hmn : m = pos l i := by omega
      have hnn : n = pos l i := by omega
      subst hmn
      subst hnn
      generalize hpl : pos l i = P at *
      have Hpl := hide hpl
      by_cases hP : P < l.length
      · obtain ⟨t, ht⟩ : ∃ t, l[P]? = some t := ⟨_, List.getElem?_eq_getElem hP⟩
        have hf : found l i = decide (t.id = i) := found_at hs (by rw [hpl]; exact ht)
        have Hf := hide hf
        obtain ⟨g, rfl, hg, c0, c1, c2, c3, c4⟩ := (hat P t ht).kept hb
        have hsz : (P : Int) < (l.length : Nat) := by omega
        clear hpl hf hat ht hs
        go_wp2_with fail
        refine (clo_any t i _).mono ?_
        rintro e w1 ⟨rfl, hb1⟩
        have hb2 := bt hb hb1
        go_wp2_with fail
        go_ret2
        exact ⟨ret_ib (by rw [Hpl.out]) (by rw [Hf.out, Bool.eq_iff_iff, decide_eq_true_iff]; simp [cmp_zero]), hb2⟩
      · have hf : found l i = false := found_end hs (by rw [hpl]; omega)
        have Hf := hide hf
        have hsz : ¬ (P : Int) < (l.length : Nat) := by omega
        clear hpl hf hat hs
        go_wp2_with fail
        go_ret2
        exact ⟨ret_ib (by rw [Hpl.out]) (by rw [Hf.out]), hb⟩
theorem index_any (l : List Bd) (v : Value) (i : Int) (p : Nat) (w : World) (hc : w.cell? ⟨p, 5, none⟩ = some v) (hv : Bds w v l) (hs : Sorted l) (hl : l.length ≤ 256) :
    Calls Tryz.prog 88 #[.pointer (some ⟨p, 0, none⟩), .int .i64 i] w fun e w' => e = .returned (.tuple #[.int .i64 (pos l i), .bool (found l i)]) ∧ Below w.heap.size w w' := by
  obtain ⟨a, cap, rfl, hcap, hmax, hat⟩ := hv.form
  go_enter Tryz.func88, Tryz.ntmps88
  go_wp2_with (go_at_call 114; refine (search_any l _ i _ hv hs hl).mono ?_; rintro e w1 ⟨rfl, hb1⟩)
  go_ret2
  exact ⟨rfl, hb1⟩
end Go.Proofs.YtggaobcdogbjhaaGreatDoor
