/-
  Layer 17's plain theory: columns, places, what lies apart. What Layout tells, as numbers.
-/
import Derived.Test.YtankkngjhgpcaaaRd
namespace Go.Proofs.Ytankkngjhgpcaaa
open Go.RowKit
set_option linter.unusedVariables false
set_option linter.unusedSimpArgs false
/-- c is the least number of columns whose square has room for n. -/
def IsCol (n c : Nat) : Prop := 1 ≤ c ∧ n ≤ c * c ∧ ∀ d, 1 ≤ d → d < c → d * d < n
theorem IsCol.eq {n c d : Nat} (h : IsCol n c) (k : IsCol n d) : c = d := by
  rcases Nat.lt_trichotomy c d with q | q | q
  · have := k.2.2 c h.1 q
    have := h.2.1
    omega
  · exact q
  · have := h.2.2 d k.1 q
    have := k.2.1
    omega
theorem IsCol.small {n c : Nat} (hn : n ≤ 64) (h : IsCol n c) : c ≤ 8 := by
  rcases Nat.lt_or_ge 8 c with q | q
  · have := h.2.2 8 (by omega) q
    omega
  · exact q
def colF (n : Nat) : Nat := if n ≤ 1 then 1 else if n ≤ 4 then 2 else if n ≤ 9 then 3 else if n ≤ 16 then 4 else if n ≤ 25 then 5 else if n ≤ 36 then 6 else if n ≤ 49 then 7 else 8
theorem colF_is {n : Nat} (h1 : 1 ≤ n) (h2 : n ≤ 64) : IsCol n (colF n) := by
  have h : ∀ n : Fin 64, 1 ≤ colF (n.val + 1) ∧ n.val + 1 ≤ colF (n.val + 1) * colF (n.val + 1) ∧ ∀ d : Fin 9, 1 ≤ d.val → d.val < colF (n.val + 1) → d.val * d.val < n.val + 1 := by decide
  obtain ⟨a, b, c⟩ := h ⟨n - 1, by omega⟩
  have e : n - 1 + 1 = n := by omega
  simp only [e] at a b c
  refine ⟨a, b, fun d hd hl => ?_⟩
  have : colF n ≤ 8 := by unfold colF; repeat' split
                          all_goals omega
  exact c ⟨d, by omega⟩ hd hl
/-- Columns' answer. -/
def colZ (n : Int) : Int := if 1 ≤ n ∧ n ≤ 64 then (colF n.toNat : Nat) else 0
/-- A loop that counts up from 1 while c * c is below n. -/
theorem IsCol.of_loop {n c : Nat} (h1 : 1 ≤ c) (h : ∀ d, 1 ≤ d → d < c → d * d < n) (he : ¬ c * c < n) : IsCol n c := ⟨h1, by omega, h⟩
theorem loop_next {n c : Nat} (h : ∀ d, 1 ≤ d → d < c → d * d < n) (hc : c * c < n) : ∀ d, 1 ≤ d → d < c + 1 → d * d < n := fun d hd hl => by
  rcases Nat.lt_or_ge d c with q | q
  · exact h d hd q
  · obtain rfl : d = c := by omega
    exact hc
/-- How many rows: rounded up. -/
def rowF (n c : Nat) : Nat := (n + c - 1) / c
/-- A place's one side: the i-th unit's column (row) k, the middle m. -/
def plc1 (x p : Int) (k m : Nat) : Int := x + p * ((k : Int) - (m : Int))
theorem plc1_moved (x y p : Int) (k m : Nat) : plc1 (x + y) p k m = plc1 x p k m + y := by unfold plc1; omega
theorem plc1_zero (y p : Int) (k m : Nat) : plc1 y p k m = plc1 0 p k m + y := by unfold plc1; omega
theorem plc1_apart {x p s : Int} {a b m : Nat} (hs : s ≤ p) (hp : 0 ≤ p) (h : a < b) : plc1 x p a m + s ≤ plc1 x p b m := by
  unfold plc1
  have e : p * ((b : Int) - m) = p * ((a : Int) - m) + p * ((b : Int) - a) := by rw [← Int.mul_add]; congr 1; omega
  have : p * 1 ≤ p * ((b : Int) - a) := Int.mul_le_mul_of_nonneg_left (by omega) hp
  omega
theorem plc1_bound {x p : Int} {k m : Nat} (hp0 : 0 ≤ p) (hp : p ≤ 64) (hk : k ≤ 64) (hm : m ≤ 64) : -4096 ≤ plc1 x p k m - x ∧ plc1 x p k m - x ≤ 4096 := by
  unfold plc1
  have h1 : p * ((k : Int) - m) ≤ p * 64 := Int.mul_le_mul_of_nonneg_left (by omega) hp0
  have h2 : p * (-64) ≤ p * ((k : Int) - m) := Int.mul_le_mul_of_nonneg_left (by omega) hp0
  omega
/-- Two units stand in different columns or rows. -/
theorem unlike {c i k : Nat} (h : i ≠ k) : i % c ≠ k % c ∨ i / c ≠ k / c := by
  rcases Nat.decEq (i % c) (k % c) with q | q
  · exact .inl q
  · right
    intro e
    have h1 := Nat.div_add_mod i c
    have h2 := Nat.div_add_mod k c
    rw [e, q] at h1
    omega
/-- Footprints at two places of a layout don't meet: one lies beyond the other in some direction. -/
theorem feet_apart {x y p s t : Int} {c i k m r : Nat} (hs : s ≤ p) (ht : t ≤ p) (hp : 0 ≤ p) (h : i ≠ k) :
    plc1 x p (i % c) m + s ≤ plc1 x p (k % c) m ∨ plc1 x p (k % c) m + t ≤ plc1 x p (i % c) m ∨ plc1 y p (i / c) r + s ≤ plc1 y p (k / c) r ∨ plc1 y p (k / c) r + t ≤ plc1 y p (i / c) r := by
  rcases unlike (c := c) h with q | q
  · rcases Nat.lt_or_gt_of_ne q with q | q
    · exact .inl (plc1_apart hs hp q)
    · exact .inr (.inl (plc1_apart ht hp q))
  · rcases Nat.lt_or_gt_of_ne q with q | q
    · exact .inr (.inr (.inl (plc1_apart hs hp q)))
    · exact .inr (.inr (.inr (plc1_apart ht hp q)))
/-- The pitch: the greatest size, from p on. -/
def pitchF (l : List (Int × Int)) (p : Int) : Int := l.foldl (fun p s => if p < s.2 then s.2 else p) p
theorem pitchF_ge (l : List (Int × Int)) : ∀ p, p ≤ pitchF l p ∧ ∀ s ∈ l, s.2 ≤ pitchF l p := by
  induction l with
  | nil => intro p; exact ⟨Int.le_refl _, fun s h => by cases h⟩
  | cons a l ih =>
    intro p
    obtain ⟨h1, h2⟩ := ih (if p < a.2 then a.2 else p)
    have e : pitchF (a :: l) p = pitchF l (if p < a.2 then a.2 else p) := rfl
    rw [e]
    have h3 : p ≤ (if p < a.2 then a.2 else p) ∧ a.2 ≤ (if p < a.2 then a.2 else p) := by split <;> omega
    refine ⟨by omega, fun s hs => ?_⟩
    rcases List.mem_cons.1 hs with rfl | hs
    · omega
    · exact h2 s hs
theorem pitchF_le {M : Int} (l : List (Int × Int)) : ∀ p, p ≤ M → (∀ s ∈ l, s.2 ≤ M) → pitchF l p ≤ M := by
  induction l with
  | nil => intro p h _; exact h
  | cons a l ih =>
    intro p h hl
    refine ih _ ?_ (fun s hs => hl s (List.mem_cons_of_mem _ hs))
    have := hl a List.mem_cons_self
    show (if p < a.2 then a.2 else p) ≤ M
    split <;> omega
theorem pitchF_append (l m : List (Int × Int)) (p : Int) : pitchF (l ++ m) p = pitchF m (pitchF l p) := by simp [pitchF]

/-- A shape that may be. -/
def mayS (q : Int × Int) : Bool := decide (0 ≤ q.1 ∧ q.1 < 4 ∧ 1 ≤ q.2 ∧ q.2 ≤ 4)
theorem mayS_iff (q : Int × Int) : mayS q = true ↔ (0 ≤ q.1 ∧ q.1 < 4 ∧ 1 ≤ q.2 ∧ q.2 ≤ 4) := by simp [mayS]
theorem mayS_not (q : Int × Int) : mayS q = false ↔ ¬ (0 ≤ q.1 ∧ q.1 < 4 ∧ 1 ≤ q.2 ∧ q.2 ≤ 4) := by simp only [mayS, decide_eq_false_iff_not]
def spot (n : Int) : Bool := decide (-128 ≤ n ∧ n ≤ 256)
theorem spot_iff (n : Int) : spot n = true ↔ (-128 ≤ n ∧ n ≤ 256) := by simp [spot]
theorem spot_not (n : Int) : spot n = false ↔ ¬ (-128 ≤ n ∧ n ≤ 256) := by simp only [spot, decide_eq_false_iff_not]
def plcB (x y : Int) : Bool := spot x && spot y
theorem plcB_iff (x y : Int) : plcB x y = true ↔ ((-128 ≤ x ∧ x ≤ 256) ∧ (-128 ≤ y ∧ y ≤ 256)) := by rw [plcB, Bool.and_eq_true, spot_iff, spot_iff]
def grp (L : List (Int × Int)) : Bool := L.all mayS && decide (0 < L.length)
/-- The i-th unit's place. -/
def layAt (n : Nat) (p x y : Int) (i : Nat) : Int × Int := (plc1 x p (i % colF n) (colF n / 2), plc1 y p (i / colF n) (rowF n (colF n) / 2))
def lay (L : List (Int × Int)) (x y : Int) : List (Int × Int) := (List.range L.length).map (layAt L.length (pitchF L 0) x y)
def layE (L : List (Int × Int)) (x y : Int) : Int := if 64 < L.length then 3 else if (grp L && plcB x y) = true then 0 else 1
def layP (L : List (Int × Int)) (x y : Int) : List (Int × Int) := if layE L x y = 0 then lay L x y else []
theorem lay_len (L : List (Int × Int)) (x y : Int) : (lay L x y).length = L.length := by simp [lay]
theorem lay_get (L : List (Int × Int)) (x y : Int) (i : Nat) (hi : i < L.length) : (lay L x y)[i]? = some (layAt L.length (pitchF L 0) x y i) := by
  rw [lay, List.getElem?_map, List.getElem?_range hi]; rfl
theorem colF_pos (n : Nat) : 1 ≤ colF n := by unfold colF; repeat' split
                                              all_goals omega
theorem colF_le (n : Nat) : colF n ≤ 8 := by unfold colF; repeat' split
                                             all_goals omega
theorem rowF_le {n : Nat} (hn : n ≤ 64) : rowF n (colF n) ≤ 64 := by
  unfold rowF
  have h1 := colF_pos n
  refine Nat.div_le_of_le_mul ?_
  have : colF n * 1 ≤ colF n * 64 := Nat.mul_le_mul_left _ (by omega)
  have h8 := colF_le n
  have h3 : 1 * 64 ≤ colF n * 64 := Nat.mul_le_mul_right _ h1
  generalize hm : colF n * 64 = m at *
  omega
theorem pitch_ok {L : List (Int × Int)} (h : L.all mayS = true) : 0 ≤ pitchF L 0 ∧ pitchF L 0 ≤ 4 := by
  refine ⟨(pitchF_ge L 0).1, pitchF_le L 0 (by omega) (fun s hs => ?_)⟩
  exact ((mayS_iff s).1 (List.all_eq_true.1 h s hs)).2.2.2
theorem grp_parts {L : List (Int × Int)} (h : grp L = true) : L.all mayS = true ∧ 0 < L.length := by
  simpa [grp] using h
theorem layE_ok {L : List (Int × Int)} {x y : Int} (h : layE L x y = 0) : L.length ≤ 64 ∧ L.all mayS = true ∧ 0 < L.length ∧ (-128 ≤ x ∧ x ≤ 256) ∧ (-128 ≤ y ∧ y ≤ 256) := by
  unfold layE at h
  split at h
  · cases h
  · split at h
    · rename_i h1 h2
      rw [Bool.and_eq_true] at h2
      exact ⟨by omega, (grp_parts h2.1).1, (grp_parts h2.1).2, (plcB_iff x y).1 h2.2⟩
    · cases h
theorem layE_yes {L : List (Int × Int)} {x y : Int} (h1 : L.length ≤ 64) (h2 : grp L = true) (h3 : plcB x y = true) : layE L x y = 0 := by
  unfold layE
  rw [if_neg (by omega), h2, h3]; rfl
theorem layE_long {L : List (Int × Int)} {x y : Int} (h1 : ¬ L.length ≤ 64) : layE L x y = 3 := by
  unfold layE
  rw [if_pos (by omega)]
theorem layE_arg {L : List (Int × Int)} {x y : Int} (h1 : L.length ≤ 64) (h2 : (grp L && plcB x y) = false) : layE L x y = 1 := by
  unfold layE
  rw [if_neg (by omega), h2]; rfl
theorem layP_yes {L : List (Int × Int)} {x y : Int} (h : layE L x y = 0) : layP L x y = lay L x y := by rw [layP, if_pos h]
theorem layP_no {L : List (Int × Int)} {x y : Int} (h : layE L x y ≠ 0) : layP L x y = [] := by rw [layP, if_neg h]
/-- A place's two sides are not far. -/
theorem layAt_bound {n : Nat} {p x y : Int} {i : Nat} (hn : n ≤ 64) (hi : i < n) (hp0 : 0 ≤ p) (hp : p ≤ 4) :
    (-4096 ≤ (layAt n p x y i).1 - x ∧ (layAt n p x y i).1 - x ≤ 4096) ∧ (-4096 ≤ (layAt n p x y i).2 - y ∧ (layAt n p x y i).2 - y ≤ 4096) := by
  have h1 := colF_pos n
  have h8 := colF_le n
  have hr := rowF_le hn
  have hm : i % colF n < colF n := Nat.mod_lt _ (by omega)
  have hd : i / colF n ≤ i := Nat.div_le_self _ _
  exact ⟨plc1_bound hp0 (by omega) (by omega) (by omega), plc1_bound hp0 (by omega) (by omega) (by omega)⟩
end Go.Proofs.Ytankkngjhgpcaaa
