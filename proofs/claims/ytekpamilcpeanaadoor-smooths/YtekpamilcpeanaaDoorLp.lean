/-
  Lines and smoothed paths, in plain words: no run of the program. Smoothed paths, in plain words. Lists of cells: read wherever they begin (CeR), in a row of the call's own (Cn).
-/
import Derived.Test.YtekpamilcpeanaaDoorAp
import Derived.Test.YtekpamilcpeanaaDoorRPath
import Derived.Laws.MakeOwn
namespace Go.Proofs.YtekpamilcpeanaaDoor
open Go.RowKit Go.Shelf
set_option linter.unusedVariables false
set_option linter.unusedSimpArgs false
/-- The sign of a number. -/
def sg (n : Int) : Int := if n < 0 then -1 else if 0 < n then 1 else 0
theorem sg_range (n : Int) : -1 ≤ sg n ∧ sg n ≤ 1 := by unfold sg; split <;> (try split) <;> omega
theorem sg_zero {n : Int} (h : sg n = 0) : n = 0 := by
  unfold sg at h
  split at h
  · cases h
  · split at h
    · cases h
    · omega
theorem sg_three (n : Int) : (n < 0 ∧ sg n = -1) ∨ (n = 0 ∧ sg n = 0) ∨ (0 < n ∧ sg n = 1) := by
  unfold sg
  split
  · omega
  · split <;> omega
/-- So many cells on towards another one. -/
def lnF : Nat → Int → Int → Int → Int → List (Int × Int)
  | 0, _, _, _, _ => []
  | n + 1, x, y, p, q => (x + sg (p - x), y + sg (q - y)) :: lnF n (x + sg (p - x)) (y + sg (q - y)) p q
/-- How many cells a line has. -/
def lnN (x y p q : Int) : Nat := (max (amt (x - p)) (amt (y - q))).toNat
theorem amt_nonneg (a : Int) : 0 ≤ amt a := by unfold amt; split <;> omega
theorem lnN_zero {x y p q : Int} (h : lnN x y p q = 0) : x = p ∧ y = q := by
  have h1 := amt_nonneg (x - p)
  have h2 := amt_nonneg (y - q)
  unfold lnN at h
  unfold amt at *
  split at h <;> split at h <;> omega
theorem lnN_self (x y : Int) : lnN x y x y = 0 := by simp [lnN, amt]
theorem amt_succ {x p : Int} : max (amt (x - p) - 1) 0 = amt (x + sg (p - x) - p) := by
  unfold amt sg
  split <;> split <;> (try split) <;> (try split) <;> omega
theorem lnN_succ {x y p q : Int} (h : ¬ (x = p ∧ y = q)) : lnN x y p q = lnN (x + sg (p - x)) (y + sg (q - y)) p q + 1 := by
  have h1 := amt_nonneg (x - p)
  have h2 := amt_nonneg (y - q)
  have h0 : ¬ max (amt (x - p)) (amt (y - q)) = 0 := fun e => h (lnN_zero (by unfold lnN; omega))
  unfold lnN
  rw [← amt_succ, ← amt_succ]
  omega
/-- A step towards: no further than the end. -/
theorem toward_in {x p a b : Int} (h1 : a ≤ x ∧ x ≤ b) (h2 : a ≤ p ∧ p ≤ b) : a ≤ x + sg (p - x) ∧ x + sg (p - x) ≤ b := by
  unfold sg
  split <;> (try split) <;> omega
theorem nrC_toward {x y p q : Int} (h1 : nrC x y = true) (h2 : nrC p q = true) : nrC (x + sg (p - x)) (y + sg (q - y)) = true := by
  rw [nrC_iff] at *
  exact ⟨toward_in h1.1 h2.1, toward_in h1.2 h2.2⟩
theorem lnF_len : ∀ (n : Nat) (x y p q : Int), (lnF n x y p q).length = n
  | 0, _, _, _, _ => rfl
  | n + 1, x, y, p, q => by rw [lnF, List.length_cons, lnF_len]
/-- The line. -/
def lineL (x y p q : Int) : List (Int × Int) := if nrC x y = true ∧ nrC p q = true ∧ lnN x y p q ≤ 16384 then lnF (lnN x y p q) x y p q else []
/-- Where a path leads to. -/
def endL : Int × Int → List (Int × Int) → Int × Int
  | c, [] => c
  | _, q :: P => endL q P
theorem endL_append (c : Int × Int) (L M : List (Int × Int)) : endL c (L ++ M) = endL (endL c L) M := by
  induction L generalizing c with
  | nil => rfl
  | cons q L ih => exact ih q
theorem lnF_end : ∀ (n : Nat) (x y p q : Int), lnN x y p q = n → endL (x, y) (lnF n x y p q) = (p, q)
  | 0, x, y, p, q, h => by rw [lnF, endL, (lnN_zero h).1, (lnN_zero h).2]
  | n + 1, x, y, p, q, h => by
    have hne : ¬ (x = p ∧ y = q) := by rintro ⟨rfl, rfl⟩; rw [lnN_self] at h; cases h
    rw [lnF, endL]
    exact lnF_end n _ _ p q (by have := lnN_succ hne; omega)
/-- The direction of a step towards. -/
theorem dir_of : ∀ (a b : Fin 3), ¬ (a.val = 1 ∧ b.val = 1) → ∃ k : Fin 8, dX k.val = (a.val : Int) - 1 ∧ dY k.val = (b.val : Int) - 1 := by decide
theorem step_dir {x y p q : Int} (h1 : nrC x y = true) (h2 : nrC p q = true) (h : ¬ (x = p ∧ y = q)) : ∃ k : Nat, k < 8 ∧ sB x y k = true ∧ x + sg (p - x) = x + dX k ∧ y + sg (q - y) = y + dY k := by
  have ra := sg_range (p - x)
  have rb := sg_range (q - y)
  have hz : ¬ (sg (p - x) = 0 ∧ sg (q - y) = 0) := by
    rintro ⟨h3, h4⟩
    have := sg_zero h3
    have := sg_zero h4
    omega
  obtain ⟨k, e1, e2⟩ := dir_of ⟨(sg (p - x) + 1).toNat, by omega⟩ ⟨(sg (q - y) + 1).toNat, by omega⟩ (by simp only []; omega)
  simp only [] at e1 e2
  refine ⟨k.val, k.isLt, ?_, by omega, by omega⟩
  have hn := nrC_toward h1 h2
  have d1 : dX k.val = sg (p - x) := by omega
  have d2 : dY k.val = sg (q - y) := by omega
  unfold sB
  rw [h1, Bool.and_true, Bool.and_eq_true]
  refine ⟨(isD_iff _).2 (by have := k.isLt; omega), ?_⟩
  rw [Int.toNat_natCast, d1, d2]
  exact hn
theorem dirF_form {f : Nat → Bool} : ∀ n k, dirF f k n = -1 ∨ ∃ j, k ≤ j ∧ j < k + n ∧ f j = true ∧ dirF f k n = (j : Int)
  | 0, k => .inl rfl
  | n + 1, k => by
    rw [dirF]
    split
    · rename_i h
      exact .inr ⟨k, Nat.le_refl _, by omega, h, rfl⟩
    · rcases dirF_form n (k + 1) with h | ⟨j, h1, h2, h3, h4⟩
      · exact .inl h
      · exact .inr ⟨j, by omega, by omega, h3, h4⟩
theorem dirN_form (x y p q : Int) : dirN x y p q = -1 ∨ ∃ j : Nat, j < 8 ∧ sB x y j = true ∧ p = x + dX j ∧ q = y + dY j ∧ dirN x y p q = (j : Int) := by
  rcases dirF_form (f := hitD x y p q) (8 - 0) 0 with h | ⟨j, h1, h2, h3, h4⟩
  · exact .inl h
  · refine .inr ⟨j, by omega, ?_, ?_, ?_, h4⟩
    all_goals
      rw [hitD, Bool.and_eq_true, Bool.and_eq_true, decide_eq_true_eq, decide_eq_true_eq] at h3
      obtain ⟨a, b, c⟩ := h3
    · exact a
    · rw [sX_yes a] at b; exact b.symm
    · rw [sY_yes a] at c; exact c.symm
/-- A legal step. -/
theorem lg_form {S : Int → Int → Bool} {x y p q : Int} (h : lg S x y (dirN x y p q) = true) : ∃ j : Nat, j < 8 ∧ sB x y j = true ∧ p = x + dX j ∧ q = y + dY j ∧ dirN x y p q = (j : Int) ∧ S x y = true ∧ S p q = true := by
  rcases dirN_form x y p q with e | ⟨j, h1, h2, h3, h4, h5⟩
  · rw [e, lg_neg (by decide)] at h; cases h
  · refine ⟨j, h1, h2, h3, h4, h5, ?_⟩
    rw [h5, lg, Bool.and_eq_true, Bool.and_eq_true, Bool.and_eq_true, sX_yes h2, sY_yes h2, Int.toNat_natCast, ← h3, ← h4] at h
    exact ⟨h.2.1, h.2.2.1⟩
theorem sB_near {x y : Int} {j : Nat} (h : sB x y j = true) : nrC x y = true ∧ nrC (x + dX j) (y + dY j) = true := by
  rw [sB, Bool.and_eq_true, Bool.and_eq_true, Int.toNat_natCast] at h
  exact ⟨h.1.2, h.2⟩
theorem legF_append {S : Int → Int → Bool} : ∀ (L M : List (Int × Int)) (x y : Int), legF S x y (L ++ M) = (legF S x y L && legF S (endL (x, y) L).1 (endL (x, y) L).2 M)
  | [], M, x, y => by rw [List.nil_append, legF, Bool.true_and, endL]
  | q :: L, M, x, y => by rw [List.cons_append, legF, legF, legF_append L M, Bool.and_assoc, endL]
/-- What a path's steps cost. -/
def cst : Int → Int → List (Int × Int) → Int
  | _, _, [] => 0
  | x, y, q :: P => co (dirN x y q.1 q.2) + cst q.1 q.2 P
theorem cst_append : ∀ (L M : List (Int × Int)) (x y : Int), cst x y (L ++ M) = cst x y L + cst (endL (x, y) L).1 (endL (x, y) L).2 M
  | [], M, x, y => by simp only [List.nil_append, cst, endL]; omega
  | (a, b) :: L, M, x, y => by simp only [List.cons_append, cst, cst_append L M, endL]; omega
theorem costF_leg {S : Int → Int → Bool} : ∀ (P : List (Int × Int)) (x y n : Int), legF S x y P = true → costF x y P n = n + cst x y P
  | [], x, y, n, _ => by rw [costF, cst]; omega
  | q :: P, x, y, n, h => by
    rw [legF, Bool.and_eq_true] at h
    obtain ⟨j, h1, h2, h3, h4, h5, -⟩ := lg_form h.1
    rw [costF, if_neg (by rw [h5]; omega), cst, costF_leg P _ _ _ h.2]
    omega
theorem co_nat {j : Nat} (hj : j < 8) : co (j : Int) = if dX j = 0 ∨ dY j = 0 then 10 else 14 := by
  have : ∀ t : Fin 8, co ((t.val : Nat) : Int) = if dX t.val = 0 ∨ dY t.val = 0 then 10 else 14 := by decide
  exact this ⟨j, hj⟩
/-- A step towards costs what Octile turns by. -/
theorem oct_toward {x y p q : Int} {k : Nat} (hk : k < 8) (e1 : x + sg (p - x) = x + dX k) (e2 : y + sg (q - y) = y + dY k) : co (k : Int) + octN (x + sg (p - x) - p) (y + sg (q - y) - q) = octN (x - p) (y - q) := by
  have d1 : dX k = sg (p - x) := by omega
  have d2 : dY k = sg (q - y) := by omega
  have hz : ¬ (dX k = 0 ∧ dY k = 0) := by
    have : ∀ t : Fin 8, ¬ (dX t.val = 0 ∧ dY t.val = 0) := by decide
    exact this ⟨k, hk⟩
  rw [co_nat hk]
  rw [d1, d2] at *
  clear e1 e2 d1 d2
  generalize hu : p - x = u at *
  generalize hv : q - y = v at *
  have eu : x + sg u - p = sg u - u := by omega
  have ev : y + sg v - q = sg v - v := by omega
  have eu2 : x - p = - u := by omega
  have ev2 : y - q = - v := by omega
  rw [eu, ev, eu2, ev2]
  clear eu ev eu2 ev2 hu hv
  have hu := sg_three u
  have hv := sg_three v
  generalize sg u = a at *
  generalize sg v = b at *
  unfold octN amt
  rcases hu with ⟨hu, rfl⟩ | ⟨hu, rfl⟩ | ⟨hu, rfl⟩ <;> rcases hv with ⟨hv, rfl⟩ | ⟨hv, rfl⟩ | ⟨hv, rfl⟩ <;> (split <;> split <;> split <;> split <;> (try split) <;> omega)
theorem cst_line : ∀ (n : Nat) (x y p q : Int), nrC x y = true → nrC p q = true → lnN x y p q = n → cst x y (lnF n x y p q) = octN (x - p) (y - q) ∧ ∀ m, costF x y (lnF n x y p q) m = m + octN (x - p) (y - q)
  | 0, x, y, p, q, h1, h2, h => by
    obtain ⟨rfl, rfl⟩ := lnN_zero h
    refine ⟨?_, fun m => ?_⟩
    · simp [lnF, cst, octN, amt]
    · simp [lnF, costF, octN, amt]
  | n + 1, x, y, p, q, h1, h2, h => by
    have hne : ¬ (x = p ∧ y = q) := by rintro ⟨rfl, rfl⟩; rw [lnN_self] at h; cases h
    obtain ⟨k, hk, hs, e1, e2⟩ := step_dir h1 h2 hne
    have hd : dirN x y (x + sg (p - x)) (y + sg (q - y)) = k := by rw [e1, e2]; exact dirN_self hk hs
    have ih := cst_line n (x + sg (p - x)) (y + sg (q - y)) p q (nrC_toward h1 h2) h2 (by have := lnN_succ hne; omega)
    have ho := oct_toward hk e1 e2
    refine ⟨?_, fun m => ?_⟩
    · rw [lnF, cst, hd, ih.1]; exact ho
    · rw [lnF, costF, hd, if_neg (by omega), ih.2]; omega
/-- A legal path costs Octile at least, and has as many cells as its ends are apart. -/
theorem leg_oct {S : Int → Int → Bool} : ∀ (P : List (Int × Int)) (x y : Int), legF S x y P = true → octN (x - (endL (x, y) P).1) (y - (endL (x, y) P).2) ≤ cst x y P ∧ lnN x y (endL (x, y) P).1 (endL (x, y) P).2 ≤ P.length
  | [], x, y, _ => by
    rw [endL, cst]
    refine ⟨?_, ?_⟩
    · simp [octN, amt]
    · rw [lnN_self]; exact Nat.le_refl _
  | q :: P, x, y, h => by
    rw [legF, Bool.and_eq_true] at h
    obtain ⟨j, h1, h2, h3, h4, h5, -⟩ := lg_form h.1
    obtain ⟨i1, i2⟩ := leg_oct P q.1 q.2 h.2
    rw [endL, cst, h5]
    generalize endL q P = e at *
    have hs := octN_step ⟨j, h1⟩ (x - e.1) (y - e.2)
    simp only [] at hs
    have ra := dX_range j
    have rb := dY_range j
    refine ⟨?_, ?_⟩
    · rw [show x - e.1 + dX j = q.1 - e.1 by omega, show y - e.2 + dY j = q.2 - e.2 by omega] at hs
      omega
    · rw [List.length_cons]
      unfold lnN amt at *
      split <;> split <;> split at i2 <;> split at i2 <;> omega
end Go.Proofs.YtekpamilcpeanaaDoor
namespace Go.Proofs.YtekpamilcpeanaaDoor
open Go.RowKit Go.Shelf
set_option linter.unusedVariables false
set_option linter.unusedSimpArgs false
theorem lineL_is {x y p q : Int} (h1 : nrC x y = true) (h2 : nrC p q = true) (h3 : lnN x y p q ≤ 16384) : lineL x y p q = lnF (lnN x y p q) x y p q := if_pos ⟨h1, h2, h3⟩
theorem lineL_len (x y p q : Int) : (lineL x y p q).length ≤ 16384 := by
  unfold lineL
  split
  · rename_i h; rw [lnF_len]; exact h.2.2
  · exact Nat.zero_le _
/-- The line to the next cell is the step. -/
theorem line_step {x y : Int} {k : Nat} (hk : k < 8) (h : sB x y k = true) : lineL x y (x + dX k) (y + dY k) = [(x + dX k, y + dY k)] := by
  obtain ⟨n1, n2⟩ := sB_near h
  have ra := dX_range k
  have rb := dY_range k
  have hz : ¬ (dX k = 0 ∧ dY k = 0) := by
    have : ∀ t : Fin 8, ¬ (dX t.val = 0 ∧ dY t.val = 0) := by decide
    exact this ⟨k, hk⟩
  have h1 : lnN x y (x + dX k) (y + dY k) = 1 := by
    unfold lnN amt
    split <;> split <;> omega
  have e : ∀ n : Int, -1 ≤ n ∧ n ≤ 1 → sg n = n := fun n hn => by unfold sg; split <;> (try split) <;> omega
  rw [lineL_is n1 n2 (by omega), h1, lnF, lnF, show x + dX k - x = dX k by omega, show y + dY k - y = dY k by omega, e _ ra, e _ rb]
/-- Is the line to the cell there legal? -/
def okN (S : Int → Int → Bool) (x y : Int) (P : List (Int × Int)) (n : Nat) : Bool := match P[n]? with
  | some q => legV S x y (lineL x y q.1 q.2)
  | none => false
theorem okN_is {S : Int → Int → Bool} {x y : Int} {P : List (Int × Int)} {n : Nat} {q : Int × Int} (hq : P[n]? = some q) : okN S x y P n = legV S x y (lineL x y q.1 q.2) := by
  unfold okN
  rw [hq]
/-- How many cells on the farthest one is to which the line is legal, of so many. -/
def farF (S : Int → Int → Bool) (x y : Int) (P : List (Int × Int)) : Nat → Nat
  | 0 => 1
  | 1 => 1
  | n + 2 => if okN S x y P (n + 1) = true then n + 2 else farF S x y P (n + 1)
theorem farF_hit {S : Int → Int → Bool} {x y : Int} {P : List (Int × Int)} {n : Nat} {q : Int × Int} (hn : 2 ≤ n) (hq : P[n - 1]? = some q) (h : legV S x y (lineL x y q.1 q.2) = true) : farF S x y P n = n := by
  obtain ⟨m, rfl⟩ : ∃ m, n = m + 2 := ⟨n - 2, by omega⟩
  rw [show m + 2 - 1 = m + 1 by omega] at hq
  rw [farF, okN_is hq, if_pos h]
theorem farF_miss {S : Int → Int → Bool} {x y : Int} {P : List (Int × Int)} {n : Nat} {q : Int × Int} (hn : 2 ≤ n) (hq : P[n - 1]? = some q) (h : legV S x y (lineL x y q.1 q.2) = false) : farF S x y P n = farF S x y P (n - 1) := by
  obtain ⟨m, rfl⟩ : ∃ m, n = m + 2 := ⟨n - 2, by omega⟩
  rw [show m + 2 - 1 = m + 1 by omega] at hq ⊢
  rw [farF, okN_is hq, h]
  rfl
theorem farF_one {S : Int → Int → Bool} {x y : Int} {P : List (Int × Int)} {n : Nat} (hn : n ≤ 1) : farF S x y P n = 1 := by
  rcases n with _ | _ | n
  · rfl
  · rfl
  · omega
theorem farF_range {S : Int → Int → Bool} {x y : Int} {P : List (Int × Int)} : ∀ n, 1 ≤ n → 1 ≤ farF S x y P n ∧ farF S x y P n ≤ n
  | 0, h => by omega
  | 1, _ => by rw [farF]; omega
  | n + 2, _ => by
    rw [farF]
    split
    · omega
    · have := farF_range (S := S) (x := x) (y := y) (P := P) (n + 1) (by omega); omega
theorem farF_leg {S : Int → Int → Bool} {x y : Int} {P : List (Int × Int)} : ∀ n, n ≤ P.length → 2 ≤ farF S x y P n → ∃ q, P[farF S x y P n - 1]? = some q ∧ legV S x y (lineL x y q.1 q.2) = true
  | 0, _, h => by rw [farF] at h; omega
  | 1, _, h => by rw [farF] at h; omega
  | n + 2, hl, h => by
    obtain ⟨q, hq⟩ : ∃ q, P[n + 1]? = some q := ⟨_, List.getElem?_eq_getElem (by omega)⟩
    cases hg : legV S x y (lineL x y q.1 q.2)
    · rw [farF_miss (by omega) hq hg] at h ⊢
      exact farF_leg (n + 1) (by omega) h
    · rw [farF_hit (by omega) hq hg]
      exact ⟨q, hq, hg⟩
/-- The farthest one of the next 32. -/
def far (S : Int → Int → Bool) (x y : Int) (P : List (Int × Int)) : Nat := farF S x y P (min P.length 32)
/-- The cell so many on. -/
def cellN (P : List (Int × Int)) (n : Nat) : Int × Int := (P[n - 1]?).getD (0, 0)
/-- The smoothed path. -/
def smF (S : Int → Int → Bool) : Nat → Int → Int → List (Int × Int) → List (Int × Int)
  | 0, _, _, _ => []
  | m + 1, x, y, P => if P = [] then [] else lineL x y (cellN P (far S x y P)).1 (cellN P (far S x y P)).2 ++ smF S m (cellN P (far S x y P)).1 (cellN P (far S x y P)).2 (P.drop (far S x y P))
theorem smF_nil (S : Int → Int → Bool) (m : Nat) (x y : Int) : smF S m x y [] = [] := by cases m <;> rfl
theorem smF_more {S : Int → Int → Bool} {m : Nat} {x y : Int} {P : List (Int × Int)} {n : Nat} {q : Int × Int} (hP : P ≠ []) (hn : far S x y P = n) (hq : P[n - 1]? = some q) : smF S (m + 1) x y P = lineL x y q.1 q.2 ++ smF S m q.1 q.2 (P.drop n) := by
  subst hn
  have e : cellN P (far S x y P) = q := by unfold cellN; rw [hq]; rfl
  rw [smF, if_neg hP, e]
theorem endL_take : ∀ (P : List (Int × Int)) (n : Nat) (q c : Int × Int), P[n]? = some q → endL c (P.take (n + 1)) = q
  | [], n, q, c, h => by simp at h
  | r :: P, 0, q, c, h => by simp at h; subst h; rfl
  | r :: P, n + 1, q, c, h => by
    rw [List.take_succ_cons, endL]
    exact endL_take P n q r (by simpa using h)
theorem far_range {S : Int → Int → Bool} {x y : Int} {P : List (Int × Int)} (hP : P ≠ []) : 1 ≤ far S x y P ∧ far S x y P ≤ P.length ∧ far S x y P ≤ 32 := by
  have h : 1 ≤ P.length := List.length_pos_iff.2 hP
  have := farF_range (S := S) (x := x) (y := y) (P := P) (min P.length 32) (by omega)
  unfold far
  omega
/-- What stands so many cells on along a legal path: near, and its line is no longer. -/
theorem leg_at {S : Int → Int → Bool} {x y : Int} {P : List (Int × Int)} {n : Nat} {q : Int × Int} (h : legF S x y P = true) (hq : P[n]? = some q) : nrC x y = true ∧ nrC q.1 q.2 = true ∧ lnN x y q.1 q.2 ≤ n + 1 ∧ S x y = true ∧ legF S q.1 q.2 (P.drop (n + 1)) = true ∧ octN (x - q.1) (y - q.2) ≤ cst x y (P.take (n + 1)) := by
  have hn := (List.getElem?_eq_some_iff.1 hq).1
  have e := (List.take_append_drop (n + 1) P).symm
  have he := endL_take P n q (x, y) hq
  rw [e, legF_append, he, Bool.and_eq_true] at h
  obtain ⟨h1, h2⟩ := h
  have ho := leg_oct _ x y h1
  rw [he] at ho
  have hl : (P.take (n + 1)).length = n + 1 := by rw [List.length_take]; omega
  have hnear : ∀ (L : List (Int × Int)) (x y : Int), L ≠ [] → legF S x y L = true → nrC x y = true ∧ S x y = true ∧ nrC (endL (x, y) L).1 (endL (x, y) L).2 = true := by
    intro L
    induction L with
    | nil => intro x y h; exact absurd rfl h
    | cons r L ih =>
      intro x y _ h
      rw [legF, Bool.and_eq_true] at h
      obtain ⟨j, j1, j2, j3, j4, -, j5, -⟩ := lg_form h.1
      obtain ⟨s1, s2⟩ := sB_near j2
      refine ⟨s1, j5, ?_⟩
      rw [endL]
      by_cases hL : L = []
      · subst hL; rw [endL, j3, j4]; exact s2
      · exact (ih r.1 r.2 hL h.2).2.2
  have hn2 := hnear (P.take (n + 1)) x y (by intro hh; rw [hh] at hl; cases hl) h1
  rw [he] at hn2
  exact ⟨hn2.1, hn2.2.2, by omega, hn2.2.1, h2, ho.1⟩
/-- The farthest cell's line is legal, also where it is the next one. -/
theorem far_leg {S : Int → Int → Bool} {x y : Int} {P : List (Int × Int)} {n : Nat} {q : Int × Int} (h : legF S x y P = true) (hP : P ≠ []) (hn : far S x y P = n) (hq : P[n - 1]? = some q) : legV S x y (lineL x y q.1 q.2) = true := by
  have hr := far_range (S := S) (x := x) (y := y) hP
  by_cases h1 : n = 1
  · subst h1
    obtain ⟨r, R, rfl⟩ : ∃ r R, P = r :: R := by cases P with | nil => exact absurd rfl hP | cons r R => exact ⟨r, R, rfl⟩
    simp at hq
    subst hq
    rw [legF, Bool.and_eq_true] at h
    obtain ⟨j, j1, j2, j3, j4, j5, j6, -⟩ := lg_form h.1
    have hl := line_step j1 j2
    rw [← j3, ← j4] at hl
    rw [hl, legV, j6, Bool.true_and, legF, legF, Bool.and_true]
    exact h.1
  · unfold far at hn
    obtain ⟨q', e1, e2⟩ := farF_leg (S := S) (x := x) (y := y) (P := P) (min P.length 32) (by omega) (by unfold far at hr; omega)
    rw [hn, hq] at e1
    cases e1
    exact e2
/-- The next one's line is the path's own step. -/
theorem far_one {S : Int → Int → Bool} {x y : Int} {P : List (Int × Int)} {q : Int × Int} (h : legF S x y P = true) (hq : P[0]? = some q) : lineL x y q.1 q.2 = [q] := by
  obtain ⟨r, R, rfl⟩ : ∃ r R, P = r :: R := by cases P with | nil => simp at hq | cons r R => exact ⟨r, R, rfl⟩
  simp at hq
  subst hq
  rw [legF, Bool.and_eq_true] at h
  obtain ⟨j, j1, j2, j3, j4, j5, j6, -⟩ := lg_form h.1
  have hl := line_step j1 j2
  rw [← j3, ← j4] at hl
  exact hl
/-- A smoothed path is legal, leads to the same cell, and costs no more. -/
theorem sm_good (S : Int → Int → Bool) : ∀ (m : Nat) (x y : Int) (P : List (Int × Int)), P.length ≤ m → legF S x y P = true → legF S x y (smF S m x y P) = true ∧ endL (x, y) (smF S m x y P) = endL (x, y) P ∧ cst x y (smF S m x y P) ≤ cst x y P ∧ (smF S m x y P).length ≤ P.length
  | 0, x, y, P, hm, h => by
    have := List.eq_nil_of_length_eq_zero (Nat.le_zero.1 hm)
    subst this
    exact ⟨rfl, rfl, Int.le_refl _, Nat.le_refl _⟩
  | m + 1, x, y, P, hm, h => by
    by_cases hP : P = []
    · subst hP; exact ⟨rfl, rfl, Int.le_refl _, Nat.le_refl _⟩
    have hr := far_range (S := S) (x := x) (y := y) hP
    obtain ⟨n, hn⟩ : ∃ n, far S x y P = n := ⟨_, rfl⟩
    obtain ⟨q, hq⟩ : ∃ q, P[n - 1]? = some q := ⟨_, List.getElem?_eq_getElem (by omega)⟩
    have hl := far_leg h hP hn hq
    obtain ⟨a1, a2, a3, a4, a5, a6⟩ := leg_at h hq
    rw [show n - 1 + 1 = n by omega] at a3 a5 a6
    rw [smF_more hP hn hq]
    have hli := lineL_is a1 a2 (by omega)
    rw [legV, a4, Bool.true_and] at hl
    have he : endL (x, y) (lineL x y q.1 q.2) = q := by rw [hli]; exact lnF_end _ _ _ _ _ rfl
    have hc : cst x y (lineL x y q.1 q.2) = octN (x - q.1) (y - q.2) := by rw [hli]; exact (cst_line _ _ _ _ _ a1 a2 rfl).1
    have ih := sm_good S m q.1 q.2 (P.drop n) (by rw [List.length_drop]; omega) a5
    have e := (List.take_append_drop n P).symm
    have hq' : P[n - 1]? = some q := hq
    have het : endL (x, y) (P.take n) = q := by have := endL_take P (n - 1) q (x, y) hq; rwa [show n - 1 + 1 = n by omega] at this
    refine ⟨?_, ?_, ?_, ?_⟩
    · rw [legF_append, hl, he, Bool.true_and]; exact ih.1
    · rw [endL_append, he]
      have := ih.2.1
      rw [this]
      conv => rhs; rw [e, endL_append, het]
    · rw [cst_append, he, hc]
      have : cst x y P = cst x y (P.take n) + cst q.1 q.2 (P.drop n) := by
        conv => lhs; rw [e, cst_append, het]
      rw [this]
      have := ih.2.2.1
      omega
    · rw [List.length_append, hli, lnF_len]
      have := ih.2.2.2
      rw [List.length_drop] at this
      omega
/-- How many of a path's steps go in another direction than the one ahead. -/
def turnF : Int → Int → Int → List (Int × Int) → Int → Int
  | _, _, _, [], n => n
  | l, x, y, q :: P, n => if dirN x y q.1 q.2 < 0 then -1 else turnF (dirN x y q.1 q.2) q.1 q.2 P (if 0 ≤ l ∧ dirN x y q.1 q.2 ≠ l then n + 1 else n)
end Go.Proofs.YtekpamilcpeanaaDoor
namespace Go.Proofs.YtekpamilcpeanaaDoor
open Go.RowKit Go.Shelf
set_option linter.unusedVariables false
set_option linter.unusedSimpArgs false
theorem append_nilC (w : World) (g : Nat) (ty : TypeId) : (Builtin.append_ #[26, 26] ty #[.slice (some ⟨g, 0, none⟩) 0 0, .slice none 0 0]).run Tryd.prog w = .ok (.slice (some ⟨g, 0, none⟩) 0 0) w := by kernel_rfl
theorem info_C : (Tryd.prog.info? 23).map (fun i => (i.zero, i.size, i.bytes)) = some (some (.agg #[.int .i64 0, .int .i64 0]), 2, 16) := by kernel_rfl
def ceCs (q : Int × Int) : List Value := [.int .i64 q.1, .int .i64 q.2]
theorem ce_len (P : List (Int × Int)) : (P.flatMap ceCs).length = P.length * 2 := by
  induction P with
  | nil => rfl
  | cons q r ih => rw [List.flatMap_cons, List.length_append, ih, List.length_cons]; simp [ceCs]; omega
theorem ce_get : ∀ (P : List (Int × Int)) (i : Nat) (q : Int × Int) (j : Nat), P[i]? = some q → j < 2 → (P.flatMap ceCs)[i * 2 + j]? = (ceCs q)[j]?
  | [], i, q, j, h, hj => by simp at h
  | p :: r, 0, q, j, h, hj => by
    simp at h; subst h
    rw [List.flatMap_cons, Nat.zero_mul, Nat.zero_add, List.getElem?_append_left (by simpa [ceCs] using hj)]
  | p :: r, i + 1, q, j, h, hj => by
    have := ce_get r i q j (by simpa using h) hj
    rw [List.flatMap_cons, List.getElem?_append_right (by simp [ceCs]; omega)]
    rw [← this]
    congr 1
    simp [ceCs]; omega
theorem ce_one {P : List (Int × Int)} : ∀ u ∈ P.flatMap ceCs, u.oneCell' = true := by
  intro u hu
  obtain ⟨q, -, hq⟩ := List.mem_flatMap.1 hu
  simp [ceCs] at hq
  rcases hq with rfl | rfl <;> rfl
theorem CeR.cellsAt {w : World} {a : Option Addr} {P : List (Int × Int)} {cap : Nat} (h : CeR w (.slice a P.length cap) P) : ∀ ad, a = some ad → ∀ j u, (P.flatMap ceCs)[j]? = some u → w.cell? (ad.add j) = some u := fun ad ha j u hu => by
  obtain ⟨a', cap', e, -, -, -, hat⟩ := h
  injection e with e1
  subst e1
  have hj : j < P.length * 2 := by have := (List.getElem?_eq_some_iff.1 hu).1; rwa [ce_len] at this
  obtain ⟨q, hq⟩ : ∃ q, P[j / 2]? = some q := ⟨_, List.getElem?_eq_getElem (by omega)⟩
  have hg := ce_get P (j / 2) q (j % 2) hq (by omega)
  rw [show j / 2 * 2 + j % 2 = j by omega] at hg
  rw [hg] at hu
  obtain ⟨g, o, e1, e2, c0, c1⟩ := hat (j / 2) q hq
  rw [ha] at e1
  cases e1
  rw [Addr.add_lit]
  have hm : j % 2 < 2 := by omega
  have hj5 : o + j = o + j / 2 * 2 + j % 2 := by omega
  rw [hj5]
  match hq : j % 2, hm with
  | 0, _ => rw [hq] at hu; cases hu; simpa using c0
  | 1, _ => rw [hq] at hu; cases hu; exact c1
theorem ceR_own {w : World} {v : Value} {P : List (Int × Int)} (h : w.ownsRow 0 23 2 v P.length (P.flatMap ceCs)) : CeR w v P := by
  rcases h.2 with ⟨e, h0⟩ | ⟨g, cap, cur, e, hb, hg, hn, hm, hs, ht⟩
  · exact ⟨none, 0, by rw [h0]; exact e, by omega, by rw [h0]; decide, fun _ => ⟨h0, rfl⟩, fun i t hi => by
      have := List.eq_nil_of_length_eq_zero h0; subst this; simp at hi⟩
  · refine ⟨_, cap, e, hn, Nat.le_trans hn hm, (fun h => by cases h), fun i q hi => ?_⟩
    have hc : ∀ j u, (ceCs q)[j]? = some u → j < 2 → w.cell? ⟨g, 0 + i * 2 + j, none⟩ = some u := fun j u hu hj => by
      have := h.cells (g := g) (by rw [e]; rfl) (i * 2 + j) u (by rw [ce_get P i q j hi hj]; exact hu)
      simpa [Addr.add_lit] using this
    exact ⟨g, 0, rfl, (Array.getElem?_eq_some_iff.1 hg).1, hc 0 _ rfl (by omega), hc 1 _ rfl (by omega)⟩
/-- append of a path onto an empty slice. -/
theorem append_path (w : World) (a : Option Addr) (cap : Nat) (P : List (Int × Int)) (h : CeR w (.slice a P.length cap) P) (hlen : P.length * 16 ≤ 140737488355328) :
    ∃ v3 w3, (Builtin.append_ #[26, 26] 26 #[.slice (some ⟨w.heap.size, 0, none⟩) 0 0, .slice a P.length cap]).run Tryd.prog (w.alloc (.cells #[] 23)) = .ok v3 w3 ∧ CeR w3 v3 P ∧ Below w.heap.size w w3 := by
  have hA := h.kept (box1 w (.cells #[] 23))
  obtain ⟨a', cap', e, h1, h2, h3, h4⟩ := h
  injection e with e1 e2 e3
  subst e1; subst e3
  cases a with
  | none =>
    obtain ⟨h0, rfl⟩ := h3 rfl
    rw [h0]
    refine ⟨_, _, append_nilC _ _ _, ?_, box1 _ _⟩
    have := List.eq_nil_of_length_eq_zero h0
    subst this
    exact ⟨some ⟨w.heap.size, 0, none⟩, 0, rfl, Nat.le_refl _, by decide, (fun h => by cases h), fun i q hq => by simp at hq⟩
  | some ad =>
    obtain ⟨fi, hf, hz, hs, hb⟩ := info_parts info_C
    have hbase : (w.alloc (.cells #[] 23)).ownsRow 0 23 2 (.slice (some ⟨w.heap.size, 0, none⟩) 0 0) 0 [] := World.ownsRow_made w #[] 0 (Nat.zero_le _) (by decide) rfl
    obtain ⟨v', w', hr, g2, g3, g4, g6⟩ := run_append_own_at (P := Tryd.prog) (w.alloc (.cells #[] 23)) 0 26 26 23 fi (.agg #[.int .i64 0, .int .i64 0]) 2 16 Tryd.underlying26 hf hz hs hb rfl (by decide) (.slice (some ⟨w.heap.size, 0, none⟩) 0 0) 0 [] hbase ad P.length cap (P.flatMap ceCs) (ce_len P) (hA.cellsAt ad rfl) ce_one (by omega) (by omega) (Nat.zero_le _)
    rw [Nat.zero_add, List.nil_append] at g2
    exact ⟨v', w', hr, ceR_own g2, (box1 w _).grown g3 (by simp) (fun j e => by cases e; exact Nat.le_refl _)⟩

/-- The slice v reads as the cells P, in memory of the call's own. -/
abbrev Cn (w : World) (v : Value) (P : List (Int × Int)) : Prop := Rw 23 2 ceCs w v P
theorem ceCs_len (q : Int × Int) : (ceCs q).length = 2 := rfl
theorem Cn.slice {w : World} {v : Value} {P : List (Int × Int)} (h : Cn w v P) : ∃ a c, v = .slice a P.length c := by
  obtain ⟨a, cap, e, -⟩ := Rw.form ceCs_len h
  exact ⟨a, cap, e⟩
theorem Cn.ceR {w : World} {v : Value} {P : List (Int × Int)} (h : Cn w v P) : CeR w v P := ceR_own h
/-- make of no cells, with room. -/
theorem Cn.make (w : World) (n : Nat) (hn : n ≤ 16384) : ∃ w', (Instr.makeSlice 26 (.int .i64 0) (.int .i64 (n : Int))).run Tryd.prog w = .ok (.slice (some ⟨w.heap.size, 0, none⟩) 0 n) w' ∧ Cn w' (.slice (some ⟨w.heap.size, 0, none⟩) 0 n) [] ∧ Below w.heap.size w w' ∧ w'.heap.size = w.heap.size + 1 := by
  obtain ⟨fi, hf, hz, h1, h8⟩ := info_parts info_C
  have hr := run_makeSlice (P := Tryd.prog) w 26 23 fi _ Tryd.underlying26 hf hz .i64 .i64 0 n (Int.le_refl _) (by omega) (by rw [h1, Int.toNat_natCast]; omega) (by rw [h8]; omega) (by omega)
  simp only [Int.toNat_zero, Int.toNat_natCast] at hr
  refine ⟨_, hr, World.ownsRow_made w _ n (Nat.zero_le _) (by unfold maxLen; omega) (by rw [h1]; exact size_madeCells _ _), box1 _ _, by simp⟩
/-- A slice of no cells that was built. -/
theorem Cn.built (w : World) : Cn (w.alloc (.cells #[] 23)) (.slice (some ⟨w.heap.size, 0, none⟩) 0 0) [] := World.ownsRow_made w #[] 0 (Nat.zero_le _) (by decide) rfl
/-- More behind: cells that are read wherever they begin. -/
theorem Cn.more {w : World} {v xv : Value} {L M : List (Int × Int)} (h : Cn w v L) (hM : CeR w xv M) (hlen : L.length + M.length ≤ 1000000000) :
    ∃ v' w', (Builtin.append_ #[26, 26] 26 #[v, xv]).run Tryd.prog w = .ok v' w' ∧ Cn w' v' (L ++ M) ∧ (∀ k, v'.ownBlock = some k → v.ownBlock = some k ∨ w.heap.size ≤ k) ∧ Turns (fun k => v.ownBlock = some k) w w' := by
  have hM' := hM
  obtain ⟨a, c, e, h1, h2, h3, -⟩ := hM'
  subst e
  cases a with
  | none =>
    obtain ⟨h0, rfl⟩ := h3 rfl
    have := List.eq_nil_of_length_eq_zero h0
    subst this
    obtain ⟨va, vc, rfl, hn, -⟩ := Rw.form ceCs_len h
    refine ⟨_, w, ?_, by rw [List.append_nil]; exact h, fun k e => .inl e, Turns.refl _ _⟩
    rw [List.length_nil]
    unfold Builtin.append_
    go_simp
    cases va <;> rfl
  | some ad =>
    obtain ⟨fi, hf, hz, h1', h8⟩ := info_parts info_C
    obtain ⟨v', w', q1, q2, q3, q4, q5⟩ := run_append_own_at (P := Tryd.prog) w 0 26 26 23 fi (.agg #[.int .i64 0, .int .i64 0]) 2 16 Tryd.underlying26 hf hz h1' h8 rfl (by decide) v L.length _ h ad M.length c (M.flatMap ceCs) (ce_len M) (hM.cellsAt ad rfl) ce_one (by unfold maxLen; omega) (by omega) (Nat.zero_le _)
    refine ⟨v', w', q1, ?_, fun k e => ?_, Turns.of_grown (S := fun k => v.ownBlock = some k) q3 (fun k e => e)⟩
    · unfold Cn Rw
      rw [List.flatMap_append, List.length_append]
      exact q2
    · rcases q5 with q | q
      · exact .inl (q ▸ e)
      · rw [q] at e; cases e; exact .inr (Nat.le_refl _)
/-- One more behind. -/
theorem Cn.push {w : World} {v : Value} {L : List (Int × Int)} (h : Cn w v L) (x y : Int) (hlen : L.length ≤ 1000000) :
    ∃ v' w', (Builtin.append_ #[26, 26] 26 #[v, .slice (some ⟨w.heap.size, 0, none⟩) 1 1]).run Tryd.prog (w.alloc (.cells #[.int .i64 x, .int .i64 y] 23)) = .ok v' w' ∧ Cn w' v' (L ++ [(x, y)]) ∧ (∀ k, v'.ownBlock = some k → v.ownBlock = some k ∨ w.heap.size < k) ∧ Turns (fun k => v.ownBlock = some k) w w' := by
  have hR : Cn (w.alloc (.cells #[.int .i64 x, .int .i64 y] 23)) (.slice (some ⟨w.heap.size, 0, none⟩) 1 1) [(x, y)] := ⟨rfl, .inr ⟨w.heap.size, 1, _, rfl, Nat.zero_le _, heap_alloc_new w _, Nat.le_refl _, by decide, rfl, rfl⟩⟩
  obtain ⟨v', w', q1, q2, q3, q4⟩ := Cn.more (h.upto (box1 w (.cells #[.int .i64 x, .int .i64 y] 23))) hR.ceR (by simp; omega)
  refine ⟨v', w', q1, q2, fun k e => ?_, (Turns.of_below (box1 w _)).trans (q4.mono (fun k _ e => .inl e))⟩
  rcases q3 k e with q | q
  · exact .inl q
  · simp at q; exact .inr (by omega)
/-- What an append of rows whose memory is the call's own leaves below. -/
theorem own_below {B : Nat} {w w' : World} {v : Value} (ht : Turns (fun k => v.ownBlock = some k) w w') (ho : ∀ k, v.ownBlock = some k → B ≤ k) (hB : B ≤ w.heap.size) : Below B w w' := ht.below (fun k e => ho k e) hB
theorem eqC (a b u v : Int) (w : World) : (binOp .eql 23 (cel a b) (cel u v)).run Tryd.prog w = .ok (.bool (decide (a = u) && decide (b = v))) w := by
  by_cases h1 : a = u
  · subst h1
    by_cases h2 : b = v
    · subst h2; go_simp
    · go_simp
  · go_simp
set_option maxHeartbeats 1000000 in
theorem neC (a b u v : Int) (w : World) : (binOp .neq 23 (cel a b) (cel u v)).run Tryd.prog w = .ok (.bool !(decide (a = u) && decide (b = v))) w := by
  by_cases h1 : a = u
  · subst h1
    by_cases h2 : b = v
    · subst h2; go_simp
    · go_simp
  · go_simp
attribute [local go_sem] Oper.semAt_some
theorem wpList_append_run {P : Program} {w : World} {ops : Array Oper} {rest : List Oper} {o : Oper} {a : Act} {Q : Exit → Act → World → Prop}
    (hgd : o.guard = none) (s x : Operand) (t : TypeId) (ho : o.op = .call { callee := .builtin .append, args := #[s, x], argTypes := #[t, t] })
    (v xv : Value) (hs : a.eval s = v) (hx : a.eval x = xv) {v' : Value} {w' : World} (hr : (Builtin.append_ #[t, t] o.type #[v, xv]).run P w = .ok v' w') (h : wpList P ops Q rest (a.put o.dst v') w') :
    wpList P ops Q (o :: rest) a w := by
  refine wpList_plain hgd fun K hK => ?_
  unfold Oper.wp
  simp [execOp, ho, resolve, invoke, builtin, hs, hx, hr, Result.andThen]
  exact hK _ _ h
end Go.Proofs.YtekpamilcpeanaaDoor
