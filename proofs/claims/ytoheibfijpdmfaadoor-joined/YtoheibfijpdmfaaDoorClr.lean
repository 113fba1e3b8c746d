/-
  Clearances, as numbers: the greatest square that is carried, and how the cells to the right and below make a cell's; a list of them reckoned from the last one back.
-/
import Derived.Test.YtoheibfijpdmfaaDoorHas
set_option linter.unusedSimpArgs false
namespace Go.Proofs.YtoheibfijpdmfaaDoor
open Go.RowKit
set_option linter.unusedVariables false
/-- A square of so many tiles is carried. -/
def sqB (car : Int → Int → Bool) (x y : Int) (s : Nat) : Bool := (List.range s).all fun i => (List.range s).all fun m => car (x + (i : Nat)) (y + (m : Nat))
theorem sqB_iff (car : Int → Int → Bool) (x y : Int) (s : Nat) : sqB car x y s = true ↔ ∀ i m : Nat, i < s → m < s → car (x + (i : Nat)) (y + (m : Nat)) = true := by
  simp only [sqB, List.all_eq_true, List.mem_range]
  exact ⟨fun h i m hi hm => h i hi m hm, fun h i hi m hm => h i m hi hm⟩
theorem sq_mono {car : Int → Int → Bool} {x y : Int} {s t : Nat} (hst : s ≤ t) (h : sqB car x y t = true) : sqB car x y s = true := by
  rw [sqB_iff] at h ⊢
  exact fun i m hi hm => h i m (by omega) (by omega)
/-- The clearance: the greatest square up to 4. -/
def clr (car : Int → Int → Bool) (x y : Int) : Nat := if sqB car x y 1 = true then (if sqB car x y 2 = true then (if sqB car x y 3 = true then (if sqB car x y 4 = true then 4 else 3) else 2) else 1) else 0
theorem clr_le (car : Int → Int → Bool) (x y : Int) : clr car x y ≤ 4 := by
  unfold clr
  repeat' split
  all_goals omega
theorem clr_ge {car : Int → Int → Bool} {x y : Int} {s : Nat} (hs : s ≤ 4) : s ≤ clr car x y ↔ sqB car x y s = true := by
  have m1 : sqB car x y 2 = true → sqB car x y 1 = true := sq_mono (by omega)
  have m2 : sqB car x y 3 = true → sqB car x y 2 = true := sq_mono (by omega)
  have m3 : sqB car x y 4 = true → sqB car x y 3 = true := sq_mono (by omega)
  unfold clr
  match s, hs with
  | 0, _ => simp [sqB]
  | 1, _ => repeat' split
            all_goals simp_all
  | 2, _ => repeat' split
            all_goals simp_all
  | 3, _ => repeat' split
            all_goals simp_all
  | 4, _ => repeat' split
            all_goals simp_all
theorem sq_one (car : Int → Int → Bool) (x y : Int) : sqB car x y 1 = car x y := by simp [sqB]
theorem sq_succ (car : Int → Int → Bool) (x y : Int) (s : Nat) : sqB car x y (s + 1) = true ↔ car x y = true ∧ sqB car (x + 1) y s = true ∧ sqB car x (y + 1) s = true ∧ sqB car (x + 1) (y + 1) s = true := by
  simp only [sqB_iff]
  constructor
  · intro h
    refine ⟨by simpa using h 0 0 (by omega) (by omega), fun i m hi hm => ?_, fun i m hi hm => ?_, fun i m hi hm => ?_⟩
    · have := h (i + 1) m (by omega) (by omega)
      rwa [show x + ((i + 1 : Nat) : Int) = x + 1 + (i : Nat) by omega] at this
    · have := h i (m + 1) (by omega) (by omega)
      rwa [show y + ((m + 1 : Nat) : Int) = y + 1 + (m : Nat) by omega] at this
    · have := h (i + 1) (m + 1) (by omega) (by omega)
      rwa [show x + ((i + 1 : Nat) : Int) = x + 1 + (i : Nat) by omega, show y + ((m + 1 : Nat) : Int) = y + 1 + (m : Nat) by omega] at this
  · rintro ⟨h0, h1, h2, h3⟩ i m hi hm
    match i, m with
    | 0, 0 => simpa using h0
    | i + 1, 0 =>
      have := h1 i 0 (by omega) (by omega)
      rwa [show x + 1 + (i : Nat) = x + ((i + 1 : Nat) : Int) by omega] at this
    | 0, m + 1 =>
      have := h2 0 m (by omega) (by omega)
      rwa [show y + 1 + (m : Nat) = y + ((m + 1 : Nat) : Int) by omega] at this
    | i + 1, m + 1 =>
      have := h3 i m (by omega) (by omega)
      rwa [show x + 1 + (i : Nat) = x + ((i + 1 : Nat) : Int) by omega, show y + 1 + (m : Nat) = y + ((m + 1 : Nat) : Int) by omega] at this
def grw (b : Bool) (a1 a2 a3 : Nat) : Nat := if b = true then min (min (min 4 (1 + a1)) (1 + a2)) (1 + a3) else 0
theorem grw_le (b : Bool) (a1 a2 a3 : Nat) : grw b a1 a2 a3 ≤ 4 := by unfold grw; split <;> omega
theorem clr_rec (car : Int → Int → Bool) (x y : Int) : clr car x y = grw (car x y) (clr car (x + 1) y) (clr car x (y + 1)) (clr car (x + 1) (y + 1)) := by
  unfold grw
  cases hc : car x y
  · simp [clr, sq_one, hc]
  · rw [if_pos rfl]
    have key : ∀ s : Nat, s ≤ 4 → (s ≤ clr car x y ↔ s ≤ min (min (min 4 (1 + clr car (x + 1) y)) (1 + clr car x (y + 1))) (1 + clr car (x + 1) (y + 1))) := by
      intro s hs
      match s with
      | 0 => simp
      | t + 1 =>
        rw [clr_ge hs, sq_succ, hc, ← clr_ge (s := t) (by omega), ← clr_ge (s := t) (by omega), ← clr_ge (s := t) (by omega)]
        simp only [true_and]
        omega
    have h1 := (key _ (clr_le car x y)).1 (Nat.le_refl _)
    have h2 := (key (min (min (min 4 (1 + clr car (x + 1) y)) (1 + clr car x (y + 1))) (1 + clr car (x + 1) (y + 1))) (by omega)).2 (Nat.le_refl _)
    omega
theorem clr_no {car : Int → Int → Bool} {x y : Int} (h : car x y = false) : clr car x y = 0 := by simp [clr, sq_one, h]
/-- A cell's number of a list that goes row by row. -/
def atL (W H : Int) (l : List Nat) (x y : Int) : Nat := if has 0 0 W H x y = true then l.getD (y * W + x).toNat 0 else 0
def grL (car : Int → Int → Bool) (W H : Int) (l : List Nat) (x y : Int) : Nat := grw (car x y) (atL W H l (x + 1) y) (atL W H l x (y + 1)) (atL W H l (x + 1) (y + 1))
/-- One cell reckoned anew, and whether it turned. -/
def stp (car : Int → Int → Bool) (w h : Nat) (a : List Nat × Nat) (k : Nat) : List Nat × Nat :=
  (a.1.set k (grL car w h a.1 ((k % w : Nat) : Int) ((k / w : Nat) : Int)), if a.1.getD k 0 = grL car w h a.1 ((k % w : Nat) : Int) ((k / w : Nat) : Int) then a.2 else a.2 + 1)
def clrK (car : Int → Int → Bool) (w k : Nat) : Nat := clr car ((k % w : Nat) : Int) ((k / w : Nat) : Int)
def cntK (car : Int → Int → Bool) (w : Nat) (l : List Nat) (m : Nat) : Nat := ((List.range m).filter (fun k => decide (l.getD k 0 ≠ clrK car w k))).length
theorem cntK_succ (car : Int → Int → Bool) (w : Nat) (l : List Nat) (m : Nat) : cntK car w l (m + 1) = cntK car w l m + (if l.getD m 0 = clrK car w m then 0 else 1) := by
  unfold cntK
  rw [List.range_succ, List.filter_append, List.length_append]
  by_cases h : l.getD m 0 = clrK car w m
  · rw [if_pos h, List.filter_cons_of_neg (by simp only [decide_eq_true_eq]; exact fun k => k h)]; rfl
  · rw [if_neg h, List.filter_cons_of_pos (by simp only [decide_eq_true_eq]; exact h)]; rfl
theorem has_in {w h : Nat} {x y : Int} (hw : w ≤ 128 ∧ h ≤ 128) : has 0 0 (w : Int) (h : Int) x y = true ↔ (0 ≤ x ∧ x < w) ∧ 0 ≤ y ∧ y < h := by
  simp only [has, Bool.and_eq_true, decide_eq_true_eq, may_iff]
  omega
theorem idx_lt {w h x y : Nat} (hx : x < w) (hy : y < h) : y * w + x < w * h := by
  have h1 : (y + 1) * w ≤ h * w := Nat.mul_le_mul_right w hy
  rw [Nat.succ_mul, Nat.mul_comm h w] at h1
  omega
theorem idx_mod {w x y : Nat} (hx : x < w) : (y * w + x) % w = x ∧ (y * w + x) / w = y := by
  rw [Nat.mul_comm y w, Nat.mul_add_mod, Nat.mod_eq_of_lt hx, Nat.mul_add_div (by omega), Nat.div_eq_of_lt hx]
  exact ⟨rfl, rfl⟩
/-- What a list that is right from some cell on tells of the cells there. -/
theorem atL_right {car : Int → Int → Bool} {w h : Nat} {l : List Nat} (hw : w ≤ 128 ∧ h ≤ 128) (hcar : ∀ x y, car x y = true → has 0 0 (w : Int) (h : Int) x y = true) (hl : l.length = w * h) {m : Nat} (hr : ∀ k, m ≤ k → k < w * h → l.getD k 0 = clrK car w k)
    {x y : Nat} (hm : m ≤ y * w + x) (hx : x ≤ w) (hxw : x < w ∨ True) : atL w h l (x : Int) (y : Int) = clr car (x : Int) (y : Int) := by
  unfold atL
  split
  · rename_i hh
    rw [has_in hw] at hh
    have e : ((y : Int) * (w : Int) + (x : Int)).toNat = y * w + x := by
      have : (y : Int) * (w : Int) + (x : Int) = ((y * w + x : Nat) : Int) := by simp
      rw [this, Int.toNat_natCast]
    rw [e, hr _ hm (idx_lt (by omega) (by omega)), clrK, (idx_mod (by omega)).1, (idx_mod (by omega)).2]
  · rename_i hh
    refine (clr_no ?_).symm
    rw [Bool.eq_false_iff]
    exact fun hc => hh (hcar _ _ hc)
theorem grL_right {car : Int → Int → Bool} {w h : Nat} {l : List Nat} (hw : w ≤ 128 ∧ h ≤ 128) (hw0 : 0 < w) (hcar : ∀ x y, car x y = true → has 0 0 (w : Int) (h : Int) x y = true) (hl : l.length = w * h) {m : Nat} (hr : ∀ k, m < k → k < w * h → l.getD k 0 = clrK car w k) :
    grL car w h l ((m % w : Nat) : Int) ((m / w : Nat) : Int) = clrK car w m := by
  have hx : m % w < w := Nat.mod_lt _ hw0
  have he : m / w * w + m % w = m := by rw [Nat.mul_comm]; exact Nat.div_add_mod m w
  obtain ⟨x, hxe⟩ : ∃ x, m % w = x := ⟨_, rfl⟩
  obtain ⟨y, hye⟩ : ∃ y, m / w = y := ⟨_, rfl⟩
  have e1 : (y + 1) * w = y * w + w := Nat.succ_mul y w
  have hr' : ∀ k, m + 1 ≤ k → k < w * h → l.getD k 0 = clrK car w k := fun k hk => hr k hk
  unfold grL clrK
  rw [clr_rec]
  rw [hxe, hye] at he
  rw [hxe] at hx
  rw [hxe, hye]
  have a1 := atL_right hw hcar hl hr' (x := x + 1) (y := y) (by omega) (by omega) (.inr trivial)
  have a2 := atL_right hw hcar hl hr' (x := x) (y := y + 1) (by omega) (by omega) (.inr trivial)
  have a3 := atL_right hw hcar hl hr' (x := x + 1) (y := y + 1) (by omega) (by omega) (.inr trivial)
  push_cast at a1 a2 a3
  rw [a1, a2, a3]
theorem getD_set {l : List Nat} {k j v : Nat} (hk : k < l.length) : (l.set k v).getD j 0 = if j = k then v else l.getD j 0 := by
  simp only [List.getD_eq_getElem?_getD, List.getElem?_set]
  by_cases h : k = j
  · subst h; simp [hk]
  · rw [if_neg h, if_neg (fun e => h e.symm)]
theorem list_ext_getD {a b : List Nat} (hl : a.length = b.length) (h : ∀ k, k < a.length → a.getD k 0 = b.getD k 0) : a = b := by
  refine List.ext_getElem hl (fun k h1 h2 => ?_)
  have := h k h1
  simpa [List.getD_eq_getElem?_getD, h1, h2] using this
/-- The theorem of reckoning: from the last marked cell back to the first. -/
theorem fold_right {car : Int → Int → Bool} {w h : Nat} {l : List Nat} {mk : Nat → Bool} (hw : w ≤ 128 ∧ h ≤ 128) (hw0 : 0 < w) (hcar : ∀ x y, car x y = true → has 0 0 (w : Int) (h : Int) x y = true)
    (hmk : ∀ k, k < w * h → mk k = false → l.getD k 0 = clrK car w k) : ∀ (m : Nat) (l' : List Nat) (c : Nat), m ≤ w * h → l'.length = w * h → (∀ k, m ≤ k → k < w * h → l'.getD k 0 = clrK car w k) → (∀ k, k < m → l'.getD k 0 = l.getD k 0) →
    (((List.range m).reverse.filter mk).foldl (stp car w h) (l', c)) = ((List.range (w * h)).map (clrK car w), c + cntK car w l m)
  | 0, l', c, _, hl', hr, _ => by
    have : l' = (List.range (w * h)).map (clrK car w) := list_ext_getD (by simpa using hl') (fun k hk => by
      rw [hr k (Nat.zero_le _) (by omega), List.getD_eq_getElem?_getD, List.getElem?_map, List.getElem?_range (by omega)]; rfl)
    simp [cntK, this]
  | m + 1, l', c, hm, hl', hr, he => by
    have hg := grL_right (l := l') hw hw0 hcar hl' (m := m) (fun k hk hk2 => hr k hk hk2)
    rw [List.range_succ, List.reverse_append, List.reverse_singleton, List.singleton_append, cntK_succ, ← he m (by omega)]
    cases hk : mk m
    · rw [List.filter_cons_of_neg (by simp [hk])]
      have hlm : l'.getD m 0 = clrK car w m := (he m (by omega)).trans (hmk m (by omega) hk)
      rw [if_pos hlm, Nat.add_zero]
      exact fold_right hw hw0 hcar hmk m l' c (by omega) hl' (fun k h1 h2 => by
        by_cases hkm : k = m
        · subst hkm; exact hlm
        · exact hr k (by omega) h2) (fun k h1 => he k (by omega))
    · rw [List.filter_cons_of_pos hk, List.foldl_cons]
      unfold stp
      simp only
      rw [hg]
      have := fold_right hw hw0 hcar hmk m (l'.set m (clrK car w m)) (if l'.getD m 0 = clrK car w m then c else c + 1) (by omega) (by simpa using hl') (fun k h1 h2 => by
        rw [getD_set (by omega)]
        split
        · rename_i e; subst e; rfl
        · exact hr k (by omega) h2) (fun k h1 => by rw [getD_set (by omega), if_neg (by omega)]; exact he k (by omega))
      unfold stp at this
      rw [this]
      congr 1
      split <;> omega
end Go.Proofs.YtoheibfijpdmfaaDoor
