/-
  Plain facts for phalanxlaw03.CellBack: a step and the one back, distances both ways and their bounds, what two rectangles have both.
-/
import Derived.Test.YtebapnoaegdejaaDoorDir
import Derived.Test.YtebapnoaegdejaaDoorOctile
import Derived.Test.YtebapnoaegdejaaDoorSpan
namespace Go.Proofs.YtebapnoaegdejaaDoor
set_option linter.unusedVariables false
theorem d_back (k : Nat) (hk : k < 8) : dX (bkN k) = -dX k ∧ dY (bkN k) = -dY k ∧ bkN k < 8 := by
  match k, hk with
  | 0, _ | 1, _ | 2, _ | 3, _ | 4, _ | 5, _ | 6, _ | 7, _ => exact ⟨rfl, rfl, by decide⟩
theorem sB_iff (x y : Int) (k : Nat) : sB x y k = true ↔ k < 8 ∧ nrC x y = true ∧ nrC (x + dX k) (y + dY k) = true := by
  rw [sB, Bool.and_eq_true, Bool.and_eq_true, isD_iff, Int.toNat_natCast]
  constructor
  · rintro ⟨⟨⟨_, h⟩, h1⟩, h2⟩; exact ⟨by omega, h1, h2⟩
  · rintro ⟨h, h1, h2⟩; exact ⟨⟨⟨by omega, by omega⟩, h1⟩, h2⟩
theorem bk_nat (k : Nat) (hk : k < 8) : bk k = (bkN k : Nat) := by
  rw [bk, if_pos ((isD_iff _).2 (by omega)), Int.toNat_natCast]
theorem step_back {x y : Int} {k : Nat} (h : sB x y k = true) : sB (x + dX k) (y + dY k) (bk k) = true ∧ sX (x + dX k) (y + dY k) (bk k) = x ∧ sY (x + dX k) (y + dY k) (bk k) = y := by
  obtain ⟨hk, h1, h2⟩ := (sB_iff x y k).1 h
  obtain ⟨e1, e2, e3⟩ := d_back k hk
  have hb : sB (x + dX k) (y + dY k) (bk k) = true := by
    rw [bk_nat k hk, sB_iff, e1, e2]
    exact ⟨e3, h2, by rw [show x + dX k + -dX k = x by omega, show y + dY k + -dY k = y by omega]; exact h1⟩
  refine ⟨hb, ?_, ?_⟩
  · rw [sX_yes hb, bk_nat k hk, Int.toNat_natCast, e1]; omega
  · rw [sY_yes hb, bk_nat k hk, Int.toNat_natCast, e2]; omega
theorem d_apart : ∀ j : Fin 8, ∀ k : Fin 8, dX j = dX k → dY j = dY k → j = k := by decide
theorem hit_other {x y : Int} {j k : Nat} (hj : j < 8) (hk : k < 8) (h : ¬ j = k) : hit x y (x + dX k) (y + dY k) j = false := by
  cases e : sB x y j
  · simp [hit, e]
  · rw [hit, sX_yes e, sY_yes e, Int.toNat_natCast, e]
    by_cases h1 : dX j = dX k
    · have h2 : ¬ dY j = dY k := fun h2 => h (congrArg Fin.val (d_apart ⟨j, hj⟩ ⟨k, hk⟩ h1 h2))
      rw [decide_eq_false (show ¬ y + dY j = y + dY k by omega)]; simp
    · rw [decide_eq_false (show ¬ x + dX j = x + dX k by omega)]; simp
theorem hit_self {x y : Int} {k : Nat} (h : sB x y k = true) : hit x y (x + dX k) (y + dY k) k = true := by
  rw [hit, sX_yes h, sY_yes h, Int.toNat_natCast, h]; simp
theorem dirF_find {f : Nat → Bool} {k : Nat} (hk : k < 8) (hf : f k = true) (hn : ∀ j, j < k → f j = false) : ∀ n j, j + n = 8 → j ≤ k → dirF f j n = k := by
  intro n
  induction n with
  | zero => intro j h1 h2; omega
  | succ n ih =>
    intro j h1 h2
    by_cases e : j = k
    · subst e; simp [dirF, hf]
    · have := hn j (by omega)
      simp only [dirF, this]
      exact ih (j + 1) (by omega) (by omega)
theorem dir_step {x y : Int} {k : Nat} (h : sB x y k = true) : dirN x y (x + dX k) (y + dY k) = k := by
  have hk := ((sB_iff x y k).1 h).1
  exact dirF_find hk (hit_self h) (fun j hj => hit_other (by omega) hk (by omega)) 8 0 rfl (Nat.zero_le _)
theorem apN_comm (a b c d : Int) : apN c d a b = apN a b c d := by
  unfold apN
  rw [Bool.and_comm]
  have e1 : amt (c - a) = amt (a - c) := by unfold amt; split <;> split <;> omega
  have e2 : amt (d - b) = amt (b - d) := by unfold amt; split <;> split <;> omega
  rw [e1, e2]
theorem ocN_comm (a b c d : Int) : ocN c d a b = ocN a b c d := by
  unfold ocN
  rw [Bool.and_comm]
  have e1 : amt (c - a) = amt (a - c) := by unfold amt; split <;> split <;> omega
  have e2 : amt (d - b) = amt (b - d) := by unfold amt; split <;> split <;> omega
  have e3 : octN (c - a) (d - b) = octN (a - c) (b - d) := by unfold octN; rw [e1, e2]
  rw [e3]
theorem ap_bounds (a b c d : Int) : (0 ≤ apN a b c d ∧ apN a b c d ≤ 2097152) ∧ 10 * apN a b c d ≤ ocN a b c d ∧ ocN a b c d ≤ 14 * apN a b c d := by
  unfold apN ocN
  cases h : nrC a b && nrC c d
  · simp
  · have h' := h
    rw [Bool.and_eq_true] at h'
    have h1 := (nrC_iff a b).1 h'.1
    have h2 := (nrC_iff c d).1 h'.2
    have m1 := amt_near h1.1 h2.1
    have m2 := amt_near h1.2 h2.2
    simp only [if_pos]
    unfold octN
    omega
theorem mtB_comm (x y a b p q c d : Int) : mtB p q c d x y a b = mtB x y a b p q c d := by
  unfold mtB
  rw [Int.max_comm p x, Int.max_comm q y, Int.min_comm (p + c - 1), Int.min_comm (q + d - 1)]
  cases may x y a b <;> cases may p q c d <;> rfl
theorem mtV_comm (x y a b p q c d : Int) : mtV p q c d x y a b = mtV x y a b p q c d := by
  unfold mtV
  rw [mtB_comm, Int.max_comm p x, Int.max_comm q y, Int.min_comm (p + c - 1), Int.min_comm (q + d - 1)]
theorem has_iff (x y a b p q : Int) : has x y a b p q = true ↔ may x y a b = true ∧ x ≤ p ∧ p ≤ x + a - 1 ∧ y ≤ q ∧ q ≤ y + b - 1 := by
  simp only [has, Bool.and_eq_true, decide_eq_true_iff]
theorem meet_has {x y a b p q c d s t : Int} (h : mtB x y a b p q c d = true) :
    has (max x p) (max y q) (min (x + a - 1) (p + c - 1) - max x p + 1) (min (y + b - 1) (q + d - 1) - max y q + 1) s t = (has x y a b s t && has p q c d s t) := by
  have h1 : may x y a b = true := by cases e : may x y a b; · rw [mtB_no1 e] at h; cases h
                                     · rfl
  have h2 : may p q c d = true := by cases e : may p q c d; · rw [mtB_no2 e] at h; cases h
                                     · rfl
  have h3 := (mtB_eq h1 h2).symm.trans h
  rw [Bool.eq_iff_iff, Bool.and_eq_true, has_iff, has_iff, has_iff]
  constructor
  · rintro ⟨_, h4⟩; exact ⟨⟨h1, by omega⟩, h2, by omega⟩
  · rintro ⟨⟨_, h4⟩, _, h5⟩; exact ⟨h3, by omega⟩
theorem meet_has_lit {x y a b p q c d s t k0 k1 k2 k3 : Int} (hk : mtV x y a b p q c d = .agg #[.int .i64 k0, .int .i64 k1, .int .i64 k2, .int .i64 k3]) (h : mtB x y a b p q c d = true) :
    has k0 k1 k2 k3 s t = (has x y a b s t && has p q c d s t) := by
  rw [mtV_yes h, span] at hk
  simp only [Value.agg.injEq, Array.mk.injEq, List.cons.injEq, Value.int.injEq, true_and, and_true] at hk
  obtain ⟨rfl, rfl, rfl, rfl⟩ := hk
  exact meet_has h
theorem meet_none {x y a b p q c d s t : Int} (h : mtB x y a b p q c d = false) : (has x y a b s t && has p q c d s t) = false := by
  cases e : has x y a b s t && has p q c d s t
  · rfl
  · rw [Bool.and_eq_true, has_iff, has_iff] at e
    obtain ⟨⟨h1, h4⟩, h2, h5⟩ := e
    have h6 : mtB x y a b p q c d = true := by
      rw [mtB, h1, h2, decide_eq_true (show max x p ≤ min (x + a - 1) (p + c - 1) by omega), decide_eq_true (show max y q ≤ min (y + b - 1) (q + d - 1) by omega)]; rfl
    rw [h] at h6; cases h6
end Go.Proofs.YtebapnoaegdejaaDoor
