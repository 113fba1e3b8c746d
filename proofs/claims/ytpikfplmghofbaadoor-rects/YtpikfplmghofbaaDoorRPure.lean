/-
  All clusters of a world: one behind the other, their tiles counted; their neighbours. No run of the program.
-/
import Derived.Test.YtpikfplmghofbaaDoorCAr
set_option linter.unusedSimpArgs false
namespace Go.Proofs.YtpikfplmghofbaaDoor
open Go.RowKit
set_option linter.unusedVariables false
theorem rS_range {W k : Int} (hW : 1 ≤ W ∧ W ≤ 128) (hk : 0 ≤ k ∧ k ≤ (W - 1) / 8) : 1 ≤ rS W k ∧ rS W k ≤ 8 := by
  unfold rS
  omega
/-- How many tiles so many clusters have. -/
def arK (W H : Int) (l : List Cel) : Int := (l.map (fun q => rS W q.1.1 * rS H q.1.2)).sum
theorem arK_nil (W H : Int) : arK W H [] = 0 := rfl
theorem arK_snoc (W H : Int) (l : List Cel) (q : Cel) : arK W H (l ++ [q]) = arK W H l + rS W q.1.1 * rS H q.1.2 := by simp [arK]
def sumS (W : Int) (k : Nat) : Int := ((List.range k).map (fun i => rS W ((i : Nat) : Int))).sum
theorem sumS_succ (W : Int) (k : Nat) : sumS W (k + 1) = sumS W k + rS W ((k : Nat) : Int) := by simp [sumS, List.range_succ]
theorem sumS_is {W : Int} (hW : 1 ≤ W ∧ W ≤ 128) : ∀ k : Nat, ((k : Nat) : Int) ≤ clN W → sumS W k = min (8 * ((k : Nat) : Int)) W
  | 0, _ => by simp [sumS]; omega
  | k + 1, h => by
    rw [sumS_succ, sumS_is hW k (by omega)]
    unfold rS
    unfold clN at h
    omega
theorem mem_upto_w {A Bn i j : Nat} (hA : A ≤ 16) (hB : Bn ≤ 16) (hi : i < A) (hj : j < Bn) : W64 ((0 : Int) + (i : Nat)) ∧ W64 ((0 : Int) + (j : Nat)) := ⟨w64_of (by omega), w64_of (by omega)⟩
theorem row_arK (W H : Int) (A : Nat) (hA : A ≤ 16) (k : Nat) (hk : k < 16) : ∀ j : Nat, j ≤ A → arK W H (upto 0 0 A (k * A + j)) = arK W H (upto 0 0 A (k * A)) + sumS W j * rS H ((k : Nat) : Int)
  | 0, _ => by simp [sumS]
  | j + 1, h => by
    rw [← Nat.add_assoc, upto_succ, arK_snoc, row_arK W H A hA k hk j (by omega), sumS_succ, cellAt_row 0 0 A k j (by omega), mkC_is (mem_upto_w hA (show k + 1 ≤ 16 by omega) (show j < A by omega) (show k < k + 1 by omega))]
    simp only [Int.zero_add]
    rw [Int.add_mul]
    omega
theorem rows_arK (W H : Int) (A : Nat) (hA : A ≤ 16) : ∀ k : Nat, k ≤ 16 → arK W H (upto 0 0 A (k * A)) = sumS W A * sumS H k
  | 0, _ => by simp [upto, arK, sumS]
  | k + 1, h => by
    rw [Nat.succ_mul, row_arK W H A hA k (by omega) A (Nat.le_refl _), rows_arK W H A hA k (by omega), sumS_succ, Int.mul_add]
theorem clN_nat {W : Int} (hW : 1 ≤ W ∧ W ≤ 128) : ∃ A : Nat, clN W = (A : Int) ∧ 1 ≤ A ∧ A ≤ 16 := by
  refine ⟨(clN W).toNat, ?_, ?_, ?_⟩ <;> unfold clN <;> omega
theorem allK_upto {W H : Int} {A Bn : Nat} (hA : clN W = (A : Int)) (hB : clN H = (Bn : Int)) (h1 : 1 ≤ A ∧ A ≤ 16) (h2 : 1 ≤ Bn ∧ Bn ≤ 16) : allK W H = upto 0 0 A (Bn * A) := by
  have hm : may 0 0 (clN W) (clN H) = true := by rw [may_iff, hA, hB]; omega
  rw [allK, allC, if_pos hm, hA, hB, Int.toNat_natCast, Int.toNat_natCast]
/-- Cu3: the clusters' rectangles have as many tiles as the world. -/
theorem arK_all {W H : Int} (hW : 1 ≤ W ∧ W ≤ 128) (hH : 1 ≤ H ∧ H ≤ 128) : arK W H (allK W H) = W * H := by
  obtain ⟨A, hA, h1⟩ := clN_nat hW
  obtain ⟨Bn, hB, h2⟩ := clN_nat hH
  rw [allK_upto hA hB h1 h2, rows_arK W H A h1.2 Bn h2.2, sumS_is hW A (by omega), sumS_is hH Bn (by omega)]
  have e1 : min (8 * ((A : Nat) : Int)) W = W := by unfold clN at hA; omega
  have e2 : min (8 * ((Bn : Nat) : Int)) H = H := by unfold clN at hB; omega
  rw [e1, e2]
/-- The last one of some clusters; (-1, -1) ahead of all. -/
def lastK (l : List Cel) : Int × Int := match l.getLast? with
  | none => (-1, -1)
  | some q => q.1
theorem lastK_nil : lastK [] = (-1, -1) := rfl
theorem lastK_snoc (l : List Cel) (q : Cel) : lastK (l ++ [q]) = q.1 := by simp [lastK]
def lessK (a b : Int × Int) : Bool := decide (a.2 < b.2 ∨ (a.2 = b.2 ∧ a.1 < b.1))
theorem upto_pre {A N : Nat} {p0 : List Cel} {q : Cel} (h : p0 ++ [q] <+: upto 0 0 A N) : ∃ m, m < N ∧ p0 = upto 0 0 A m ∧ q = mkC (cellAt 0 0 A m) := by
  have hl := h.length_le
  rw [List.length_append, upto_length, List.length_singleton] at hl
  have h2 : upto 0 0 A (p0.length + 1) <+: upto 0 0 A N := upto_prefix 0 0 A hl
  have h3 : p0 ++ [q] = upto 0 0 A (p0.length + 1) := by
    have := List.prefix_of_prefix_length_le h h2 (by rw [upto_length]; simp)
    exact this.eq_of_length (by rw [upto_length]; simp)
  rw [upto_succ] at h3
  have h4 := List.append_inj' h3 rfl
  exact ⟨p0.length, by omega, h4.1, by simpa using h4.2⟩
theorem next_ok {W H : Int} (hW : 1 ≤ W ∧ W ≤ 128) (hH : 1 ≤ H ∧ H ≤ 128) {p0 : List Cel} {q : Cel} (h : p0 ++ [q] <+: allK W H) : rB W H q.1.1 q.1.2 = true ∧ lessK (lastK p0) q.1 = true := by
  refine ⟨(mem_allC 0 0 (clN W) (clN H) q).1 (h.subset (by simp)), ?_⟩
  obtain ⟨A, hA, h1⟩ := clN_nat hW
  obtain ⟨Bn, hB, h2⟩ := clN_nat hH
  rw [allK_upto hA hB h1 h2] at h
  obtain ⟨m, hm, rfl, rfl⟩ := upto_pre h
  have key : ∀ i : Nat, i < Bn * A → (mkC (cellAt 0 0 A i)).1 = (((i % A : Nat) : Int), ((i / A : Nat) : Int)) := fun i hi => by
    have a1 : i % A < A := Nat.mod_lt _ (by omega)
    have a2 : i / A < Bn := by rw [Nat.div_lt_iff_lt_mul (by omega)]; exact hi
    rw [mkC_is]
    · simp [cellAt]
    · simp only [cellAt, Int.zero_add]
      generalize i % A = u at a1
      generalize i / A = v at a2
      exact ⟨w64_of (by omega), w64_of (by omega)⟩
  rw [key m hm]
  rw [lessK, decide_eq_true_eq]
  cases m with
  | zero => left; simp [upto, lastK]
  | succ k =>
    rw [upto_succ, lastK_snoc, key k (by omega)]
    have e1 := Nat.div_add_mod k A
    have e2 := Nat.div_add_mod (k + 1) A
    have e3 : k % A < A := Nat.mod_lt _ (by omega)
    have e4 : (k + 1) % A < A := Nat.mod_lt _ (by omega)
    have e5 : k / A ≤ (k + 1) / A := Nat.div_le_div_right (by omega)
    simp only
    by_cases hd : k / A = (k + 1) / A
    · right
      rw [hd] at e1
      generalize (k + 1) / A = v at *
      generalize k % A = u at *
      generalize (k + 1) % A = u' at *
      refine ⟨by rw [hd], by omega⟩
    · left
      generalize (k + 1) / A = v at *
      generalize k / A = v' at *
      omega
/-- The last direction of some; -1 ahead of all. -/
def lastD (l : List (Fin 8)) : Int := match l.getLast? with
  | none => -1
  | some t => (t.val : Int)
theorem lastD_nil : lastD [] = -1 := rfl
theorem lastD_snoc (l : List (Fin 8)) (t : Fin 8) : lastD (l ++ [t]) = (t.val : Int) := by simp [lastD]
theorem lastD_range (l : List (Fin 8)) : -1 ≤ lastD l ∧ lastD l ≤ 7 := by
  unfold lastD
  split
  · omega
  · rename_i t _
    have := t.isLt
    omega
theorem nbs_ok {W H x y : Int} {p0 : List (Fin 8)} {t : Fin 8} (h : p0 ++ [t] <+: nbs W H x y) :
    rB W H x y = true ∧ t.val < 4 ∧ sB x y (t.val : Int) = true ∧ rB W H (x + dX t.val) (y + dY t.val) = true ∧ lastD p0 < (t.val : Int) := by
  have hr : rB W H x y = true := by
    cases hr : rB W H x y
    · simp [nbs, hr] at h
    · rfl
  rw [nbs, if_pos hr] at h
  have hm : t ∈ flt (roundN x y 0 0 (clN W) (clN H) 8) := h.subset (by simp)
  simp only [flt, roundN, List.mem_filter, decide_eq_true_eq] at hm
  have hi := hm.1.2
  rw [inn, Bool.and_eq_true] at hi
  refine ⟨hr, hm.2, hi.1, hi.2, ?_⟩
  have hp : (flt (roundN x y 0 0 (clN W) (clN H) 8)).Pairwise (fun a b => a.val < b.val) := (round_up _ _ _ _ _ _).filter _
  obtain ⟨r, hr'⟩ := h
  rw [← hr'] at hp
  have h1 := (List.pairwise_append.1 (List.pairwise_append.1 hp).1).2.2
  unfold lastD
  split
  · omega
  · rename_i u hu
    have := h1 u (List.mem_of_getLast? hu) t (by simp)
    omega
end Go.Proofs.YtpikfplmghofbaaDoor
