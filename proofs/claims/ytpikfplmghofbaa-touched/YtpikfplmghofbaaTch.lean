/-
  Of which clusters an edit may turn something: plain lists, no run of the program.
-/
import Derived.Test.YtpikfplmghofbaaCross
import Derived.Test.YtpikfplmghofbaaClu
set_option linter.unusedSimpArgs false
namespace Go.Proofs.Ytpikfplmghofbaa
open Go.RowKit
set_option linter.unusedVariables false
/-- Does the i-th cell of a world so wide make (cx, cy) a cluster that an edit may turn? -/
def nrI (wd : Nat) (x y a b cx cy : Int) (i : Nat) : Bool :=
  mtB ((i % wd : Nat) : Int) ((i / wd : Nat) : Int) 4 4 x y a b && (decide (apK (((i % wd : Nat) : Int) / 8) cx ≤ 1) && decide (apK (((i / wd : Nat) : Int) / 8) cy ≤ 1))
def nrB (wd n : Nat) (x y a b cx cy : Int) : Bool := (List.range n).any (nrI wd x y a b cx cy)
theorem nrB_zero (wd : Nat) (x y a b cx cy : Int) : nrB wd 0 x y a b cx cy = false := rfl
theorem nrB_succ (wd n : Nat) (x y a b cx cy : Int) : nrB wd (n + 1) x y a b cx cy = (nrB wd n x y a b cx cy || nrI wd x y a b cx cy n) := by
  simp [nrB, List.range_succ]
/-- The row cy of the document's list, up to column k. -/
def rowL (wd n : Nat) (x y a b : Int) (j k : Nat) : List (Int × Int) := ((List.range k).filter (fun i => nrB wd n x y a b (i : Nat) (j : Nat))).map (fun i => (((i : Nat) : Int), ((j : Nat) : Int)))
theorem rowL_zero (wd n : Nat) (x y a b : Int) (j : Nat) : rowL wd n x y a b j 0 = [] := rfl
theorem rowL_succ (wd n : Nat) (x y a b : Int) (j k : Nat) : rowL wd n x y a b j (k + 1) = rowL wd n x y a b j k ++ (if nrB wd n x y a b (k : Nat) (j : Nat) = true then [(((k : Nat) : Int), ((j : Nat) : Int))] else []) := by
  simp only [rowL, List.range_succ, List.filter_append, List.map_append]
  congr 1
  by_cases h : nrB wd n x y a b (k : Nat) (j : Nat) = true <;> simp [h]
def docL (wd n : Nat) (x y a b : Int) (KW j : Nat) : List (Int × Int) := (List.range j).flatMap (fun i => rowL wd n x y a b i KW)
theorem docL_succ (wd n : Nat) (x y a b : Int) (KW j : Nat) : docL wd n x y a b KW (j + 1) = docL wd n x y a b KW j ++ rowL wd n x y a b j KW := by
  simp [docL, List.range_succ, List.flatMap_append]
theorem rowL_len (wd n : Nat) (x y a b : Int) (j k : Nat) : (rowL wd n x y a b j k).length ≤ k := by
  rw [rowL, List.length_map]
  exact Nat.le_trans (List.length_filter_le _ _) (by simp)
theorem docL_len (wd n : Nat) (x y a b : Int) (KW : Nat) : ∀ j, (docL wd n x y a b KW j).length ≤ KW * j
  | 0 => by simp [docL]
  | j + 1 => by
    rw [docL_succ, List.length_append, Nat.mul_succ]
    have := docL_len wd n x y a b KW j
    have := rowL_len wd n x y a b j KW
    omega
theorem wi_parts {W H x y a b : Int} (h : wi x y a b 0 0 W H = true) : may x y a b = true ∧ (0 ≤ x ∧ 1 ≤ a ∧ x + a ≤ W) ∧ 0 ≤ y ∧ 1 ≤ b ∧ y + b ≤ H := by
  simp only [wi, Bool.and_eq_true] at h
  obtain ⟨q0, q1, q2⟩ := h
  have m0 := (may_iff _ _ _ _).1 q0
  have m1 := (has_iff _ _ _ _ _ _).1 q1
  have m2 := (has_iff _ _ _ _ _ _).1 q2
  exact ⟨q0, by omega⟩
theorem may4 {u v : Int} (h1 : 0 ≤ u ∧ u < 128) (h2 : 0 ≤ v ∧ v < 128) : may u v 4 4 = true := by rw [may_iff]; omega
theorem mt4_iff {u v x y a b : Int} (h1 : 0 ≤ u ∧ u < 128) (h2 : 0 ≤ v ∧ v < 128) (hm : may x y a b = true) : mtB u v 4 4 x y a b = true ↔ (x ≤ u + 3 ∧ u ≤ x + a - 1) ∧ y ≤ v + 3 ∧ v ≤ y + b - 1 := by
  have m0 := (may_iff _ _ _ _).1 hm
  simp only [mtB, may4 h1 h2, hm, Bool.true_and, Bool.and_eq_true, decide_eq_true_eq]
  omega
theorem apK_le {a b : Int} : apK a b ≤ 1 ↔ b - 1 ≤ a ∧ a ≤ b + 1 := by
  unfold apK
  split <;> omega
/-- A column that an edit may turn. -/
def colB (x a k : Int) : Bool := decide ((x - 3) / 8 - 1 ≤ k ∧ k ≤ (x + a - 1) / 8 + 1)
theorem col_some {x a W k : Int} (h0 : 0 ≤ x) (h1 : 1 ≤ a) (h2 : x + a ≤ W) (hk : 0 ≤ k) : (∃ u : Int, 0 ≤ u ∧ u < W ∧ x ≤ u + 3 ∧ u ≤ x + a - 1 ∧ k - 1 ≤ u / 8 ∧ u / 8 ≤ k + 1) ↔ colB x a k = true := by
  simp only [colB, decide_eq_true_eq]
  constructor
  · rintro ⟨u, _, _, _, _, _, _⟩
    omega
  · rintro ⟨h3, h4⟩
    by_cases h5 : x + a - 1 ≤ 8 * k + 15
    · exact ⟨x + a - 1, by omega, by omega, by omega, by omega, by omega, by omega⟩
    · by_cases h6 : x - 3 ≤ 8 * k + 15
      · exact ⟨8 * k + 15, by omega, by omega, by omega, by omega, by omega, by omega⟩
      · omega
theorem nrB_iff {wd ht : Nat} {x y a b : Int} {cx cy : Nat} (hw : 1 ≤ wd ∧ wd ≤ 128) (hh : 1 ≤ ht ∧ ht ≤ 128) (h : wi x y a b 0 0 (wd : Int) (ht : Int) = true) :
    nrB wd (wd * ht) x y a b (cx : Int) (cy : Int) = (colB x a cx && colB y b cy) := by
  obtain ⟨hm, hx, hy⟩ := wi_parts h
  rw [Bool.eq_iff_iff, Bool.and_eq_true, ← col_some hx.1 hx.2.1 hx.2.2 (by omega), ← col_some hy.1 hy.2.1 hy.2.2 (by omega), nrB, List.any_eq_true]
  constructor
  · rintro ⟨i, hi, hn⟩
    have hi' : i < wd * ht := List.mem_range.1 hi
    have h1 : i % wd < wd := Nat.mod_lt _ (by omega)
    have h2 : i / wd < ht := by rw [Nat.div_lt_iff_lt_mul (by omega), Nat.mul_comm]; exact hi'
    simp only [nrI, Bool.and_eq_true, decide_eq_true_eq, apK_le] at hn
    generalize i % wd = u at hn h1
    generalize i / wd = v at hn h2
    clear hi hi'
    rw [mt4_iff (by omega) (by omega) hm] at hn
    exact ⟨⟨u, by omega, by omega, by omega, by omega, by omega, by omega⟩, v, by omega, by omega, by omega, by omega, by omega, by omega⟩
  · rintro ⟨⟨u, u0, u1, u2, u3, u4, u5⟩, v, v0, v1, v2, v3, v4, v5⟩
    obtain ⟨un, rfl⟩ := Int.eq_ofNat_of_zero_le u0
    obtain ⟨vn, rfl⟩ := Int.eq_ofNat_of_zero_le v0
    have hu : un < wd := by omega
    have hv : vn < ht := by omega
    refine ⟨vn * wd + un, List.mem_range.2 ?_, ?_⟩
    · have := Nat.mul_le_mul_right wd (show vn + 1 ≤ ht by omega)
      rw [Nat.succ_mul, Nat.mul_comm ht wd] at this
      omega
    · have e1 : (vn * wd + un) % wd = un := by rw [Nat.mul_comm, Nat.mul_add_mod, Nat.mod_eq_of_lt hu]
      have e2 : (vn * wd + un) / wd = vn := by rw [Nat.mul_comm, Nat.mul_add_div (by omega), Nat.div_eq_of_lt hu, Nat.add_zero]
      simp only [nrI, e1, e2, Bool.and_eq_true, decide_eq_true_eq, apK_le]
      rw [mt4_iff (by omega) (by omega) hm]
      omega
/-- Between two numbers, of the first ones. -/
theorem filter_between (lo hi : Int) : ∀ K : Nat, 0 ≤ lo → hi ≤ (K : Int) - 1 → (List.range K).filter (fun i => decide (lo ≤ ((i : Nat) : Int) ∧ ((i : Nat) : Int) ≤ hi)) = (List.range (hi - lo + 1).toNat).map (fun i => lo.toNat + i)
  | 0, hl, hh => by
    have : (hi - lo + 1).toNat = 0 := by omega
    simp [this]
  | K + 1, hl, hh => by
    rw [List.range_succ, List.filter_append]
    by_cases hK : hi ≤ (K : Int) - 1
    · rw [filter_between lo hi K hl hK]
      have e3 : decide (lo ≤ ((K : Nat) : Int) ∧ ((K : Nat) : Int) ≤ hi) = false := by rw [decide_eq_false_iff_not]; omega
      simp only [List.filter_cons, e3, List.filter_nil, List.append_nil, Bool.false_eq_true, if_false]
    · have hhi : hi = (K : Int) := by omega
      subst hhi
      by_cases hlo : lo ≤ (K : Int)
      · have e1 : (List.range K).filter (fun i => decide (lo ≤ ((i : Nat) : Int) ∧ ((i : Nat) : Int) ≤ (K : Int))) = (List.range K).filter (fun i => decide (lo ≤ ((i : Nat) : Int) ∧ ((i : Nat) : Int) ≤ (K : Int) - 1)) := by
          refine List.filter_congr (fun i hi => ?_)
          have := List.mem_range.1 hi
          rw [decide_eq_decide]
          omega
        rw [e1, filter_between lo ((K : Int) - 1) K hl (by omega)]
        have e2 : ((K : Int) - lo + 1).toNat = ((K : Int) - 1 - lo + 1).toNat + 1 := by omega
        rw [e2, List.range_succ, List.map_append]
        have e3 : decide (lo ≤ ((K : Nat) : Int) ∧ ((K : Nat) : Int) ≤ (K : Int)) = true := by rw [decide_eq_true_eq]; omega
        simp only [List.filter_cons, e3, if_true, List.filter_nil, List.map_cons, List.map_nil]
        congr 2
        omega
      · have e1 : (List.range K).filter (fun i => decide (lo ≤ ((i : Nat) : Int) ∧ ((i : Nat) : Int) ≤ (K : Int))) = [] := by
          rw [List.filter_eq_nil_iff]
          intro i hi
          have := List.mem_range.1 hi
          rw [decide_eq_true_eq]
          omega
        have e2 : ((K : Int) - lo + 1).toNat = 0 := by omega
        have e3 : decide (lo ≤ ((K : Nat) : Int) ∧ ((K : Nat) : Int) ≤ (K : Int)) = false := by rw [decide_eq_false_iff_not]; omega
        simp only [e1, e2, List.filter_cons, e3, List.filter_nil, List.append_nil, Bool.false_eq_true, if_false, List.range_zero, List.map_nil]
theorem flatMap_if {α : Type} (p : Nat → Bool) (g : Nat → List α) : ∀ l : List Nat, l.flatMap (fun i => if p i = true then g i else []) = (l.filter p).flatMap g
  | [] => rfl
  | i :: l => by
    rw [List.flatMap_cons, flatMap_if p g l, List.filter_cons]
    by_cases h : p i = true <;> simp [h]
/-- A rectangle's cells, row by row. -/
theorem upto_rows (x y : Int) (A : Nat) : ∀ Bn : Nat, (∀ i j : Nat, i < A → j < Bn → W64 (x + (i : Nat)) ∧ W64 (y + (j : Nat))) → (upto x y A (Bn * A)).map (·.1) = (List.range Bn).flatMap (fun j => (List.range A).map (fun i => (x + (i : Nat), y + (j : Nat))))
  | 0, _ => by simp [upto]
  | Bn + 1, h => by
    have ih := upto_rows x y A Bn (fun i j hi hj => h i j hi (by omega))
    rw [List.range_succ, List.flatMap_append, ← ih]
    have e : upto x y A ((Bn + 1) * A) = upto x y A (Bn * A) ++ (List.range A).map (fun i => mkC (cellAt x y A (Bn * A + i))) := by
      rw [Nat.succ_mul]
      simp [upto, List.range_add, Function.comp_def]
    rw [e, List.map_append]
    congr 1
    simp only [List.flatMap_cons, List.flatMap_nil, List.append_nil, List.map_map]
    refine List.map_congr_left (fun i hi => ?_)
    have hi' := List.mem_range.1 hi
    simp only [Function.comp_apply]
    rw [cellAt_row x y A Bn i hi']
    exact mkC_is (h i Bn hi' (by omega))
abbrev tU (x : Int) : Int := max ((x - 3) / 8 - 1) 0
abbrev tS (x a K : Int) : Int := min ((x + a - 1) / 8 + 1) (K - 1)
theorem col_filter (x a : Int) (K : Nat) : (List.range K).filter (fun i => colB x a (i : Nat)) = (List.range (tS x a K - tU x + 1).toNat).map (fun i => (tU x).toNat + i) := by
  rw [← filter_between (tU x) (tS x a K) K (by unfold tU; omega) (by unfold tS; omega)]
  refine List.filter_congr (fun i hi => ?_)
  have := List.mem_range.1 hi
  rw [colB, decide_eq_decide]
  unfold tU tS
  omega
theorem row_is {wd ht KW : Nat} {x y a b : Int} (hw : 1 ≤ wd ∧ wd ≤ 128) (hh : 1 ≤ ht ∧ ht ≤ 128) (h : wi x y a b 0 0 (wd : Int) (ht : Int) = true) (j : Nat) :
    rowL wd (wd * ht) x y a b j KW = if colB y b (j : Nat) = true then (List.range (tS x a KW - tU x + 1).toNat).map (fun i => (tU x + (i : Nat), ((j : Nat) : Int))) else [] := by
  have e : (List.range KW).filter (fun i => nrB wd (wd * ht) x y a b (i : Nat) (j : Nat)) = (List.range KW).filter (fun i => colB x a (i : Nat) && colB y b (j : Nat)) := List.filter_congr (fun i hi => nrB_iff hw hh h)
  rw [rowL, e]
  by_cases hc : colB y b (j : Nat) = true
  · simp only [hc, Bool.and_true, if_true]
    rw [col_filter, List.map_map]
    refine List.map_congr_left (fun i hi => ?_)
    simp only [Function.comp_apply, Prod.mk.injEq, and_true]
    unfold tU
    omega
  · simp [hc]
theorem doc_is {wd ht KW KH : Nat} {x y a b : Int} (hw : 1 ≤ wd ∧ wd ≤ 128) (hh : 1 ≤ ht ∧ ht ≤ 128) (h : wi x y a b 0 0 (wd : Int) (ht : Int) = true) :
    docL wd (wd * ht) x y a b KW KH = (List.range (tS y b KH - tU y + 1).toNat).flatMap (fun j => (List.range (tS x a KW - tU x + 1).toNat).map (fun i => (tU x + (i : Nat), tU y + (j : Nat)))) := by
  rw [docL]
  simp only [row_is hw hh h]
  rw [flatMap_if (fun j => colB y b (j : Nat)) (fun j => (List.range (tS x a KW - tU x + 1).toNat).map (fun i => (tU x + (i : Nat), ((j : Nat) : Int)))), col_filter, List.flatMap_map]
  congr 1
  funext j
  refine List.map_congr_left (fun i hi => ?_)
  rw [Prod.mk.injEq]
  refine ⟨rfl, ?_⟩
  unfold tU
  omega
/-- The rectangle of clusters that the package goes through. -/
theorem doc_all {wd ht KW KH : Nat} {x y a b : Int} (hw : 1 ≤ wd ∧ wd ≤ 128) (hh : 1 ≤ ht ∧ ht ≤ 128) (hK : KW = (wd + 7) / 8) (hK' : KH = (ht + 7) / 8) (h : wi x y a b 0 0 (wd : Int) (ht : Int) = true) :
    docL wd (wd * ht) x y a b KW KH = (allC (tU x) (tU y) (tS x a KW - tU x + 1) (tS y b KH - tU y + 1)).map (·.1) := by
  obtain ⟨hm, hx, hy⟩ := wi_parts h
  have hmay : may (tU x) (tU y) (tS x a KW - tU x + 1) (tS y b KH - tU y + 1) = true := by
    rw [may_iff]
    unfold tU tS
    omega
  rw [allC, if_pos hmay, doc_is hw hh h, upto_rows]
  intro i j hi hj
  have m := (may_iff _ _ _ _).1 hmay
  exact ⟨w64_of (by omega), w64_of (by omega)⟩
end Go.Proofs.Ytpikfplmghofbaa
