/-
  The pairs in their order.
-/
import Derived.Test.YtmkoleioipklpaaOrf
import Derived.Test.YtmkoleioipklpaaPrw
namespace Go.Proofs.Ytmkoleioipklpaa
open Go.RowKit Go.Shelf Go.Sort Go.Lib
set_option linter.unusedVariables false
set_option linter.unusedSimpArgs false
theorem fpr_eq {n : Nat} (x : Fin n × Fin n) : fpr x = (x.1.val, x.2.val) := rfl
theorem cfN_swo (n : Nat) (d : Nat → Nat → Int) : SWO (ltOf (fun x y : Fin n × Fin n => cfN d (fpr x) (fpr y))) := by
  refine ⟨fun x => ?_, fun x y z => ?_, fun x y z => ?_⟩
  · unfold ltOf
    rw [decide_eq_false_iff_not, cfN_lt]
    exact (ltD_ord d).irr _
  · unfold ltOf
    simp only [decide_eq_true_iff, cfN_lt]
    exact (ltD_ord d).tr _ _ _
  · unfold ltOf
    simp only [decide_eq_false_iff_not, cfN_lt]
    intro h1 h2 h3
    rcases (ltD_ord d).tot (fpr x) (fpr y) with q | q | q
    · exact h1 q
    · rw [q] at h3; exact h2 h3
    · exact h2 ((ltD_ord d).tr _ _ _ q h3)
theorem sorted_is {w : World} {D A B : Nat} {va vp v : Value} {n : Nat} {d : Nat → Nat → Int} (hE : Env w D A B va vp n d) (hP : Pn w v (allP n)) (hf : ∀ g, v.ownBlock = some g → g ≠ D ∧ g ≠ A ∧ g ≠ B ∧ va.ownBlock ≠ some g) :
    Calls Try.prog 18 #[v, .func (.func 31) #[] #[ptr D]] w fun e w' => e = .returned (.tuple #[]) ∧ ∃ M, M.Perm (allP n) ∧ SrtL (ltD d) M ∧ Pn w' v M ∧ Turns (fun j => v.ownBlock = some j) w w' := by
  refine sort_P (n := n) (fun x y => cfN d (fpr x) (fpr y)) (ltD d) (fun x y => cfN_lt d _ _) (cfN_swo n d) 31 #[ptr D] (fun args w => by go_simp) (fun q hq => mem_allP.1 hq) (by rw [allP_len]; have := Nat.mul_le_mul hE.small hE.small; omega) (fun w' hw' hne x y => ?_) hP
  obtain ⟨g0, hg0⟩ : ∃ g, v.ownBlock = some g := by
    rcases hP.slice with ⟨rfl, e⟩ | ⟨g, cap, rfl, -⟩
    · exact absurd e hne
    · exact ⟨g, rfl⟩
  obtain ⟨h1, h2, h3, h4⟩ := hf g0 hg0
  have hE' := hE.kept (hw' g0 hg0) (fun e => h1 e.symm) (fun e => h2 e.symm) (fun e => h3 e.symm) (fun g hg e => h4 (by rw [hg, e]))
  exact order_is hE' x.1.isLt x.2.isLt y.1.isLt y.2.isLt
end Go.Proofs.Ytmkoleioipklpaa
