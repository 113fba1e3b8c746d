/-
  Rows of ways, one written anew; what is behind the first of a row.
-/
import Derived.Test.YtihjmgdihpeffaaRg
namespace Go.Proofs.Ytihjmgdihpeffaa
open Go.RowKit
set_option linter.unusedVariables false
set_option linter.unusedSimpArgs false
theorem wset_flat : ∀ (U : List Wv) (j : Nat) (x : Wv), j < U.length → ((U.flatMap wCs).set (j * 2) (.int .i64 x.1)).set (j * 2 + 1) x.v = (U.set j x).flatMap wCs
  | [], j, x, h => by simp at h
  | u :: r, 0, x, h => rfl
  | u :: r, j + 1, x, h => by
    have ih := wset_flat r j x (by simpa using h)
    rw [List.flatMap_cons, List.set_cons_succ, List.flatMap_cons, ← ih, show (j + 1) * 2 = j * 2 + 2 by omega]
    rfl
theorem WR.set {w : World} {g n cap : Nat} {U : List Wv} (h : WR w (.slice (some ⟨g, 0, none⟩) n cap) U) {j : Nat} (hj : j < U.length) (x : Wv) :
    WR ((w.setCell ⟨g, j * 2, none⟩ (.int .i64 x.1)).setCell ⟨g, j * 2 + 1, none⟩ x.v) (.slice (some ⟨g, 0, none⟩) n cap) (U.set j x) ∧ Turns (fun k => k = g) w ((w.setCell ⟨g, j * 2, none⟩ (.int .i64 x.1)).setCell ⟨g, j * 2 + 1, none⟩ x.v) := by
  obtain rfl : n = U.length := by
    rcases h.2 with ⟨e, -⟩ | ⟨g', cap', cur, e, -⟩
    · cases e
    · cases e; rfl
  refine ⟨?_, (Turns.set (S := fun k => k = g) w rfl _).trans (Turns.set _ (.inl rfl) _)⟩
  have h' : w.ownsRow 0 39 2 (.slice (some ⟨g, 0, none⟩) U.length cap) U.length (U.flatMap wCs) := h
  have q0 := (World.ownsRow.stored h' (j * 2) (.int .i64 x.1)).1
  have q1 := (World.ownsRow.stored q0 (j * 2 + 1) x.v).1
  rw [wset_flat U j x hj] at q1
  unfold WR Rw
  rw [List.length_set]
  exact q1
/-- What is behind the first one. -/
def hi1 (k : Nat) : Value → Value
  | .slice (some ⟨g, o, none⟩) n cap => .slice (some (if cap = 1 then ⟨g, o, none⟩ else ⟨g, o + k, none⟩)) (n - 1) (cap - 1)
  | v => v
theorem run_hi51 {ev : Operand → Value} {o : Oper} {w : World} {x t : Operand} {g n cap : Nat} (ho : o.op = .slice 51 x (some t) none none) (hx : ev x = .slice (some ⟨g, 0, none⟩) n cap) (ht : ev t = .int .i64 1) (hk : 1 ≤ n) (hn : n ≤ cap) :
    (execOp ev o).run Try.prog w = .ok (.value (hi1 6 (.slice (some ⟨g, 0, none⟩) n cap))) w := by
  have h1 : (0 : Int) ≤ (1 : Int) ∧ (1 : Int) ≤ (n : Nat) ∧ (n : Int) ≤ (cap : Nat) := by omega
  unfold execOp hi1
  rw [ho]
  simp only [hx, ht]
  by_cases hc : cap = 1
  · subst hc
    have hc' : 1 - 1 = 0 := by omega
    go_simp
  · have hc' : ¬ cap - 1 = 0 := by omega
    go_simp
theorem run_hi52 {ev : Operand → Value} {o : Oper} {w : World} {x t : Operand} {g n cap : Nat} (ho : o.op = .slice 52 x (some t) none none) (hx : ev x = .slice (some ⟨g, 0, none⟩) n cap) (ht : ev t = .int .i64 1) (hk : 1 ≤ n) (hn : n ≤ cap) :
    (execOp ev o).run Try.prog w = .ok (.value (hi1 2 (.slice (some ⟨g, 0, none⟩) n cap))) w := by
  have h1 : (0 : Int) ≤ (1 : Int) ∧ (1 : Int) ≤ (n : Nat) ∧ (n : Int) ≤ (cap : Nat) := by omega
  unfold execOp hi1
  rw [ho]
  simp only [hx, ht]
  by_cases hc : cap = 1
  · subst hc
    have hc' : 1 - 1 = 0 := by omega
    go_simp
  · have hc' : ¬ cap - 1 = 0 := by omega
    go_simp
theorem Rw.tail {α : Type} {t k : Nat} {cs : α → List Value} {w : World} {g n cap : Nat} {a : α} {l : List α} (hk : ∀ a, (cs a).length = k) (h : Rw t k cs w (.slice (some ⟨g, 0, none⟩) n cap) (a :: l)) : Rd k cs w (hi1 k (.slice (some ⟨g, 0, none⟩) n cap)) l := by
  rcases h.2 with ⟨e, -⟩ | ⟨g', cap', cur, e, hb, hg, hn, hm, hs, ht⟩
  · cases e
  · cases e
    have hn' : l.length + 1 ≤ cap := by simpa using hn
    refine ⟨some (if cap = 1 then ⟨g, 0, none⟩ else ⟨g, 0 + k, none⟩), cap - 1, by unfold hi1; simp, by omega, by omega, (fun h => by cases h), fun i x hi => ?_⟩
    have hil := (List.getElem?_eq_some_iff.1 hi).1
    have hc : ¬ cap = 1 := by omega
    refine ⟨g, 0 + k, by rw [if_neg hc], (Array.getElem?_eq_some_iff.1 hg).1, fun j u hu => ?_⟩
    obtain ⟨g2, cap2, e2, -, -, h4⟩ := Rw.elt hk h (i := i + 1) (x := x) (by simpa using hi)
    cases e2
    have := h4 j u hu
    rw [Nat.succ_mul] at this
    rw [show 0 + k + i * k + j = i * k + k + j by omega]
    exact this
end Go.Proofs.Ytihjmgdihpeffaa
