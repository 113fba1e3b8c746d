/-
  A slice of cells, wherever it begins; a copy of it.
-/
import Derived.Test.YtpikfplmghofbaaApart
import Derived.Test.YtpikfplmghofbaaNew
set_option linter.unusedSimpArgs false
namespace Go.Proofs.Ytpikfplmghofbaa
open Go.RowKit
set_option linter.unusedVariables false
/-- The slice v, wherever it begins, reads as the cells P. -/
def CeR (w : World) (v : Value) (P : List (Int × Int)) : Prop :=
  ∃ a cap, v = .slice a P.length cap ∧ P.length ≤ cap ∧ P.length ≤ maxLen ∧ (a = none → P.length = 0 ∧ cap = 0) ∧ ∀ (i : Nat) q, P[i]? = some q → ∃ g o, a = some ⟨g, o, none⟩ ∧ g < w.heap.size ∧ w.cell? ⟨g, o + i * 2, none⟩ = some (.int .i64 q.1) ∧ w.cell? ⟨g, o + i * 2 + 1, none⟩ = some (.int .i64 q.2)
theorem CeR.kept {w w' : World} {v : Value} {P : List (Int × Int)} (h : CeR w v P) (hb : Below w.heap.size w w') : CeR w' v P := by
  obtain ⟨a, cap, e, h1, h2, h3, h4⟩ := h
  refine ⟨a, cap, e, h1, h2, h3, fun i x hx => ?_⟩
  obtain ⟨g, o, e1, e2, e3, e4⟩ := h4 i x hx
  exact ⟨g, o, e1, Nat.lt_of_lt_of_le e2 hb.size, (hb.cell (p := ⟨g, _, none⟩) e2).trans e3, (hb.cell (p := ⟨g, _, none⟩) e2).trans e4⟩
theorem drop_cons' {P : List (Int × Int)} {k : Nat} {q : Int × Int} (h : P[k]? = some q) : P.drop k = q :: P.drop (k + 1) := by
  obtain ⟨hl, hq⟩ := List.getElem?_eq_some_iff.1 h
  rw [List.drop_eq_getElem_cons hl, hq]
theorem append_nil27 (w : World) (g : Nat) (ty : TypeId) : (Builtin.append_ #[27, 27] ty #[.slice (some ⟨g, 0, none⟩) 0 0, .slice none 0 0]).run Try.prog w = .ok (.slice (some ⟨g, 0, none⟩) 0 0) w := by kernel_rfl
theorem info23c : (Try.prog.info? 23).map (fun i => (i.zero, i.size, i.bytes)) = some (some (.agg #[.int .i64 0, .int .i64 0]), 2, 16) := by kernel_rfl
def ceCs (q : Int × Int) : List Value := [.int .i64 q.1, .int .i64 q.2]
theorem ce_len (P : List (Int × Int)) : (P.flatMap ceCs).length = P.length * 2 := by
  induction P with
  | nil => rfl
  | cons q r ih => rw [List.flatMap_cons, List.length_append, ih, List.length_cons]; simp [ceCs]; omega
theorem ce_get : ∀ (P : List (Int × Int)) (i : Nat) (q : Int × Int) (j : Nat), P[i]? = some q → j < 2 → (P.flatMap ceCs)[i * 2 + j]? = (ceCs q)[j]?
  | [], i, q, j, h, hj => by simp at h
  | p :: r, 0, q, j, h, hj => by
    simp at h; subst h
    rw [List.flatMap_cons, Nat.zero_mul, Nat.zero_add, List.getElem?_append_left (by simpa [ceCs] using hj)]
  | p :: r, i + 1, q, j, h, hj => by
    have := ce_get r i q j (by simpa using h) hj
    rw [List.flatMap_cons, List.getElem?_append_right (by simp [ceCs]; omega)]
    rw [← this]
    congr 1
    simp [ceCs]; omega
theorem ce_one {P : List (Int × Int)} : ∀ u ∈ P.flatMap ceCs, u.oneCell' = true := by
  intro u hu
  obtain ⟨q, -, hq⟩ := List.mem_flatMap.1 hu
  simp [ceCs] at hq
  rcases hq with rfl | rfl <;> rfl
theorem CeR.cellsAt {w : World} {a : Option Addr} {P : List (Int × Int)} {cap : Nat} (h : CeR w (.slice a P.length cap) P) : ∀ ad, a = some ad → ∀ j u, (P.flatMap ceCs)[j]? = some u → w.cell? (ad.add j) = some u := fun ad ha j u hu => by
  obtain ⟨a', cap', e, -, -, -, hat⟩ := h
  injection e with e1
  subst e1
  have hj : j < P.length * 2 := by have := (List.getElem?_eq_some_iff.1 hu).1; rwa [ce_len] at this
  obtain ⟨q, hq⟩ : ∃ q, P[j / 2]? = some q := ⟨_, List.getElem?_eq_getElem (by omega)⟩
  have hg := ce_get P (j / 2) q (j % 2) hq (by omega)
  rw [show j / 2 * 2 + j % 2 = j by omega] at hg
  rw [hg] at hu
  obtain ⟨g, o, e1, e2, c0, c1⟩ := hat (j / 2) q hq
  rw [ha] at e1
  cases e1
  rw [Addr.add_lit]
  have hm : j % 2 < 2 := by omega
  have hj5 : o + j = o + j / 2 * 2 + j % 2 := by omega
  rw [hj5]
  match hq : j % 2, hm with
  | 0, _ => rw [hq] at hu; cases hu; simpa using c0
  | 1, _ => rw [hq] at hu; cases hu; exact c1
theorem ceR_own {w : World} {v : Value} {P : List (Int × Int)} (h : w.ownsRow 0 23 2 v P.length (P.flatMap ceCs)) : CeR w v P := by
  rcases h.2 with ⟨e, h0⟩ | ⟨g, cap, cur, e, hb, hg, hn, hm, hs, ht⟩
  · exact ⟨none, 0, by rw [h0]; exact e, by omega, by rw [h0]; decide, fun _ => ⟨h0, rfl⟩, fun i t hi => by
      have := List.eq_nil_of_length_eq_zero h0; subst this; simp at hi⟩
  · refine ⟨_, cap, e, hn, Nat.le_trans hn hm, (fun h => by cases h), fun i q hi => ?_⟩
    have hc : ∀ j u, (ceCs q)[j]? = some u → j < 2 → w.cell? ⟨g, 0 + i * 2 + j, none⟩ = some u := fun j u hu hj => by
      have := h.cells (g := g) (by rw [e]; rfl) (i * 2 + j) u (by rw [ce_get P i q j hi hj]; exact hu)
      simpa [Addr.add_lit] using this
    exact ⟨g, 0, rfl, (Array.getElem?_eq_some_iff.1 hg).1, hc 0 _ rfl (by omega), hc 1 _ rfl (by omega)⟩
/-- append of a path onto an empty slice. -/
theorem append_path (w : World) (a : Option Addr) (cap : Nat) (P : List (Int × Int)) (h : CeR w (.slice a P.length cap) P) (hlen : P.length * 16 ≤ 140737488355328) :
    ∃ v3 w3, (Builtin.append_ #[27, 27] 27 #[.slice (some ⟨w.heap.size, 0, none⟩) 0 0, .slice a P.length cap]).run Try.prog (w.alloc (.cells #[] 23)) = .ok v3 w3 ∧ CeR w3 v3 P ∧ Below w.heap.size w w3 := by
  have hA := h.kept (box1 w (.cells #[] 23))
  obtain ⟨a', cap', e, h1, h2, h3, h4⟩ := h
  injection e with e1 e2 e3
  subst e1; subst e3
  cases a with
  | none =>
    obtain ⟨h0, rfl⟩ := h3 rfl
    rw [h0]
    refine ⟨_, _, append_nil27 _ _ _, ?_, box1 _ _⟩
    have := List.eq_nil_of_length_eq_zero h0
    subst this
    exact ⟨some ⟨w.heap.size, 0, none⟩, 0, rfl, Nat.le_refl _, by decide, (fun h => by cases h), fun i q hq => by simp at hq⟩
  | some ad =>
    obtain ⟨fi, hf, hz, hs, hb⟩ := info_parts info23c
    have hbase : (w.alloc (.cells #[] 23)).ownsRow 0 23 2 (.slice (some ⟨w.heap.size, 0, none⟩) 0 0) 0 [] := World.ownsRow_made w #[] 0 (Nat.zero_le _) (by decide) rfl
    obtain ⟨v', w', hr, g2, g3, g4, g6⟩ := run_append_own_at (P := Try.prog) (w.alloc (.cells #[] 23)) 0 27 27 23 fi (.agg #[.int .i64 0, .int .i64 0]) 2 16 Try.underlying27 hf hz hs hb rfl (by decide) (.slice (some ⟨w.heap.size, 0, none⟩) 0 0) 0 [] hbase ad P.length cap (P.flatMap ceCs) (ce_len P) (hA.cellsAt ad rfl) ce_one (by omega) (by omega) (Nat.zero_le _)
    rw [Nat.zero_add, List.nil_append] at g2
    exact ⟨v', w', hr, ceR_own g2, (box1 w _).grown g3 (by simp) (fun j e => by cases e; exact Nat.le_refl _)⟩
end Go.Proofs.Ytpikfplmghofbaa
