/-
  An argument of numbers; the law's list with one left out.
-/
import Derived.Test.YtdhiomahcilffaaActs
namespace Go.Proofs.Ytdhiomahcilffaa
open Go.RowKit
set_option linter.unusedVariables false
set_option linter.unusedSimpArgs false
/-- The slice v, wherever it begins, reads as the numbers zs. -/
def Nr (w : World) (v : Value) (zs : List Int) : Prop :=
  ∃ a cap, v = .slice a zs.length cap ∧ zs.length ≤ 9223372036854775807 ∧ ∀ i z, zs[i]? = some z → ∃ g o, a = some ⟨g, o, none⟩ ∧ w.cell? ⟨g, o + i, none⟩ = some (.int .i64 z)
theorem Nr.upto {w w' : World} {v : Value} {zs : List Int} {B : Nat} (h : Nr w v zs) (hb : Below w.heap.size w w') : Nr w' v zs := by
  obtain ⟨a, cap, e, h1, h2⟩ := h
  refine ⟨a, cap, e, h1, fun i z hz => ?_⟩
  obtain ⟨g, o, e1, e2⟩ := h2 i z hz
  exact ⟨g, o, e1, (hb.cell (World.block_lt_of_cell? w _ e2)).trans e2⟩
theorem Al.take {w : World} {g cap : Nat} {l : List It} (h : Al w (.slice (some ⟨g, 0, none⟩) l.length cap) l) {i : Nat} (hi : i < l.length) : Al w (.slice (some ⟨g, 0, none⟩) i i) (l.take i) := by
  rcases h with ⟨e, rfl⟩ | ⟨g', cap', cur, e, hg, h1, h2, h3, h4⟩
  · cases e
  · simp only [Value.slice.injEq, Option.some.injEq, Addr.mk.injEq, and_true, true_and] at e
    obtain ⟨rfl, rfl⟩ := e
    have hl : (l.take i).length = i := by simp; omega
    refine .inr ⟨g, i, cur, by rw [hl], hg, by omega, by omega, ?_, .inr hl.symm⟩
    rw [hl]
    have e2 : (cur.toList.take (l.length * 2)).take (i * 2) = (l.flatMap kc).take (i * 2) := by rw [h3]
    rw [List.take_take, Nat.min_eq_left (by omega)] at e2
    rw [e2]
    have e3 : l.flatMap kc = (l.take i).flatMap kc ++ (l.drop i).flatMap kc := by rw [← List.flatMap_append, List.take_append_drop]
    rw [e3, List.take_append_of_le_length (by rw [kc_len, hl]; exact Nat.le_refl _), List.take_of_length_le (by rw [kc_len, hl]; exact Nat.le_refl _)]
theorem Al.drop {w : World} {g cap : Nat} {l : List It} (h : Al w (.slice (some ⟨g, 0, none⟩) l.length cap) l) (m : Nat) : ∀ j u, ((l.drop m).flatMap kc)[j]? = some u → w.cell? ((⟨g, m * 2, none⟩ : Addr).add j) = some u := fun j u hu => by
  rw [Addr.add_lit]
  refine h.cells (m * 2 + j) u ?_
  rcases Nat.lt_or_ge l.length m with hm | hm
  · rw [List.drop_of_length_le (by omega)] at hu
    simp at hu
  · have e3 : l.flatMap kc = (l.take m).flatMap kc ++ (l.drop m).flatMap kc := by rw [← List.flatMap_append, List.take_append_drop]
    have hl : ((l.take m).flatMap kc).length = m * 2 := by rw [kc_len]; simp; omega
    rw [e3, List.getElem?_append_right (by omega), hl, Nat.add_sub_cancel_left]
    exact hu
theorem append_none (w : World) (ty : TypeId) (g i : Nat) (ad : Addr) (c : Nat) : (Builtin.append_ #[28, 28] ty #[.slice (some ⟨g, 0, none⟩) i i, .slice (some ad) 0 c]).run Try.prog w = .ok (.slice (some ⟨g, 0, none⟩) i i) w := by
  obtain ⟨fi, hf, hz, h2, h16⟩ := info_parts info26
  have := run_append_room_cells (P := Try.prog) w 28 ty 26 fi Try.underlying28 hf g 0 i i ad 0 c [] (by simp) (fun j u hu => by simp at hu) (fun u hu => by simp at hu) (by omega) (fun j hj => by simp at hj) (fun j hj => by simp at hj)
  simpa [World.setCells] using this
/-- One left out of the law's list. -/
theorem Al.cut {w : World} {g cap : Nat} {l : List It} (h : Al w (.slice (some ⟨g, 0, none⟩) l.length cap) l) {i : Nat} (hi : i < l.length) (hlen : l.length ≤ 1000) (ty : TypeId) (ad : Addr) (c : Nat) (hd : i + 1 < l.length → ad = ⟨g, (i + 1) * 2, none⟩) :
    ∃ v' w', (Builtin.append_ #[28, 28] ty #[.slice (some ⟨g, 0, none⟩) i i, .slice (some ad) (l.length - (i + 1)) c]).run Try.prog w = .ok v' w' ∧ Al w' v' (del l i) ∧ w.grownBy w' (some g) ∧ (v'.ownBlock = some g ∨ ∃ k, v'.ownBlock = some k ∧ w.heap.size ≤ k) := by
  have ht := h.take hi
  have hl : (l.take i).length = i := by simp; omega
  by_cases hm : i + 1 < l.length
  · have hdl : (l.drop (i + 1)).length = l.length - (i + 1) := by simp
    obtain ⟨v', w', q1, q2, q3, q4⟩ := ht.append (l.drop (i + 1)) ad c ty (by rw [hd hm]; exact h.drop (i + 1)) (by omega) (by rw [hl, hdl]; omega)
    rw [hdl] at q1
    exact ⟨v', w', q1, q2, q3, q4⟩
  · have e : l.length - (i + 1) = 0 := by omega
    have e2 : l.drop (i + 1) = [] := List.drop_of_length_le (by omega)
    rw [e]
    refine ⟨_, _, append_none w ty g i ad c, ?_, ⟨rfl, rfl, rfl, Nat.le_refl _, fun _ _ _ => rfl⟩, .inl rfl⟩
    unfold del
    rw [e2, List.append_nil]
    exact ht
end Go.Proofs.Ytdhiomahcilffaa
