/-
  The document's Dirty.
-/
import Derived.Test.YtobjadfchpgjeaaRefRaze2
set_option linter.unusedSimpArgs false
namespace Go.Proofs.Ytobjadfchpgjeaa
open Go.RowKit
set_option linter.unusedVariables false
theorem rcs_drop : ∀ (l : List Rc) (i : Nat), (l.drop i).flatMap Rc.cs = (l.flatMap Rc.cs).drop (i * 4)
  | l, 0 => by simp
  | [], i + 1 => by simp
  | t :: r, i + 1 => by
    rw [List.drop_succ_cons, rcs_drop r i, List.flatMap_cons, List.drop_append]
    have : t.cs.length = 4 := rfl
    rw [show t.cs.drop ((i + 1) * 4) = [] from List.drop_eq_nil_of_le (by omega), List.nil_append, this, show (i + 1) * 4 - 4 = i * 4 by omega]
theorem rc_cells {w : World} {g n cap : Nat} {l : List Rc} (h : Rcs w (.slice (some ⟨g, 0, none⟩) n cap) l) (m : Nat) : ∀ j u, ((l.drop m).flatMap Rc.cs)[j]? = some u → w.cell? ((⟨g, m * 4, none⟩ : Addr).add j) = some u := fun j u hu => by
  rw [rcs_drop, List.getElem?_drop] at hu
  have := World.ownsRow.cells h (g := g) rfl (m * 4 + j) u hu
  simpa [Addr.add_lit] using this
set_option maxHeartbeats 1000000 in
theorem refdirty_no (r : Nat) (W H : Int) (tv bv ev : Value) (es : List Rc) (e : Int) (w : World) (hd : Rd w r W H tv bv ev) (he : Rcs w ev es) (h : e < 0 ∨ (es.length : Int) < e) :
    Calls Try.prog 19 #[ptr r, .int .i64 e] w fun x w' => x = .returned (.slice none 0 0) ∧ w' = w := by
  obtain ⟨a, cap, rfl, -, -⟩ := he.form
  have c4 : w.cell? ⟨r, 4, none⟩ = some (.slice a es.length cap) := hd.c 4
  clear hd he
  by_cases h0 : e < 0
  · go_enter Try.func19, Try.ntmps19
    go_wp2_with fail
    go_ret
    exact ⟨rfl, rfl⟩
  · have h1 : (es.length : Int) < e := h.resolve_left h0
    go_enter Try.func19, Try.ntmps19
    go_wp2_with fail
    go_ret
    exact ⟨rfl, rfl⟩
set_option maxRecDepth 100000 in
set_option maxHeartbeats 2000000 in
theorem refdirty_yes (r : Nat) (W H : Int) (tv bv ev : Value) (es : List Rc) (k : Nat) (w : World) (hd : Rd w r W H tv bv ev) (he : Rcs w ev es) (hk : k ≤ es.length) (hes : es.length * 32 ≤ 140737488355328) :
    Calls Try.prog 19 #[ptr r, .int .i64 k] w fun x w' => ∃ v, x = .returned v ∧ Rcs w' v (es.drop k) ∧ Below w.heap.size w w' ∧ ∀ b, v.ownBlock = some b → w.heap.size ≤ b := by
  have c4 : w.cell? ⟨r, 4, none⟩ = some ev := hd.c 4
  obtain ⟨fj, hfj, hzj, h4, h32⟩ := info_parts info43
  rcases he.2 with ⟨rfl, h0⟩ | ⟨g, cap, cur, rfl, -, -, hn, hm, -⟩
  · have he0 := List.eq_nil_of_length_eq_zero h0
    subst he0
    have hk0 : k = 0 := by simpa using hk
    subst hk0
    clear hd he hk
    go_enter Try.func19, Try.ntmps19
    go_wp2_with fail
    go_ret
    exact ⟨_, rfl, World.ownsRow_nil _ _ _ _, Below.refl _ _, fun b e => by cases e⟩
  · have hki : (0 : Int) ≤ (k : Int) ∧ (k : Int) ≤ (es.length : Nat) ∧ (k : Int) ≤ (cap : Nat) := by omega
    have hcm : (cap : Int) ≤ 9223372036854775807 := by unfold maxLen at hm; omega
    have hD : ((es.drop k).flatMap Rc.cs).length = (es.length - k) * 4 := by rw [rcs_len, List.length_drop]
    have hm1 : 0 + (es.length - k) ≤ maxLen := by unfold maxLen; omega
    have hm2 : (0 + (es.length - k)) * 32 ≤ 140737488355328 := by omega
    obtain ⟨ad, hadd⟩ : ∃ ad : Addr, ad = (if cap - k = 0 then ⟨g, 0, none⟩ else ⟨g, k * 4, none⟩) := ⟨_, rfl⟩
    have HT := hide (show ∀ j u, ((es.drop k).flatMap Rc.cs)[j]? = some u → w.cell? (ad.add j) = some u from fun j u hu => by
      rw [hadd]
      split
      · rename_i hc
        rw [List.drop_eq_nil_of_le (by omega)] at hu
        simp at hu
      · exact rc_cells he k j u hu)
    clear hd he
    by_cases hc : cap - k = 0
    · rw [if_pos hc] at hadd
      subst hadd
      have hl0 : es.length - k = 0 := by omega
      rw [hl0] at hD hm1 hm2
      have HL := hide (show (es.drop k).length = 0 by rw [List.length_drop]; exact hl0)
      go_enter Try.func19, Try.ntmps19
      go_wp2_with (at_builtin; refine wpList_append_own_at _ rfl _ _ 48 rfl 0 43 fj z43 4 32 Try.underlying48 hfj hzj h4 h32 rfl (by decide) (.slice none 0 0) 0 [] rfl (World.ownsRow_nil _ _ _ _) ⟨g, 0, none⟩ 0 0 ((es.drop k).flatMap Rc.cs) rfl hD HT.out one_rcs hm1 hm2 (Nat.zero_le _) ?_; intro v1 w2 hown1 hgrow1 hnil1 hloc1; rw [List.nil_append] at hown1; obtain ⟨a1, cap1, rfl⟩ := row_any hown1; have HO := hide hown1; have HG := hide hgrow1; have HLc := hide hloc1; clear hown1 hgrow1 hnil1 hloc1)
      go_ret
      exact ⟨_, rfl, by unfold Rcs; rw [HL.out]; exact HO.out, below_of_grown HG.out, fun b e => new2 HLc.out (Nat.le_refl _) e⟩
    · rw [if_neg hc] at hadd
      subst hadd
      have HL := hide (show (es.drop k).length = es.length - k by rw [List.length_drop])
      go_enter Try.func19, Try.ntmps19
      go_wp2_with (at_builtin; refine wpList_append_own_at _ rfl _ _ 48 rfl 0 43 fj z43 4 32 Try.underlying48 hfj hzj h4 h32 rfl (by decide) (.slice none 0 0) 0 [] rfl (World.ownsRow_nil _ _ _ _) ⟨g, k * 4, none⟩ (es.length - k) (cap - k) ((es.drop k).flatMap Rc.cs) rfl hD HT.out one_rcs hm1 hm2 (Nat.zero_le _) ?_; intro v1 w2 hown1 hgrow1 hnil1 hloc1; rw [List.nil_append, Nat.zero_add] at hown1; obtain ⟨a1, cap1, rfl⟩ := row_any hown1; have HO := hide hown1; have HG := hide hgrow1; have HLc := hide hloc1; clear hown1 hgrow1 hnil1 hloc1)
      go_ret
      exact ⟨_, rfl, by unfold Rcs; rw [HL.out]; exact HO.out, below_of_grown HG.out, fun b e => new2 HLc.out (Nat.le_refl _) e⟩
end Go.Proofs.Ytobjadfchpgjeaa
