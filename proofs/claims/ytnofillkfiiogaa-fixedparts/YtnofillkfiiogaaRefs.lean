/-
  The reference's long numbers: what digit, less, zero, plus and minus tell of digits that lie in memory.
-/
import Derived.Test.YtnofillkfiiogaaLeaves
import Derived.Test.YtnofillkfiiogaaDigits
namespace Go.Proofs.Ytnofillkfiiogaa
open Go.RowKit
set_option linter.unusedVariables false
/-- The slice v reads as the digits l. -/
def Digs (w : World) (v : Value) (l : List Nat) : Prop :=
  Small l ∧ l.length ≤ 30000 ∧ ((l = [] ∧ ∃ a cap, v = .slice a 0 cap) ∨
    ∃ b cap, v = .slice (some ⟨b, 0, none⟩) l.length cap ∧ b < w.heap.size ∧ ∀ i, i < l.length → w.cell? ⟨b, i, none⟩ = some (.int .u64 (dig l i)))
theorem Digs.kept {w w' : World} {v : Value} {l : List Nat} (h : Digs w v l) (hb : Below w.heap.size w w') : Digs w' v l := by
  obtain ⟨hs, hl, h | ⟨b, cap, hv, hlt, hc⟩⟩ := h
  · exact ⟨hs, hl, Or.inl h⟩
  · refine ⟨hs, hl, Or.inr ⟨b, cap, hv, Nat.lt_of_lt_of_le hlt hb.size, fun i hi => ?_⟩⟩
    rw [hb.cell (p := ⟨b, i, none⟩) hlt]; exact hc i hi
set_option maxHeartbeats 400000 in
theorem digit_any (w : World) (v : Value) (l : List Nat) (i : Int) (h : Digs w v l) (hi : 0 ≤ i) (hi2 : i ≤ 60000) :
    Calls Try.prog 51 #[v, .int .i64 i] w fun e w' => e = .returned (.int .u64 (dig l i.toNat : Nat)) ∧ w' = w := by
  obtain ⟨k, rfl⟩ := Int.eq_ofNat_of_zero_le hi
  rw [Int.toNat_natCast]
  obtain ⟨hs, hl, ⟨rfl, a, cap, rfl⟩ | ⟨b, cap, rfl, hlt, hc⟩⟩ := h
  · go_enter Try.func51, Try.ntmps51
    go_wp2
    go_ret
    exact ⟨rfl, rfl⟩
  · by_cases hk : k < l.length
    · have hck := hc k hk
      have hk2 : (k : Int) < (l.length : Int) := by omega
      generalize dig l k = x at *
      generalize l.length = n at *
      clear hc hs
      go_enter Try.func51, Try.ntmps51
      go_wp2
      go_ret
      exact ⟨rfl, rfl⟩
    · have e : dig l k = 0 := dig_beyond (by omega)
      rw [e]
      generalize l.length = n at *
      clear hc e hs
      go_enter Try.func51, Try.ntmps51
      go_wp2
      go_ret
      exact ⟨rfl, rfl⟩
theorem digit_nat (w : World) (v : Value) (l : List Nat) (i : Nat) (h : Digs w v l) (hi2 : i ≤ 60000) :
    Calls Try.prog 51 #[v, .int .i64 (i : Int)] w fun e w' => e = .returned (.int .u64 (dig l i : Nat)) ∧ w' = w := by
  have := digit_any w v l (i : Int) h (by omega) (by omega)
  rwa [Int.toNat_natCast] at this
/-- The slice's value, of which the walk wants the length alone. -/
theorem Digs.shape {w : World} {v : Value} {l : List Nat} (h : Digs w v l) : ∃ a cap, v = .slice a l.length cap ∧ l.length ≤ 30000 := by
  obtain ⟨hs, hl, ⟨rfl, a, cap, rfl⟩ | ⟨b, cap, rfl, hlt, hc⟩⟩ := h
  · exact ⟨a, cap, rfl, hl⟩
  · exact ⟨_, cap, rfl, hl⟩
theorem less_last {la lb : List Nat} {k : Nat} (h : val (la.drop k) = val (lb.drop k)) (hk : k = 0) : decide (val la < val lb) = false := by
  subst hk; simp at h ⊢; omega
theorem less_parts {la lb : List Nat} {k : Nat} (ha : Small la) (hb : Small lb) (h : val (la.drop (k + 1)) = val (lb.drop (k + 1))) (hne : dig la k ≠ dig lb k) :
    decide (val la < val lb) = decide (dig la k < dig lb k) := by
  have ea := val_drop la k
  have eb := val_drop lb k
  rcases Nat.lt_or_gt_of_ne hne with h1 | h1
  · have := lt_of_drop ha k (lb := lb) (by omega)
    simp [this]; exact h1
  · have := lt_of_drop hb k (lb := la) (by omega)
    simp; omega
theorem less_same {la lb : List Nat} {k : Nat} (h : val (la.drop (k + 1)) = val (lb.drop (k + 1))) (he : dig la k = dig lb k) : val (la.drop k) = val (lb.drop k) := by
  rw [val_drop la k, val_drop lb k, h, he]
theorem Digs.small {w : World} {v : Value} {l : List Nat} (h : Digs w v l) : Small l := h.1
set_option maxHeartbeats 400000 in
theorem less_any (w : World) (va vb : Value) (la lb : List Nat) (ha : Digs w va la) (hb : Digs w vb lb) :
    Calls Try.prog 43 #[va, vb] w fun e w' => e = .returned (.bool (decide (val la < val lb))) ∧ w' = w := by
  have da := fun (i : Nat) (h1 : i ≤ 60000) => digit_nat w va la i ha h1
  have db := fun (i : Nat) (h1 : i ≤ 60000) => digit_nat w vb lb i hb h1
  have sa := ha.small
  have sb := hb.small
  obtain ⟨aa, ca, rfl, hla⟩ := ha.shape
  obtain ⟨ab, cb, rfl, hlb⟩ := hb.shape
  clear ha hb
  obtain ⟨na, hna⟩ : ∃ na, na = la.length := ⟨_, rfl⟩
  obtain ⟨nb, hnb⟩ : ∃ nb, nb = lb.length := ⟨_, rfl⟩
  rw [← hna] at da hla ⊢
  rw [← hnb] at db hlb ⊢
  have Hna := hide hna
  have Hnb := hide hnb
  have Hda := hide da
  have Hdb := hide db
  have Hsa := hide sa
  have Hsb := hide sb
  clear hna hnb da db sa sb
  obtain ⟨n, hn⟩ : ∃ n : Nat, n = max na nb := ⟨_, rfl⟩
  have h1 : na ≤ n := by omega
  have h2 : nb ≤ n := by omega
  have h3 : n ≤ 30000 := by omega
  have key : Hid (na < nb ∧ n = nb ∨ nb ≤ na ∧ n = na) := by show _ ∨ _; omega
  clear hn
  rcases key.out with ⟨hlt, rfl⟩ | ⟨hlt, rfl⟩
  have hdc : decide (na < n) = true := by simp [hlt]
  rotate_left
  have hdc : decide (n < nb) = false := by simp [hlt]
  all_goals
    clear key hlt
    go_enter Try.func43, Try.ntmps43
    go_wp2_with fail
    go_loop [6, 7, 8] (fun i _ _ => ∃ k : Nat, k ≤ n ∧ i = .int .i64 ((k : Int) - 1) ∧ val (la.drop k) = val (lb.drop k)) (fun i _ _ => (intOf i + 1).toNat)
    case atStart => exact ⟨n, Nat.le_refl _, rfl, by rw [val_drop_all _ _ (by have := Hna.out; omega), val_drop_all _ _ (by have := Hnb.out; omega)]⟩
    case round =>
      obtain ⟨k, hk, rfl, hv⟩ := hrel
      have Hv := hide hv
      clear hv
      cases k with
      | zero =>
        have hl := hide (less_last Hv.out rfl)
        go_wp2
        go_ret
        exact ⟨ret_b hl.out.symm, rfl⟩
      | succ m =>
        rw [show (((m + 1 : Nat) : Int) - 1) = (m : Int) by omega]
        go_wp2_with fail
        refine (Hda.out m (by omega)).mono ?_; rintro e w1 ⟨rfl, hw1⟩; rw [hw1]; clear hw1 w1
        go_wp2_with fail
        refine (Hdb.out m (by omega)).mono ?_; rintro e w1 ⟨rfl, hw1⟩; rw [hw1]; clear hw1 w1
        by_cases hne : dig la m = dig lb m
        · have hs := hide (less_same Hv.out hne)
          have hne2 : (((dig la m : Nat) : Int) != ((dig lb m : Nat) : Int)) = false := by rw [hne]; simp
          clear hne
          generalize dig la m = x at *
          generalize dig lb m = y at *
          go_wp2_with fail
          go_round
          case rel => exact ⟨m, by omega, rfl, hs.out⟩
          case measure => simp [intOf]
        · have hs := hide (less_parts Hsa.out Hsb.out Hv.out hne)
          have hne2 : (((dig la m : Nat) : Int) != ((dig lb m : Nat) : Int)) = true := by rw [bne_iff_ne]; omega
          generalize dig la m = x at *
          generalize dig lb m = y at *
          clear hne
          go_wp2_with fail
          go_ret
          refine ⟨ret_b ?_, rfl⟩
          rw [hs.out]
theorem zero_dec (la : List Nat) : (!decide (val [] < val la)) = decide (val la = 0) := by
  by_cases h : val la = 0
  · simp [h, val]
  · have h2 : 0 < val la := by omega
    simp [val, h, h2]
theorem digs_nil (w : World) : Digs w (.slice none 0 0) [] := ⟨small_nil, by simp, Or.inl ⟨rfl, none, 0, rfl⟩⟩
set_option maxHeartbeats 400000 in
theorem zero_any (w : World) (va : Value) (la : List Nat) (ha : Digs w va la) :
    Calls Try.prog 50 #[va] w fun e w' => e = .returned (.bool (decide (val la = 0))) ∧ w' = w := by
  have hl := hide (less_any w (.slice none 0 0) va [] la (digs_nil w) ha)
  obtain ⟨aa, ca, rfl, hla⟩ := ha.shape
  clear ha
  go_enter Try.func50, Try.ntmps50
  go_wp2_with fail
  refine hl.out.mono ?_; rintro e w1 ⟨rfl, hw1⟩; rw [hw1]; clear hw1 w1
  go_wp2_with fail
  go_ret
  exact ⟨ret_b (zero_dec la), rfl⟩
end Go.Proofs.Ytnofillkfiiogaa
