/-
  ints: whether two lists of numbers are one.
-/
import Derived.Test.YtmkoleioipklpaaNum
namespace Go.Proofs.Ytmkoleioipklpaa
open Go.RowKit
set_option linter.unusedVariables false
set_option linter.unusedSimpArgs false
/-- What ints tells. -/
def IsE (w : World) (A B : List Int) (e : Ending) (w' : World) : Prop :=
  ∃ c, e = .returned (.bool c) ∧ (c = true ↔ A = B) ∧ Below w.heap.size w w'
set_option maxRecDepth 100000 in
set_option maxHeartbeats 8000000 in
theorem ints_is (a b : Value) (A B : List Int) (w : World) (ha : Ir w a A) (hb : Ir w b B) : Calls Try.prog 10 #[a, b] w (IsE w A B) := by
  obtain ⟨aa, ca, rfl, hca, hma⟩ := ha.slice
  obtain ⟨ab, cb, rfl, hcb, hmb⟩ := hb.slice
  have l63 : ((A.length : Nat) : Int) ≤ 9223372036854775807 := by unfold maxLen at hma; omega
  have m63 : ((B.length : Nat) : Int) ≤ 9223372036854775807 := by unfold maxLen at hmb; omega
  by_cases hl : A.length = B.length
  case neg =>
    have hl' : (((A.length : Nat) : Int) != (B.length : Nat)) = true := by simpa using (by omega : ¬ ((A.length : Nat) : Int) = (B.length : Nat))
    have HL := hide hl
    clear ha hb
    go_enter Try.func10, Try.ntmps10
    go_wp2_with fail
    go_ret
    exact ⟨_, rfl, ⟨fun h => by simp at h, fun h => absurd (by rw [h]) HL.out⟩, Below.refl _ _⟩
  have HA := hide ha
  have HB := hide hb
  have HL := hide hl
  rw [← hl]
  obtain ⟨n, hn⟩ : ∃ n, A.length = n := ⟨_, rfl⟩
  rw [hn] at l63 ⊢
  have HN := hide hn
  have hirr : (((n : Nat) : Int) != (n : Nat)) = false := by simp
  clear ha hb hl m63 hma hmb hca hcb hn
  go_enter Try.func10, Try.ntmps10
  go_wp2_with fail
  go_loopw [5] (fun s5 wr => ∃ k : Nat, k ≤ n ∧ s5 = .int .i64 k ∧ A.take k = B.take k ∧ Below w.heap.size w wr) (fun s5 _ => n - (intOf s5).toNat)
  case atStart => exact ⟨0, Nat.zero_le _, rfl, by simp, Below.refl _ _⟩
  case round =>
    obtain ⟨k, hk, rfl, hS, hR⟩ := hrel
    by_cases hlt : k < n
    · have hki : (k : Int) < (n : Nat) := by omega
      obtain ⟨x, hx⟩ : ∃ x, A[k]? = some x := ⟨_, List.getElem?_eq_getElem (by have := HN.out; omega)⟩
      obtain ⟨y, hy⟩ : ∃ y, B[k]? = some y := ⟨_, List.getElem?_eq_getElem (by have := HN.out; have := HL.out; omega)⟩
      obtain ⟨Y, hY⟩ : ∃ Y, wr.drew = Y := ⟨_, rfl⟩
      have hBY : Below w.heap.size w Y := by rw [← hY]; exact hR.drew
      obtain ⟨g1, o1, hga1, hgl1, d0⟩ := Ir.at (HA.out.kept hBY) rfl hx
      obtain ⟨g2, o2, hga2, hgl2, d1⟩ := Ir.at (HB.out.kept hBY) rfl hy
      subst hga1
      subst hga2
      have HT : Hid (∀ wx, Below Y.heap.size Y wx → wx.cell? ⟨g1, o1 + k, none⟩ = some (.int .i64 x) ∧ wx.cell? ⟨g2, o2 + k, none⟩ = some (.int .i64 y)) := hide fun wx hb =>
        ⟨(hb.cell (p := ⟨g1, o1 + k, none⟩) hgl1).trans d0, (hb.cell (p := ⟨g2, o2 + k, none⟩) hgl2).trans d1⟩
      have HE : Hid (x = y → A.take (k + 1) = B.take (k + 1)) := hide fun e => by rw [List.take_add_one, List.take_add_one, hx, hy, hS, e]
      have HD : Hid (A = B → x = y) := hide fun e => by rw [e, hy] at hx; exact (Option.some.inj hx).symm
      have HBY := hide hBY
      have HY := hide hY
      clear d0 d1 hgl1 hgl2 hx hy hS hR hBY hY
      go_wp2_with fail
      refine wp_only ?_
      refine wp_region_z (fun wx : World => Below Y.heap.size Y wx) [] (by kernel_rfl) ?_
      rw [HY.out]
      refine zx 0 9 9 rfl (by kernel_rfl) (Below.refl _ _) ?_
      iterate 9 (refine zxc rfl (by rfl) (fun wx hx => by obtain ⟨d0, d1⟩ := HT.out wx hx; go_simp; rfl) ?_; simp only [zp])
      refine zxn ?_
      refine anyZ_done (by kernel_rfl) ?_ _
      dsimp only [Only, Exit.then]
      by_cases he : x = y
      · have he' : (x != y) = false := by simpa using he
        go_wp2_with fail
        go_roundw
        case rel => exact ⟨k + 1, by omega, by go_num, HE.out he, HBY.out⟩
        case measure => simp [intOf]; omega
      · have he' : (x != y) = true := by simpa using he
        go_wp2_with fail
        go_ret
        exact ⟨_, rfl, ⟨fun h => by simp at h, fun h => absurd (HD.out h) he⟩, HBY.out⟩
    · obtain rfl : k = n := by omega
      have hki : ¬ ((k : Nat) : Int) < (k : Nat) := by omega
      have HR := hide (And.intro hS hR)
      clear hS hR
      go_wp2_with fail
      go_ret
      refine ⟨_, rfl, ⟨fun _ => ?_, fun _ => rfl⟩, HR.out.2⟩
      have := HR.out.1
      rw [List.take_of_length_le (Nat.le_of_eq HN.out), List.take_of_length_le (by have := HN.out; have := HL.out; omega)] at this
      exact this
end Go.Proofs.Ytmkoleioipklpaa
