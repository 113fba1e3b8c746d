/-
  Columns of the package and of the document.
-/
import Derived.Test.YtankkngjhgpcaaaPl
namespace Go.Proofs.Ytankkngjhgpcaaa
open Go.RowKit
set_option linter.unusedVariables false
set_option linter.unusedSimpArgs false
set_option maxRecDepth 100000 in
set_option maxHeartbeats 1000000 in
theorem columns_is (n : Int) (w : World) : Calls Try.prog 8 #[.int .i64 n] w fun e w' => e = .returned (.int .i64 (colZ n)) ∧ w' = w := by
  by_cases h1 : n < 1
  · have hv : colZ n = 0 := by unfold colZ; rw [if_neg (by omega)]
    go_enter Try.func8, Try.ntmps8
    go_wp2_with fail
    go_ret
    exact ⟨ret_int (by first | rfl | exact hv.symm), rfl⟩
  · by_cases h2 : 64 < n
    · have hv : colZ n = 0 := by unfold colZ; rw [if_neg (by omega)]
      go_enter Try.func8, Try.ntmps8
      go_wp2_with fail
      go_ret
      exact ⟨ret_int (by first | rfl | exact hv.symm), rfl⟩
    · obtain ⟨m, rfl⟩ : ∃ m : Nat, n = (m : Int) := ⟨n.toNat, by omega⟩
      have hv : colZ m = (colF m : Nat) := by unfold colZ; rw [if_pos (by omega), Int.toNat_natCast]
      go_enter Try.func8, Try.ntmps8
      go_wp2_with fail
      go_loopw [3] (fun s3 wr => ∃ c : Nat, 1 ≤ c ∧ c ≤ 8 ∧ s3 = .int .i64 c ∧ (∀ d, 1 ≤ d → d < c → d * d < m) ∧ wr = w) (fun s3 _ => 8 - (intOf s3).toNat)
      case atStart => exact ⟨1, Nat.le_refl _, by omega, rfl, fun d _ _ => by omega, rfl⟩
      case round =>
        obtain ⟨c, hc1, hc8, rfl, hd, rfl⟩ := hrel
        obtain ⟨z, hz⟩ : ∃ z : Nat, c * c = z := ⟨_, rfl⟩
        have hz64 : z ≤ 64 := by rw [← hz]; exact Nat.mul_le_mul hc8 hc8
        have hq : (c : Int) * (c : Int) = (z : Nat) := by rw [← hz]; simp
        by_cases hlt : z < m
        · have hc : c < 8 := by
            rcases Nat.lt_or_ge c 8 with q | q
            · exact q
            · obtain rfl : c = 8 := by omega
              omega
          have hlt' : (z : Int) < (m : Nat) := by omega
          have hd2 := loop_next hd (by omega)
          go_wp2_with fail
          go_roundw
          case rel => exact ⟨c + 1, by omega, by omega, by go_num, hd2, trivial⟩
          case measure => simp [intOf]; omega
        · have hlt' : ¬ (z : Int) < (m : Nat) := by omega
          have hcol := hide ((IsCol.of_loop hc1 hd (by omega)).eq (colF_is (n := m) (by omega) (by omega)))
          go_wp2_with fail
          trace_state
          go_ret
          exact ⟨ret_int (by rw [hcol.out]), rfl⟩
set_option maxRecDepth 100000 in
set_option maxHeartbeats 1000000 in
theorem refcolumns_is (n : Int) (w : World) : Calls Try.prog 9 #[.int .i64 n] w fun e w' => e = .returned (.int .i64 (colZ n)) ∧ w' = w := by
  by_cases h1 : n < 1
  · have hv : colZ n = 0 := by unfold colZ; rw [if_neg (by omega)]
    go_enter Try.func9, Try.ntmps9
    go_wp2_with fail
    go_ret
    exact ⟨ret_int (by first | rfl | exact hv.symm), rfl⟩
  · by_cases h2 : 64 < n
    · have hv : colZ n = 0 := by unfold colZ; rw [if_neg (by omega)]
      go_enter Try.func9, Try.ntmps9
      go_wp2_with fail
      go_ret
      exact ⟨ret_int (by first | rfl | exact hv.symm), rfl⟩
    · obtain ⟨m, rfl⟩ : ∃ m : Nat, n = (m : Int) := ⟨n.toNat, by omega⟩
      have hv : colZ m = (colF m : Nat) := by unfold colZ; rw [if_pos (by omega), Int.toNat_natCast]
      go_enter Try.func9, Try.ntmps9
      go_wp2_with fail
      go_loopw [3] (fun s3 wr => ∃ c : Nat, 1 ≤ c ∧ c ≤ 8 ∧ s3 = .int .i64 c ∧ (∀ d, 1 ≤ d → d < c → d * d < m) ∧ wr = w) (fun s3 _ => 8 - (intOf s3).toNat)
      case atStart => exact ⟨1, Nat.le_refl _, by omega, rfl, fun d _ _ => by omega, rfl⟩
      case round =>
        obtain ⟨c, hc1, hc8, rfl, hd, rfl⟩ := hrel
        obtain ⟨z, hz⟩ : ∃ z : Nat, c * c = z := ⟨_, rfl⟩
        have hz64 : z ≤ 64 := by rw [← hz]; exact Nat.mul_le_mul hc8 hc8
        have hq : (c : Int) * (c : Int) = (z : Nat) := by rw [← hz]; simp
        by_cases hlt : z < m
        · have hc : c < 8 := by
            rcases Nat.lt_or_ge c 8 with q | q
            · exact q
            · obtain rfl : c = 8 := by omega
              omega
          have hlt' : (z : Int) < (m : Nat) := by omega
          have hd2 := loop_next hd (by omega)
          go_wp2_with fail
          go_roundw
          case rel => exact ⟨c + 1, by omega, by omega, by go_num, hd2, trivial⟩
          case measure => simp [intOf]; omega
        · have hlt' : ¬ (z : Int) < (m : Nat) := by omega
          have hcol := hide ((IsCol.of_loop hc1 hd (by omega)).eq (colF_is (n := m) (by omega) (by omega)))
          go_wp2_with fail
          go_ret
          exact ⟨ret_int (by rw [hcol.out]), rfl⟩
end Go.Proofs.Ytankkngjhgpcaaa
