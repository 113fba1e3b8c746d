/-
  How far two numbers of clusters are apart, by the package and by the document.
-/
import Derived.Test.YtpikfplmghofbaaSq
set_option linter.unusedSimpArgs false
namespace Go.Proofs.Ytpikfplmghofbaa
open Go.RowKit
set_option linter.unusedVariables false
attribute [local go_sem] Oper.semAt_some
def apK (a b : Int) : Int := if a < b then b - a else a - b
def smallK (a : Int) : Prop := -131072 ≤ a ∧ a ≤ 131072
theorem apK_range {a b : Int} (ha : smallK a) (hb : smallK b) : 0 ≤ apK a b ∧ apK a b ≤ 262144 := by
  unfold smallK at ha hb
  unfold apK
  split <;> omega
theorem apart_any (a b : Int) (w : World) (ha : smallK a) (hb : smallK b) : Calls Try.prog 20 #[.int .i64 a, .int .i64 b] w fun e w' => e = .returned (.int .i64 (apK a b)) ∧ w' = w := by
  unfold smallK at ha hb
  by_cases h : a < b
  · rw [show apK a b = b - a by rw [apK, if_pos h]]
    go_enter Try.func20, Try.ntmps20
    go_wp2
    go_ret
    exact ⟨ret_int (by omega), rfl⟩
  · rw [show apK a b = a - b by rw [apK, if_neg h]]
    go_enter Try.func20, Try.ntmps20
    go_wp2
    go_ret
    exact ⟨ret_int (by omega), rfl⟩
theorem refapart_any (a b : Int) (w : World) (ha : smallK a) (hb : smallK b) : Calls Try.prog 21 #[.int .i64 a, .int .i64 b] w fun e w' => e = .returned (.int .i64 (apK a b)) ∧ w' = w := by
  unfold smallK at ha hb
  by_cases h : a < b
  · rw [show apK a b = b - a by rw [apK, if_pos h]]
    go_enter Try.func21, Try.ntmps21
    go_wp2
    go_ret
    exact ⟨rfl, rfl⟩
  · rw [show apK a b = a - b by rw [apK, if_neg h]]
    go_enter Try.func21, Try.ntmps21
    go_wp2
    go_ret
    exact ⟨rfl, rfl⟩
end Go.Proofs.Ytpikfplmghofbaa
