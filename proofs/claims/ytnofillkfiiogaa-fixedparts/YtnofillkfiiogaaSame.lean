/-
  phalanxlaw01.same, where both answers are one.
-/
import Derived.Test.YtnofillkfiiogaaTops
namespace Go.Proofs.Ytnofillkfiiogaa
open Go.RowKit
set_option linter.unusedVariables false
set_option maxHeartbeats 400000 in
theorem same_one (x : Int) (p : Bool) (w : World) :
    Calls Try.prog 10 #[.int .i64 x, .bool p, .int .i64 x, .bool p] w fun e w' => e = .returned (.bool true) ∧ w' = w := by
  go_enter Try.func10, Try.ntmps10
  go_wp2
  go_ret
  exact ⟨rfl, rfl⟩
end Go.Proofs.Ytnofillkfiiogaa
