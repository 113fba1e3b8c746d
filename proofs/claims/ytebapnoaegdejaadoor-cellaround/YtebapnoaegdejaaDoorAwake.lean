/-
  What phalanxlaw03.awake tells.
-/
import Derived.Test.YtebapnoaegdejaaDoorDirs
namespace Go.Proofs.YtebapnoaegdejaaDoor
open Go.RowKit
set_option linter.unusedVariables false
set_option maxHeartbeats 1000000 in
theorem awake_any (w : World) (ho : Offs w) : Calls Tryd.prog 21 #[] w fun e w' => e = .returned (.bool true) ∧ Below w.heap.size w w' := by
  have d1 : sX 4 4 5 = 3 := by decide
  have d2 : sY 4 4 5 = 5 := by decide
  have d3 : sB 4 4 5 = true := by decide
  have d4 : co 4 = 14 := by decide
  go_enter Tryd.func21, Tryd.ntmps21
  go_wp2_with (first | (go_at_call 9; refine (step_any _ _ _ _ ho).mono ?_; rintro e w1 ⟨rfl, hb1⟩) | (go_at_call 19; refine (cost_any _ _).mono ?_; rintro e w' ⟨rfl, rfl⟩))
  go_ret
  exact ⟨rfl, bt hb1 (box1 _ _)⟩
end Go.Proofs.YtebapnoaegdejaaDoor
