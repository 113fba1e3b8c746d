/-
  phalanxlaw11.ClusterOf at every cell.
-/
import Derived.Test.YtpikfplmghofbaaAw
set_option linter.unusedSimpArgs false
namespace Go.Proofs.Ytpikfplmghofbaa
open Go.RowKit Go.Shelf
set_option linter.unusedVariables false
attribute [local go_sem] Oper.semAt_some
set_option maxHeartbeats 2000000 in
theorem of_walk (x y : Int) (hx : W64 x) (hy : W64 y) (w : World) : Calls Try.prog 3 #[cel x y] w fun e w' => e = .returned (.bool true) ∧ Below w.heap.size w w' := by
  have B1 : Below w.heap.size w (w.alloc (.cells #[.int .i64 x, .int .i64 y] 23)) := box1 _ _
  obtain ⟨X, hX⟩ : ∃ X, w.alloc (.cells #[.int .i64 x, .int .i64 y] 23) = X := ⟨_, rfl⟩
  have T0 : Two X w.heap.size x y := by rw [← hX]; exact Two.newAt rfl
  rw [hX] at B1
  have H6 : Hid (∀ v, Calls Try.prog 6 #[cel x y] v fun e w' => e = .returned (cel (x / 8) (y / 8)) ∧ Below v.heap.size v w') := hide (of_any x y hx hy)
  have H7 : Hid (∀ v, Calls Try.prog 7 #[cel x y] v fun e w' => e = .returned (cel (x / 8) (y / 8)) ∧ Below v.heap.size v w') := hide (refof_any x y hx hy)
  clear hx hy
  generalize x / 8 = a at H6 H7
  generalize y / 8 = b at H6 H7
  have HB := hide B1
  clear B1
  go_enter Try.func3, Try.ntmps3
  go_wp2_with fail
  clear hX
  obtain ⟨d0, d1⟩ := T0.lat
  have hne := lat_some X
  clear T0
  refine wp_region_lat (by kernel_rfl) (by kernel_rfl) ?_
  repeat (go_big_quiet_step (first | (go_at_call 6; exact calls_lat (H6.out _)) | (go_at_call 7; exact calls_lat (H7.out _)) | (go_at_call 8; exact calls_lat (aw_is _))))
  refine wpQuiet_nil ?_
  rintro _ ⟨n, rfl⟩
  go_wp2_with fail
  go_ret
  exact ⟨rfl, bt HB.out n.h⟩
end Go.Proofs.Ytpikfplmghofbaa
