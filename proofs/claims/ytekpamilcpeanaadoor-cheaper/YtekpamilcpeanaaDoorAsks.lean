/-
  All and Find of a World, Find and At of the document's. The document's At; Terrain of both.
-/
import Derived.Test.YtekpamilcpeanaaDoorPure
import Derived.Test.YtekpamilcpeanaaDoorAtW
namespace Go.Proofs.YtekpamilcpeanaaDoor
open Go.RowKit
set_option linter.unusedVariables false
abbrev Z4 (w : World) : World := w.alloc (.cells #[.int .i64 0, .int .i64 0, .int .i64 0, .int .i64 0] 67)
set_option maxHeartbeats 1000000 in
theorem all_world (p bm : Nat) (W H : Int) (tv bv ev : Value) (w : World) (hd : Wd w p W H tv bv bm ev) : Calls Tryd.prog 72 #[ptr p] w fun e w' => e = .returned (rct 0 0 W H) ∧ Below w.heap.size w w' := by
  have B0 : Below w.heap.size w (Z4 w) := box1 _ _
  have hd0 : Wd (Z4 w) p W H tv bv bm ev := hd.kept (Turns.of_below (S := NoB) B0) id
  have HM := hide (made_is hd0)
  have c0 : (Z4 w).cell? ⟨p, 0, none⟩ = some (.int .i64 0) := hd0.c 0
  have c1 : (Z4 w).cell? ⟨p, 1, none⟩ = some (.int .i64 0) := hd0.c 1
  have c2 : (Z4 w).cell? ⟨p, 2, none⟩ = some (.int .i64 W) := hd0.c 2
  have c3 : (Z4 w).cell? ⟨p, 3, none⟩ = some (.int .i64 H) := hd0.c 3
  have hp := hd.lt
  obtain ⟨⟨g0, g1, g2, g3⟩, ⟨f0, f1, f2, f3⟩, zz⟩ : Four (Z4 w) w.heap.size 0 0 0 0 := cells4 (Below.refl _ _)
  clear hd0 hd
  go_enter Tryd.func72, Tryd.ntmps72
  go_wp2_with (go_at_call 60; refine HM.out.mono ?_; rintro e w1 ⟨rfl, rfl⟩)
  refine bodyPost_ret (v := rct 0 0 W H) (by simp [results, Tryd.results72, go_sem]) rfl ⟨rfl, ?_⟩
  exact box1 _ _
end Go.Proofs.YtekpamilcpeanaaDoor
namespace Go.Proofs.YtekpamilcpeanaaDoor
open Go.RowKit
set_option linter.unusedVariables false
end Go.Proofs.YtekpamilcpeanaaDoor
