/-
  phalanxlaw03.CellRects, walked.
-/
import Derived.Test.YtebapnoaegdejaaDoorLats
import Derived.Test.YtebapnoaegdejaaDoorMeet
import Derived.Test.YtebapnoaegdejaaDoorHull
import Derived.Test.YtebapnoaegdejaaDoorRefMeet
import Derived.Test.YtebapnoaegdejaaDoorRefHull
import Derived.Test.YtebapnoaegdejaaDoorAwake
namespace Go.Proofs.YtebapnoaegdejaaDoor
open Go.RowKit
set_option linter.unusedVariables false
abbrev W6 (w : World) (x y a b p q c d s t : Int) : World := ((w.alloc (.cells #[.int .i64 x, .int .i64 y, .int .i64 a, .int .i64 b] 34)).alloc (.cells #[.int .i64 p, .int .i64 q, .int .i64 c, .int .i64 d] 34)).alloc (.cells #[.int .i64 s, .int .i64 t] 23)
theorem w6_below (w : World) (x y a b p q c d s t : Int) : Below w.heap.size w (W6 w x y a b p q c d s t) := bt (box2 _ _ _) (box1 _ _)
theorem w6_cells {w w1 : World} {x y a b p q c d s t : Int} (h : Below (W6 w x y a b p q c d s t).heap.size (W6 w x y a b p q c d s t) w1) :
    Four w1 w.heap.size x y a b ∧ Four w1 (w.heap.size + 1) p q c d ∧ Two w1 (w.heap.size + 1 + 1) s t := by
  refine ⟨cells4' (bt (box1 _ _) h), cells4'' (bt (box1 _ _) h), ?_⟩
  have := cells2'' (w := w.alloc (.cells #[.int .i64 x, .int .i64 y, .int .i64 a, .int .i64 b] 34)) h
  simpa [Two] using this
set_option maxHeartbeats 4000000 in
theorem rects_walk (x y a b p q c d s t : Int) (w : World) (ho : Offs w) :
    Calls Tryd.prog 6 #[.agg #[.int .i64 x, .int .i64 y, .int .i64 a, .int .i64 b], .agg #[.int .i64 p, .int .i64 q, .int .i64 c, .int .i64 d], .agg #[.int .i64 s, .int .i64 t]] w fun e w' => e = .returned (.bool true) ∧ Below w.heap.size w w' := by
  obtain ⟨k0, k1, k2, k3, hk⟩ := mtV_lit x y a b p q c d
  obtain ⟨l0, l1, l2, l3, hl⟩ := huV_lit x y a b p q c d
  have C30 := fun w => meet_any x y a b p q c d w
  have C31 := fun w => refmeet_any x y a b p q c d w
  have C32 := fun w => hull_any x y a b p q c d w
  have C33 := fun w => refhull_any x y a b p q c d w
  rw [hk] at C30 C31
  rw [hl] at C32 C33
  have H30 := hide C30
  have H31 := hide C31
  have H32 := hide C32
  have H33 := hide C33
  have Ho := hide ho
  clear ho C30 C31 C32 C33 hk hl
  go_enter Tryd.func6, Tryd.ntmps6
  go_wp2_with fail
  refine (H30.out _).mono ?_
  rintro e w1 ⟨rfl, hb1⟩
  obtain ⟨c0, c1, c2, c3⟩ := (w6_cells hb1).1.1
  obtain ⟨e0, e1, e2, e3⟩ := (w6_cells hb1).2.1.1
  have z0 := (w6_cells hb1).1.2.2
  have z1 := (w6_cells hb1).2.1.2.2
  have B1 := hide hb1
  clear hb1
  go_wp2_with fail
  refine (H31.out _).mono ?_
  rintro e w2 ⟨rfl, hb2⟩
  have B2 := hide hb2
  clear hb2 c0 c1 c2 c3 e0 e1 e2 e3 z0 z1
  go_wp2_with fail
  obtain ⟨W, hW⟩ : ∃ W, w2.alloc (.cells #[.int .i64 k0, .int .i64 k1, .int .i64 k2, .int .i64 k3] 34) = W := ⟨_, rfl⟩
  have HB : Hid (Below (W6 w x y a b p q c d s t).heap.size (W6 w x y a b p q c d s t) W) := by
    show Below _ _ _
    rw [← hW]
    exact bt B1.out (bt (box1 _ _) (bt B2.out (box1 _ _)))
  have F3 : Four W w1.heap.size k0 k1 k2 k3 := by
    rw [← hW]
    exact (Four.at B2.out).kept (box1 _ _)
  have F4 : Four W w2.heap.size k0 k1 k2 k3 := by
    rw [← hW]
    exact Four.at (Below.refl _ _)
  rw [hW]
  have HoW := hide (Ho.out.kept (bt (w6_below _ _ _ _ _ _ _ _ _ _ _) HB.out))
  obtain ⟨a0, a1, a2, a3⟩ := (w6_cells HB.out).1.lat
  obtain ⟨b0, b1, b2, b3⟩ := (w6_cells HB.out).2.1.lat
  obtain ⟨c0, c1⟩ := (w6_cells HB.out).2.2.lat
  obtain ⟨d0, d1, d2, d3⟩ := F3.lat
  obtain ⟨e0, e1, e2, e3⟩ := F4.lat
  clear hW B1 B2 F3 F4 Ho
  have hne := lat_some W
  refine wp_region_lat (by kernel_rfl) (by kernel_rfl) ?_
  repeat (go_big_quiet_step (first
    | (go_at_call 32; exact calls_lat (H32.out _))
    | (go_at_call 33; exact calls_lat (H33.out _))
    | (go_at_call 34; exact calls_lat (may_any _ _ _ _ _))
    | (go_at_call 35; exact calls_lat (refmay_any _ _ _ _ _))
    | (go_at_call 36; exact calls_lat (hasc_any _ _ _ _ _ _ _))
    | (go_at_call 23; exact calls_lat (refhas_any _ _ _ _ _ _ _))
    | (go_at_call 37; exact calls_lat (within_any _ _ _ _ _ _ _ _ _))
    | (go_at_call 38; exact calls_lat (refwithin_any _ _ _ _ _ _ _ _ _))
    | (go_at_call 21; exact calls_lat (awake_any _ (HoW.out.kept (Lat.h _))))))
  refine wpQuiet_nil ?_
  rintro _ ⟨n, rfl⟩
  go_wp2_with fail
  go_ret
  exact ⟨rfl, bt (bt (w6_below _ _ _ _ _ _ _ _ _ _ _) HB.out) n.h⟩
end Go.Proofs.YtebapnoaegdejaaDoor
