/-
  phalanxlaw03.CellSteps, walked.
-/
import Derived.Test.YtebapnoaegdejaaDoorRefSides
import Derived.Test.YtebapnoaegdejaaDoorDir
import Derived.Test.YtebapnoaegdejaaDoorAwake
namespace Go.Proofs.YtebapnoaegdejaaDoor
open Go.RowKit
set_option linter.unusedVariables false
theorem below_next {W W' w1 : World} {A : Prop} (hb : Below W'.heap.size W' w1) (h : A ∧ Below W.heap.size W W') : Below W.heap.size W w1 := bt h.2 hb
theorem Below.carry {W w2 : World} (h : Below W.heap.size W w2) {b : Nat} {u v : Value} (hb : b < W.heap.size) (h0 : W.cell? ⟨b, 0, none⟩ = some u) (h1 : W.cell? ⟨b, 1, none⟩ = some v) :
    w2.cell? ⟨b, 0, none⟩ = some u ∧ w2.cell? ⟨b, 1, none⟩ = some v ∧ b < w2.heap.size :=
  ⟨(h.cell (p := ⟨b, 0, none⟩) hb).trans h0, (h.cell (p := ⟨b, 1, none⟩) hb).trans h1, Nat.lt_of_lt_of_le hb h.size⟩
set_option maxHeartbeats 4000000 in
theorem steps_walk (x y tx ty d : Int) (w : World) (ho : Offs w) :
    Calls Tryd.prog 3 #[.agg #[.int .i64 x, .int .i64 y], .agg #[.int .i64 tx, .int .i64 ty], .int .i64 d] w fun e w' => e = .returned (.bool true) ∧ Below w.heap.size w w' := by
  have Ho := hide ho
  clear ho
  go_enter Tryd.func3, Tryd.ntmps3
  go_wp2_with (first
    | (go_at_call 9; refine (step_any _ _ _ _ (Ho.out.kept (box2 _ _ _))).mono ?_; rintro e w1 ⟨rfl, hb1⟩; obtain ⟨⟨c0, c1⟩, _, z0⟩ := cells2' hb1; have B1 := hide hb1; clear hb1)
    | (go_at_call 10; refine (refstep_any _ _ _ _).mono ?_; rintro e w2 ⟨rfl, hb2⟩; obtain ⟨c2, c3, z2⟩ := Below.carry (bt (box1 _ _) hb2) z0 c0 c1; have B2 := hide hb2; clear hb2 c0 c1)
    | (go_at_call 11; refine (sides_any _ _ _ _ (((Ho.out.kept (box2 _ _ _)).kept (bt B1.out (bt (box1 _ _) B2.out))).kept (box1 _ _))).mono ?_; rintro e w3 ⟨rfl, hb3⟩; obtain ⟨c4, c5, z4⟩ := Below.carry (bt (box1 _ _) hb3) z2 c2 c3; have B3 := hide hb3; clear hb3 c2 c3)
    | (go_at_call 12; refine (refsides_any _ _ _ _).mono ?_; rintro e w4 ⟨rfl, hb4⟩; obtain ⟨c6, c7, z6⟩ := Below.carry (bt (box2 _ _ _) hb4) z4 c4 c5; have B4 := hide hb4; clear hb4 c4 c5))
  obtain ⟨W, hW⟩ : ∃ W, (w4.alloc (.cells #[.int .i64 (siX x y d), .int .i64 (si0 x y d y)] 23)).alloc (.cells #[.int .i64 (si0 x y d x), .int .i64 (siY x y d)] 23) = W := ⟨_, rfl⟩
  have HS : Hid (∀ w', Below W.heap.size W w' → ((w'.cell? ⟨w.heap.size, 0, none⟩ = some (.int .i64 x) ∧ w'.cell? ⟨w.heap.size, 1, none⟩ = some (.int .i64 y)) ∧ (w'.cell? ⟨w.heap.size + 1, 0, none⟩ = some (.int .i64 tx) ∧ w'.cell? ⟨w.heap.size + 1, 1, none⟩ = some (.int .i64 ty)) ∧ (w'.cell? ⟨w1.heap.size, 0, none⟩ = some (.int .i64 (sX x y d)) ∧ w'.cell? ⟨w1.heap.size, 1, none⟩ = some (.int .i64 (sY x y d))) ∧ (w'.cell? ⟨w2.heap.size, 0, none⟩ = some (.int .i64 (sX x y d)) ∧ w'.cell? ⟨w2.heap.size, 1, none⟩ = some (.int .i64 (sY x y d))) ∧ (w'.cell? ⟨w3.heap.size, 0, none⟩ = some (.int .i64 (siX x y d)) ∧ w'.cell? ⟨w3.heap.size, 1, none⟩ = some (.int .i64 (si0 x y d y))) ∧ (w'.cell? ⟨w3.heap.size + 1, 0, none⟩ = some (.int .i64 (si0 x y d x)) ∧ w'.cell? ⟨w3.heap.size + 1, 1, none⟩ = some (.int .i64 (siY x y d))) ∧ (w'.cell? ⟨w4.heap.size, 0, none⟩ = some (.int .i64 (siX x y d)) ∧ w'.cell? ⟨w4.heap.size, 1, none⟩ = some (.int .i64 (si0 x y d y))) ∧ (w'.cell? ⟨w4.heap.size + 1, 0, none⟩ = some (.int .i64 (si0 x y d x)) ∧ w'.cell? ⟨w4.heap.size + 1, 1, none⟩ = some (.int .i64 (siY x y d)))) ∧ Below W.heap.size W w') := by
    intro w' h
    have hh := h
    rw [← hW] at h
    have X4 := bt (box2 _ _ _) h
    have X3 := bt B4.out X4
    have Y3 := bt (box2 _ _ _) X3
    have X2 := bt B3.out Y3
    have Y2 := bt (box1 _ _) X2
    have X1 := bt B2.out Y2
    have Y1 := bt (box1 _ _) X1
    have X0 := bt B1.out Y1
    exact ⟨⟨(cells2' X0).1, (cells2'' X0).1, (cells2 X1).1, (cells2 X2).1, (cells2' X3).1, (cells2'' X3).1, (cells2' h).1, (cells2'' h).1⟩, hh⟩
  have HB : Hid (Below w.heap.size w W) := by
    show Below _ _ _
    rw [← hW]
    exact bt (bt (box2 _ _ _) B1.out) (bt (bt (box1 _ _) B2.out) (bt (bt (box1 _ _) B3.out) (bt (bt (box2 _ _ _) B4.out) (box2 _ _ _))))
  rw [hW]
  have HoW := hide (Ho.out.kept HB.out)
  clear hW B1 B2 B3 B4 Ho c6 c7 z0 z2 z4 z6
  go_region_held3 (fun w' => ((w'.cell? ⟨w.heap.size, 0, none⟩ = some (.int .i64 x) ∧ w'.cell? ⟨w.heap.size, 1, none⟩ = some (.int .i64 y)) ∧ (w'.cell? ⟨w.heap.size + 1, 0, none⟩ = some (.int .i64 tx) ∧ w'.cell? ⟨w.heap.size + 1, 1, none⟩ = some (.int .i64 ty)) ∧ (w'.cell? ⟨w1.heap.size, 0, none⟩ = some (.int .i64 (sX x y d)) ∧ w'.cell? ⟨w1.heap.size, 1, none⟩ = some (.int .i64 (sY x y d))) ∧ (w'.cell? ⟨w2.heap.size, 0, none⟩ = some (.int .i64 (sX x y d)) ∧ w'.cell? ⟨w2.heap.size, 1, none⟩ = some (.int .i64 (sY x y d))) ∧ (w'.cell? ⟨w3.heap.size, 0, none⟩ = some (.int .i64 (siX x y d)) ∧ w'.cell? ⟨w3.heap.size, 1, none⟩ = some (.int .i64 (si0 x y d y))) ∧ (w'.cell? ⟨w3.heap.size + 1, 0, none⟩ = some (.int .i64 (si0 x y d x)) ∧ w'.cell? ⟨w3.heap.size + 1, 1, none⟩ = some (.int .i64 (siY x y d))) ∧ (w'.cell? ⟨w4.heap.size, 0, none⟩ = some (.int .i64 (siX x y d)) ∧ w'.cell? ⟨w4.heap.size, 1, none⟩ = some (.int .i64 (si0 x y d y))) ∧ (w'.cell? ⟨w4.heap.size + 1, 0, none⟩ = some (.int .i64 (si0 x y d x)) ∧ w'.cell? ⟨w4.heap.size + 1, 1, none⟩ = some (.int .i64 (siY x y d)))) ∧ Below W.heap.size W w')
    (first | exact HS.out _ ((Below.refl _ _).drew) | exact HS.out _ (by assumption))
    (first
      | (go_at_call 13; refine (near_any _ _ _).mono ?_; rintro e v1 ⟨rfl, hb1⟩; have hB1 := below_next (W := W) hb1 (by assumption); clear hb1)
      | (go_at_call 14; refine (refnear_any _ _ _).mono ?_; rintro e v2 ⟨rfl, hb2⟩; have hB2 := below_next (W := W) hb2 (by assumption); clear hb2)
      | (go_at_call 15; refine (dir_any _ _ _ _ _ (HoW.out.kept hB2)).mono ?_; rintro e v3 ⟨rfl, hb3⟩; have hB3 := below_next (W := W) hb3 (by assumption); clear hb3)
      | (go_at_call 16; refine (refdir_any _ _ _ _ _).mono ?_; rintro e v4 ⟨rfl, hb4⟩; have hB4 := below_next (W := W) hb4 (by assumption); clear hb4)
      | (go_at_call 17; refine (back_any _ _).mono ?_; rintro e v5 ⟨rfl, rfl⟩)
      | (go_at_call 18; refine (refback_any _ _).mono ?_; rintro e v5 ⟨rfl, rfl⟩)
      | (go_at_call 19; refine (cost_any _ _).mono ?_; rintro e v5 ⟨rfl, rfl⟩)
      | (go_at_call 20; refine (refcost_any _ _).mono ?_; rintro e v5 ⟨rfl, rfl⟩)
      | (go_at_call 21; refine (awake_any _ (HoW.out.kept hB4)).mono ?_; rintro e v6 ⟨rfl, hb6⟩; have hB6 := below_next (W := W) hb6 (by assumption); clear hb6))
  go_wp2_with fail
  go_ret
  exact ⟨rfl, bt HB.out hB6⟩
end Go.Proofs.YtebapnoaegdejaaDoor
