/-
  phalanxlaw03.CellApart, walked.
-/
import Derived.Test.YtebapnoaegdejaaDoorOctile
import Derived.Test.YtebapnoaegdejaaDoorAwake
namespace Go.Proofs.YtebapnoaegdejaaDoor
open Go.RowKit
set_option linter.unusedVariables false
theorem below_then {W W' w1 : World} {A : Prop} (hb : Below W'.heap.size W' w1) (h : A ∧ Below W.heap.size W W') : Below W.heap.size W w1 := bt h.2 hb
set_option maxHeartbeats 4000000 in
theorem apart_walk (a b c d : Int) (w : World) (ho : Offs w) :
    Calls Tryd.prog 5 #[.agg #[.int .i64 a, .int .i64 b], .agg #[.int .i64 c, .int .i64 d]] w fun e w' => e = .returned (.bool true) ∧ Below w.heap.size w w' := by
  obtain ⟨W, hW⟩ : ∃ W, (w.alloc (.cells #[.int .i64 a, .int .i64 b] 23)).alloc (.cells #[.int .i64 c, .int .i64 d] 23) = W := ⟨_, rfl⟩
  have HS : Hid (∀ w', Below W.heap.size W w' → ((w'.cell? ⟨w.heap.size, 0, none⟩ = some (.int .i64 a) ∧ w'.cell? ⟨w.heap.size, 1, none⟩ = some (.int .i64 b)) ∧ (w'.cell? ⟨w.heap.size + 1, 0, none⟩ = some (.int .i64 c) ∧ w'.cell? ⟨w.heap.size + 1, 1, none⟩ = some (.int .i64 d))) ∧ Below W.heap.size W w') := by
    intro w' h
    have hh := h
    rw [← hW] at h
    exact ⟨⟨(cells2' h).1, (cells2'' h).1⟩, hh⟩
  have HB : Hid (Below w.heap.size w W) := by
    show Below _ _ _
    rw [← hW]
    exact box2 _ _ _
  have HoW := hide (ho.kept HB.out)
  clear ho
  go_enter Tryd.func5, Tryd.ntmps5
  go_wp2_with fail
  clear hW
  go_region_held3 (fun w' => ((w'.cell? ⟨w.heap.size, 0, none⟩ = some (.int .i64 a) ∧ w'.cell? ⟨w.heap.size, 1, none⟩ = some (.int .i64 b)) ∧ (w'.cell? ⟨w.heap.size + 1, 0, none⟩ = some (.int .i64 c) ∧ w'.cell? ⟨w.heap.size + 1, 1, none⟩ = some (.int .i64 d))) ∧ Below W.heap.size W w')
    (first | exact HS.out _ ((Below.refl _ _).drew) | exact HS.out _ (by assumption))
    (first
      | (go_at_call 24; refine (apart_any _ _ _ _ _).mono ?_; rintro e v1 ⟨rfl, hb1⟩; have hB1 := below_then (W := W) hb1 (by assumption); clear hb1)
      | (go_at_call 25; refine (refapart_any _ _ _ _ _).mono ?_; rintro e v2 ⟨rfl, hb2⟩; have hB2 := below_then (W := W) hb2 (by assumption); clear hb2)
      | (go_at_call 26; refine (octilec_any _ _ _ _ _).mono ?_; rintro e v3 ⟨rfl, hb3⟩; have hB3 := below_then (W := W) hb3 (by assumption); clear hb3)
      | (go_at_call 27; refine (refoctilec_any _ _ _ _ _).mono ?_; rintro e v4 ⟨rfl, hb4⟩; have hB4 := below_then (W := W) hb4 (by assumption); clear hb4)
      | (go_at_call 28; refine (less_any _ _ _ _ _).mono ?_; rintro e v5 ⟨rfl, hb5⟩; have hB5 := below_then (W := W) hb5 (by assumption); clear hb5)
      | (go_at_call 29; refine (refless_any _ _ _ _ _).mono ?_; rintro e v6 ⟨rfl, hb6⟩; have hB6 := below_then (W := W) hb6 (by assumption); clear hb6)
      | (go_at_call 21; refine (awake_any _ (HoW.out.kept hB6)).mono ?_; rintro e v7 ⟨rfl, hb7⟩; have hB7 := below_then (W := W) hb7 (by assumption); clear hb7))
  go_wp2_with fail
  go_ret
  exact ⟨rfl, bt HB.out hB7⟩
end Go.Proofs.YtebapnoaegdejaaDoor
