/-
  The footprint, of the package and of the reference.
-/
import Derived.Test.YthacppifndakjaaDoorShape
import Derived.Test.YthacppifndakjaaDoorSpan
namespace Go.Proofs.YthacppifndakjaaDoor
open Go.RowKit
set_option linter.unusedVariables false
abbrev WF (w : World) (c s x y : Int) : World := (((w.alloc (.cells #[.int .i64 c, .int .i64 s] 23)).alloc (.cells #[.int .i64 x, .int .i64 y] 25)).alloc (.cells #[.int .i64 0, .int .i64 0, .int .i64 0, .int .i64 0] 29)).alloc (.cells #[.int .i64 x, .int .i64 y, .int .i64 s, .int .i64 s] 29)
theorem wf_below (w : World) (c s x y : Int) : Below w.heap.size w (WF w c s x y) := bt (box2 _ _ _) (box2 _ _ _)
theorem wf_cells {w w1 : World} {c s x y : Int} (h : Below (WF w c s x y).heap.size (WF w c s x y) w1) :
    Four w1 (w.heap.size + 1 + 1) 0 0 0 0 ∧ Four w1 (w.heap.size + 1 + 1 + 1) x y s s := by
  have h2 := cells4 (bt (box1 _ _) h)
  have h3 := cells4 h
  constructor
  · simpa [Four] using h2
  · simpa [Four] using h3
set_option maxHeartbeats 1000000 in
theorem foot_no1 (c s x y : Int) (w : World) (h : shB c s = false) : Calls Tryd.prog 12 #[shv c s, .agg #[.int .i64 x, .int .i64 y]] w fun e w' => e = .returned (ftV c s x y) ∧ Below w.heap.size w w' := by
  have hB : fB c s x y = false := by simp [fB, h]
  unfold ftV
  rw [fi_no hB, fi_no hB, fi_no hB]
  go_enter Tryd.func12, Tryd.ntmps12
  go_wp2_with fail
  refine (shmay_is _ h).mono ?_
  rintro e w1 ⟨rfl, hb1⟩
  have HB := hide (bt (wf_below w c s x y) hb1)
  obtain ⟨⟨⟨g0, g1, g2, g3⟩, ⟨f0, f1, f2, f3⟩, z⟩, -⟩ := wf_cells hb1
  clear hb1
  go_wp2_with fail
  refine bodyPost_ret (v := .agg #[.int .i64 0, .int .i64 0, .int .i64 0, .int .i64 0]) (by simp [results, Tryd.results12, go_sem, g0, g1, g2, g3]) rfl ⟨rfl, ?_⟩
  exact (((HB.out.setCell (by simp; omega) _).setCell (by simp; omega) _).setCell (by simp; omega) _).setCell (by simp; omega) _
set_option maxHeartbeats 1000000 in
theorem foot_no2 (c s x y : Int) (w : World) (h : shB c s = true) (hm : may x y s s = false) : Calls Tryd.prog 12 #[shv c s, .agg #[.int .i64 x, .int .i64 y]] w fun e w' => e = .returned (ftV c s x y) ∧ Below w.heap.size w w' := by
  have hB : fB c s x y = false := by simp [fB, hm]
  unfold ftV
  rw [fi_no hB, fi_no hB, fi_no hB]
  go_enter Tryd.func12, Tryd.ntmps12
  go_wp2_with fail
  refine (shmay_is _ h).mono ?_
  rintro e w1 ⟨rfl, hb1⟩
  have HB1 := hide hb1
  obtain ⟨-, ⟨⟨q0, q1, q2, q3⟩, -, -⟩⟩ := wf_cells hb1
  clear hb1
  go_wp2_with fail
  refine (mayr_is _ hm).mono ?_
  rintro e w2 ⟨rfl, hb2⟩
  have hb := bt HB1.out hb2
  clear q0 q1 q2 q3 hb2 HB1
  have HB := hide (bt (wf_below w c s x y) hb)
  obtain ⟨⟨⟨g0, g1, g2, g3⟩, ⟨f0, f1, f2, f3⟩, z⟩, ⟨⟨q0, q1, q2, q3⟩, -, -⟩⟩ := wf_cells hb
  clear hb
  go_wp2_with fail
  refine bodyPost_ret (v := .agg #[.int .i64 0, .int .i64 0, .int .i64 0, .int .i64 0]) (by simp [results, Tryd.results12, go_sem, g0, g1, g2, g3]) rfl ⟨rfl, ?_⟩
  exact (((HB.out.setCell (by simp; omega) _).setCell (by simp; omega) _).setCell (by simp; omega) _).setCell (by simp; omega) _
set_option maxHeartbeats 1000000 in
theorem foot_yes (c s x y : Int) (w : World) (h : shB c s = true) (hm : may x y s s = true) : Calls Tryd.prog 12 #[shv c s, .agg #[.int .i64 x, .int .i64 y]] w fun e w' => e = .returned (ftV c s x y) ∧ Below w.heap.size w w' := by
  have hB : fB c s x y = true := by simp [fB, h, hm]
  unfold ftV
  rw [fi_yes hB, fi_yes hB, fi_yes hB]
  go_enter Tryd.func12, Tryd.ntmps12
  go_wp2_with fail
  refine (shmay_is _ h).mono ?_
  rintro e w1 ⟨rfl, hb1⟩
  have HB1 := hide hb1
  obtain ⟨-, ⟨⟨q0, q1, q2, q3⟩, -, -⟩⟩ := wf_cells hb1
  clear hb1
  go_wp2_with fail
  refine (mayr_is _ hm).mono ?_
  rintro e w2 ⟨rfl, hb2⟩
  have hb := bt HB1.out hb2
  clear q0 q1 q2 q3 hb2 HB1
  have HB := hide (bt (wf_below w c s x y) hb)
  obtain ⟨⟨⟨g0, g1, g2, g3⟩, ⟨f0, f1, f2, f3⟩, z⟩, ⟨⟨q0, q1, q2, q3⟩, -, -⟩⟩ := wf_cells hb
  clear hb
  go_wp2_with fail
  refine bodyPost_ret (v := .agg #[.int .i64 x, .int .i64 y, .int .i64 s, .int .i64 s]) (by simp [results, Tryd.results12, go_sem, g0, g1, g2, g3]) rfl ⟨rfl, ?_⟩
  exact (((HB.out.setCell (by simp; omega) _).setCell (by simp; omega) _).setCell (by simp; omega) _).setCell (by simp; omega) _
theorem foot_any (c s x y : Int) (w : World) : Calls Tryd.prog 12 #[shv c s, .agg #[.int .i64 x, .int .i64 y]] w fun e w' => e = .returned (ftV c s x y) ∧ Below w.heap.size w w' := by
  cases h : shB c s
  · exact foot_no1 c s x y w h
  · cases hm : may x y s s
    · exact foot_no2 c s x y w h hm
    · exact foot_yes c s x y w h hm
set_option maxHeartbeats 1000000 in
theorem reffoot_no1 (c s x y : Int) (w : World) (h : shB c s = false) : Calls Tryd.prog 13 #[shv c s, .agg #[.int .i64 x, .int .i64 y]] w fun e w' => e = .returned (ftV c s x y) ∧ Below w.heap.size w w' := by
  have hB : fB c s x y = false := by simp [fB, h]
  unfold ftV
  rw [fi_no hB, fi_no hB, fi_no hB]
  go_enter Tryd.func13, Tryd.ntmps13
  go_wp2_with fail
  refine (refshmay_is _ h).mono ?_
  rintro e w1 ⟨rfl, hb1⟩
  have HB := hide (bt (wf_below w c s x y) hb1)
  obtain ⟨⟨⟨g0, g1, g2, g3⟩, ⟨f0, f1, f2, f3⟩, z⟩, -⟩ := wf_cells hb1
  clear hb1
  go_wp2_with fail
  refine bodyPost_ret (v := .agg #[.int .i64 0, .int .i64 0, .int .i64 0, .int .i64 0]) (by simp [results, Tryd.results13, go_sem, g0, g1, g2, g3]) rfl ⟨rfl, ?_⟩
  exact (((HB.out.setCell (by simp; omega) _).setCell (by simp; omega) _).setCell (by simp; omega) _).setCell (by simp; omega) _
set_option maxHeartbeats 1000000 in
theorem reffoot_no2 (c s x y : Int) (w : World) (h : shB c s = true) (hm : may x y s s = false) : Calls Tryd.prog 13 #[shv c s, .agg #[.int .i64 x, .int .i64 y]] w fun e w' => e = .returned (ftV c s x y) ∧ Below w.heap.size w w' := by
  have hB : fB c s x y = false := by simp [fB, hm]
  unfold ftV
  rw [fi_no hB, fi_no hB, fi_no hB]
  go_enter Tryd.func13, Tryd.ntmps13
  go_wp2_with fail
  refine (refshmay_is _ h).mono ?_
  rintro e w1 ⟨rfl, hb1⟩
  have HB1 := hide hb1
  obtain ⟨-, ⟨⟨q0, q1, q2, q3⟩, -, -⟩⟩ := wf_cells hb1
  clear hb1
  go_wp2_with fail
  refine (refmayr_is _ hm).mono ?_
  rintro e w2 ⟨rfl, hb2⟩
  have hb := bt HB1.out hb2
  clear q0 q1 q2 q3 hb2 HB1
  have HB := hide (bt (wf_below w c s x y) hb)
  obtain ⟨⟨⟨g0, g1, g2, g3⟩, ⟨f0, f1, f2, f3⟩, z⟩, ⟨⟨q0, q1, q2, q3⟩, -, -⟩⟩ := wf_cells hb
  clear hb
  go_wp2_with fail
  refine bodyPost_ret (v := .agg #[.int .i64 0, .int .i64 0, .int .i64 0, .int .i64 0]) (by simp [results, Tryd.results13, go_sem, g0, g1, g2, g3]) rfl ⟨rfl, ?_⟩
  exact (((HB.out.setCell (by simp; omega) _).setCell (by simp; omega) _).setCell (by simp; omega) _).setCell (by simp; omega) _
set_option maxHeartbeats 1000000 in
theorem reffoot_yes (c s x y : Int) (w : World) (h : shB c s = true) (hm : may x y s s = true) : Calls Tryd.prog 13 #[shv c s, .agg #[.int .i64 x, .int .i64 y]] w fun e w' => e = .returned (ftV c s x y) ∧ Below w.heap.size w w' := by
  have hB : fB c s x y = true := by simp [fB, h, hm]
  unfold ftV
  rw [fi_yes hB, fi_yes hB, fi_yes hB]
  go_enter Tryd.func13, Tryd.ntmps13
  go_wp2_with fail
  refine (refshmay_is _ h).mono ?_
  rintro e w1 ⟨rfl, hb1⟩
  have HB1 := hide hb1
  obtain ⟨-, ⟨⟨q0, q1, q2, q3⟩, -, -⟩⟩ := wf_cells hb1
  clear hb1
  go_wp2_with fail
  refine (refmayr_is _ hm).mono ?_
  rintro e w2 ⟨rfl, hb2⟩
  have hb := bt HB1.out hb2
  clear q0 q1 q2 q3 hb2 HB1
  have HB := hide (bt (wf_below w c s x y) hb)
  obtain ⟨⟨⟨g0, g1, g2, g3⟩, ⟨f0, f1, f2, f3⟩, z⟩, ⟨⟨q0, q1, q2, q3⟩, -, -⟩⟩ := wf_cells hb
  clear hb
  go_wp2_with fail
  refine bodyPost_ret (v := .agg #[.int .i64 x, .int .i64 y, .int .i64 s, .int .i64 s]) (by simp [results, Tryd.results13, go_sem, g0, g1, g2, g3]) rfl ⟨rfl, ?_⟩
  exact (((HB.out.setCell (by simp; omega) _).setCell (by simp; omega) _).setCell (by simp; omega) _).setCell (by simp; omega) _
theorem reffoot_any (c s x y : Int) (w : World) : Calls Tryd.prog 13 #[shv c s, .agg #[.int .i64 x, .int .i64 y]] w fun e w' => e = .returned (ftV c s x y) ∧ Below w.heap.size w w' := by
  cases h : shB c s
  · exact reffoot_no1 c s x y w h
  · cases hm : may x y s s
    · exact reffoot_no2 c s x y w h hm
    · exact reffoot_yes c s x y w h hm
end Go.Proofs.YthacppifndakjaaDoor
