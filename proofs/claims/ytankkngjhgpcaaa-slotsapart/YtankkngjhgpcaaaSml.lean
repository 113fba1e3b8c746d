/-
  Small functions of both sides: whether a shape may be, whether a place may be; the footprint.
-/
import Derived.Test.YtankkngjhgpcaaaPl
import Derived.Test.YtankkngjhgpcaaaEnds
namespace Go.Proofs.Ytankkngjhgpcaaa
open Go.RowKit
set_option linter.unusedVariables false
set_option linter.unusedSimpArgs false
abbrev pr (c s : Int) : Value := .agg #[.int .i64 c, .int .i64 s]
abbrev rc4 (x y a b : Int) : Value := .agg #[.int .i64 x, .int .i64 y, .int .i64 a, .int .i64 b]
def isC (c : Int) : Bool := decide (0 ≤ c ∧ c < 4)
theorem isC_iff (c : Int) : isC c = true ↔ (0 ≤ c ∧ c < 4) := by simp [isC]
theorem isC_not (c : Int) : isC c = false ↔ ¬ (0 ≤ c ∧ c < 4) := by simp only [isC, decide_eq_false_iff_not]
theorem mayS_yes {c s : Int} (h : (0 ≤ c ∧ c < 4) ∧ 1 ≤ s ∧ s ≤ 4) : mayS (c, s) = true := (mayS_iff _).2 ⟨h.1.1, h.1.2, h.2⟩
theorem mayS_no {c s : Int} (h : ¬ ((0 ≤ c ∧ c < 4) ∧ 1 ≤ s ∧ s ≤ 4)) : mayS (c, s) = false := (mayS_not _).2 (fun q => h ⟨⟨q.1, q.2.1⟩, q.2.2⟩)
set_option maxHeartbeats 400000 in
theorem isclass_any (c : Int) (w : World) : Calls Try.prog 32 #[.int .i64 c] w fun e w' => e = .returned (.bool (isC c)) ∧ w' = w := by
  by_cases h1 : 0 ≤ c
  · by_cases h2 : c < 4
    · go_enter Try.func32, Try.ntmps32
      go_wp2
      go_ret
      exact ⟨ret_bool (by simp [isC, h1, h2]), rfl⟩
    · go_enter Try.func32, Try.ntmps32
      go_wp2
      go_ret
      exact ⟨ret_bool (by simp [isC, h1, h2]), rfl⟩
  · go_enter Try.func32, Try.ntmps32
    go_wp2
    go_ret
    exact ⟨ret_bool (by rw [eq_comm, isC_not]; omega), rfl⟩
theorem isclass_is {c : Int} {b : Bool} (w : World) (h : isC c = b) : Calls Try.prog 32 #[.int .i64 c] w fun e w' => e = .returned (.bool b) ∧ w' = w := by subst h; exact isclass_any c w
set_option maxHeartbeats 1000000 in
theorem shmay_any (c s : Int) (w : World) : Calls Try.prog 26 #[pr c s] w fun e w' => e = .returned (.bool (mayS (c, s))) ∧ Below w.heap.size w w' := by
  cases hc : isC c
  · go_enter Try.func26, Try.ntmps26
    go_wp2_with (go_at_call 32; refine (isclass_is _ hc).mono ?_; rintro e w' ⟨rfl, rfl⟩)
    go_ret
    exact ⟨ret_bool (by rw [mayS_no (fun h => by rw [isC_not] at hc; exact hc h.1)]), box1 _ _⟩
  · have hc2 := hide ((isC_iff c).1 hc)
    by_cases h1 : 1 ≤ s
    · by_cases h2 : s ≤ 4
      · go_enter Try.func26, Try.ntmps26
        go_wp2_with (go_at_call 32; refine (isclass_is _ hc).mono ?_; rintro e w' ⟨rfl, rfl⟩)
        go_ret
        exact ⟨ret_bool (by rw [mayS_yes ⟨hc2.out, h1, h2⟩]), box1 _ _⟩
      · go_enter Try.func26, Try.ntmps26
        go_wp2_with (go_at_call 32; refine (isclass_is _ hc).mono ?_; rintro e w' ⟨rfl, rfl⟩)
        go_ret
        exact ⟨ret_bool (by rw [mayS_no (by omega)]; simp; omega), box1 _ _⟩
    · go_enter Try.func26, Try.ntmps26
      go_wp2_with (go_at_call 32; refine (isclass_is _ hc).mono ?_; rintro e w' ⟨rfl, rfl⟩)
      go_ret
      exact ⟨ret_bool (by rw [mayS_no (by omega)]), box1 _ _⟩
set_option maxHeartbeats 1000000 in
theorem refshmay_any (c s : Int) (w : World) : Calls Try.prog 19 #[pr c s] w fun e w' => e = .returned (.bool (mayS (c, s))) ∧ Below w.heap.size w w' := by
  by_cases h0 : 0 ≤ c
  · by_cases h3 : c < 4
    · by_cases h1 : 1 ≤ s
      · by_cases h2 : s ≤ 4
        · go_enter Try.func19, Try.ntmps19
          go_wp2_with fail
          go_ret
          exact ⟨ret_bool (by rw [mayS_yes (by omega)]), box1 _ _⟩
        · go_enter Try.func19, Try.ntmps19
          go_wp2_with fail
          go_ret
          exact ⟨ret_bool (by rw [mayS_no (by omega)]), box1 _ _⟩
      · go_enter Try.func19, Try.ntmps19
        go_wp2_with fail
        go_ret
        exact ⟨ret_bool (by rw [mayS_no (by omega)]), box1 _ _⟩
    · go_enter Try.func19, Try.ntmps19
      go_wp2_with fail
      go_ret
      exact ⟨ret_bool (by rw [mayS_no (by omega)]), box1 _ _⟩
  · go_enter Try.func19, Try.ntmps19
    go_wp2_with fail
    go_ret
    exact ⟨ret_bool (by rw [mayS_no (by omega)]), box1 _ _⟩
theorem shmay_is {c s : Int} {b : Bool} (w : World) (h : mayS (c, s) = b) : Calls Try.prog 26 #[pr c s] w fun e w' => e = .returned (.bool b) ∧ Below w.heap.size w w' := by subst h; exact shmay_any c s w
theorem refshmay_is {c s : Int} {b : Bool} (w : World) (h : mayS (c, s) = b) : Calls Try.prog 19 #[pr c s] w fun e w' => e = .returned (.bool b) ∧ Below w.heap.size w w' := by subst h; exact refshmay_any c s w
set_option maxHeartbeats 400000 in
theorem isspot_any (n : Int) (w : World) : Calls Try.prog 27 #[.int .i64 n] w fun e w' => e = .returned (.bool (spot n)) ∧ w' = w := by
  by_cases h1 : -128 ≤ n
  · by_cases h2 : n ≤ 256
    · go_enter Try.func27, Try.ntmps27
      go_wp2
      go_ret
      exact ⟨ret_bool (by simp [spot, h1, h2]), rfl⟩
    · go_enter Try.func27, Try.ntmps27
      go_wp2
      go_ret
      exact ⟨ret_bool (by simp [spot, h1, h2]), rfl⟩
  · go_enter Try.func27, Try.ntmps27
    go_wp2
    go_ret
    exact ⟨ret_bool (by rw [eq_comm, spot_not]; omega), rfl⟩
theorem isspot_is {n : Int} {b : Bool} (w : World) (h : spot n = b) : Calls Try.prog 27 #[.int .i64 n] w fun e w' => e = .returned (.bool b) ∧ w' = w := by subst h; exact isspot_any n w
set_option maxHeartbeats 400000 in
theorem isplace_any (x y : Int) (w : World) : Calls Try.prog 17 #[pr x y] w fun e w' => e = .returned (.bool (plcB x y)) ∧ Below w.heap.size w w' := by
  cases hx : spot x
  all_goals
    go_enter Try.func17, Try.ntmps17
    go_wp2_with (first | (go_at_call_of 27 x; refine (isspot_is _ hx).mono ?_; rintro e w' ⟨rfl, rfl⟩) | (go_at_call 27; refine (isspot_any _ _).mono ?_; rintro e w' ⟨rfl, rfl⟩))
    go_ret
    exact ⟨ret_bool (by simp [plcB, hx]), box1 _ _⟩
set_option maxHeartbeats 1000000 in
theorem refnear_is (x y : Int) (w : World) : Calls Try.prog 20 #[pr x y] w fun e w' => e = .returned (.bool (plcB x y)) ∧ Below w.heap.size w w' := by
  by_cases h0 : -128 ≤ x
  · by_cases h3 : x ≤ 256
    · by_cases h1 : -128 ≤ y
      · by_cases h2 : y ≤ 256
        · go_enter Try.func20, Try.ntmps20
          go_wp2_with fail
          go_ret
          exact ⟨ret_bool (by simp [plcB, spot, h0, h1, h2, h3]), box1 _ _⟩
        · go_enter Try.func20, Try.ntmps20
          go_wp2_with fail
          go_ret
          exact ⟨ret_bool (by simp [plcB, spot, h0, h1, h2, h3]), box1 _ _⟩
      · go_enter Try.func20, Try.ntmps20
        go_wp2_with fail
        go_ret
        exact ⟨ret_bool (by simp [plcB, spot, h0, h3]; omega), box1 _ _⟩
    · go_enter Try.func20, Try.ntmps20
      go_wp2_with fail
      go_ret
      exact ⟨ret_bool (by simp [plcB, spot, h0, h3]; omega), box1 _ _⟩
  · go_enter Try.func20, Try.ntmps20
    go_wp2_with fail
    go_ret
    exact ⟨ret_bool (by simp [plcB, spot]; omega), box1 _ _⟩
theorem isplace_is {x y : Int} {b : Bool} (w : World) (h : plcB x y = b) : Calls Try.prog 17 #[pr x y] w fun e w' => e = .returned (.bool b) ∧ Below w.heap.size w w' := by subst h; exact isplace_any x y w
theorem near17_is {x y : Int} {b : Bool} (w : World) (h : plcB x y = b) : Calls Try.prog 20 #[pr x y] w fun e w' => e = .returned (.bool b) ∧ Below w.heap.size w w' := by subst h; exact refnear_is x y w
set_option maxHeartbeats 1000000 in
theorem foot_yes (c s x y : Int) (w : World) (hs : mayS (c, s) = true) (hm : may x y s s = true) : Calls Try.prog 21 #[pr c s, pr x y] w fun e w' => e = .returned (rc4 x y s s) ∧ Below w.heap.size w w' := by
  obtain ⟨X, hX⟩ : ∃ X, (((w.alloc (.cells #[.int .i64 c, .int .i64 s] 41)).alloc (.cells #[.int .i64 x, .int .i64 y] 24)).alloc (.cells #[.int .i64 0, .int .i64 0, .int .i64 0, .int .i64 0] 34)).alloc (.cells #[.int .i64 x, .int .i64 y, .int .i64 s, .int .i64 s] 34) = X := ⟨_, rfl⟩
  have B0 : Below w.heap.size w X := by rw [← hX]; exact bt (box2 _ _ _) (box2 _ _ _)
  have K0 : Bk X w.heap.size 41 [.int .i64 c, .int .i64 s] := by rw [← hX]; exact (((Bk.new w 41 [.int .i64 c, .int .i64 s]).upto (box1 _ _)).upto (box2 _ _ _))
  have K2 : Bk X (w.heap.size + 1 + 1) 34 [.int .i64 0, .int .i64 0, .int .i64 0, .int .i64 0] := by
    rw [← hX]
    have := (Bk.new2 (w.alloc (.cells #[.int .i64 c, .int .i64 s] 41)) (.cells #[.int .i64 x, .int .i64 y] 24) 34 [.int .i64 0, .int .i64 0, .int .i64 0, .int .i64 0])
    rw [World.size_alloc] at this
    exact this.upto (box1 _ _)
  have K3 : Bk X (w.heap.size + 1 + 1 + 1) 34 [.int .i64 x, .int .i64 y, .int .i64 s, .int .i64 s] := by
    rw [← hX]
    have := Bk.new2 ((w.alloc (.cells #[.int .i64 c, .int .i64 s] 41)).alloc (.cells #[.int .i64 x, .int .i64 y] 24)) (.cells #[.int .i64 0, .int .i64 0, .int .i64 0, .int .i64 0] 34) 34 [.int .i64 x, .int .i64 y, .int .i64 s, .int .i64 s]
    rw [World.size_alloc, World.size_alloc] at this
    exact this
  have a0 := K0.cell 0 _ rfl
  have a1 := K0.cell 1 _ rfl
  have HX := hide hX
  have HB := hide B0
  have HK2 := hide K2
  have HK3 := hide K3
  clear hX B0 K0 K2 K3
  go_enter Try.func21, Try.ntmps21
  go_wp2_with (rw [HX.out])
  refine (shmay_is X hs).mono ?_
  rintro e w1 ⟨rfl, hb1⟩
  have k30 := (HK3.out.upto hb1).cell 0 _ rfl
  have k31 := (HK3.out.upto hb1).cell 1 _ rfl
  have k32 := (HK3.out.upto hb1).cell 2 _ rfl
  have k33 := (HK3.out.upto hb1).cell 3 _ rfl
  have B1 := hide (bt HB.out hb1)
  have HK2 := hide (HK2.out.upto hb1)
  have HK3 := hide (HK3.out.upto hb1)
  clear hb1 a0 a1 HB HX
  go_wp2_with fail
  refine (may_is w1 hm).mono ?_
  rintro e w2 ⟨rfl, hb2⟩
  clear k30 k31 k32 k33
  have k30 := (HK3.out.upto hb2).cell 0 _ rfl
  have k31 := (HK3.out.upto hb2).cell 1 _ rfl
  have k32 := (HK3.out.upto hb2).cell 2 _ rfl
  have k33 := (HK3.out.upto hb2).cell 3 _ rfl
  have r0 := (HK2.out.upto hb2).cell 0 _ rfl
  have r1 := (HK2.out.upto hb2).cell 1 _ rfl
  have r2 := (HK2.out.upto hb2).cell 2 _ rfl
  have r3 := (HK2.out.upto hb2).cell 3 _ rfl
  have f0 := (HK2.out.upto hb2).frozen 0
  have f1 := (HK2.out.upto hb2).frozen 1
  have f2 := (HK2.out.upto hb2).frozen 2
  have f3 := (HK2.out.upto hb2).frozen 3
  have B2 := hide (bt B1.out hb2)
  clear hb2 B1 HK2 HK3
  go_wp2_with fail
  refine bodyPost_ret (v := rc4 x y s s) (by simp [results, Try.results21, go_sem, r0, r1, r2, r3]) rfl ⟨rfl, ?_⟩
  exact set4 B2.out (by omega)
set_option maxHeartbeats 1000000 in
theorem reffoot_yes (c s x y : Int) (w : World) (hs : mayS (c, s) = true) (hm : may x y s s = true) : Calls Try.prog 15 #[pr c s, pr x y] w fun e w' => e = .returned (rc4 x y s s) ∧ Below w.heap.size w w' := by
  obtain ⟨X, hX⟩ : ∃ X, (((w.alloc (.cells #[.int .i64 c, .int .i64 s] 41)).alloc (.cells #[.int .i64 x, .int .i64 y] 24)).alloc (.cells #[.int .i64 0, .int .i64 0, .int .i64 0, .int .i64 0] 34)).alloc (.cells #[.int .i64 x, .int .i64 y, .int .i64 s, .int .i64 s] 34) = X := ⟨_, rfl⟩
  have B0 : Below w.heap.size w X := by rw [← hX]; exact bt (box2 _ _ _) (box2 _ _ _)
  have K0 : Bk X w.heap.size 41 [.int .i64 c, .int .i64 s] := by rw [← hX]; exact (((Bk.new w 41 [.int .i64 c, .int .i64 s]).upto (box1 _ _)).upto (box2 _ _ _))
  have K2 : Bk X (w.heap.size + 1 + 1) 34 [.int .i64 0, .int .i64 0, .int .i64 0, .int .i64 0] := by
    rw [← hX]
    have := (Bk.new2 (w.alloc (.cells #[.int .i64 c, .int .i64 s] 41)) (.cells #[.int .i64 x, .int .i64 y] 24) 34 [.int .i64 0, .int .i64 0, .int .i64 0, .int .i64 0])
    rw [World.size_alloc] at this
    exact this.upto (box1 _ _)
  have K3 : Bk X (w.heap.size + 1 + 1 + 1) 34 [.int .i64 x, .int .i64 y, .int .i64 s, .int .i64 s] := by
    rw [← hX]
    have := Bk.new2 ((w.alloc (.cells #[.int .i64 c, .int .i64 s] 41)).alloc (.cells #[.int .i64 x, .int .i64 y] 24)) (.cells #[.int .i64 0, .int .i64 0, .int .i64 0, .int .i64 0] 34) 34 [.int .i64 x, .int .i64 y, .int .i64 s, .int .i64 s]
    rw [World.size_alloc, World.size_alloc] at this
    exact this
  have a0 := K0.cell 0 _ rfl
  have a1 := K0.cell 1 _ rfl
  have HX := hide hX
  have HB := hide B0
  have HK2 := hide K2
  have HK3 := hide K3
  clear hX B0 K0 K2 K3
  go_enter Try.func15, Try.ntmps15
  go_wp2_with (rw [HX.out])
  refine (refshmay_is X hs).mono ?_
  rintro e w1 ⟨rfl, hb1⟩
  have k30 := (HK3.out.upto hb1).cell 0 _ rfl
  have k31 := (HK3.out.upto hb1).cell 1 _ rfl
  have k32 := (HK3.out.upto hb1).cell 2 _ rfl
  have k33 := (HK3.out.upto hb1).cell 3 _ rfl
  have B1 := hide (bt HB.out hb1)
  have HK2 := hide (HK2.out.upto hb1)
  have HK3 := hide (HK3.out.upto hb1)
  clear hb1 a0 a1 HB HX
  go_wp2_with fail
  refine (refmay_is w1 hm).mono ?_
  rintro e w2 ⟨rfl, hb2⟩
  clear k30 k31 k32 k33
  have k30 := (HK3.out.upto hb2).cell 0 _ rfl
  have k31 := (HK3.out.upto hb2).cell 1 _ rfl
  have k32 := (HK3.out.upto hb2).cell 2 _ rfl
  have k33 := (HK3.out.upto hb2).cell 3 _ rfl
  have r0 := (HK2.out.upto hb2).cell 0 _ rfl
  have r1 := (HK2.out.upto hb2).cell 1 _ rfl
  have r2 := (HK2.out.upto hb2).cell 2 _ rfl
  have r3 := (HK2.out.upto hb2).cell 3 _ rfl
  have f0 := (HK2.out.upto hb2).frozen 0
  have f1 := (HK2.out.upto hb2).frozen 1
  have f2 := (HK2.out.upto hb2).frozen 2
  have f3 := (HK2.out.upto hb2).frozen 3
  have B2 := hide (bt B1.out hb2)
  clear hb2 B1 HK2 HK3
  go_wp2_with fail
  refine bodyPost_ret (v := rc4 x y s s) (by simp [results, Try.results15, go_sem, r0, r1, r2, r3]) rfl ⟨rfl, ?_⟩
  exact set4 B2.out (by omega)
end Go.Proofs.Ytankkngjhgpcaaa
