/-
  Shapes: which may be, what a class stands on, the footprint; of the package and of the reference. The footprint, of the package and of the reference.
-/
import Derived.Test.YtekpamilcpeanaaDoorRect
import Derived.Test.YtekpamilcpeanaaDoorEnds
namespace Go.Proofs.YtekpamilcpeanaaDoor
open Go.RowKit
set_option linter.unusedVariables false
def isC (c : Int) : Bool := decide (0 ≤ c ∧ c < 4)
theorem isC_iff (c : Int) : isC c = true ↔ (0 ≤ c ∧ c < 4) := by simp [isC]
theorem isC_not (c : Int) : isC c = false ↔ ¬ (0 ≤ c ∧ c < 4) := by simp only [isC, decide_eq_false_iff_not]
def shB (c s : Int) : Bool := isC c && decide (1 ≤ s ∧ s ≤ 4)
theorem shB_iff (c s : Int) : shB c s = true ↔ ((0 ≤ c ∧ c < 4) ∧ 1 ≤ s ∧ s ≤ 4) := by simp [shB, isC]
theorem shB_no {c s : Int} (h : ¬ ((0 ≤ c ∧ c < 4) ∧ 1 ≤ s ∧ s ≤ 4)) : shB c s = false := by rw [Bool.eq_false_iff, ne_eq, shB_iff]; exact h
def onB (c t : Int) : Bool := (decide (c = 0) && (decide (t = 0) || decide (t = 1))) || (decide (c = 1) && decide (t = 0)) || (decide (c = 2) && decide (t = 2)) || (decide (c = 3) && (decide (t = 0) || decide (t = 2)))
def grN (k : Nat) : Int := match k with
  | 0 => 3 | 1 => 1 | 2 => 4 | _ => 5
/-- The table of what each class stands on lies in block 1. -/
def Grnd (w : World) : Prop := 1 < w.heap.size ∧ ∀ k : Nat, k < 4 → w.cell? ⟨1, k, none⟩ = some (.int .u8 (grN k))
theorem Grnd.kept {w w' : World} (h : Grnd w) (hb : Below w.heap.size w w') : Grnd w' :=
  ⟨Nat.lt_of_lt_of_le h.1 hb.size, fun k hk => (hb.cell (p := ⟨1, k, none⟩) h.1).trans (h.2 k hk)⟩
set_option maxHeartbeats 400000 in
theorem isclass_any (c : Int) (w : World) : Calls Tryd.prog 96 #[.int .i64 c] w fun e w' => e = .returned (.bool (isC c)) ∧ w' = w := by
  by_cases h1 : 0 ≤ c
  · by_cases h2 : c < 4
    · go_enter Tryd.func96, Tryd.ntmps96
      go_wp2
      go_ret
      exact ⟨ret_bool (by simp [isC, h1, h2]), rfl⟩
    · go_enter Tryd.func96, Tryd.ntmps96
      go_wp2
      go_ret
      exact ⟨ret_bool (by simp [isC, h1, h2]), rfl⟩
  · go_enter Tryd.func96, Tryd.ntmps96
    go_wp2
    go_ret
    exact ⟨ret_bool (by rw [eq_comm, isC_not]; omega), rfl⟩
theorem isclass_is {c : Int} {b : Bool} (w : World) (h : isC c = b) : Calls Tryd.prog 96 #[.int .i64 c] w fun e w' => e = .returned (.bool b) ∧ w' = w := by subst h; exact isclass_any c w
abbrev shv (c s : Int) : Value := .agg #[.int .i64 c, .int .i64 s]
set_option maxHeartbeats 1000000 in
theorem shmay_any (c s : Int) (w : World) : Calls Tryd.prog 87 #[shv c s] w fun e w' => e = .returned (.bool (shB c s)) ∧ Below w.heap.size w w' := by
  cases hc : isC c
  · go_enter Tryd.func87, Tryd.ntmps87
    go_wp2_with (go_at_call 96; refine (isclass_is _ hc).mono ?_; rintro e w' ⟨rfl, rfl⟩)
    go_ret
    exact ⟨ret_bool (by simp [shB, hc]), box1 _ _⟩
  · by_cases h1 : 1 ≤ s
    · by_cases h2 : s ≤ 4
      · go_enter Tryd.func87, Tryd.ntmps87
        go_wp2_with (go_at_call 96; refine (isclass_is _ hc).mono ?_; rintro e w' ⟨rfl, rfl⟩)
        go_ret
        exact ⟨ret_bool (by simp [shB, hc, h1, h2]), box1 _ _⟩
      · go_enter Tryd.func87, Tryd.ntmps87
        go_wp2_with (go_at_call 96; refine (isclass_is _ hc).mono ?_; rintro e w' ⟨rfl, rfl⟩)
        go_ret
        exact ⟨ret_bool (by rw [shB_no (by omega)]; simp; omega), box1 _ _⟩
    · go_enter Tryd.func87, Tryd.ntmps87
      go_wp2_with (go_at_call 96; refine (isclass_is _ hc).mono ?_; rintro e w' ⟨rfl, rfl⟩)
      go_ret
      exact ⟨ret_bool (by rw [shB_no (by omega)]), box1 _ _⟩
theorem onB_no {c t : Int} (h : isC c = false) : onB c t = false := by
  rw [isC_not] at h
  have h0 : c ≠ 0 := by omega
  have h1 : c ≠ 1 := by omega
  have h2 : c ≠ 2 := by omega
  have h3 : c ≠ 3 := by omega
  simp [onB, h0, h1, h2, h3]
theorem onB_no2 {c t : Int} (h : ¬ (0 ≤ t ∧ t < 4)) : onB c t = false := by
  have h0 : t ≠ 0 := by omega
  have h1 : t ≠ 1 := by omega
  have h2 : t ≠ 2 := by omega
  simp [onB, h0, h1, h2]
set_option maxHeartbeats 4000000 in
theorem on_yes (c t : Nat) (w : World) (hc : c < 4) (ht : t < 4) (hg : Grnd w) : Calls Tryd.prog 92 #[.int .i64 c, .int .i64 t] w fun e w' => e = .returned (.bool (onB c t)) ∧ w' = w := by
  have hi : isC (c : Int) = true := (isC_iff _).2 (by omega)
  have c0 := hg.2 0 (by decide)
  have c1 := hg.2 1 (by decide)
  have c2 := hg.2 2 (by decide)
  have c3 := hg.2 3 (by decide)
  simp only [grN] at c0 c1 c2 c3
  clear hg
  match c, hc, hi, t, ht with
  | 0, _, hi, 0, _ | 0, _, hi, 1, _ | 0, _, hi, 2, _ | 0, _, hi, 3, _ | 1, _, hi, 0, _ | 1, _, hi, 1, _ | 1, _, hi, 2, _ | 1, _, hi, 3, _ | 2, _, hi, 0, _ | 2, _, hi, 1, _ | 2, _, hi, 2, _ | 2, _, hi, 3, _ | 3, _, hi, 0, _ | 3, _, hi, 1, _ | 3, _, hi, 2, _ | 3, _, hi, 3, _ =>
    go_enter Tryd.func92, Tryd.ntmps92
    go_wp2_with (go_at_call 96; refine (isclass_is _ hi).mono ?_; rintro e w' ⟨rfl, rfl⟩)
    go_ret
    exact ⟨rfl, rfl⟩
theorem on_any (c t : Int) (w : World) (hg : Grnd w) : Calls Tryd.prog 92 #[.int .i64 c, .int .i64 t] w fun e w' => e = .returned (.bool (onB c t)) ∧ w' = w := by
  cases hi : isC c
  · rw [onB_no hi]
    go_enter Tryd.func92, Tryd.ntmps92
    go_wp2_with (go_at_call 96; refine (isclass_is _ hi).mono ?_; rintro e w' ⟨rfl, rfl⟩)
    go_ret
    exact ⟨rfl, rfl⟩
  · by_cases h0 : 0 ≤ t
    · by_cases h1 : t < 4
      · have h := (isC_iff _).1 hi
        have := on_yes c.toNat t.toNat w (by omega) (by omega) hg
        rwa [Int.toNat_of_nonneg h.1, Int.toNat_of_nonneg h0] at this
      · rw [onB_no2 (by omega)]
        go_enter Tryd.func92, Tryd.ntmps92
        go_wp2_with (go_at_call 96; refine (isclass_is _ hi).mono ?_; rintro e w' ⟨rfl, rfl⟩)
        go_ret
        exact ⟨rfl, rfl⟩
    · rw [onB_no2 (by omega)]
      go_enter Tryd.func92, Tryd.ntmps92
      go_wp2_with (go_at_call 96; refine (isclass_is _ hi).mono ?_; rintro e w' ⟨rfl, rfl⟩)
      go_ret
      exact ⟨rfl, rfl⟩
theorem on_is {c t : Int} {b : Bool} (w : World) (hg : Grnd w) (h : onB c t = b) : Calls Tryd.prog 92 #[.int .i64 c, .int .i64 t] w fun e w' => e = .returned (.bool b) ∧ w' = w := by subst h; exact on_any c t w hg
theorem shmay_is {c s : Int} {b : Bool} (w : World) (h : shB c s = b) : Calls Tryd.prog 87 #[shv c s] w fun e w' => e = .returned (.bool b) ∧ Below w.heap.size w w' := by subst h; exact shmay_any c s w
theorem mayr_is {x y a b : Int} {c : Bool} (w : World) (h : may x y a b = c) : Calls Tryd.prog 85 #[.agg #[.int .i64 x, .int .i64 y, .int .i64 a, .int .i64 b]] w fun e w' => e = .returned (.bool c) ∧ Below w.heap.size w w' := by subst h; exact may_any x y a b w
theorem refmayr_is {x y a b : Int} {c : Bool} (w : World) (h : may x y a b = c) : Calls Tryd.prog 76 #[.agg #[.int .i64 x, .int .i64 y, .int .i64 a, .int .i64 b]] w fun e w' => e = .returned (.bool c) ∧ Below w.heap.size w w' := by subst h; exact refmay_any x y a b w
/-- Whether there is a footprint. -/
def fB (c s x y : Int) : Bool := shB c s && may x y s s
def fi (c s x y z : Int) : Int := if fB c s x y = true then z else 0
abbrev ftV (c s x y : Int) : Value := .agg #[.int .i64 (fi c s x y x), .int .i64 (fi c s x y y), .int .i64 (fi c s x y s), .int .i64 (fi c s x y s)]
theorem fi_no {c s x y z : Int} (h : fB c s x y = false) : fi c s x y z = 0 := by simp [fi, h]
theorem fi_yes {c s x y z : Int} (h : fB c s x y = true) : fi c s x y z = z := by simp [fi, h]
end Go.Proofs.YtekpamilcpeanaaDoor
namespace Go.Proofs.YtekpamilcpeanaaDoor
open Go.RowKit
set_option linter.unusedVariables false
abbrev WF (w : World) (c s x y : Int) : World := (((w.alloc (.cells #[.int .i64 c, .int .i64 s] 37)).alloc (.cells #[.int .i64 x, .int .i64 y] 23)).alloc (.cells #[.int .i64 0, .int .i64 0, .int .i64 0, .int .i64 0] 67)).alloc (.cells #[.int .i64 x, .int .i64 y, .int .i64 s, .int .i64 s] 67)
theorem wf_below (w : World) (c s x y : Int) : Below w.heap.size w (WF w c s x y) := bt (box2 _ _ _) (box2 _ _ _)
theorem wf_cells {w w1 : World} {c s x y : Int} (h : Below (WF w c s x y).heap.size (WF w c s x y) w1) :
    Four w1 (w.heap.size + 1 + 1) 0 0 0 0 ∧ Four w1 (w.heap.size + 1 + 1 + 1) x y s s := by
  have h2 := cells4 (bt (box1 _ _) h)
  have h3 := cells4 h
  constructor
  · simpa [Four] using h2
  · simpa [Four] using h3
set_option maxHeartbeats 1000000 in
theorem foot_no1 (c s x y : Int) (w : World) (h : shB c s = false) : Calls Tryd.prog 70 #[shv c s, .agg #[.int .i64 x, .int .i64 y]] w fun e w' => e = .returned (ftV c s x y) ∧ Below w.heap.size w w' := by
  have hB : fB c s x y = false := by simp [fB, h]
  unfold ftV
  rw [fi_no hB, fi_no hB, fi_no hB]
  go_enter Tryd.func70, Tryd.ntmps70
  go_wp2_with fail
  refine (shmay_is _ h).mono ?_
  rintro e w1 ⟨rfl, hb1⟩
  have HB := hide (bt (wf_below w c s x y) hb1)
  obtain ⟨⟨⟨g0, g1, g2, g3⟩, ⟨f0, f1, f2, f3⟩, z⟩, -⟩ := wf_cells hb1
  clear hb1
  go_wp2_with fail
  refine bodyPost_ret (v := .agg #[.int .i64 0, .int .i64 0, .int .i64 0, .int .i64 0]) (by simp [results, Tryd.results70, go_sem, g0, g1, g2, g3]) rfl ⟨rfl, ?_⟩
  exact (((HB.out.setCell (by simp; omega) _).setCell (by simp; omega) _).setCell (by simp; omega) _).setCell (by simp; omega) _
set_option maxHeartbeats 1000000 in
theorem foot_no2 (c s x y : Int) (w : World) (h : shB c s = true) (hm : may x y s s = false) : Calls Tryd.prog 70 #[shv c s, .agg #[.int .i64 x, .int .i64 y]] w fun e w' => e = .returned (ftV c s x y) ∧ Below w.heap.size w w' := by
  have hB : fB c s x y = false := by simp [fB, hm]
  unfold ftV
  rw [fi_no hB, fi_no hB, fi_no hB]
  go_enter Tryd.func70, Tryd.ntmps70
  go_wp2_with fail
  refine (shmay_is _ h).mono ?_
  rintro e w1 ⟨rfl, hb1⟩
  have HB1 := hide hb1
  obtain ⟨-, ⟨⟨q0, q1, q2, q3⟩, -, -⟩⟩ := wf_cells hb1
  clear hb1
  go_wp2_with fail
  refine (mayr_is _ hm).mono ?_
  rintro e w2 ⟨rfl, hb2⟩
  have hb := bt HB1.out hb2
  clear q0 q1 q2 q3 hb2 HB1
  have HB := hide (bt (wf_below w c s x y) hb)
  obtain ⟨⟨⟨g0, g1, g2, g3⟩, ⟨f0, f1, f2, f3⟩, z⟩, ⟨⟨q0, q1, q2, q3⟩, -, -⟩⟩ := wf_cells hb
  clear hb
  go_wp2_with fail
  refine bodyPost_ret (v := .agg #[.int .i64 0, .int .i64 0, .int .i64 0, .int .i64 0]) (by simp [results, Tryd.results70, go_sem, g0, g1, g2, g3]) rfl ⟨rfl, ?_⟩
  exact (((HB.out.setCell (by simp; omega) _).setCell (by simp; omega) _).setCell (by simp; omega) _).setCell (by simp; omega) _
set_option maxHeartbeats 1000000 in
theorem foot_yes (c s x y : Int) (w : World) (h : shB c s = true) (hm : may x y s s = true) : Calls Tryd.prog 70 #[shv c s, .agg #[.int .i64 x, .int .i64 y]] w fun e w' => e = .returned (ftV c s x y) ∧ Below w.heap.size w w' := by
  have hB : fB c s x y = true := by simp [fB, h, hm]
  unfold ftV
  rw [fi_yes hB, fi_yes hB, fi_yes hB]
  go_enter Tryd.func70, Tryd.ntmps70
  go_wp2_with fail
  refine (shmay_is _ h).mono ?_
  rintro e w1 ⟨rfl, hb1⟩
  have HB1 := hide hb1
  obtain ⟨-, ⟨⟨q0, q1, q2, q3⟩, -, -⟩⟩ := wf_cells hb1
  clear hb1
  go_wp2_with fail
  refine (mayr_is _ hm).mono ?_
  rintro e w2 ⟨rfl, hb2⟩
  have hb := bt HB1.out hb2
  clear q0 q1 q2 q3 hb2 HB1
  have HB := hide (bt (wf_below w c s x y) hb)
  obtain ⟨⟨⟨g0, g1, g2, g3⟩, ⟨f0, f1, f2, f3⟩, z⟩, ⟨⟨q0, q1, q2, q3⟩, -, -⟩⟩ := wf_cells hb
  clear hb
  go_wp2_with fail
  refine bodyPost_ret (v := .agg #[.int .i64 x, .int .i64 y, .int .i64 s, .int .i64 s]) (by simp [results, Tryd.results70, go_sem, g0, g1, g2, g3]) rfl ⟨rfl, ?_⟩
  exact (((HB.out.setCell (by simp; omega) _).setCell (by simp; omega) _).setCell (by simp; omega) _).setCell (by simp; omega) _
theorem foot_any (c s x y : Int) (w : World) : Calls Tryd.prog 70 #[shv c s, .agg #[.int .i64 x, .int .i64 y]] w fun e w' => e = .returned (ftV c s x y) ∧ Below w.heap.size w w' := by
  cases h : shB c s
  · exact foot_no1 c s x y w h
  · cases hm : may x y s s
    · exact foot_no2 c s x y w h hm
    · exact foot_yes c s x y w h hm
end Go.Proofs.YtekpamilcpeanaaDoor
