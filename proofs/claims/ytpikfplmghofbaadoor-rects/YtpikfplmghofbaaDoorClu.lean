/-
  All clusters of a World, as a rectangle; what cluster.All hands back.
-/
import Derived.Test.YtpikfplmghofbaaDoorSq
import Derived.Test.YtpikfplmghofbaaDoorAwake
import Derived.Test.YtpikfplmghofbaaDoorNest
set_option linter.unusedSimpArgs false
namespace Go.Proofs.YtpikfplmghofbaaDoor
open Go.RowKit
set_option linter.unusedVariables false
attribute [local go_sem] Oper.semAt_some
theorem Wl.sides {w : World} {p : Nat} {W H : Int} {tl : List Nat} {f : Int → Int → Option Int} (h : Wl w p W H tl f) : (1 ≤ W ∧ W ≤ 128) ∧ 1 ≤ H ∧ H ≤ 128 := by
  have hm := h.1.1
  simp only [mt, gs, Bool.and_eq_true, decide_eq_true_eq] at hm
  omega
/-- How many clusters a side has. -/
abbrev clN (n : Int) : Int := (n + 7) / 8
set_option maxHeartbeats 1000000 in
theorem clus_is {w : World} {p : Nat} {W H : Int} {tl : List Nat} {f : Int → Int → Option Int} (h : Wl w p W H tl f) :
    Calls Tryd.prog 16 #[ptr p] w fun e w' => e = .returned (rct 0 0 (clN W) (clN H)) ∧ Below w.heap.size w w' := by
  obtain ⟨hW, hH⟩ := h.sides
  show Calls Tryd.prog 16 #[ptr p] w fun e w' => e = .returned (rct 0 0 ((W + 7) / 8) ((H + 7) / 8)) ∧ Below w.heap.size w w'
  have HX := hide (sq_any (W + 7) (w64_of (by omega)))
  have HY := hide (sq_any (H + 7) (w64_of (by omega)))
  obtain ⟨a, ha⟩ : ∃ a, (W + 7) / 8 = a := ⟨_, rfl⟩
  obtain ⟨b, hb⟩ : ∃ a, (H + 7) / 8 = a := ⟨_, rfl⟩
  rw [ha] at HX ⊢
  rw [hb] at HY ⊢
  clear ha hb
  have B1 : Below w.heap.size w (w.alloc (.cells #[.int .i64 0, .int .i64 0, .int .i64 0, .int .i64 0] 34)) := box1 _ _
  obtain ⟨X, hX⟩ : ∃ X, w.alloc (.cells #[.int .i64 0, .int .i64 0, .int .i64 0, .int .i64 0] 34) = X := ⟨_, rfl⟩
  have F0 : Four X w.heap.size 0 0 0 0 := by rw [← hX]; exact cells4 (Below.refl _ _)
  rw [hX] at B1
  have HA := hide (all_is (h.kept B1))
  clear h
  have HB := hide B1
  clear B1
  go_enter Tryd.func16, Tryd.ntmps16
  go_wp2_with fail
  clear hX
  refine HA.out.mono ?_
  rintro e w1 ⟨rfl, hb1⟩
  have F1 := F0.kept hb1
  have HB1 := hide (bt HB.out hb1)
  clear F0 hb1 HA
  obtain ⟨Y, hY⟩ : ∃ Y, w1.alloc (.cells #[.int .i64 0, .int .i64 0, .int .i64 W, .int .i64 H] 34) = Y := ⟨_, rfl⟩
  have B2 : Below w1.heap.size w1 Y := by rw [← hY]; exact box1 _ _
  have F2 := F1.kept B2
  have G2 : Four Y w1.heap.size 0 0 W H := by rw [← hY]; exact cells4 (Below.refl _ _)
  have HB2 := hide (bt HB1.out B2)
  have hne : ¬ w.heap.size = w1.heap.size := by have := HB1.out.size; have := F1.2.2; omega
  clear B2 F1 HB1
  go_wp2_with fail
  clear hY
  obtain ⟨⟨-, -, c2, c3⟩, -, -⟩ := G2
  obtain ⟨⟨d0, d1, d2, d3⟩, ⟨g0, g1, g2, g3⟩, z1⟩ := F2
  have hne' : ¬ w1.heap.size = w.heap.size := fun e => hne e.symm
  have e1 : IntKind.i64.wrap (W + 7) = W + 7 := by rw [IntKind.wrap_i64]; omega
  have e2 : IntKind.i64.wrap (H + 7) = H + 7 := by rw [IntKind.wrap_i64]; omega
  clear hW hH
  go_region_held3 (fun w' => w'.cell? ⟨w1.heap.size, 2, none⟩ = some (.int .i64 W) ∧ w'.cell? ⟨w1.heap.size, 3, none⟩ = some (.int .i64 H)) (go_keep)
    (first | (go_at_call_of 31 W; refine (HX.out _).mono ?_; rintro e w' ⟨rfl, rfl⟩) | (go_at_call_of 31 H; refine (HY.out _).mono ?_; rintro e w' ⟨rfl, rfl⟩))
  go_wp2_with fail
  refine bodyPost_ret (v := rct 0 0 a b) (by simp [results, Tryd.results16, go_sem, *]) rfl ⟨rfl, ?_⟩
  exact (set4 HB2.out (by simp)).drew
theorem call_any (p : Nat) (w : World) : Calls Tryd.prog 8 #[ptr p] w fun e w' => e = .returned (.func (.func 21) #[] #[ptr w.heap.size]) ∧ w' = w.alloc (.cells #[ptr p] 29) := by
  go_enter Tryd.func8, Tryd.ntmps8
  go_wp2_with fail
  go_ret
  exact ⟨rfl, rfl⟩
end Go.Proofs.YtpikfplmghofbaaDoor
