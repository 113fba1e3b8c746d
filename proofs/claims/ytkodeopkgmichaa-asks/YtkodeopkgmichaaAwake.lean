/-
  What phalanxlaw05.awake tells.
-/
import Derived.Test.YtkodeopkgmichaaPut
namespace Go.Proofs.Ytkodeopkgmichaa
open Go.RowKit Go.Shelf
set_option linter.unusedVariables false
theorem who7 : putAll (fun _ _ => none) (allC 1 1 2 2) 7 2 2 = some 7 := by decide
theorem len7 : (allC 1 1 2 2).length = 4 := by decide
theorem may7 : may 1 1 2 2 = true := by decide
theorem on7 : (onL (fun _ _ => none) (allC 1 1 2 2)).all (fun j => decide (j = 7)) = true := by decide
/-- An index behind New: a unit is put, and asked for. -/
theorem put7 (w w0 : World) (p fm bm : Nat) (h : Ix w p fm bm 0 0 (fun _ => none) (fun _ _ => none)) (hB : Below w0.heap.size w0 w) (h1 : w0.heap.size ≤ fm) (h2 : w0.heap.size ≤ bm) :
    Calls Try.prog 19 #[ptr p, .int .i64 7, .agg #[.int .i64 1, .int .i64 1, .int .i64 2, .int .i64 2]] w fun e w' => e = .returned (.int .i64 0) ∧ Below w0.heap.size w0 w' ∧
    (∀ wx, Below w'.heap.size w' wx → Calls Try.prog 11 #[ptr p, .agg #[.int .i64 2, .int .i64 2]] wx fun e w2 => e = .returned (.tuple #[.int .i64 7, .bool true]) ∧ Below wx.heap.size wx w2) ∧
    ∀ wx, Below w'.heap.size w' wx → Calls Try.prog 23 #[ptr p] wx fun e w2 => e = .returned (.int .i64 1) ∧ w2 = wx := by
  refine (put_ok p fm bm 0 0 _ _ 7 1 1 2 2 w h (by decide) (by decide) (by rw [len7]; decide) may7 rfl rfl on7).mono ?_
  rintro e w' ⟨rfl, h', t'⟩
  refine ⟨rfl, hB.trans (t'.below (fun k hk => by rcases hk with h | h <;> omega) hB.size), fun wx hx => ?_, fun wx hx => ?_⟩
  · have := at_any p fm bm _ _ _ _ 2 2 (by decide) (by decide) wx (h'.kept hx)
    rw [who7] at this
    exact this
  · exact len_any p fm bm _ _ _ _ wx (h'.kept hx)
set_option maxRecDepth 100000 in
set_option maxHeartbeats 1000000 in
theorem awake_any (w : World) : Calls Try.prog 7 #[] w fun e w' => e = .returned (.bool true) ∧ Below w.heap.size w w' := by
  have HN := hide (new_any w)
  go_enter Try.func7, Try.ntmps7
  go_wp2_with (first | (go_at_call 8; refine HN.out.mono ?_; clear HN; rintro e w1 ⟨rfl, hb1, h1⟩; have HP := hide (put7 w1 w (w.heap.size + 1 + 1) w.heap.size (w.heap.size + 1) h1 hb1 (Nat.le_refl _) (by omega)); clear h1 hb1) | (go_at_call 19; refine HP.out.mono ?_; clear HP; rintro e w2 ⟨rfl, hb2, hA, hE⟩; have HA := hide (hA w2 (Below.refl _ _)); have HE := hide hE; clear hA hE) | (go_at_call 11; refine HA.out.mono ?_; clear HA; rintro e w3 ⟨rfl, hb3⟩; have HL := hide (HE.out w3 hb3)) | (go_at_call 23; refine HL.out.mono ?_; rintro e w4 ⟨rfl, rfl⟩))
  go_ret
  exact ⟨rfl, bt hb2 hb3⟩
end Go.Proofs.Ytkodeopkgmichaa
