/-
  Which tiles may be.
-/
import Derived.Test.YthacppifndakjaaDoorTiles
namespace Go.Proofs.YthacppifndakjaaDoor
open Go.RowKit
set_option linter.unusedVariables false
def mt (W H : Int) (l : List Nat) : Bool := gs W 128 && (gs H 128 && (decide ((l.length : Int) = W * H) && l.all (fun x => decide (x < 4))))
theorem area {W H : Int} (h1 : gs W 128 = true) (h2 : gs H 128 = true) : 1 ≤ W * H ∧ W * H ≤ 16384 := by
  simp only [gs, decide_eq_true_iff] at h1 h2
  refine ⟨?_, ?_⟩
  · have := Int.mul_le_mul h1.1 h2.1 (by omega) (by omega); omega
  · have := Int.mul_le_mul h1.2 h2.2 (by omega) (by omega); omega
theorem mx_all (l : List Nat) : decide (((mx l : Nat) : Int) < 4) = l.all (fun x => decide (x < 4)) := by
  rw [Bool.eq_iff_iff, decide_eq_true_iff, List.all_eq_true]
  have := mx_lt (l := l) (show 0 < 4 by omega)
  simp only [decide_eq_true_iff]
  rw [← this]
  omega
abbrev mp (W H : Int) (tv bv : Value) : Value := .agg #[.int .i64 W, .int .i64 H, tv, bv]
set_option maxRecDepth 100000 in
set_option maxHeartbeats 2000000 in
theorem maytiles_any (W H : Int) (tv : Value) (b2 : Option Addr) (n2 c2 : Nat) (l : List Nat) (w : World) (hv : Tls w tv l) (hb : ∀ x ∈ l, x < 256) :
    Calls Tryd.prog 55 #[mp W H tv (.slice b2 n2 c2)] w fun e w' => e = .returned (.bool (mt W H l)) ∧ Below w.heap.size w w' := by
  obtain ⟨a, cap, rfl, hcap, hmax, -⟩ := hv.form
  have hl63 : (0 : Int) ≤ (l.length : Nat) ∧ ((l.length : Nat) : Int) ≤ 9223372036854775807 := by
    have : l.length ≤ 9223372036854775807 := Nat.le_trans hcap hmax
    omega
  cases h1 : gs W 128
  · have hm : mt W H l = false := by simp [mt, h1]
    rw [hm]
    clear hm hv
    go_enter Tryd.func55, Tryd.ntmps55
    go_wp2_with (go_at_call 73; refine (gside_any _ _ _).mono ?_; rintro e w' ⟨rfl, rfl⟩)
    go_ret
    exact ⟨rfl, box1 _ _⟩
  · cases h2 : gs H 128
    · have hm : mt W H l = false := by simp [mt, h2]
      rw [hm]
      clear hm hv
      go_enter Tryd.func55, Tryd.ntmps55
      go_wp2_with (go_at_call 73; refine (gside_any _ _ _).mono ?_; rintro e w' ⟨rfl, rfl⟩)
      go_ret
      exact ⟨rfl, box1 _ _⟩
    · have hA := area h1 h2
      have hw : IntKind.i64.wrap (W * H) = W * H := by rw [IntKind.wrap_i64]; omega
      by_cases h3 : (l.length : Int) = W * H
      · have hm : mt W H l = l.all (fun x => decide (x < 4)) := by simp [mt, h1, h2, h3]
        have hbq : (((l.length : Nat) : Int) != W * H) = false := by simp [h3]
        have T0 : Turns NoB w (w.alloc (.cells #[.int .i64 W, .int .i64 H, .slice a l.length cap, .slice b2 n2 c2] 36)) := Turns.of_below (box1 _ _)
        have HX := hide (max_any l _ _ (hv.kept T0 (fun _ _ => id)) (by omega) (by omega) hb)
        rw [hm, ← mx_all l]
        have hmx := mx_le hb
        obtain ⟨m, hmm⟩ : ∃ m, mx l = m := ⟨_, rfl⟩
        rw [hmm] at HX hmx ⊢
        have H3 := hide h3
        clear hm hv hmm h3 hA T0 hb
        go_enter Tryd.func55, Tryd.ntmps55
        go_wp2_with (first | (go_at_call 73; refine (gside_any _ _ _).mono ?_; rintro e w' ⟨rfl, rfl⟩) | (go_at_call 74; refine HX.out.mono ?_; rintro e w' ⟨rfl, rfl⟩))
        go_ret
        exact ⟨rfl, box1 _ _⟩
      · have hm : mt W H l = false := by simp [mt, h3]
        have hbq : (((l.length : Nat) : Int) != W * H) = true := by simp [h3]
        rw [hm]
        clear hm hv hA
        go_enter Tryd.func55, Tryd.ntmps55
        go_wp2_with (go_at_call 73; refine (gside_any _ _ _).mono ?_; rintro e w' ⟨rfl, rfl⟩)
        go_ret
        exact ⟨rfl, box1 _ _⟩
end Go.Proofs.YthacppifndakjaaDoor
