/-
  The reference's Narrow and Sqrt.
-/
import Derived.Test.YtnofillkfiiogaaShifts
namespace Go.Proofs.Ytnofillkfiiogaa
open Go.RowKit
set_option linter.unusedVariables false
set_option maxHeartbeats 400000 in
theorem refnarrow_out (a n : Int) (w : World) (h : n < 1 ∨ 64 < n) :
    Calls Try.prog 25 #[.int .i64 a, .int .i64 n] w fun e w' => e = .returned (.tuple #[.int .i64 0, .bool false]) ∧ Below w.heap.size w w' := by
  rcases h with h | h
  · go_enter Try.func25, Try.ntmps25
    go_wp2_with fail
    go_ret2
    exact ⟨rfl, Below.refl _ _⟩
  · have h' : ¬ n < 1 := by omega
    go_enter Try.func25, Try.ntmps25
    go_wp2_with fail
    go_ret2
    exact ⟨rfl, Below.refl _ _⟩
/-- A number that is not below 0 has the sign 'false' or is 0. -/
theorem num_pos_val {s : Bool} {l : List Nat} {N : Nat} (h : num s l = (N : Int)) : val l = N := by
  cases s
  · rw [num_false] at h; omega
  · rw [num_true] at h; omega
set_option maxHeartbeats 1000000 in
theorem refnarrow_neg (a : Int) (n : Nat) (w : World) (ha : -9223372036854775808 ≤ a ∧ a < 0) (h1 : 1 ≤ n) (h2 : n ≤ 64) :
    Calls Try.prog 25 #[.int .i64 a, .int .i64 (n : Int)] w fun e w' => e = .returned (.tuple #[.int .i64 (nwV a n), .bool (nwB a n)]) ∧ Below w.heap.size w w' := by
  have hiff := hide (nwB_iff a n h1 h2)
  go_enter Try.func25, Try.ntmps25
  go_wp2_with fail
  refine (of_any 1 _ (by omega)).mono ?_
  rintro e w1 ⟨s1, r1, n1, c1, l1, rfl, hd1, hn1, hl1, hb1⟩
  have hst := hide (show Boxed w w1.heap.size ((2 ^ (1 - 1) : Nat) : Int) (3 + 1) (w1.alloc (.cells #[.bool s1, .slice r1 n1 c1] 34)) from boxed_new hd1 (by rw [hn1]; rfl) (by omega) hb1)
  clear hd1 hn1 hl1 hb1
  go_wp2_with fail
  go_loopw [7] (fun i wr => ∃ k : Nat, 1 ≤ k ∧ k ≤ n ∧ i = .int .i64 (k : Int) ∧ Boxed w w1.heap.size ((2 ^ (k - 1) : Nat) : Int) (3 + k) wr) (fun i _ => n - (intOf i).toNat)
  case atStart => exact ⟨1, Nat.le_refl _, h1, rfl, hst.out⟩
  case round =>
    obtain ⟨k, hk1, hk, rfl, hR⟩ := hrel
    obtain ⟨s, r, m, c, l, x0, x1, f0, f1, hX, hd, hnum, hlen, hB, hwX⟩ := hR
    have Hnum := hide hnum
    clear hnum hst
    by_cases hkn : k < n
    · have hkn2 : (k : Int) < (n : Int) := by omega
      go_wp2_with fail
      refine (sum_any _ s s r r m m c c l l hd hd (by omega) (by omega)).mono ?_
      rintro e w2 ⟨s2, r2, n2, c2, l2, rfl, hd2, hn2, hl2, hb2⟩
      have d0 := (hb2.cell (p := ⟨w1.heap.size, 0, none⟩) hX).trans x0
      have d1 := (hb2.cell (p := ⟨w1.heap.size, 1, none⟩) hX).trans x1
      have g0 := (hb2.frozen (p := ⟨w1.heap.size, 0, none⟩) hX).trans f0
      have g1 := (hb2.frozen (p := ⟨w1.heap.size, 1, none⟩) hX).trans f1
      have hS := hide (boxed_store (N := ((2 ^ (k + 1 - 1) : Nat) : Int)) (bound := 3 + (k + 1)) x0 x1 f0 f1 hX hB hwX hb2 hd2 (by rw [hn2, Hnum.out, show k + 1 - 1 = (k - 1) + 1 by omega, Nat.pow_succ]; omega) (by omega))
      clear hd2 hn2 hl2 hb2 hd hlen
      go_wp2_with fail
      go_roundw
      case rel => exact ⟨k + 1, by omega, by omega, by go_num, hS.out⟩
      case measure => simp [intOf]; omega
    · have hkn2 : ¬ (k : Int) < (n : Int) := by omega
      have hkn3 : k = n := by omega
      subst hkn3
      have hv := hide (num_pos_val Hnum.out)
      go_wp2_with fail
      refine (of_neg a _ ha).mono ?_
      rintro e w3 ⟨va, la, rfl, hda, hva, hla, hb3⟩
      obtain ⟨ra, cca, rfl, _⟩ := hda.shape
      have x0' := (hb3.cell (p := ⟨w1.heap.size, 0, none⟩) hX).trans x0
      have x1' := (hb3.cell (p := ⟨w1.heap.size, 1, none⟩) hX).trans x1
      have hz3 := Nat.lt_of_lt_of_le hX hb3.size
      have hneq : w1.heap.size ≠ w3.heap.size := Nat.ne_of_lt hz3
      have hd3 := (hd.kept hb3).kept (below_box w3 (.cells #[.bool true, .slice ra la.length cca] 34))
      have hda3 := hda.kept (below_box w3 (.cells #[.bool true, .slice ra la.length cca] 34))
      have hBB := bt (bt hB hb3) (below_box w3 (.cells #[.bool true, .slice ra la.length cca] 34))
      have Hva := hide hva
      clear hva hd hda hb3
      by_cases hlt : val l < val la
      · have hdc : decide (val l < val la) = true := decide_eq_true hlt
        have hf : Hid (nwB a k = false) := by
          cases hb : nwB a k with
          | false => rfl
          | true => have g := hiff.out.1 hb; have := hv.out; have := Hva.out; omega
        clear hlt
        go_wp2_with fail
        refine (less_any _ _ _ l la hd3 hda3).mono ?_
        rw [hdc]
        rintro e wz ⟨rfl, hwz⟩; rw [hwz]; clear hwz wz
        go_wp2_with fail
        go_ret2
        exact ⟨ret_ib (by rw [nwV, hf.out]; rfl) hf.out.symm, hBB⟩
      · have hdc : decide (val l < val la) = false := decide_eq_false hlt
        have hf : Hid (nwB a k = true) := hiff.out.2 (by have := hv.out; have := Hva.out; omega)
        clear hlt
        go_wp2_with fail
        refine (less_any _ _ _ l la hd3 hda3).mono ?_
        rw [hdc]
        rintro e wz ⟨rfl, hwz⟩; rw [hwz]; clear hwz wz
        go_wp2_with fail
        go_ret2
        exact ⟨ret_ib (by rw [nwV, hf.out]; rfl) hf.out.symm, hBB⟩
set_option maxHeartbeats 1000000 in
theorem refnarrow_pos (a : Int) (n : Nat) (w : World) (ha : 0 ≤ a ∧ a ≤ 9223372036854775807) (h1 : 1 ≤ n) (h2 : n ≤ 64) :
    Calls Try.prog 25 #[.int .i64 a, .int .i64 (n : Int)] w fun e w' => e = .returned (.tuple #[.int .i64 (nwV a n), .bool (nwB a n)]) ∧ Below w.heap.size w w' := by
  have hiff := hide (nwB_iff a n h1 h2)
  go_enter Try.func25, Try.ntmps25
  go_wp2_with fail
  refine (of_any 1 _ (by omega)).mono ?_
  rintro e w1 ⟨s1, r1, n1, c1, l1, rfl, hd1, hn1, hl1, hb1⟩
  have hst := hide (show Boxed w w1.heap.size ((2 ^ (1 - 1) : Nat) : Int) (3 + 1) (w1.alloc (.cells #[.bool s1, .slice r1 n1 c1] 34)) from boxed_new hd1 (by rw [hn1]; rfl) (by omega) hb1)
  clear hd1 hn1 hl1 hb1
  go_wp2_with fail
  go_loopw [7] (fun i wr => ∃ k : Nat, 1 ≤ k ∧ k ≤ n ∧ i = .int .i64 (k : Int) ∧ Boxed w w1.heap.size ((2 ^ (k - 1) : Nat) : Int) (3 + k) wr) (fun i _ => n - (intOf i).toNat)
  case atStart => exact ⟨1, Nat.le_refl _, h1, rfl, hst.out⟩
  case round =>
    obtain ⟨k, hk1, hk, rfl, hR⟩ := hrel
    obtain ⟨s, r, m, c, l, x0, x1, f0, f1, hX, hd, hnum, hlen, hB, hwX⟩ := hR
    have Hnum := hide hnum
    clear hnum hst
    by_cases hkn : k < n
    · have hkn2 : (k : Int) < (n : Int) := by omega
      go_wp2_with fail
      refine (sum_any _ s s r r m m c c l l hd hd (by omega) (by omega)).mono ?_
      rintro e w2 ⟨s2, r2, n2, c2, l2, rfl, hd2, hn2, hl2, hb2⟩
      have d0 := (hb2.cell (p := ⟨w1.heap.size, 0, none⟩) hX).trans x0
      have d1 := (hb2.cell (p := ⟨w1.heap.size, 1, none⟩) hX).trans x1
      have g0 := (hb2.frozen (p := ⟨w1.heap.size, 0, none⟩) hX).trans f0
      have g1 := (hb2.frozen (p := ⟨w1.heap.size, 1, none⟩) hX).trans f1
      have hS := hide (boxed_store (N := ((2 ^ (k + 1 - 1) : Nat) : Int)) (bound := 3 + (k + 1)) x0 x1 f0 f1 hX hB hwX hb2 hd2 (by rw [hn2, Hnum.out, show k + 1 - 1 = (k - 1) + 1 by omega, Nat.pow_succ]; omega) (by omega))
      clear hd2 hn2 hl2 hb2 hd hlen
      go_wp2_with fail
      go_roundw
      case rel => exact ⟨k + 1, by omega, by omega, by go_num, hS.out⟩
      case measure => simp [intOf]; omega
    · have hkn2 : ¬ (k : Int) < (n : Int) := by omega
      have hkn3 : k = n := by omega
      subst hkn3
      have hv := hide (num_pos_val Hnum.out)
      go_wp2_with fail
      refine (of_pos a _ ha).mono ?_
      rintro e w3 ⟨va, la, rfl, hda, hva, hla, hb3⟩
      obtain ⟨ra, cca, rfl, _⟩ := hda.shape
      have x0' := (hb3.cell (p := ⟨w1.heap.size, 0, none⟩) hX).trans x0
      have x1' := (hb3.cell (p := ⟨w1.heap.size, 1, none⟩) hX).trans x1
      have hz3 := Nat.lt_of_lt_of_le hX hb3.size
      have hneq : w1.heap.size ≠ w3.heap.size := Nat.ne_of_lt hz3
      have hd3 := (hd.kept hb3).kept (below_box w3 (.cells #[.bool false, .slice ra la.length cca] 34))
      have hda3 := hda.kept (below_box w3 (.cells #[.bool false, .slice ra la.length cca] 34))
      have hBB := bt (bt hB hb3) (below_box w3 (.cells #[.bool false, .slice ra la.length cca] 34))
      have Hva := hide hva
      clear hva hd hda hb3
      by_cases hlt : val la < val l
      · have hdc : decide (val la < val l) = true := decide_eq_true hlt
        have hf : Hid (nwB a k = true) := hiff.out.2 (by have := hv.out; have := Hva.out; omega)
        clear hlt
        go_wp2_with fail
        refine (less_any _ _ _ la l hda3 hd3).mono ?_
        rw [hdc]
        rintro e wz ⟨rfl, hwz⟩; rw [hwz]; clear hwz wz
        go_wp2_with fail
        go_ret2
        exact ⟨ret_ib (by rw [nwV, hf.out]; rfl) hf.out.symm, hBB⟩
      · have hdc : decide (val la < val l) = false := decide_eq_false hlt
        have hf : Hid (nwB a k = false) := by
          cases hb : nwB a k with
          | false => rfl
          | true => have g := hiff.out.1 hb; have := hv.out; have := Hva.out; omega
        clear hlt
        go_wp2_with fail
        refine (less_any _ _ _ la l hda3 hd3).mono ?_
        rw [hdc]
        rintro e wz ⟨rfl, hwz⟩; rw [hwz]; clear hwz wz
        go_wp2_with fail
        go_ret2
        exact ⟨ret_ib (by rw [nwV, hf.out]; rfl) hf.out.symm, hBB⟩
theorem refnarrow_all (a n : Int) (w : World) (ha : -9223372036854775808 ≤ a ∧ a ≤ 9223372036854775807) :
    Calls Try.prog 25 #[.int .i64 a, .int .i64 n] w fun e w' => e = .returned (.tuple #[.int .i64 (nwV a n), .bool (nwB a n)]) ∧ Below w.heap.size w w' := by
  by_cases h : n < 1 ∨ 64 < n
  · have hB : nwB a n = false := by unfold nwB; rw [if_neg (by omega)]
    rw [nwV, hB]
    exact refnarrow_out a n w h
  · obtain ⟨k, rfl⟩ := Int.eq_ofNat_of_zero_le (a := n) (by omega)
    by_cases hs : a < 0
    · exact refnarrow_neg a k w ⟨ha.1, hs⟩ (by omega) (by omega)
    · exact refnarrow_pos a k w ⟨by omega, ha.2⟩ (by omega) (by omega)
end Go.Proofs.Ytnofillkfiiogaa
