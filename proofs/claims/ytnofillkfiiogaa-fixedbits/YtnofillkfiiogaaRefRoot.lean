/-
  The reference's Sqrt; a root is the only one.
-/
import Derived.Test.YtnofillkfiiogaaNarrow
namespace Go.Proofs.Ytnofillkfiiogaa
open Go.RowKit
set_option linter.unusedVariables false
theorem root_only {a r q : Nat} (h1 : r * r ≤ a) (h2 : a < (r + 1) * (r + 1)) (h3 : q * q ≤ a) (h4 : a < (q + 1) * (q + 1)) : r = q := by
  rcases Nat.lt_trichotomy r q with h | h | h
  · have g : (r + 1) * (r + 1) ≤ q * q := Nat.mul_le_mul h h
    omega
  · exact h
  · have g : (q + 1) * (q + 1) ≤ r * r := Nat.mul_le_mul h h
    omega
theorem field_digs (s : Bool) (r : Option Addr) (n c : Nat) (w : World) : (Instr.field 34 (.agg #[.bool s, .slice r n c]) 1).run Try.prog w = .ok (.slice r n c) w := by kernel_rfl
theorem val_sq {s : Bool} {l : List Nat} {t : Nat} (h : num s l = (t : Int) * (t : Int)) : val l = t * t := by
  rw [← Int.natCast_mul] at h
  exact num_pos_val h
set_option maxHeartbeats 1000000 in
theorem refsqrt_any (a : Nat) (w : World) (ha : a ≤ 9223372036854775807) :
    Calls Try.prog 23 #[.int .i64 (a : Int)] w fun e w' => ∃ r : Nat, r * r ≤ a ∧ a < (r + 1) * (r + 1) ∧ e = .returned (.tuple #[.int .i64 (r : Int), .bool true]) ∧ Below w.heap.size w w' := by
  have hfd := field_digs
  go_enter Try.func23, Try.ntmps23
  go_wp2_with fail
  go_loopw [4, 5, 6] (fun t k _ wr => ∃ m r : Nat, m ≤ 32 ∧ k = .int .i64 ((m : Int) - 1) ∧ t = .int .i64 (r : Int) ∧ r * r ≤ a ∧ a < (r + 2 ^ m) * (r + 2 ^ m) ∧ r + 2 ^ m ≤ 4294967296 ∧ Below w.heap.size w wr) (fun _ k _ _ => (intOf k + 1).toNat)
  case atStart => exact ⟨32, 0, by omega, rfl, rfl, by omega, by omega, by omega, Below.refl _ _⟩
  case round =>
    obtain ⟨m, r, hm, rfl, rfl, hlo, hhi, hb, hB⟩ := hrel
    cases m with
    | zero =>
      go_wp2_with fail
      go_ret2
      exact ⟨r, hlo, by simpa using hhi, rfl, hB⟩
    | succ k =>
      rw [show (((k + 1 : Nat) : Int) - 1) = (k : Int) by omega]
      rw [Nat.pow_succ] at hhi hb
      have hpos : 0 < 2 ^ k := Nat.pow_pos (by omega)
      obtain ⟨c, hc⟩ : ∃ c, c = 2 ^ k := ⟨_, rfl⟩
      rw [← hc] at hhi hb hpos
      have Hc := hide hc
      clear hc
      have Hlo := hide hlo
      have Hhi := hide hhi
      clear hlo hhi
      have hw : wrap64 (2 ^ k) = (c : Int) := by
        rw [show (2 : Int) ^ k = (c : Int) by rw [Hc.out]; simp]
        exact wrap64_fit (fit_of (by omega) (by omega))
      have htt : Hid (((r : Int) + c) = ((r + c : Nat) : Int)) := by show _ = _; omega
      go_wp2_with fail
      refine (of_any (a : Int) _ (by omega)).mono ?_
      rintro e w1 ⟨s1, r1, n1, c1, l1, rfl, hd1, hn1, hl1, hb1⟩
      go_wp2_with fail
      refine (of_any _ _ (by omega)).mono ?_
      rintro e w2 ⟨s2, r2, n2, c2, l2, rfl, hd2, hn2, hl2, hb2⟩
      go_wp2_with fail
      refine (of_any _ _ (by omega)).mono ?_
      rintro e w3 ⟨s3, r3, n3, c3, l3, rfl, hd3, hn3, hl3, hb3⟩
      go_wp2_with fail
      refine (prod_any _ s2 s3 r2 r3 n2 n3 c2 c3 l2 l3 (hd2.kept hb3) hd3 (by omega) (by omega)).mono ?_
      rintro e w4 ⟨s4, r4, n4, c4, l4, rfl, hd4, hn4, hl4, hb4⟩
      have v1 := hide (num_pos_val hn1)
      have v4 : Hid (val l4 = (r + c) * (r + c)) := val_sq (by rw [hn4, hn2, hn3, htt.out])
      have hd1' := ((hd1.kept hb2).kept hb3).kept hb4
      have hBB := bt (bt (bt (bt hB hb1) hb2) hb3) hb4
      clear hn1 hn2 hn3 hn4 hd1 hd2 hd3 hb1 hb2 hb3 hb4 hl1 hl2 hl3 hl4
      go_wp2_with fail
      refine (less_any _ _ _ l1 l4 hd1' hd4).mono ?_
      by_cases hlt : val l1 < val l4
      · rw [show decide (val l1 < val l4) = true from decide_eq_true hlt]
        have hn : Hid (a < (r + c) * (r + c)) := by show _ < _; rw [← v1.out, ← v4.out]; exact hlt
        clear hlt
        rintro e wz ⟨rfl, hwz⟩; rw [hwz]; clear hwz wz
        clear hd1' hd4
        go_wp2_with fail
        go_roundw
        case rel => exact ⟨k, r, by omega, rfl, rfl, Hlo.out, by rw [← Hc.out]; exact hn.out, by rw [← Hc.out]; omega, hBB⟩
        case measure => simp [intOf]
      · rw [show decide (val l1 < val l4) = false from decide_eq_false hlt]
        have hn : Hid ((r + c) * (r + c) ≤ a) := by show _ ≤ _; rw [← v1.out, ← v4.out]; omega
        have hh : Hid (a < (r + c + c) * (r + c + c)) := by show _ < _; rw [show r + c + c = r + c * 2 by omega]; exact Hhi.out
        clear hlt
        rintro e wz ⟨rfl, hwz⟩; rw [hwz]; clear hwz wz
        clear hd1' hd4
        go_wp2_with fail
        go_roundw
        case rel => exact ⟨k, r + c, by omega, rfl, by go_num, hn.out, by rw [← Hc.out]; exact hh.out, by rw [← Hc.out]; omega, hBB⟩
        case measure => simp [intOf]
set_option maxHeartbeats 400000 in
theorem refsqrt_neg (a : Int) (w : World) (ha : a < 0) :
    Calls Try.prog 23 #[.int .i64 a] w fun e w' => e = .returned (.tuple #[.int .i64 0, .bool false]) ∧ Below w.heap.size w w' := by
  go_enter Try.func23, Try.ntmps23
  go_wp2_with fail
  go_ret2
  exact ⟨rfl, Below.refl _ _⟩
end Go.Proofs.Ytnofillkfiiogaa
