/-
  The reference's Shl and Narrow, a long number doubled in its box; package fixed's Narrow.
-/
import Derived.Test.YtnofillkfiiogaaRefTops
import Derived.Test.YtnofillkfiiogaaSame
namespace Go.Proofs.Ytnofillkfiiogaa
open Go.RowKit
set_option linter.unusedVariables false
/-- A box whose first cell is a bool holds no digits: what is stored there leaves them. -/
theorem Digs.past_box {w : World} {v : Value} {l : List Nat} {X : Nat} {s : Bool} (h : Digs w v l) (hc : w.cell? ⟨X, 0, none⟩ = some (.bool s)) (u0 u1 : Value) :
    Digs ((w.setCell ⟨X, 0, none⟩ u0).setCell ⟨X, 1, none⟩ u1) v l := by
  by_cases hl : l = []
  · subst hl
    obtain ⟨a, cap, rfl, _⟩ := h.shape
    exact digs_empty _ _ _
  · have hne : v.ownBlock ≠ some X := by
      obtain ⟨hs, hle, ⟨h0, _⟩ | ⟨b, cap, rfl, hlt, hcc⟩⟩ := h
      · exact absurd h0 hl
      · intro e
        simp only [Value.ownBlock, Option.some.injEq] at e
        subst e
        have := hcc 0 (List.length_pos_iff.2 hl)
        rw [hc] at this
        cases this
    exact (h.stored (a := ⟨X, 0, none⟩) hne _).stored (a := ⟨X, 1, none⟩) hne _
/-- The box X holds a long number. -/
def Boxed (w : World) (X : Nat) (N : Int) (bound : Nat) (wr : World) : Prop :=
  ∃ s r n c l, wr.cell? ⟨X, 0, none⟩ = some (.bool s) ∧ wr.cell? ⟨X, 1, none⟩ = some (.slice r n c) ∧ wr.frozen? ⟨X, 0, none⟩ = false ∧ wr.frozen? ⟨X, 1, none⟩ = false ∧ X < wr.heap.size ∧
    Digs wr (.slice r n c) l ∧ num s l = N ∧ l.length ≤ bound ∧ Below w.heap.size w wr ∧ w.heap.size ≤ X
theorem boxed_new {w w1 : World} {s : Bool} {r : Option Addr} {n c bound : Nat} {l : List Nat} {N : Int} (hd : Digs w1 (.slice r n c) l) (hn : num s l = N) (hl : l.length ≤ bound) (hb : Below w.heap.size w w1) :
    Boxed w w1.heap.size N bound (w1.alloc (.cells #[.bool s, .slice r n c] 34)) :=
  ⟨s, r, n, c, l, by go_simp, by go_simp, by go_simp, by go_simp, by simp, hd.kept (below_box _ _), hn, hl, hb.alloc hb.size _, hb.size⟩
theorem boxed_store {w wr w2 : World} {X : Nat} {s s2 : Bool} {r r2 : Option Addr} {n c n2 c2 bound : Nat} {l2 : List Nat} {N : Int}
    (c0 : wr.cell? ⟨X, 0, none⟩ = some (.bool s)) (c1 : wr.cell? ⟨X, 1, none⟩ = some (.slice r n c)) (f0 : wr.frozen? ⟨X, 0, none⟩ = false) (f1 : wr.frozen? ⟨X, 1, none⟩ = false) (hX : X < wr.heap.size) (hB : Below w.heap.size w wr) (hwX : w.heap.size ≤ X)
    (hb2 : Below wr.heap.size wr w2) (hd2 : Digs w2 (.slice r2 n2 c2) l2) (hn2 : num s2 l2 = N) (hl2 : l2.length ≤ bound) :
    Boxed w X N bound ((w2.setCell ⟨X, 0, none⟩ (.bool s2)).setCell ⟨X, 1, none⟩ (.slice r2 n2 c2)) := by
  have d0 := (hb2.cell (p := ⟨X, 0, none⟩) hX).trans c0
  have d1 := (hb2.cell (p := ⟨X, 1, none⟩) hX).trans c1
  have g0 := (hb2.frozen (p := ⟨X, 0, none⟩) hX).trans f0
  have g1 := (hb2.frozen (p := ⟨X, 1, none⟩) hX).trans f1
  have hX2 := Nat.lt_of_lt_of_le hX hb2.size
  refine ⟨s2, r2, n2, c2, l2, by go_simp, by go_simp, by go_simp, by go_simp, by simpa [World.setCell] using hX2, hd2.past_box d0 _ _, hn2, hl2, ?_, hwX⟩
  exact ((hB.trans (hb2.mono hB.size)).setCell hwX _).setCell hwX _
set_option maxHeartbeats 1000000 in
theorem refshl_pos (a : Int) (n : Nat) (w : World) (ha : -9223372036854775808 ≤ a ∧ a ≤ 9223372036854775807) (h0 : a ≠ 0) (h2 : n < 64) :
    Calls Try.prog 21 #[.int .i64 a, .int .i64 (n : Int)] w fun e w' => e = .returned (.tuple #[.int .i64 (told (a * 2 ^ n)), .bool (fit (a * 2 ^ n))]) ∧ Below w.heap.size w w' := by
  have hne : (a != 0) = true := by simp [h0]
  have hn0 : decide ((n : Int) < 0) = false := by simp
  have Hne := hide h0
  clear h0
  go_enter Try.func21, Try.ntmps21
  go_wp2_with fail
  refine (of_any a _ ha).mono ?_
  rintro e w1 ⟨s1, r1, n1, c1, l1, rfl, hd1, hn1, hl1, hb1⟩
  have hst := hide (show Boxed w w1.heap.size (a * 2 ^ 0) (3 + 0) (w1.alloc (.cells #[.bool s1, .slice r1 n1 c1] 34)) from boxed_new hd1 (by rw [hn1]; simp) hl1 hb1)
  clear hd1 hn1 hl1 hb1
  go_wp2_with fail
  go_loopw [7] (fun i wr => ∃ k : Nat, k ≤ n ∧ i = .int .i64 (k : Int) ∧ Boxed w w1.heap.size (a * 2 ^ k) (3 + k) wr) (fun i _ => n - (intOf i).toNat)
  case atStart => exact ⟨0, Nat.zero_le _, rfl, hst.out⟩
  case round =>
    obtain ⟨k, hk, rfl, hR⟩ := hrel
    obtain ⟨s, r, m, c, l, x0, x1, f0, f1, hX, hd, hnum, hlen, hB, hwX⟩ := hR
    have Hnum := hide hnum
    clear hnum hst
    by_cases hkn : k < n
    · have hkn2 : (k : Int) < (n : Int) := by omega
      go_wp2_with fail
      refine (sum_any _ s s r r m m c c l l hd hd (by omega) (by omega)).mono ?_
      rintro e w2 ⟨s2, r2, n2, c2, l2, rfl, hd2, hn2, hl2, hb2⟩
      have d0 := (hb2.cell (p := ⟨w1.heap.size, 0, none⟩) hX).trans x0
      have d1 := (hb2.cell (p := ⟨w1.heap.size, 1, none⟩) hX).trans x1
      have g0 := (hb2.frozen (p := ⟨w1.heap.size, 0, none⟩) hX).trans f0
      have g1 := (hb2.frozen (p := ⟨w1.heap.size, 1, none⟩) hX).trans f1
      have hS := hide (boxed_store (N := a * 2 ^ (k + 1)) (bound := 3 + (k + 1)) x0 x1 f0 f1 hX hB hwX hb2 hd2 (by rw [hn2, Hnum.out, Int.pow_succ, ← Int.mul_assoc]; omega) (by omega))
      clear hd2 hn2 hl2 hb2 hd hlen
      go_wp2_with fail
      go_roundw
      case rel => exact ⟨k + 1, by omega, by go_num, hS.out⟩
      case measure => simp [intOf]; omega
    · have hkn2 : ¬ (k : Int) < (n : Int) := by omega
      have hkn3 : k = n := by omega
      subst hkn3
      go_wp2_with fail
      refine (to_any _ s r m c l hd).mono ?_
      rw [Hnum.out]
      rintro e w3 ⟨rfl, hb3⟩
      go_wp2_with fail
      go_ret2
      exact ⟨rfl, bt hB hb3⟩
set_option maxHeartbeats 400000 in
theorem refshl_zero (n : Nat) (w : World) (hn : n ≤ 9223372036854775807) :
    Calls Try.prog 21 #[.int .i64 0, .int .i64 (n : Int)] w fun e w' => e = .returned (.tuple #[.int .i64 0, .bool true]) ∧ Below w.heap.size w w' := by
  have hn0 : decide ((n : Int) < 0) = false := by simp
  have Hn := hide hn
  clear hn
  go_enter Try.func21, Try.ntmps21
  go_wp2_with fail
  refine (of_any 0 _ (by omega)).mono ?_
  rintro e w1 ⟨s1, r1, n1, c1, l1, rfl, hd1, hn1, hl1, hb1⟩
  have Hn1 := hide hn1
  have hd1' := hd1.kept (below_box w1 (.cells #[.bool s1, .slice r1 n1 c1] 34))
  clear hn1
  go_wp2_with fail
  refine wp_loop_rounds 1 ?_
  rw [rounds_succ]
  go_wp2_with fail
  refine (to_any _ s1 r1 n1 c1 l1 hd1').mono ?_
  rw [Hn1.out, show told 0 = 0 by decide, show fit 0 = true by decide]
  rintro e w3 ⟨rfl, hb3⟩
  go_wp2_with fail
  go_ret2
  exact ⟨rfl, bt (bt hb1 (below_box _ _)) hb3⟩
set_option maxHeartbeats 400000 in
theorem refshl_neg (a n : Int) (w : World) (h : n < 0) :
    Calls Try.prog 21 #[.int .i64 a, .int .i64 n] w fun e w' => e = .returned (.tuple #[.int .i64 0, .bool false]) ∧ Below w.heap.size w w' := by
  go_enter Try.func21, Try.ntmps21
  go_wp2_with fail
  go_ret2
  exact ⟨rfl, Below.refl _ _⟩
set_option maxHeartbeats 400000 in
theorem refshl_far (a n : Int) (w : World) (h0 : a ≠ 0) (h : 64 ≤ n) :
    Calls Try.prog 21 #[.int .i64 a, .int .i64 n] w fun e w' => e = .returned (.tuple #[.int .i64 0, .bool false]) ∧ Below w.heap.size w w' := by
  have hne : (a != 0) = true := by simp [h0]
  have Hne := hide h0
  clear h0
  go_enter Try.func21, Try.ntmps21
  go_wp2_with fail
  go_ret2
  exact ⟨rfl, Below.refl _ _⟩
theorem far_not {a : Int} (n : Nat) (h0 : a ≠ 0) (h : 64 ≤ n) : fit (a * 2 ^ n) = false := by
  rw [(shl_fit a n).1, Nat.min_eq_right h]
  exact not_fit (by omega)
/-- What Shl tells: both packages. -/
def shV (a n : Int) : Int := if n < 0 then 0 else told (a * 2 ^ n.toNat)
def shB (a n : Int) : Bool := if n < 0 then false else fit (a * 2 ^ n.toNat)
theorem shl_all (a n : Int) (w : World) :
    Calls Try.prog 20 #[.int .i64 a, .int .i64 n] w fun e w' => e = .returned (.tuple #[.int .i64 (shV a n), .bool (shB a n)]) ∧ w' = w := by
  by_cases h : n < 0
  · rw [shV, shB, if_pos h, if_pos h]; exact shl_neg a n w h
  · rw [shV, shB, if_neg h, if_neg h]; exact shl_any a n w (by omega)
theorem refshl_all (a n : Int) (w : World) (ha : -9223372036854775808 ≤ a ∧ a ≤ 9223372036854775807) (hn : n ≤ 9223372036854775807) :
    Calls Try.prog 21 #[.int .i64 a, .int .i64 n] w fun e w' => e = .returned (.tuple #[.int .i64 (shV a n), .bool (shB a n)]) ∧ Below w.heap.size w w' := by
  by_cases h : n < 0
  · rw [shV, shB, if_pos h, if_pos h]; exact refshl_neg a n w h
  · rw [shV, shB, if_neg h, if_neg h]
    obtain ⟨k, rfl⟩ := Int.eq_ofNat_of_zero_le (Int.not_lt.1 h)
    rw [Int.toNat_natCast]
    by_cases h0 : a = 0
    · subst h0
      rw [Int.zero_mul, show told 0 = 0 by decide, show fit 0 = true by decide]
      exact refshl_zero k w (by omega)
    · by_cases h64 : k < 64
      · exact refshl_pos a k w ha h0 h64
      · have f := far_not (a := a) k h0 (by omega)
        rw [told_not f, f]
        exact refshl_far a k w h0 (by omega)
/-- What Narrow tells: both packages. -/
def nwB (a n : Int) : Bool := if 1 ≤ n ∧ n ≤ 64 then fit (a * 2 ^ (64 - n).toNat) else false
def nwV (a n : Int) : Int := if nwB a n = true then a else 0
theorem fit_scaled (a : Int) (c p : Nat) (hc : 0 < c) (h : c * p = 9223372036854775808) : fit (a * (c : Int)) = true ↔ (-(p : Int) ≤ a ∧ a < (p : Int)) := by
  rw [fit_iff]
  have hp : (c : Int) * (p : Int) = 9223372036854775808 := by rw [← Int.natCast_mul, h]; rfl
  have hcp : (0 : Int) < (c : Int) := by omega
  have e1 : -(p : Int) * (c : Int) = -9223372036854775808 := by rw [Int.neg_mul, Int.mul_comm, hp]
  have e2 : (p : Int) * (c : Int) = 9223372036854775808 := by rw [Int.mul_comm, hp]
  constructor
  · rintro ⟨h1, h2⟩
    refine ⟨Int.le_of_mul_le_mul_right (a := c) (by rw [e1]; exact h1) hcp, Int.lt_of_mul_lt_mul_right (a := c) (b := a) (c := p) (by rw [e2]; omega) (by omega)⟩
  · rintro ⟨h1, h2⟩
    have g1 := Int.mul_le_mul_of_nonneg_right h1 (Int.le_of_lt hcp)
    have g2 := Int.mul_lt_mul_of_pos_right h2 hcp
    rw [e1] at g1
    rw [e2] at g2
    omega
theorem pow_split (n : Nat) (h1 : 1 ≤ n) (h2 : n ≤ 64) : 2 ^ (64 - n) * 2 ^ (n - 1) = 9223372036854775808 := by
  rw [← Nat.pow_add, show 64 - n + (n - 1) = 63 by omega]
theorem nwB_iff (a : Int) (n : Nat) (h1 : 1 ≤ n) (h2 : n ≤ 64) : nwB a n = true ↔ (-((2 ^ (n - 1) : Nat) : Int) ≤ a ∧ a < ((2 ^ (n - 1) : Nat) : Int)) := by
  unfold nwB
  rw [if_pos (by omega), show (64 - (n : Int)).toNat = 64 - n by omega]
  have := fit_scaled a (2 ^ (64 - n)) (2 ^ (n - 1)) (Nat.pow_pos (by omega)) (pow_split n h1 h2)
  rw [show ((2 ^ (64 - n) : Nat) : Int) = (2 : Int) ^ (64 - n) by simp] at this
  exact this
set_option maxHeartbeats 400000 in
theorem narrow_all (a n : Int) (w : World) :
    Calls Try.prog 24 #[.int .i64 a, .int .i64 n] w fun e w' => e = .returned (.tuple #[.int .i64 (nwV a n), .bool (nwB a n)]) ∧ w' = w := by
  by_cases h1 : n < 1
  · have hB : nwB a n = false := by unfold nwB; rw [if_neg (by omega)]
    rw [nwV, hB]
    go_enter Try.func24, Try.ntmps24
    go_wp2
    go_ret2
    exact ⟨rfl, rfl⟩
  · by_cases h2 : 64 < n
    · have hB : nwB a n = false := by unfold nwB; rw [if_neg (by omega)]
      rw [nwV, hB]
      go_enter Try.func24, Try.ntmps24
      go_wp2
      go_ret2
      exact ⟨rfl, rfl⟩
    · have e : nwB a n = fit (a * 2 ^ (64 - n).toNat) := by unfold nwB; rw [if_pos (by omega)]
      have hpp := pow_min (64 - n).toNat
      rw [Nat.min_eq_left (by omega)] at hpp
      rw [nwV, e]
      cases hf : fit (a * 2 ^ (64 - n).toNat) with
      | false =>
        have h3 : (wrap64 (a * 2 ^ (64 - n).toNat) / 2 ^ (64 - n).toNat != a) = true := bne_iff_ne.2 (shl_no a _ hpp.1 hpp.2 hf)
        clear hpp hf e
        go_enter Try.func24, Try.ntmps24
        go_wp2
        go_ret2
        exact ⟨rfl, rfl⟩
      | true =>
        have h3 : (wrap64 (a * 2 ^ (64 - n).toNat) / 2 ^ (64 - n).toNat != a) = false := bne_eq_false_iff_eq.2 (shl_yes a _ hpp.1 hf)
        clear hpp hf e
        go_enter Try.func24, Try.ntmps24
        go_wp2
        go_ret2
        exact ⟨rfl, rfl⟩
end Go.Proofs.Ytnofillkfiiogaa
