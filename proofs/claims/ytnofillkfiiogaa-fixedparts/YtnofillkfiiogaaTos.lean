/-
  The reference's negated, one and To: what they tell of a sign and digits.
-/
import Derived.Test.YtnofillkfiiogaaLongs
import Derived.Deep.QuietTactic
import Derived.BigQuiet
namespace Go.Proofs.Ytnofillkfiiogaa
open Go.RowKit
set_option linter.unusedVariables false
theorem below_box (w : World) (o : Obj) : Below w.heap.size w (w.alloc o) := (Below.refl _ _).alloc (Nat.le_refl _) _
theorem below_box2 (w : World) (o p : Obj) : Below w.heap.size w ((w.alloc o).alloc p) := (below_box w o).alloc (by simp) _
theorem drewN_below {B : Nat} {a w : World} (h : Below B a w) (n : Nat) : Below B a (w.drewN n) := h.trans ⟨rfl, rfl, rfl, Nat.le_refl _, fun _ _ => rfl⟩
theorem low_digits {l : List Nat} (h : val l < 18446744073709551616) : dig l 0 + dig l 1 * 4294967296 = val l := by
  have e0 := val_drop l 0
  have e1 := val_drop l 1
  simp only [List.drop_zero, Nat.zero_add] at e0
  omega
set_option maxHeartbeats 400000 in
theorem negated_any (w : World) (s : Bool) (a : Option Addr) (n cap : Nat) :
    Calls Try.prog 39 #[.agg #[.bool s, .slice a n cap]] w fun e w' => e = .returned (.agg #[.bool (!s), .slice a n cap]) ∧ Below w.heap.size w w' := by
  go_enter Try.func39, Try.ntmps39
  go_wp2_with fail
  exact bodyPost_ret (v := .agg #[.bool (!s), .slice a n cap]) (by simp [results, Try.results39, go_sem]) rfl ⟨rfl, below_box2 _ _ _⟩
set_option maxHeartbeats 400000 in
theorem one_any (w : World) :
    Calls Try.prog 44 #[] w fun e w' => ∃ a n cap l, e = .returned (.agg #[.bool false, .slice a n cap]) ∧ Digs w' (.slice a n cap) l ∧ val l = 4294967296 ∧ l.length = 2 ∧ Below w.heap.size w w' := by
  go_enter Try.func44, Try.ntmps44
  go_wp2_with fail
  refine bodyPost_ret (v := .agg #[.bool false, .slice (some ⟨w.heap.size + 1, 0, none⟩) 2 2]) (by simp [results, Try.results44, go_sem]) rfl ⟨_, _, _, [0, 1], rfl, ?_, by simp [val], rfl, below_box2 _ _ _⟩
  have h := digs_two (w.alloc (Obj.cells #[Value.bool false, Value.slice (some ⟨w.heap.size + 1, 0, none⟩) 2 2] 34)) 0 1 (by omega) (by omega)
  simpa using h
/-- The two given digits, and what came in, behind two boxes. -/
theorem most_digs (w : World) (o : Obj) : Digs ((w.alloc o).alloc (.cells #[.int .u64 4294967295, .int .u64 2147483647] 38)) (.slice (some ⟨w.heap.size + 1, 0, none⟩) 2 2) [4294967295, 2147483647] := by
  have h := digs_two (w.alloc o) 4294967295 2147483647 (by omega) (by omega)
  simpa using h
theorem most_val : val [4294967295, 2147483647] = 9223372036854775807 := by decide
set_option maxHeartbeats 400000 in
theorem to_pos_no (w : World) (a : Option Addr) (n cap : Nat) (l : List Nat) (h : Digs w (.slice a n cap) l) (hv : 9223372036854775807 < val l) :
    Calls Try.prog 36 #[.agg #[.bool false, .slice a n cap]] w fun e w' => e = .returned (.tuple #[.int .i64 0, .bool false]) ∧ Below w.heap.size w w' := by
  have hd : decide (val [4294967295, 2147483647] < val l) = true := by rw [most_val]; exact decide_eq_true hv
  have Hv := hide hv
  clear hv
  go_enter Try.func36, Try.ntmps36
  go_wp2_with fail
  refine (less_any _ _ _ [4294967295, 2147483647] l (most_digs w _) (h.kept (below_box2 _ _ _))).mono ?_
  rw [hd]
  rintro e w1 ⟨rfl, hw1⟩; rw [hw1]; clear hw1 w1
  go_wp2_with fail
  go_ret2
  exact ⟨rfl, below_box2 _ _ _⟩
theorem low_sum {l : List Nat} (h : val l ≤ 9223372036854775807) : (dig l 0 : Int) + (dig l 1 : Int) * 4294967296 = (val l : Int) := by
  have e := low_digits (l := l) (by omega)
  omega
theorem low_word {l : List Nat} (hs : Small l) (h : val l ≤ 9223372036854775807) : wrap64 (IntKind.u64.wrap ((dig l 0 : Int) + (dig l 1 : Int) * 4294967296)) = (val l : Int) := by
  have e := low_digits (l := l) (by omega)
  rw [IntKind.wrap_u64]
  unfold wrap64
  omega
set_option maxHeartbeats 400000 in
theorem to_pos_yes (w : World) (a : Option Addr) (n cap : Nat) (l : List Nat) (h : Digs w (.slice a n cap) l) (hv : val l ≤ 9223372036854775807) :
    Calls Try.prog 36 #[.agg #[.bool false, .slice a n cap]] w fun e w' => e = .returned (.tuple #[.int .i64 (val l), .bool true]) ∧ Below w.heap.size w w' := by
  have hd : decide (val [4294967295, 2147483647] < val l) = false := by rw [most_val]; exact decide_eq_false (by omega)
  have Hlow := hide (low_sum (l := l) hv)
  have h0 := h.small 0
  have h1 := h.small 1
  have hl2 := low_digits (l := l) (by omega)
  have h2 : dig l 1 < 2147483648 := by omega
  have Hv := hide hv
  clear hv hl2
  go_enter Try.func36, Try.ntmps36
  go_wp2_with fail
  refine (less_any _ _ _ [4294967295, 2147483647] l (most_digs w _) (h.kept (below_box2 _ _ _))).mono ?_
  rw [hd]
  rintro e w1 ⟨rfl, hw1⟩; rw [hw1]; clear hw1 w1
  go_wp2_with fail
  go_quiet ((go_at_call 51; exact Calls.quiet_of_same (digit_any _ _ l _ (h.kept (drewN_below (below_box2 _ _ _) _)) (by omega) (by omega))))
  go_wp2_with fail
  go_ret2
  exact ⟨ret_ib Hlow.out rfl, drewN_below (below_box2 _ _ _) _⟩
set_option maxHeartbeats 400000 in
theorem to_zero (w : World) (a : Option Addr) (n cap : Nat) (l : List Nat) (h : Digs w (.slice a n cap) l) (hv : val l = 0) :
    Calls Try.prog 36 #[.agg #[.bool true, .slice a n cap]] w fun e w' => e = .returned (.tuple #[.int .i64 0, .bool true]) ∧ Below w.heap.size w w' := by
  have hd : decide (val [4294967295, 2147483647] < val l) = false := by rw [most_val]; exact decide_eq_false (by omega)
  have hz : decide (val l = 0) = true := decide_eq_true hv
  have Hlow := hide (low_sum (l := l) (by omega))
  have h0 := h.small 0
  have h1 := h.small 1
  have hl2 := low_digits (l := l) (by omega)
  have h2 : dig l 1 < 2147483648 := by omega
  have Hv := hide hv
  clear hv hl2
  go_enter Try.func36, Try.ntmps36
  go_wp2_with fail
  refine (zero_any _ _ l (h.kept (below_box2 _ _ _))).mono ?_
  rw [hz]
  rintro e w1 ⟨rfl, hw1⟩; rw [hw1]; clear hw1 w1
  go_wp2_with fail
  refine (less_any _ _ _ [4294967295, 2147483647] l (most_digs w _) (h.kept (below_box2 _ _ _))).mono ?_
  rw [hd]
  rintro e w1 ⟨rfl, hw1⟩; rw [hw1]; clear hw1 w1
  go_wp2_with fail
  go_quiet ((go_at_call 51; exact Calls.quiet_of_same (digit_any _ _ l _ (h.kept (drewN_below (below_box2 _ _ _) _)) (by omega) (by omega))))
  go_wp2_with fail
  go_ret2
  exact ⟨ret_ib (Hlow.out.trans (by rw [Hv.out]; rfl)) rfl, drewN_below (below_box2 _ _ _) _⟩
theorem below_box3 (w : World) (o p q : Obj) : Below w.heap.size w (((w.alloc o).alloc p).alloc q) := (below_box2 w o p).alloc (by simp; omega) _
theorem one_digs (w : World) (o p : Obj) : Digs (((w.alloc o).alloc p).alloc (.cells #[.int .u64 1] 38)) (.slice (some ⟨w.heap.size + 1 + 1, 0, none⟩) 1 1) [1] := by
  have h := digs_one ((w.alloc o).alloc p) 1 (by omega)
  simpa using h
set_option maxHeartbeats 400000 in
theorem to_neg (w : World) (a : Option Addr) (n cap : Nat) (l : List Nat) (h : Digs w (.slice a n cap) l) (hv : val l ≠ 0) :
    Calls Try.prog 36 #[.agg #[.bool true, .slice a n cap]] w fun e w' => e = .returned (.tuple #[.int .i64 (told (-(val l : Int))), .bool (fit (-(val l : Int)))]) ∧ Below w.heap.size w w' := by
  have hz : decide (val l = 0) = false := decide_eq_false hv
  have Hv := hide hv
  clear hv
  go_enter Try.func36, Try.ntmps36
  go_wp2_with fail
  refine (zero_any _ _ l (h.kept (below_box2 _ _ _))).mono ?_
  rw [hz]
  rintro e w1 ⟨rfl, hw1⟩; rw [hw1]; clear hw1 w1
  go_wp2_with fail
  refine (minus_sl _ _ _ l [1] (h.kept (below_box3 _ _ _ _)) (one_digs w _ _) (by rw [val_one]; have := Hv.out; omega)).mono ?_
  rintro e w1 ⟨av, nv, cv, d, rfl, hd, hfr, hval, hlen, hb⟩
  have hb2 := (below_box3 w _ _ _).trans (hb.mono (by simp; omega))
  have hb3 := hb.mono (B' := w.heap.size + 1 + 1) (by simp)
  have hms := (most_digs w (.cells #[.bool true, .slice a n cap] 34))
  have hms2 := (hms.kept (below_box _ (.cells #[.int .u64 1] 38))).kept hb
  rw [val_one] at hval
  have Hval := hide hval
  clear hfr hval hlen hms hb3 hb
  have h0 := hd.small 0
  have h1 := hd.small 1
  by_cases hm : 9223372036854775807 < val d
  · have hdc : decide (val [4294967295, 2147483647] < val d) = true := by rw [most_val]; exact decide_eq_true hm
    have hf : Hid (fit (-(val l : Int)) = false) := not_fit (by have := Hval.out; omega)
    clear hm
    go_wp2_with fail
    refine (less_any _ _ _ [4294967295, 2147483647] d hms2 hd).mono ?_
    rw [hdc]
    rintro e w1 ⟨rfl, hw1⟩; rw [hw1]; clear hw1 w1
    go_wp2_with fail
    go_ret2
    exact ⟨ret_ib (told_not hf).symm hf.out.symm, hb2⟩
  · have hdc : decide (val [4294967295, 2147483647] < val d) = false := by rw [most_val]; exact decide_eq_false hm
    have hf : Hid (fit (-(val l : Int)) = true) := fit_of (by have := Hval.out; omega) (by omega)
    have hl2 := low_digits (l := d) (by omega)
    have h2 : dig d 1 < 2147483648 := by omega
    have Hlow := hide (low_sum (l := d) (by omega))
    clear hm hl2
    go_wp2_with fail
    refine (less_any _ _ _ [4294967295, 2147483647] d hms2 hd).mono ?_
    rw [hdc]
    rintro e w1 ⟨rfl, hw1⟩; rw [hw1]; clear hw1 w1
    go_wp2_with fail
    refine (digit_any _ _ d _ hd (by omega) (by omega)).mono ?_; rintro e w1 ⟨rfl, hw1⟩; rw [hw1]; clear hw1 w1
    go_wp2_with fail
    refine (digit_any _ _ d _ hd (by omega) (by omega)).mono ?_; rintro e w1 ⟨rfl, hw1⟩; rw [hw1]; clear hw1 w1
    go_wp2_with fail
    go_ret2
    refine ⟨ret_ib ?_ hf.out.symm, hb2⟩
    rw [told_of hf.out, Hlow.out]
    have := Hval.out
    omega
/-- The number of a sign and digits. -/
def num (s : Bool) (l : List Nat) : Int := if s = true then -(val l : Int) else (val l : Int)
theorem to_any (w : World) (s : Bool) (a : Option Addr) (n cap : Nat) (l : List Nat) (h : Digs w (.slice a n cap) l) :
    Calls Try.prog 36 #[.agg #[.bool s, .slice a n cap]] w fun e w' => e = .returned (.tuple #[.int .i64 (told (num s l)), .bool (fit (num s l))]) ∧ Below w.heap.size w w' := by
  cases s with
  | false =>
    by_cases hv : val l ≤ 9223372036854775807
    · have hf : fit (num false l) = true := fit_of (by unfold num; rw [if_neg (by decide)]; omega) (by unfold num; rw [if_neg (by decide)]; omega)
      rw [told_of hf, hf]
      exact to_pos_yes w a n cap l h hv
    · have hf : fit (num false l) = false := not_fit (by unfold num; rw [if_neg (by decide)]; omega)
      rw [told_not hf, hf]
      exact to_pos_no w a n cap l h (by omega)
  | true =>
    by_cases hv : val l = 0
    · have hf : fit (num true l) = true := by simp [num, hv]; decide
      rw [told_of hf, hf, show num true l = 0 by simp [num, hv]]
      exact to_zero w a n cap l h hv
    · have := to_neg w a n cap l h hv
      rw [show num true l = -(val l : Int) by simp [num]]
      exact this
end Go.Proofs.Ytnofillkfiiogaa
