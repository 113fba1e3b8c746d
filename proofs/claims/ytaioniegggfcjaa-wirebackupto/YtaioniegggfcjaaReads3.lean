/-
  A reader's Fixed4, Fixed8, Byte, Number, Bytes; Read.
-/
import Derived.Test.YtaioniegggfcjaaReads2
namespace Go.Proofs.Ytaioniegggfcjaa
open Go.RowKit
set_option linter.unusedVariables false
theorem fixN_lt {l : List Nat} (hs : Small l) (k e m : Nat) : fixN l k e m < 256 ^ m := by
  unfold fixN; split
  · exact Nat.pow_pos (by omega)
  · have := unle_lt ((restOf l k e).take m) (small_take (small_rest hs k e) m)
    rw [List.length_take, Nat.min_eq_left (by omega)] at this
    exact this
theorem fixed4_nil (w : World) : Calls Try.prog 15 #[.pointer none] w fun x w' => x = .returned (.int .u32 0) ∧ w' = w := by
  go_enter Try.func15, Try.ntmps15
  go_wp2_with fail
  refine (fixed_nil _ 4 (by omega) (by omega)).mono ?_; rintro e wz ⟨rfl, hwz⟩; rw [hwz]; clear hwz wz
  go_wp2
  go_ret
  exact ⟨rfl, rfl⟩
theorem fixed8_nil (w : World) : Calls Try.prog 16 #[.pointer none] w fun x w' => x = .returned (.int .u64 0) ∧ w' = w := by
  go_enter Try.func16, Try.ntmps16
  go_wp2_with fail
  refine (fixed_nil _ 8 (by omega) (by omega)).mono ?_; rintro e wz ⟨rfl, hwz⟩; rw [hwz]; clear hwz wz
  go_wp2
  go_ret
  exact ⟨rfl, rfl⟩
theorem byte_nil (w : World) : Calls Try.prog 23 #[.pointer none] w fun x w' => x = .returned (.int .u8 0) ∧ w' = w := by
  go_enter Try.func23, Try.ntmps23
  go_wp2_with fail
  refine (fixed_nil _ 1 (by omega) (by omega)).mono ?_; rintro e wz ⟨rfl, hwz⟩; rw [hwz]; clear hwz wz
  go_wp2
  go_ret
  exact ⟨rfl, rfl⟩
theorem fixed4_any (w : World) (g : Nat) (l : List Nat) (k e : Nat) (h : Rd w g l k e) :
    Calls Try.prog 15 #[.pointer (some ⟨g, 0, none⟩)] w fun x w' => x = .returned (.int .u32 (fixN l k e 4 : Nat)) ∧ Rd w' g l (fixK l k e 4) (fixE l k e 4) ∧ w.grownBy w' (some g) := by
  have hlt := fixN_lt h.bytes.1 k e 4
  have h' := fixed_any w g l k e 4 h (by omega) (by omega)
  have hz : ((fixN l k e 4 : Nat) : Int) < 4294967296 := by rw [show (256 : Nat) ^ 4 = 4294967296 by decide] at hlt; omega
  have hz0 : (0 : Int) ≤ ((fixN l k e 4 : Nat) : Int) := by omega
  generalize ((fixN l k e 4 : Nat) : Int) = z at *
  have H := hide h'
  clear h h' hlt
  go_enter Try.func15, Try.ntmps15
  go_wp2_with fail
  refine H.out.mono ?_; rintro x w1 ⟨rfl, hr, hg⟩
  have Hr := hide hr
  have Hg := hide hg
  clear hr hg
  go_wp2_with fail
  go_ret
  exact ⟨rfl, Hr.out, Hg.out⟩
theorem fixed8_any (w : World) (g : Nat) (l : List Nat) (k e : Nat) (h : Rd w g l k e) :
    Calls Try.prog 16 #[.pointer (some ⟨g, 0, none⟩)] w fun x w' => x = .returned (.int .u64 (fixN l k e 8 : Nat)) ∧ Rd w' g l (fixK l k e 8) (fixE l k e 8) ∧ w.grownBy w' (some g) := by
  have h' := fixed_any w g l k e 8 h (by omega) (by omega)
  generalize ((fixN l k e 8 : Nat) : Int) = z at *
  have H := hide h'
  clear h h'
  go_enter Try.func16, Try.ntmps16
  go_wp2_with fail
  refine H.out.mono ?_; rintro x w1 ⟨rfl, hr, hg⟩
  have Hr := hide hr
  have Hg := hide hg
  clear hr hg
  go_wp2_with fail
  go_ret
  exact ⟨rfl, Hr.out, Hg.out⟩
theorem byte_any (w : World) (g : Nat) (l : List Nat) (k e : Nat) (h : Rd w g l k e) :
    Calls Try.prog 23 #[.pointer (some ⟨g, 0, none⟩)] w fun x w' => x = .returned (.int .u8 (fixN l k e 1 : Nat)) ∧ Rd w' g l (fixK l k e 1) (fixE l k e 1) ∧ w.grownBy w' (some g) := by
  have hlt := fixN_lt h.bytes.1 k e 1
  have h' := fixed_any w g l k e 1 h (by omega) (by omega)
  have hz : ((fixN l k e 1 : Nat) : Int) < 256 := by omega
  have hz0 : (0 : Int) ≤ ((fixN l k e 1 : Nat) : Int) := by omega
  generalize ((fixN l k e 1 : Nat) : Int) = z at *
  have H := hide h'
  clear h h' hlt
  go_enter Try.func23, Try.ntmps23
  go_wp2_with fail
  refine H.out.mono ?_; rintro x w1 ⟨rfl, hr, hg⟩
  have Hr := hide hr
  have Hg := hide hg
  clear hr hg
  go_wp2_with fail
  go_ret
  exact ⟨rfl, Hr.out, Hg.out⟩
theorem ret_iii {k l m : IntKind} {a b : Int} {p q : Int} {c d : Int} (h : a = b) (h2 : p = q) (h3 : c = d) : Ending.returned (.tuple #[.int k a, .int l p, .int m c]) = .returned (.tuple #[.int k b, .int l q, .int m d]) := by rw [h, h2, h3]
/-- What stands there, if it is at most so great. -/
def cnt (l : List Nat) (most : Int) : Nat × Nat × Nat :=
  match dec 0 l with
  | none => (0, 0, 5)
  | some (n, k) => if most < 0 ∨ most < (n : Int) then (0, 0, 3) else (n, k, 0)
theorem cnt_none {l : List Nat} (most : Int) (h : dec 0 l = none) : cnt l most = (0, 0, 5) := by simp only [cnt, h]
theorem cnt_some {l : List Nat} (most : Int) {n k : Nat} (h : dec 0 l = some (n, k)) : cnt l most = if most < 0 ∨ most < (n : Int) then (0, 0, 3) else (n, k, 0) := by simp only [cnt, h]
theorem count_any (w : World) (v : Value) (l : List Nat) (most : Int) (hv : Bys w v l) (hm : -9223372036854775808 ≤ most ∧ most ≤ 9223372036854775807) :
    Calls Try.prog 42 #[v, .int .i64 most] w fun x w' => x = .returned (.tuple #[.int .i64 ((cnt l most).1 : Nat), .int .i64 ((cnt l most).2.1 : Nat), .int .i64 ((cnt l most).2.2 : Nat)]) ∧ w' = w := by
  have H := hide (number_any w v l hv)
  have hs := hv.small
  have hK := numK_le hs
  have hL := hv.len
  clear hv
  cases hd : dec 0 l with
  | none =>
    have Hc := hide (cnt_none most hd)
    have hn := num_none hd
    rw [hn.1, hn.2] at H
    clear hd hK hL hn hs
    go_enter Try.func42, Try.ntmps42
    go_wp2_with fail
    refine H.out.mono ?_; rintro e wz ⟨rfl, hwz⟩; rw [hwz]; clear hwz wz
    go_wp2_with fail
    go_ret3
    exact ⟨ret_iii (by rw [Hc.out]; rfl) (by rw [Hc.out]; rfl) (by rw [Hc.out]; rfl), rfl⟩
  | some p =>
    obtain ⟨n, k⟩ := p
    have hn := num_some hd
    have hk0 : k ≠ 0 := fun h => by have := numK_zero hs (by rw [hn.2]; exact h); rw [this] at hd; cases hd
    have hlt := numN_lt hs
    rw [hn.1] at hlt
    have hc := cnt_some most hd
    rw [hn.1, hn.2] at H
    have hkz : ((k : Int) == 0) = false := by simp; omega
    clear hd hK hL hn hs
    by_cases hm0 : most < 0
    · rw [if_pos (Or.inl hm0)] at hc
      have Hc := hide hc
      clear hc hk0 hlt
      go_enter Try.func42, Try.ntmps42
      go_wp2_with fail
      refine H.out.mono ?_; rintro e wz ⟨rfl, hwz⟩; rw [hwz]; clear hwz wz
      go_wp2_with fail
      go_ret3
      exact ⟨ret_iii (by rw [Hc.out]; rfl) (by rw [Hc.out]; rfl) (by rw [Hc.out]; rfl), rfl⟩
    · have hw : IntKind.u64.wrap most = most := by rw [IntKind.wrap_u64]; omega
      obtain ⟨z, hz⟩ : ∃ z : Int, z = n := ⟨_, rfl⟩
      by_cases hmn : most < (n : Int)
      · rw [if_pos (Or.inr hmn)] at hc
        have Hc := hide hc
        rw [← hz] at H hmn
        clear hc hk0 hlt hz
        go_enter Try.func42, Try.ntmps42
        go_wp2_with fail
        refine H.out.mono ?_; rintro e wz ⟨rfl, hwz⟩; rw [hwz]; clear hwz wz
        go_wp2_with fail
        go_ret3
        exact ⟨ret_iii (by rw [Hc.out]; rfl) (by rw [Hc.out]; rfl) (by rw [Hc.out]; rfl), rfl⟩
      · rw [if_neg (by omega)] at hc
        have Hc := hide hc
        rw [← hz] at H hmn
        have hz0 : 0 ≤ z := by omega
        have hz1 : z ≤ 9223372036854775807 := by omega
        have Hz := hide hz
        clear hc hk0 hlt hz
        go_enter Try.func42, Try.ntmps42
        go_wp2_with fail
        refine H.out.mono ?_; rintro e wz ⟨rfl, hwz⟩; rw [hwz]; clear hwz wz
        go_wp2_with fail
        go_ret3
        exact ⟨ret_iii (by rw [Hc.out]; exact Hz.out) (by rw [Hc.out]) (by rw [Hc.out]; rfl), rfl⟩
end Go.Proofs.Ytaioniegggfcjaa
