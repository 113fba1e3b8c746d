/-
  What the document's answer (package phalanxref02) writes.
-/
import Derived.Test.YtaioniegggfcjaaWrite2
namespace Go.Proofs.Ytaioniegggfcjaa
open Go.RowKit
set_option linter.unusedVariables false
set_option maxHeartbeats 400000 in
theorem refuv_any (w : World) (x : Nat) (hx : x < 18446744073709551616) :
    Calls Try.prog 25 #[.int .u64 (x : Nat)] w fun e w' => ∃ v', e = .returned v' ∧ Mine w.heap.size w' v' (enc x) ∧ Below w.heap.size w w' := by
  have Hl : Hid ((enc x).length ≤ 140737488355328) := by have := enc_len hx; show _ ≤ _; omega
  have Hx := hide hx
  clear hx
  go_enter Try.func25, Try.ntmps25
  go_wp2_with fail
  go_loopw [0, 3] (fun n v wr => ∃ (m : List Nat) (y : Nat), n = .int .u64 (y : Nat) ∧ y < 18446744073709551616 ∧ Mine w.heap.size wr v m ∧ Below w.heap.size w wr ∧ enc x = m ++ enc y) (fun n _ _ => (intOf n).toNat)
  case atStart => exact ⟨[], x, rfl, Hx.out, Mine.nil _ _, Below.refl _ _, rfl⟩
  case round =>
    obtain ⟨m, y, rfl, hy, htk, hbl, he⟩ := hrel
    have Hlen : Hid (m.length + 1 ≤ 140737488355328) := by
      have hlen2 := congrArg List.length he
      rw [List.length_append] at hlen2
      have hp := enc_pos y
      have := Hl.out
      show _ ≤ _
      omega
    have Hs : Hid (w.heap.size ≤ wr.heap.size) := hbl.size
    have He := hide he
    have Htk := hide htk
    have Hbl := hide hbl
    have Hy := hide hy
    clear he htk hbl hy
    rcases Nat.lt_or_ge y 128 with h | h
    · have hi : (y : Int) < 128 := by omega
      have hi0 : (0 : Int) ≤ y := by omega
      have Hh := hide h
      clear h
      obtain ⟨z, hz⟩ : ∃ z : Int, z = y := ⟨_, rfl⟩
      rw [← hz] at hi hi0 ⊢
      have Hz := hide hz
      clear hz
      go_wp2_with (first | (at_builtin; refine wpList_append_mine rfl _ _ rfl w.heap.size _ _ m [y] rfl rfl (Htk.out.alloc _) (bys_built wr [y] (small_one (by have := Hh.out; omega)) (by simp) _ ?c0 _ rfl) Hlen.out ?c2 ?_) | go_in)
      case c0 => exact cells_one _ _ (by have := Hz.out; omega)
      case c2 => have := Hs.out; simp; omega
      intro v' w2 hap
      have hfin : Mine w.heap.size w2 v' (enc x) := by rw [He.out, enc_last Hh.out]; exact hap.1
      have hB := hide ((Hbl.out.alloc Hs.out _).trans (hap.below (by have := Hs.out; simp; omega) (fun k hk => (Htk.out.block k hk).1)))
      have Hfin := hide hfin
      clear hap hfin
      go_wp2_with fail
      go_ret
      exact ⟨v', rfl, Hfin.out, hB.out⟩
    · have hi : 128 ≤ (y : Int) := by omega
      have hi2 : (y : Int) < 18446744073709551616 := by have := Hy.out; omega
      have Hh := hide h
      clear h
      go_wp2_with (first | (at_builtin; refine wpList_append_mine rfl _ _ rfl w.heap.size _ _ m [y % 128 + 128] rfl rfl (Htk.out.alloc _) (bys_built wr [y % 128 + 128] (small_one (by omega)) (by simp) _ ?d0 _ rfl) Hlen.out ?d2 ?_) | go_in)
      case d0 => exact cells_one _ _ (by omega)
      case d2 => have := Hs.out; simp; omega
      intro v' w2 hap
      have hB := hide ((Hbl.out.alloc Hs.out _).trans (hap.below (by have := Hs.out; simp; omega) (fun k hk => (Htk.out.block k hk).1)))
      have Hm := hide hap.1
      clear hap
      go_wp2_with fail
      go_roundw
      case rel =>
        have := Hy.out
        exact ⟨m ++ [y % 128 + 128], y / 128, by congr 1, by omega, Hm.out, hB.out, by rw [He.out, enc_more Hh.out]; simp⟩
      case measure => simp [intOf]; have := Hh.out; omega
theorem refvr_any (w : World) (x : Int) (hx : -9223372036854775808 ≤ x ∧ x ≤ 9223372036854775807) :
    Calls Try.prog 26 #[.int .i64 x] w fun e w' => ∃ v', e = .returned v' ∧ Mine w.heap.size w' v' (enc (zig x)) ∧ Below w.heap.size w w' := by
  have H := refuv_any w (zig x) (zig_lt hx)
  rcases Int.lt_or_le x 0 with h0 | h0
  · have e : ((zig x : Nat) : Int) = -(x + 1) * 2 + 1 := by unfold zig; rw [if_pos h0]; omega
    rw [e] at H
    have HH := hide H
    clear H e
    go_enter Try.func26, Try.ntmps26
    go_wp2_with fail
    refine HH.out.mono ?_
    rintro e w1 ⟨v', rfl, hm, hb⟩
    have Hm := hide hm
    have Hb := hide hb
    clear hm hb
    go_wp2_with fail
    go_ret
    exact ⟨v', rfl, Hm.out, Hb.out⟩
  · have e : ((zig x : Nat) : Int) = x * 2 := by unfold zig; rw [if_neg (by omega)]; omega
    rw [e] at H
    have HH := hide H
    clear H e
    go_enter Try.func26, Try.ntmps26
    go_wp2_with fail
    refine HH.out.mono ?_
    rintro e w1 ⟨v', rfl, hm, hb⟩
    have Hm := hide hm
    have Hb := hide hb
    clear hm hb
    go_wp2_with fail
    go_ret
    exact ⟨v', rfl, Hm.out, Hb.out⟩
theorem refbytes_any (w : World) (s : Value) (m : List Nat) (hs : Bys w s m) (hlen : 10 + m.length ≤ 140737488355328) :
    Calls Try.prog 31 #[s] w fun e w' => ∃ v', e = .returned v' ∧ Mine w.heap.size w' v' (enc m.length ++ m) ∧ Below w.heap.size w w' := by
  have H := hide (refuv_any w m.length (by omega))
  have Hs := hide hs
  have hel := enc_len (n := m.length) (by omega)
  obtain ⟨a, cap, rfl, hc, _⟩ := hs.sl
  have hz0 : (0 : Int) ≤ m.length := by omega
  have hz1 : (m.length : Int) < 18446744073709551616 := by omega
  have Hl : Hid ((enc m.length).length + m.length ≤ 140737488355328) := by show _ ≤ _; omega
  clear hs hel hlen
  go_enter Try.func31, Try.ntmps31
  go_wp2_with fail
  refine H.out.mono ?_
  rintro e w1 ⟨v1, rfl, hm, hb⟩
  have Hm := hide hm
  have Hb := hide hb
  clear hm hb
  go_wp2_with (first | (at_builtin; refine wpList_append_mine rfl _ _ rfl w.heap.size _ _ (enc m.length) m rfl rfl Hm.out (Hs.out.kept Hb.out) Hl.out Hb.out.size ?_) | fail)
  intro v' w' hap
  have Hap := hide hap
  clear hap
  go_wp2_with fail
  go_ret
  refine ⟨v', rfl, Hap.out.1, ?_⟩
  exact Hb.out.trans (Hap.out.below Hb.out.size (fun k hk => (Hm.out.block k hk).1))
theorem pow_eight (k : Nat) : (256 : Nat) ^ k = 2 ^ (8 * k) := by rw [Nat.pow_mul]
theorem shr_byte (x k : Nat) : (((x / 256 ^ k % 256 : Nat) : Nat) : Int) = (x : Int) / 2 ^ (8 * k) % 256 := by
  rw [pow_eight, Int.natCast_emod, Int.natCast_ediv, Int.natCast_pow]; rfl
set_option maxHeartbeats 400000 in
theorem reffixed_any (w : World) (x m : Nat) (hx : x < 18446744073709551616) (hm8 : m ≤ 8) :
    Calls Try.prog 28 #[.int .u64 (x : Nat), .int .i64 (m : Nat)] w fun e w' => ∃ v', e = .returned v' ∧ Mine w.heap.size w' v' (le m x) ∧ Below w.heap.size w w' := by
  have Hx := hide hx
  have hz0 : (0 : Int) ≤ x := by omega
  have hz1 : (x : Int) < 18446744073709551616 := by omega
  have hm1 : (m : Int) ≤ 8 := by omega
  obtain ⟨X, hX⟩ : ∃ X : Int, X = x := ⟨_, rfl⟩
  rw [← hX] at hz0 hz1 ⊢
  have HX := hide hX
  clear hx hX
  go_enter Try.func28, Try.ntmps28
  go_wp2_with fail
  go_loopw [5, 6] (fun v i wr => ∃ k : Nat, i = .int .i64 (k : Nat) ∧ k ≤ m ∧ Mine w.heap.size wr v (le k x) ∧ Below w.heap.size w wr) (fun _ i _ => m - (intOf i).toNat)
  case atStart => exact ⟨0, rfl, by omega, Mine.nil _ _, Below.refl _ _⟩
  case round =>
    obtain ⟨k, rfl, hk, hmn, hbl⟩ := hrel
    have Hmn := hide hmn
    have Hbl := hide hbl
    have Hs : Hid (w.heap.size ≤ wr.heap.size) := hbl.size
    clear hmn hbl
    by_cases hkm : k < m
    · have hk1 : (k : Int) < m := by omega
      have hk2 : (k : Int) < 8 := by omega
      have hk3 : (0 : Int) ≤ k := by omega
      have Hkm := hide hkm
      have Hlen : Hid ((le k x).length + 1 ≤ 140737488355328) := by show _ ≤ _; rw [le_length]; omega
      clear hkm
      go_wp2_with (first | (at_builtin; refine wpList_append_mine rfl _ _ rfl w.heap.size _ _ (le k x) [x / 256 ^ k % 256] rfl rfl (Hmn.out.alloc _) (bys_built wr [x / 256 ^ k % 256] (small_one (Nat.mod_lt _ (by omega))) (by simp) _ ?d0 _ rfl) Hlen.out ?d2 ?_) | go_in)
      case d0 => exact cells_one _ _ (by rw [shr_byte, HX.out])
      case d2 => have := Hs.out; simp; omega
      intro v' w2 hap
      have hB := hide ((Hbl.out.alloc Hs.out _).trans (hap.below (by have := Hs.out; simp; omega) (fun k hk => (Hmn.out.block k hk).1)))
      have Hm := hide hap.1
      clear hap
      go_wp2_with fail
      go_roundw
      case rel => exact ⟨k + 1, rfl, by have := Hkm.out; omega, by rw [le_snoc]; exact Hm.out, hB.out⟩
      case measure => simp [intOf]; have := Hkm.out; omega
    · obtain rfl : k = m := by omega
      have hk1 : ¬ (k : Int) < k := by omega
      clear hkm
      go_wp2_with fail
      go_ret
      exact ⟨_, rfl, Hmn.out, Hbl.out⟩
end Go.Proofs.Ytaioniegggfcjaa
