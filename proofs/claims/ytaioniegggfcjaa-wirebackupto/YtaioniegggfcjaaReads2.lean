/-
  A reader's Varint, Fixed4, Fixed8, Byte; Done.
-/
import Derived.Test.YtaioniegggfcjaaReads
namespace Go.Proofs.Ytaioniegggfcjaa
open Go.RowKit
set_option linter.unusedVariables false
theorem vr_nil (w : World) : Calls Try.prog 14 #[.pointer none] w fun x w' => x = .returned (.int .i64 0) ∧ w' = w := by
  go_enter Try.func14, Try.ntmps14
  go_wp2_with fail
  refine (uv_nil _).mono ?_; rintro e wz ⟨rfl, hwz⟩; rw [hwz]; clear hwz wz
  go_wp2
  go_ret
  exact ⟨ret_i (by decide +kernel), rfl⟩
theorem vr_any (w : World) (g : Nat) (l : List Nat) (k e : Nat) (h : Rd w g l k e) :
    Calls Try.prog 14 #[.pointer (some ⟨g, 0, none⟩)] w fun x w' => x = .returned (.int .i64 (zag (numN (restOf l k e)))) ∧ Rd w' g l (stand l k e) (bad l k e) ∧ w.grownBy w' (some g) := by
  have hlt := numN_lt (small_rest h.bytes.1 k e)
  have h' := uv_any w g l k e h
  generalize numN (restOf l k e) = n at *
  have H := hide h'
  clear h h'
  go_enter Try.func14, Try.ntmps14
  go_wp2_with fail
  refine H.out.mono ?_; rintro x w1 ⟨rfl, hr, hg⟩
  have Hr := hide hr
  have Hg := hide hg
  clear hr hg
  have Hl := hide hlt
  have hn0 : (0 : Int) ≤ n := by omega
  have hn1 : (n : Int) < 18446744073709551616 := by omega
  clear hlt
  obtain ⟨z, hz⟩ : ∃ z : Int, z = n := ⟨_, rfl⟩
  rw [← hz] at hn0 hn1 ⊢
  have Hz := hide hz
  clear hz
  go_wp2_with fail
  go_ret
  refine ⟨ret_i ?_, Hr.out, Hg.out⟩
  rw [Hz.out]
  exact zag_bits n Hl.out
theorem done_nil (w : World) : Calls Try.prog 18 #[.pointer none] w fun x w' => x = .returned (.int .i64 5) ∧ w' = w := by
  go_enter Try.func18, Try.ntmps18
  go_wp2_with fail
  refine (err_nil _).mono ?_; rintro e wz ⟨rfl, hwz⟩; rw [hwz]; clear hwz wz
  go_wp2_with fail
  refine (err_nil _).mono ?_; rintro e wz ⟨rfl, hwz⟩; rw [hwz]; clear hwz wz
  go_wp2
  go_ret
  exact ⟨rfl, rfl⟩
def doneE (l : List Nat) (k e : Nat) : Nat := if e = 0 ∧ k < l.length then 5 else e
theorem done_any (w : World) (g : Nat) (l : List Nat) (k e : Nat) (h : Rd w g l k e) :
    Calls Try.prog 18 #[.pointer (some ⟨g, 0, none⟩)] w fun x w' => x = .returned (.int .i64 (doneE l k e : Nat)) ∧ Same w w' := by
  have He := hide (err_any w g l k e h)
  have Hl := hide (left_any w g l k e h)
  have H := hide h
  have hB := h.bytes
  clear h
  by_cases h0 : e = 0
  · subst h0
    go_enter Try.func18, Try.ntmps18
    go_wp2_with fail
    refine He.out.mono ?_; rintro e wz ⟨rfl, hwz⟩; rw [hwz]; clear hwz wz
    go_wp2_with fail
    refine Hl.out.mono ?_; rintro e w1 ⟨rfl, hs⟩
    have He1 := hide (err_any w1 g l k 0 (H.out.same hs))
    have Hs := hide hs
    clear hs
    by_cases hk : k < l.length
    · have hz : (0 : Int) < ((l.length - k : Nat) : Int) := by omega
      have Hd : Hid (doneE l k 0 = 5) := by show _ = _; simp [doneE, hk]
      generalize ((l.length - k : Nat) : Int) = q at *
      clear hk hB
      go_wp2_with fail
      go_ret
      exact ⟨ret_i (by rw [Hd.out]; rfl), Hs.out⟩
    · have hz : ((l.length - k : Nat) : Int) = 0 := by omega
      have Hd : Hid (doneE l k 0 = 0) := by show _ = _; simp [doneE, hk]
      rw [hz]
      clear hk hB
      go_wp2_with fail
      refine He1.out.mono ?_; rintro e wz ⟨rfl, hwz⟩; rw [hwz]; clear hwz wz
      go_wp2_with fail
      go_ret
      exact ⟨ret_i (by rw [Hd.out]; rfl), Hs.out⟩
  · have Hd : Hid (doneE l k e = e) := by show _ = _; simp [doneE, h0]
    have hz : ((e : Int) == 0) = false := by simp; omega
    clear h0
    go_enter Try.func18, Try.ntmps18
    go_wp2_with fail
    refine He.out.mono ?_; rintro x wz ⟨rfl, hwz⟩; rw [hwz]; clear hwz wz
    go_wp2_with fail
    refine He.out.mono ?_; rintro x wz ⟨rfl, hwz⟩; rw [hwz]; clear hwz wz
    go_wp2_with fail
    go_ret
    exact ⟨ret_i (by rw [Hd.out]), Same.refl w⟩
theorem pow_256 (k : Nat) : (256 : Nat) ^ k = 2 ^ (8 * k) := by rw [Nat.pow_mul]
theorem or_byte (k acc x : Nat) (hk : k < 8) (hacc : acc < 256 ^ k) (hx : x < 256) : bits .or .u64 (acc : Int) (IntKind.u64.wrap ((x : Int) * 2 ^ (8 * k))) = ((acc + 256 ^ k * x : Nat) : Int) := by
  have hp : (256 : Nat) ^ k ≤ 256 ^ 7 := Nat.pow_le_pow_right (by omega) (by omega)
  have e7 : (256 : Nat) ^ 7 = 72057594037927936 := by decide
  have hb : 256 ^ k * x < 18446744073709551616 := by
    have h1 : 256 ^ k * x ≤ 256 ^ k * 255 := Nat.mul_le_mul_left _ (by omega)
    omega
  have e1 : (x : Int) * 2 ^ (8 * k) = ((256 ^ k * x : Nat) : Int) := by
    rw [pow_256]; push_cast; exact Int.mul_comm _ _
  have e2 : IntKind.u64.wrap ((256 ^ k * x : Nat) : Int) = ((256 ^ k * x : Nat) : Int) := by rw [IntKind.wrap_u64]; omega
  rw [e1, e2, bits_or_u64_nat _ _ (by omega) hb]
  congr 1
  rw [pow_256] at hacc ⊢
  rw [Nat.or_comm, Nat.mul_comm, Nat.add_comm, ← Nat.shiftLeft_eq, ← Nat.shiftLeft_add_eq_or_of_lt hacc]
theorem take_snoc {l : List Nat} {k : Nat} (h : k < l.length) : l.take (k + 1) = l.take k ++ [dig l k] := by
  rw [List.take_add_one]
  simp [dig, List.getD_eq_getElem?_getD, h]
def fixN (l : List Nat) (k e m : Nat) : Nat := if (restOf l k e).length < m then 0 else unle ((restOf l k e).take m)
def fixK (l : List Nat) (k e m : Nat) : Nat := if (restOf l k e).length < m then k else k + m
def fixE (l : List Nat) (k e m : Nat) : Nat := if (restOf l k e).length < m then first e 5 else e
theorem fixed_nil (w : World) (m : Nat) (hm : 0 < m) (hm8 : m ≤ 8) : Calls Try.prog 41 #[.pointer none, .int .i64 (m : Nat)] w fun x w' => x = .returned (.int .u64 0) ∧ w' = w := by
  have hz : (0 : Int) < m := by omega
  go_enter Try.func41, Try.ntmps41
  go_wp2_with fail
  refine (rest_nil _).mono ?_; rintro e wz ⟨rfl, hwz⟩; rw [hwz]; clear hwz wz
  go_wp2_with fail
  refine (fail_nil _ _).mono ?_; rintro e wz ⟨rfl, hwz⟩; rw [hwz]; clear hwz wz
  go_wp2_with fail
  go_ret
  exact ⟨rfl, rfl⟩
set_option maxHeartbeats 400000 in
theorem fixed_any (w : World) (g : Nat) (l : List Nat) (k e m : Nat) (h : Rd w g l k e) (hm : 0 < m) (hm8 : m ≤ 8) :
    Calls Try.prog 41 #[.pointer (some ⟨g, 0, none⟩), .int .i64 (m : Nat)] w fun x w' => x = .returned (.int .u64 (fixN l k e m : Nat)) ∧ Rd w' g l (fixK l k e m) (fixE l k e m) ∧ w.grownBy w' (some g) := by
  have hB := h.bytes
  have hlen2 := rest_len l k e
  have hsm := small_rest hB.1 k e
  have H := hide h
  clear h
  by_cases hc : (restOf l k e).length < m
  · have Hd : Hid (fixN l k e m = 0 ∧ fixK l k e m = k ∧ fixE l k e m = first e 5) := by show _ ∧ _ ∧ _; simp [fixN, fixK, fixE, hc]
    have hz : (((restOf l k e).length : Nat) : Int) < m := by omega
    clear hc hlen2
    go_enter Try.func41, Try.ntmps41
    go_wp2_with fail
    refine (rest_any _ _ _ _ _ H.out).mono ?_
    rintro x w1 ⟨v, rfl, hv, hs⟩
    have Hf := hide (fail_any w1 g l k e 5 (H.out.same hs))
    have Hs := hide hs
    obtain ⟨a, cap, rfl, hc, _⟩ := hv.sl
    clear hs hv
    go_wp2_with fail
    refine Hf.out.mono ?_; rintro x w2 ⟨rfl, hr2, hg2⟩
    have Hr2 := hide hr2
    have Hg2 := hide (grown_trans (Hs.out.grown (some g)) hg2)
    clear hr2 hg2
    go_wp2_with fail
    go_ret
    exact ⟨ret_i (by rw [Hd.out.1]; rfl), by rw [Hd.out.2.1, Hd.out.2.2]; exact Hr2.out, Hg2.out⟩
  · have Hd : Hid (fixN l k e m = unle ((restOf l k e).take m) ∧ fixK l k e m = k + m ∧ fixE l k e m = e) := by show _ ∧ _ ∧ _; simp [fixN, fixK, fixE, hc]
    have hz : ¬ (((restOf l k e).length : Nat) : Int) < m := by omega
    have hmz : (0 : Int) ≤ m := by omega
    have hmz8 : (m : Int) ≤ 8 := by omega
    go_enter Try.func41, Try.ntmps41
    go_wp2_with fail
    refine (rest_any _ _ _ _ _ H.out).mono ?_
    rintro x w1 ⟨v, rfl, hv, hs⟩
    have hr1 := H.out.same hs
    have hr3 := hr1.place (k + m) (by omega)
    have e3 : (((k + m : Nat) : Int)) = (k : Int) + m := by omega
    rw [e3] at hr3
    obtain ⟨c1, c2, c3, c4⟩ := hr1.cells
    have hv2 := hv.stored c1 (.int .i64 ((k : Int) + m))
    have Hg3 := hide (grown_trans (hs.grown (some g)) (grown_setCell w1 g 1 (.int .i64 ((k : Int) + m))))
    have Hr3 := hide hr3
    obtain ⟨a, cap, rfl, hcap, hcell⟩ := hv2.sl
    have Hcell := hide hcell
    have hmc : (m : Int) ≤ cap := by omega
    have hmc2 : m ≤ cap := by omega
    have Hc : Hid (m ≤ (restOf l k e).length) := by show _ ≤ _; omega
    have Hsm := hide hsm
    clear hs hv hv2 hr3 hr1 hcell e3 hc hlen2 hsm
    generalize restOf l k e = r at *
    go_wp2_with fail
    generalize w1.setCell ⟨g, 1, none⟩ (.int .i64 ((k : Int) + m)) = w2 at *
    clear c1 c2
    go_loop [6, 29] (fun q i => ∃ j : Nat, i = .int .i64 (j : Int) ∧ j ≤ m ∧ q = .int .u64 ((unle (r.take j) : Nat) : Int)) (fun _ i => m - (intOf i).toNat)
    case atStart => exact ⟨0, rfl, by omega, by simp [unle]⟩
    case round =>
      obtain ⟨j, rfl, hj, rfl⟩ := hrel
      by_cases hjm : j < m
      · obtain ⟨b, o, rfl, hck⟩ := Hcell.out j (by have := Hc.out; omega)
        have hu := unle_lt (r.take j) (small_take Hsm.out j)
        rw [List.length_take, Nat.min_eq_left (by have := Hc.out; omega)] at hu
        have hor := or_byte j (unle (r.take j)) (dig r j) (by omega) hu (Hsm.out j)
        have hsn := unle_snoc (r.take j) (dig r j)
        rw [← take_snoc (by have := Hc.out; omega), List.length_take, Nat.min_eq_left (by have := Hc.out; omega)] at hsn
        rw [← hsn] at hor
        have hx := Hsm.out j
        have hq4 : IntKind.u64.wrap ((dig r j : Nat) : Int) = (dig r j : Nat) := by rw [IntKind.wrap_u64]; omega
        have hj1 : (j : Int) < m := by omega
        have hj2 : (j : Int) < 8 := by omega
        have hj3 : (0 : Int) ≤ j := by omega
        have Hor := hide hor
        have Hjm := hide hjm
        clear hor hsn hu hx hjm
        generalize ((dig r j : Nat) : Int) = y at *
        go_wp2_with fail
        go_round
        case rel => exact ⟨j + 1, rfl, by have := Hjm.out; omega, congrArg _ Hor.out⟩
        case measure => simp [intOf]; have := Hjm.out; omega
      · obtain rfl : j = m := by omega
        have hj1 : ¬ (j : Int) < j := by omega
        clear hjm
        go_wp2_with fail
        go_ret
        exact ⟨ret_i (by rw [Hd.out.1]), by rw [Hd.out.2.1, Hd.out.2.2]; exact Hr3.out, Hg3.out⟩
end Go.Proofs.Ytaioniegggfcjaa
