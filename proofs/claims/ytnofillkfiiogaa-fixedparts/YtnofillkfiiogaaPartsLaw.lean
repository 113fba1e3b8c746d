/-
  Proved: phalanxlaw01.FixedParts returns true for every two numbers of 64 bits with sign. Conditions: none but the row's own.
-/
import Derived.Test.YtnofillkfiiogaaParts
import Derived.WalkKit
import Derived.ProofKit
import Derived.OpenShut
namespace Go.Proofs.Ytnofillkfiiogaa
open Go.RowKit
set_option linter.unusedVariables false
set_option maxHeartbeats 400000 in
theorem divq_any (a b : Int) (w : World) (ha : -9223372036854775808 ≤ a ∧ a ≤ 9223372036854775807) (hb : -9223372036854775808 ≤ b ∧ b ≤ 9223372036854775807) :
    Calls Try.prog 28 #[.int .i64 a, .int .i64 b] w fun e w' => e = .returned (.tuple #[.int .i64 (dqV a b), .bool (dqB a b)]) ∧ Below w.heap.size w w' := by
  have ra := amt_range a ha
  have rb := amt_range b hb
  obtain ⟨m, hm⟩ := Int.eq_ofNat_of_zero_le ra.1
  obtain ⟨n, hn⟩ := Int.eq_ofNat_of_zero_le rb.1
  by_cases hle : amt b ≤ amt a / 4294967296
  · have hf := hide (parts_none a b m n hm.symm hn.symm (by omega))
    have hv : Hid (dqV a b = 0) := by show _ = _; rw [dqV, hf.out]; rfl
    clear hm hn
    go_enter Try.func28, Try.ntmps28
    go_wp2_with fail
    refine (amount_any a _ ha).mono ?_; rintro e wz ⟨rfl, hwz⟩; rw [hwz]; clear hwz wz
    go_wp2_with fail
    refine (amount_any b _ hb).mono ?_; rintro e wz ⟨rfl, hwz⟩; rw [hwz]; clear hwz wz
    go_wp2_with fail
    go_ret2
    exact ⟨ret_ib hv.out.symm hf.out.symm, Below.refl _ _⟩
  · have hb0 : b ≠ 0 := by
      intro h; subst h; apply hle; have : amt 0 = 0 := rfl; omega
    have hq := hide (parts_quo a b m n hm.symm hn.symm hb0)
    have hs := hide (parts_some a b hb0)
    have hw := hide (parts_word m (by omega))
    have e1 : Hid (amt a / 4294967296 = ((m / 4294967296 : Nat) : Int)) := by show _ = _; omega
    have e2 : Hid (IntKind.u64.wrap (amt a * 4294967296) = ((m % 4294967296 * 4294967296 : Nat) : Int)) := by show _ = _; rw [IntKind.wrap_u64]; omega
    have hx : Hid (m / 4294967296 < n ∧ m % 4294967296 * 4294967296 < 18446744073709551616 ∧ n < 18446744073709551616) := by show _ ∧ _; omega
    have Hn := hide hn
    clear hm hn
    go_enter Try.func28, Try.ntmps28
    go_wp2_with fail
    refine (amount_any a _ ha).mono ?_; rintro e wz ⟨rfl, hwz⟩; rw [hwz]; clear hwz wz
    go_wp2_with fail
    refine (amount_any b _ hb).mono ?_; rintro e wz ⟨rfl, hwz⟩; rw [hwz]; clear hwz wz
    go_wp2_with fail
    rw [e1.out, e2.out, Hn.out]
    refine (div64_any (m / 4294967296) (m % 4294967296 * 4294967296) n _ hx.out.1 hx.out.2.1 hx.out.2.2).mono ?_
    rw [hw.out]
    rintro e w1 ⟨nq, rfl, hw1⟩
    rw [hw1]
    clear hw1 w1
    have hqlt := hide (parts_lt m n hx.out.1)
    have hcs := hide (parts_casts m n)
    go_wp2_with fail
    rw [hcs.out.1, hcs.out.2]
    refine (signed_any _ _ _ _ hqlt.out).mono ?_
    rw [← hq.out, ← hs.out.1, ← hs.out.2]
    rintro e wz ⟨rfl, hwz⟩; rw [hwz]; clear hwz wz
    go_wp2_with fail
    go_ret2
    exact ⟨rfl, drewN_below (Below.refl _ _) _⟩
theorem one_num {l : List Nat} (h : val l = 4294967296) : num false l = 4294967296 := by rw [num_false, h]; rfl
theorem fdiv_word (p : Int) : Int.fdiv p 4294967296 = p / 4294967296 := Int.fdiv_eq_ediv_of_nonneg _ (by omega)
set_option maxHeartbeats 400000 in
theorem refmulq_any (a b : Int) (w : World) (ha : -9223372036854775808 ≤ a ∧ a ≤ 9223372036854775807) (hb : -9223372036854775808 ≤ b ∧ b ≤ 9223372036854775807) :
    Calls Try.prog 27 #[.int .i64 a, .int .i64 b] w fun e w' => e = .returned (.tuple #[.int .i64 (told (a * b / 4294967296)), .bool (fit (a * b / 4294967296))]) ∧ Below w.heap.size w w' := by
  go_enter Try.func27, Try.ntmps27
  go_wp2_with fail
  refine (of_any a _ ha).mono ?_
  rintro e w1 ⟨s1, r1, n1, c1, l1, rfl, hd1, hn1, hl1, hb1⟩
  go_wp2_with fail
  refine (of_any b _ hb).mono ?_
  rintro e w2 ⟨s2, r2, n2, c2, l2, rfl, hd2, hn2, hl2, hb2⟩
  go_wp2_with fail
  refine (prod_any _ s1 s2 r1 r2 n1 n2 c1 c2 l1 l2 (hd1.kept hb2) hd2 (by omega) (by omega)).mono ?_
  rintro e w3 ⟨s3, r3, n3, c3, l3, rfl, hd3, hn3, hl3, hb3⟩
  go_wp2_with fail
  refine (one_any _).mono ?_
  rintro e w4 ⟨r4, n4, c4, l4, rfl, hd4, hv4, hl4, hb4⟩
  have ho := hide (one_num hv4)
  go_wp2_with fail
  refine (quot_any _ s3 false r3 r4 n3 n4 c3 c4 l3 l4 (hd3.kept hb4) hd4 (by omega) (by omega) (by rw [ho.out]; omega)).mono ?_
  rintro e w5 ⟨s5, r5, n5, c5, l5, rfl, hd5, hn5, hl5, hb5⟩
  have hn : Hid (num s5 l5 = a * b / 4294967296) := by show _ = _; rw [hn5, ho.out, hn3, hn1, hn2, fdiv_word]
  have hB : Below w.heap.size w w5 := bt (bt (bt (bt hb1 hb2) hb3) hb4) hb5
  clear hn1 hn2 hn3 hn5 hd1 hd2 hd3 hd4 hb1 hb2 hb3 hb4 hb5 hl1 hl2 hl3 hl4 hv4
  go_wp2_with fail
  refine (to_any _ s5 r5 n5 c5 l5 hd5).mono ?_
  rw [hn.out]
  rintro e w6 ⟨rfl, hb6⟩
  go_wp2_with fail
  go_ret2
  exact ⟨rfl, bt hB hb6⟩
set_option maxHeartbeats 400000 in
theorem refdivq_any (a b : Int) (w : World) (ha : -9223372036854775808 ≤ a ∧ a ≤ 9223372036854775807) (hb : -9223372036854775808 ≤ b ∧ b ≤ 9223372036854775807) :
    Calls Try.prog 29 #[.int .i64 a, .int .i64 b] w fun e w' => e = .returned (.tuple #[.int .i64 (dqV a b), .bool (dqB a b)]) ∧ Below w.heap.size w w' := by
  by_cases hb0 : b = 0
  · subst hb0
    go_enter Try.func29, Try.ntmps29
    go_wp2_with fail
    go_ret2
    exact ⟨ret_ib (by simp [dqV, dqB]) (by simp [dqB]), Below.refl _ _⟩
  · have hbn : (b == 0) = false := by simp [hb0]
    have hs := hide (parts_some a b hb0)
    have Hb0 := hide hb0
    clear hb0
    go_enter Try.func29, Try.ntmps29
    go_wp2_with fail
    refine (of_any a _ ha).mono ?_
    rintro e w1 ⟨s1, r1, n1, c1, l1, rfl, hd1, hn1, hl1, hb1⟩
    go_wp2_with fail
    refine (one_any _).mono ?_
    rintro e w2 ⟨r2, n2, c2, l2, rfl, hd2, hv2, hl2, hb2⟩
    have ho := hide (one_num hv2)
    go_wp2_with fail
    refine (prod_any _ s1 false r1 r2 n1 n2 c1 c2 l1 l2 (hd1.kept hb2) hd2 (by omega) (by omega)).mono ?_
    rintro e w3 ⟨s3, r3, n3, c3, l3, rfl, hd3, hn3, hl3, hb3⟩
    go_wp2_with fail
    refine (of_any b _ hb).mono ?_
    rintro e w4 ⟨s4, r4, n4, c4, l4, rfl, hd4, hn4, hl4, hb4⟩
    go_wp2_with fail
    refine (quot_any _ s3 s4 r3 r4 n3 n4 c3 c4 l3 l4 (hd3.kept hb4) hd4 (by omega) (by omega) (by rw [hn4]; exact Hb0.out)).mono ?_
    rintro e w5 ⟨s5, r5, n5, c5, l5, rfl, hd5, hn5, hl5, hb5⟩
    have hn : Hid (num s5 l5 = Int.fdiv (a * 4294967296) b) := by show _ = _; rw [hn5, hn3, ho.out, hn1, hn4]
    have hB : Below w.heap.size w w5 := bt (bt (bt (bt hb1 hb2) hb3) hb4) hb5
    clear hn1 hn3 hn4 hn5 hd1 hd2 hd3 hd4 hb1 hb2 hb3 hb4 hb5 hl1 hl2 hl3 hl4 hv2
    go_wp2_with fail
    refine (to_any _ s5 r5 n5 c5 l5 hd5).mono ?_
    rw [hn.out, ← hs.out.1, ← hs.out.2]
    rintro e w6 ⟨rfl, hb6⟩
    go_wp2_with fail
    go_ret2
    exact ⟨rfl, bt hB hb6⟩
set_option maxHeartbeats 400000 in
theorem reffrom_any (a : Int) (w : World) (ha : -9223372036854775808 ≤ a ∧ a ≤ 9223372036854775807) :
    Calls Try.prog 31 #[.int .i64 a] w fun e w' => e = .returned (.tuple #[.int .i64 (told (a * 4294967296)), .bool (fit (a * 4294967296))]) ∧ Below w.heap.size w w' := by
  go_enter Try.func31, Try.ntmps31
  go_wp2_with fail
  refine (of_any a _ ha).mono ?_
  rintro e w1 ⟨s1, r1, n1, c1, l1, rfl, hd1, hn1, hl1, hb1⟩
  go_wp2_with fail
  refine (one_any _).mono ?_
  rintro e w2 ⟨r2, n2, c2, l2, rfl, hd2, hv2, hl2, hb2⟩
  have ho := hide (one_num hv2)
  go_wp2_with fail
  refine (prod_any _ s1 false r1 r2 n1 n2 c1 c2 l1 l2 (hd1.kept hb2) hd2 (by omega) (by omega)).mono ?_
  rintro e w3 ⟨s3, r3, n3, c3, l3, rfl, hd3, hn3, hl3, hb3⟩
  have hn : Hid (num s3 l3 = a * 4294967296) := by show _ = _; rw [hn3, ho.out, hn1]
  have hB : Below w.heap.size w w3 := bt (bt hb1 hb2) hb3
  clear hn1 hn3 hd1 hd2 hb1 hb2 hb3 hl1 hl2 hv2
  go_wp2_with fail
  refine (to_any _ s3 r3 n3 c3 l3 hd3).mono ?_
  rw [hn.out]
  rintro e w4 ⟨rfl, hb4⟩
  go_wp2_with fail
  go_ret2
  exact ⟨rfl, bt hB hb4⟩
set_option maxHeartbeats 400000 in
theorem reffloor_any (a : Int) (w : World) (ha : -9223372036854775808 ≤ a ∧ a ≤ 9223372036854775807) :
    Calls Try.prog 33 #[.int .i64 a] w fun e w' => e = .returned (.int .i64 (a / 4294967296)) ∧ Below w.heap.size w w' := by
  have hf := hide (fit_of (n := a / 4294967296) (by omega) (by omega))
  go_enter Try.func33, Try.ntmps33
  go_wp2_with fail
  refine (of_any a _ ha).mono ?_
  rintro e w1 ⟨s1, r1, n1, c1, l1, rfl, hd1, hn1, hl1, hb1⟩
  go_wp2_with fail
  refine (one_any _).mono ?_
  rintro e w2 ⟨r2, n2, c2, l2, rfl, hd2, hv2, hl2, hb2⟩
  have ho := hide (one_num hv2)
  go_wp2_with fail
  refine (quot_any _ s1 false r1 r2 n1 n2 c1 c2 l1 l2 (hd1.kept hb2) hd2 (by omega) (by omega) (by rw [ho.out]; omega)).mono ?_
  rintro e w3 ⟨s3, r3, n3, c3, l3, rfl, hd3, hn3, hl3, hb3⟩
  have hn : Hid (num s3 l3 = a / 4294967296) := by show _ = _; rw [hn3, ho.out, hn1, fdiv_word]
  have hB : Below w.heap.size w w3 := bt (bt hb1 hb2) hb3
  clear hn1 hn3 hd1 hd2 hb1 hb2 hb3 hl1 hl2 hv2
  go_wp2_with fail
  refine (to_any _ s3 r3 n3 c3 l3 hd3).mono ?_
  rw [hn.out, told_of hf.out]
  rintro e w4 ⟨rfl, hb4⟩
  go_wp2_with fail
  go_ret
  exact ⟨rfl, bt hB hb4⟩
set_option maxRecDepth 100000 in
set_option maxHeartbeats 1000000 in
theorem partsLaw (a b : Int) (w : World) (ha : -9223372036854775808 ≤ a ∧ a ≤ 9223372036854775807) (hb : -9223372036854775808 ≤ b ∧ b ≤ 9223372036854775807) :
    Calls Try.prog 5 #[.int .i64 a, .int .i64 b] w fun e w' => e = .returned (.bool true) ∧ Below w.heap.size w w' := by
  go_enter Try.func5, Try.ntmps5
  go_wp2_with fail
  refine (mulq_any a b _ ha hb).mono ?_; rintro e wz ⟨rfl, hwz⟩; rw [hwz]; clear hwz wz
  go_wp2_with fail
  refine (refmulq_any a b _ ha hb).mono ?_
  rintro e v1 ⟨rfl, hb1⟩
  go_wp2_with fail
  refine (same_one _ _ _).mono ?_; rintro e wz ⟨rfl, hwz⟩; rw [hwz]; clear hwz wz
  go_wp2_with fail
  refine (divq_any a b _ ha hb).mono ?_
  rintro e v2 ⟨rfl, hb2⟩
  go_wp2_with fail
  refine (refdivq_any a b _ ha hb).mono ?_
  rintro e v3 ⟨rfl, hb3⟩
  have hB3 := bt (bt hb1 hb2) hb3
  clear hb1 hb2 hb3
  go_wp2_with fail
  refine (same_one _ _ _).mono ?_; rintro e wz ⟨rfl, hwz⟩; rw [hwz]; clear hwz wz
  go_wp2_with fail
  refine (from_any a _).mono ?_; rintro e wz ⟨rfl, hwz⟩; rw [hwz]; clear hwz wz
  go_wp2_with fail
  refine (reffrom_any a _ ha).mono ?_
  rintro e v4 ⟨rfl, hb4⟩
  have hB4 := bt hB3 hb4
  clear hB3 hb4
  go_wp2_with fail
  refine (same_one _ _ _).mono ?_; rintro e wz ⟨rfl, hwz⟩; rw [hwz]; clear hwz wz
  go_wp2_with fail
  refine (floor_any b _).mono ?_; rintro e wz ⟨rfl, hwz⟩; rw [hwz]; clear hwz wz
  go_wp2_with fail
  refine (reffloor_any b _ hb).mono ?_
  rintro e v5 ⟨rfl, hb5⟩
  have hB5 := bt hB4 hb5
  clear hB4 hb5
  go_wp2_with fail
  refine (awake_any _).mono ?_; rintro e wz ⟨rfl, hwz⟩; rw [hwz]; clear hwz wz
  go_wp2_with fail
  go_ret
  exact ⟨rfl, hB5⟩
end Go.Proofs.Ytnofillkfiiogaa
namespace Go.Proofs.Ytnofillkfiiogaa.fixedParts
open Go.ChangeShapes Go.WideShapes Go.ChangeAt Go.RowKit
set_option linter.unusedVariables false      -- a walk need not use every 'w<i>' (that an integer argument fits its kind)

theorem own : ownKnob Try.prog.godebug = none := by kernel_rfl

/-! ### STEP 1: THE WALK: the Go text returns true. Part the cases AHEAD of 'go_enter' where a test parts the walk; take each callee by a contract of your own. -/
theorem walk (a0 : Int) (a1 : Int) (w0 : (Lit.int .i64 a0).wf = true) (w1 : (Lit.int .i64 a1).wf = true) (w : World) :
    Calls Try.prog 5 #[.int .i64 a0, .int .i64 a1] w fun e w' => e = .returned (.bool true) ∧ Below w.heap.size w w' := by
  exact partsLaw a0 a1 w (wf_range w0) (wf_range w1)

/-! ### THE ROW's STEP: WRITTEN OUT: LEAVE IT -/
set_option maxRecDepth 100000 in
theorem lifted (os : Os) (started : os.Started) (H : Type) (enc : TypeId × Value → H) :
    ReturnsInHanded {} Try.checked os 5 .any (Rows.fixedPartsSpec.pre6 enc Try.prog Try.f5 Rows.fixedPartsRow.domain false) (Rows.fixedPartsSpec.post enc Try.prog Try.f5 false true false false) := by
  refine returnsInHanded_of_change (C := Try.checked) own started (by kernel_rfl) Try.func5
    (ChangeSpec.witness6 (enc := enc) (C := Try.checked) false ⟨#[], #[.int .i64 0, .int .i64 0], []⟩ 8 (by kernel_rfl) (by kernel_rfl) (by kernel_rfl) (by kernel_rfl)) ?_
  intro W base args ds gs before hval0 hW hcnd _
  have hval : ∀ (j : Nat) t v, Try.f5.params[j]? = some t → args[j]? = some v → Value.okWide Try.prog W .any base t v := hval0
  have hW' := hW
  obtain ⟨p, q, hA0, hV, rfl, hfz, hnd⟩ := hW
  have hA : DataW.TrodAll enc Try.prog W 0 (fun _ => true) true Try.f5.params.toList args.toList ds p := hA0
  rw [Try.params5] at hA hval
  obtain ⟨v0, vs0, d0, ds0, p0, q0, hargs, rfl, rfl, h0, r0⟩ := trodAll_cons hA
  obtain ⟨v1, vs1, d1, ds1, p1, q1, rfl, rfl, rfl, h1, r1⟩ := trodAll_cons r0
  obtain ⟨rfl, rfl, rfl⟩ := trodAll_nil r1
  obtain rfl : args = #[v0, v1] := by cases args; simp_all
  obtain ⟨rfl, rfl⟩ := trodVars_none hV
  obtain ⟨a0, rfl, rfl, rfl, w0⟩ := open_int Try.underlying2 (hval 0 2 v0 rfl rfl) h0
  obtain ⟨a1, rfl, rfl, rfl, w1⟩ := open_int Try.underlying2 (hval 1 2 v1 rfl rfl) h1
  clear hA0 hval0
  simp only [List.append_nil] at hW'
  refine (walk a0 a1 w0 w1 W).mono fun e W' ⟨he, hg⟩ => ?_
  subst he
  exact ⟨_, rfl, _, _, _, [], _, [], hW', trodAll_mk1 (shut_bool Try.underlying4 _), (trodAll_cons_mk (shut_int Try.underlying2 w0) (trodAll_cons_mk (shut_int Try.underlying2 w1) trodAll_mk0)), rfl, hg.frame _, fun h => by cases h⟩

theorem over : Rows.fixedPartsRow.holds Try.pinned (OpenSpec.ofChange Rows.fixedPartsSpec) :=
  OpenClaim.holds_of_wide 5 Try.f5 rfl rfl rfl rfl rfl rfl rfl ⟨rfl, rfl, rfl, rfl, rfl⟩ rfl rfl rfl rfl rfl (by kernel_rfl) Try.func5 (by kernel_rfl)
    (of_decide_eq_true (by kernel_rfl)) (by unfold Func.isWrapper; first | (rw [if_pos (by decide +kernel)]; kernel_rfl) | (rw [if_neg (by decide +kernel)]; exact ⟨rfl, rfl⟩))
    (fun os started H enc _ => lifted os started H enc)

end Go.Proofs.Ytnofillkfiiogaa.fixedParts
namespace Go.Proofs.Ytnofillkfiiogaa
theorem fixedParts_holds : Rows.FixedPartsSaid := fixedParts.over
#print axioms fixedParts_holds
end Go.Proofs.Ytnofillkfiiogaa
