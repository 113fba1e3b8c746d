/-
  Proved: phalanxlaw01.FixedUndoes returns true for every two numbers of 64 bits with sign. Conditions: none but the row's own.
-/
import Derived.Test.YtnofillkfiiogaaTops
import Derived.WalkKit
import Derived.ProofKit
import Derived.OpenShut
namespace Go.Proofs.Ytnofillkfiiogaa
open Go.RowKit
set_option linter.unusedVariables false
theorem undo_add (a b : Int) (ha : -9223372036854775808 ≤ a ∧ a ≤ 9223372036854775807) (h : fit (a + b) = true) :
    fit (told (a + b) - b) = true ∧ told (told (a + b) - b) = a := by
  have e : told (a + b) - b = a := by rw [told_of h]; omega
  rw [e]
  have f := fit_of ha.1 ha.2
  exact ⟨f, told_of f⟩
theorem undo_mul (a b : Int) (hb : b ≠ 0) (h : fit (a * b) = true) : dvV (told (a * b)) b = a ∨ dvB (told (a * b)) b = false := by
  cases hB : dvB (told (a * b)) b with
  | false => exact Or.inr rfl
  | true =>
    left
    rw [dvV, if_pos hB, told_of h, Int.mul_fdiv_cancel a hb]
theorem undo_div (a b : Int) (ha : -9223372036854775808 ≤ a ∧ a ≤ 9223372036854775807) (h : dvB a b = true) : wrap64 (wrap64 (b * dvV a b) + mdV a b) = a := by
  rw [mdV, dvV, if_pos h, if_pos h]
  have e := Int.mul_fdiv_add_fmod a b
  have e2 : wrap64 (wrap64 (b * a.fdiv b) + a.fmod b) = wrap64 (b * a.fdiv b + a.fmod b) := by
    unfold wrap64
    generalize b * a.fdiv b = z
    omega
  rw [e2, e]
  exact wrap64_fit (fit_of ha.1 ha.2)
theorem undo_sign (a b : Int) (hb : -9223372036854775808 ≤ b ∧ b ≤ 9223372036854775807) (h : dvB a b = true) : mdV a b = 0 ∨ (mdV a b < 0 ↔ b < 0) := by
  have hb0 : b ≠ 0 := by intro e; rw [e, dvB_zero] at h; cases h
  have r := fmod_range a b hb0 hb
  rw [mdV, if_pos h]
  by_cases hz : a.fmod b = 0
  · exact Or.inl hz
  · exact Or.inr (r.2.2 hz)
theorem dvB_ne {a b : Int} (h : dvB a b = true) : b ≠ 0 := by
  intro e; rw [e, dvB_zero] at h; cases h
theorem and_one {p q : Bool} (h : (p && q) = true) : p = true := by cases p <;> simp_all
theorem and_two {p : Bool} {b : Int} (h : (p && b != 0) = true) : b ≠ 0 := by intro e; simp [e] at h
theorem sign_same {m b : Int} (h : m < 0 ↔ b < 0) : (!decide (m < 0) == decide (b < 0)) = false := by
  by_cases h1 : m < 0 <;> by_cases h2 : b < 0 <;> simp [h1, h2] <;> omega
theorem root_tests (a r : Int) (ha : a ≤ 9223372036854775807) (h0 : 0 ≤ r) (h2 : r * r ≤ a) (h3 : a < (r + 1) * (r + 1)) :
    fit (r * r) = true ∧ told (r * r) ≤ a ∧ (fit ((r + 1) * (r + 1)) = true → a < told ((r + 1) * (r + 1))) := by
  have hp : 0 ≤ r * r := Int.mul_nonneg h0 h0
  have hf : fit (r * r) = true := fit_of (by omega) (by omega)
  refine ⟨hf, by rw [told_of hf]; exact h2, fun h => by rw [told_of h]; exact h3⟩
set_option maxRecDepth 100000 in
set_option maxHeartbeats 1000000 in
theorem undoes (a b : Int) (w : World) (ha : -9223372036854775808 ≤ a ∧ a ≤ 9223372036854775807) (hb : -9223372036854775808 ≤ b ∧ b ≤ 9223372036854775807) :
    Calls Try.prog 7 #[.int .i64 a, .int .i64 b] w fun e w' => e = .returned (.bool true) ∧ w' = w := by
  have r1 := told_range (a + b)
  have r2 := told_range (a * b)
  go_enter Try.func7, Try.ntmps7
  go_upto_if 31 with (go_at_call 8; refine (add_any _ _ _ ha hb).mono ?_; rintro e w1 ⟨rfl, hw1⟩; rw [hw1]; clear hw1 w1)
  go_cut [5, 6] (fun _ _ wx => wx = w)
  case first =>
    cases hf : fit (a + b) with
    | false =>
      go_wp2_with fail
      go_meet
      exact rfl
    | true =>
      obtain ⟨u1, u2⟩ := undo_add a b ha hf
      go_wp2_with fail
      refine (sub_any _ _ _ r1 hb).mono ?_; rintro e w1 ⟨rfl, hw1⟩; rw [hw1]; clear hw1 w1
      go_wp2_with fail
      go_meet
      exact rfl
  case rest =>
  subst hcut
  go_upto_region 7 with (go_at_call 13; refine (mul_any _ _ _ ha hb).mono ?_; rintro e w1 ⟨rfl, hw1⟩; rw [hw1]; clear hw1 w1)
  go_cut [9, 10, 55] (fun x9 x10 x55 wx => x9 = .int .i64 (told (a * b)) ∧ x55 = .bool (fit (a * b) && b != 0) ∧ wx = wc)
  case first =>
    cases hf : fit (a * b) with
    | false =>
      go_wp2_with fail
      go_meet
      exact ⟨rfl, by rw [hf]; rfl, rfl⟩
    | true =>
      go_wp2_with fail
      go_meet
      exact ⟨rfl, by rw [hf]; rfl, rfl⟩
  case rest =>
  obtain ⟨rfl, rfl, rfl⟩ := hcut
  go_upto_if 55 with fail
  go_cut [9, 10] (fun _ _ wx => wx = wc)
  case first =>
    cases hf : (fit (a * b) && b != 0) with
    | false =>
      go_wp2_with fail
      go_meet
      exact rfl
    | true =>
      have hf1 := and_one hf
      have hf2 := and_two hf
      have hu := undo_mul a b hf2 hf1
      have HF := hide hf
      clear hf
      clear hf1
      rcases hu with hu | hu
      · cases hB : dvB (told (a * b)) b with
        | false =>
          go_wp2_with fail
          refine (div_any _ _ _ r2 hb).mono ?_; rintro e w1 ⟨rfl, hw1⟩; rw [hw1]; clear hw1 w1
          go_wp2_with fail
          go_meet
          exact rfl
        | true =>
          go_wp2_with fail
          refine (div_any _ _ _ r2 hb).mono ?_; rintro e w1 ⟨rfl, hw1⟩; rw [hw1]; clear hw1 w1
          go_wp2_with fail
          go_meet
          exact rfl
      · go_wp2_with fail
        refine (div_any _ _ _ r2 hb).mono ?_; rintro e w1 ⟨rfl, hw1⟩; rw [hw1]; clear hw1 w1
        go_wp2_with fail
        go_meet
        exact rfl
  case rest =>
  subst hcut
  go_upto_if 74 with (go_at_call 15; refine (div_any _ _ _ ha hb).mono ?_; rintro e w1 ⟨rfl, hw1⟩; rw [hw1]; clear hw1 w1)
  go_cut [13, 14] (fun _ _ wx => wx = wc)
  case first =>
    cases hf : dvB a b with
    | false =>
      go_wp2_with fail
      go_meet
      exact rfl
    | true =>
      have hu := undo_div a b ha hf
      rcases undo_sign a b hb hf with hs | hs
      · have hs2 : (mdV a b != 0) = false := by rw [hs]; rfl
        clear hs
        go_wp2_with fail
        refine (mod_any _ _ _ ha hb).mono ?_; rintro e w1 ⟨rfl, hw1⟩; rw [hw1]; clear hw1 w1
        go_wp2_with fail
        go_meet
        exact rfl
      · by_cases hm : mdV a b = 0
        · have hs2 : (mdV a b != 0) = false := by rw [hm]; rfl
          clear hs hm
          go_wp2_with fail
          refine (mod_any _ _ _ ha hb).mono ?_; rintro e w1 ⟨rfl, hw1⟩; rw [hw1]; clear hw1 w1
          go_wp2_with fail
          go_meet
          exact rfl
        · have hs2 : (mdV a b != 0) = true := bne_iff_ne.2 hm
          clear hm
          have h5 := sign_same hs
          clear hs
          go_wp2_with fail
          refine (mod_any _ _ _ ha hb).mono ?_; rintro e w1 ⟨rfl, hw1⟩; rw [hw1]; clear hw1 w1
          go_wp2_with fail
          go_meet
          exact rfl
  case rest =>
  subst hcut
  by_cases hneg : a < 0
  · go_wp2_with fail
    refine (sqrt_neg _ _ hneg).mono ?_; rintro e w1 ⟨rfl, hw1⟩; rw [hw1]; clear hw1 w1
    go_wp2_with fail
    refine (from_any _ _).mono ?_; rintro e w1 ⟨rfl, hw1⟩; rw [hw1]; clear hw1 w1
    cases hf : fit (a * 4294967296) with
    | false =>
      go_wp2_with fail
      refine (awake_any _).mono ?_; rintro e w1 ⟨rfl, hw1⟩; rw [hw1]; clear hw1 w1
      go_wp2_with fail
      go_ret
      exact ⟨rfl, rfl⟩
    | true =>
      have hfl := from_floor a hf
      go_wp2_with fail
      refine (floor_any _ _).mono ?_; rintro e w1 ⟨rfl, hw1⟩; rw [hw1]; clear hw1 w1
      go_wp2_with fail
      refine (awake_any _).mono ?_; rintro e w1 ⟨rfl, hw1⟩; rw [hw1]; clear hw1 w1
      go_wp2_with fail
      go_ret
      exact ⟨rfl, rfl⟩
  · have hpos : 0 ≤ a := Int.not_lt.1 hneg
    clear hneg
    go_wp2_with fail
    refine (sqrt_int a _ hpos ha.2).mono ?_; rintro e w1 ⟨r, hr0, hr1, hr2, hr3, rfl, hw1⟩; rw [hw1]; clear hw1 w1
    obtain ⟨hs1, hs2, hs3⟩ := root_tests a r ha.2 hr0 hr2 hr3
    have hs5 := hide hs3
    clear hs3 hr2 hr3
    go_wp2_with fail
    refine (mul_any _ _ _ (by omega) (by omega)).mono ?_; rintro e w1 ⟨rfl, hw1⟩; rw [hw1]; clear hw1 w1
    go_wp2_with fail
    refine (mul_any _ _ _ (by omega) (by omega)).mono ?_; rintro e w1 ⟨rfl, hw1⟩; rw [hw1]; clear hw1 w1
    cases hm : fit ((r + 1) * (r + 1)) with
    | false =>
      go_wp2_with fail
      refine (from_any _ _).mono ?_; rintro e w1 ⟨rfl, hw1⟩; rw [hw1]; clear hw1 w1
      cases hf : fit (a * 4294967296) with
      | false =>
        go_wp2_with fail
        refine (awake_any _).mono ?_; rintro e w1 ⟨rfl, hw1⟩; rw [hw1]; clear hw1 w1
        go_wp2_with fail
        go_ret
        exact ⟨rfl, rfl⟩
      | true =>
        have hfl := from_floor a hf
        go_wp2_with fail
        refine (floor_any _ _).mono ?_; rintro e w1 ⟨rfl, hw1⟩; rw [hw1]; clear hw1 w1
        go_wp2_with fail
        refine (awake_any _).mono ?_; rintro e w1 ⟨rfl, hw1⟩; rw [hw1]; clear hw1 w1
        go_wp2_with fail
        go_ret
        exact ⟨rfl, rfl⟩
    | true =>
      have hs6 := hs5.out hm
      go_wp2_with fail
      refine (from_any _ _).mono ?_; rintro e w1 ⟨rfl, hw1⟩; rw [hw1]; clear hw1 w1
      cases hf : fit (a * 4294967296) with
      | false =>
        go_wp2_with fail
        refine (awake_any _).mono ?_; rintro e w1 ⟨rfl, hw1⟩; rw [hw1]; clear hw1 w1
        go_wp2_with fail
        go_ret
        exact ⟨rfl, rfl⟩
      | true =>
        have hfl := from_floor a hf
        go_wp2_with fail
        refine (floor_any _ _).mono ?_; rintro e w1 ⟨rfl, hw1⟩; rw [hw1]; clear hw1 w1
        go_wp2_with fail
        refine (awake_any _).mono ?_; rintro e w1 ⟨rfl, hw1⟩; rw [hw1]; clear hw1 w1
        go_wp2_with fail
        go_ret
        exact ⟨rfl, rfl⟩
end Go.Proofs.Ytnofillkfiiogaa
namespace Go.Proofs.Ytnofillkfiiogaa.fixedUndoes
open Go.ChangeShapes Go.WideShapes Go.ChangeAt Go.RowKit
set_option linter.unusedVariables false      -- a walk need not use every 'w<i>' (that an integer argument fits its kind)

theorem own : ownKnob Try.prog.godebug = none := by kernel_rfl

/-! ### STEP 1: THE WALK: the Go text returns true. 'Grown w w'': the world has at most new blocks (Derived/RowKit3.lean). Part the cases AHEAD of 'go_enter' where a test parts the walk; take each callee by a contract of your own. -/
theorem walk (a0 : Int) (a1 : Int) (w0 : (Lit.int .i64 a0).wf = true) (w1 : (Lit.int .i64 a1).wf = true) (w : World) :
    Calls Try.prog 7 #[.int .i64 a0, .int .i64 a1] w fun e w' => e = .returned (.bool true) ∧ Grown w w' := by
  refine (undoes a0 a1 w (wf_range w0) (wf_range w1)).mono ?_
  rintro e w' ⟨he, hw⟩
  exact ⟨he, by rw [hw]; exact Grown.refl _⟩

/-! ### THE ROW's STEP: WRITTEN OUT: LEAVE IT -/
set_option maxRecDepth 100000 in
theorem lifted (os : Os) (started : os.Started) (H : Type) (enc : TypeId × Value → H) :
    ReturnsInHanded {} Try.checked os 7 .any (Rows.fixedUndoesSpec.pre6 enc Try.prog Try.f7 Rows.fixedUndoesRow.domain false) (Rows.fixedUndoesSpec.post enc Try.prog Try.f7 false true false false) := by
  refine returnsInHanded_of_change (C := Try.checked) own started (by kernel_rfl) Try.func7
    (ChangeSpec.witness6 (enc := enc) (C := Try.checked) false ⟨#[], #[.int .i64 0, .int .i64 0], []⟩ 8 (by kernel_rfl) (by kernel_rfl) (by kernel_rfl) (by kernel_rfl)) ?_
  intro W base args ds gs before hval0 hW hcnd _
  have hval : ∀ (j : Nat) t v, Try.f7.params[j]? = some t → args[j]? = some v → Value.okWide Try.prog W .any base t v := hval0
  have hW' := hW
  obtain ⟨p, q, hA0, hV, rfl, hfz, hnd⟩ := hW
  have hA : DataW.TrodAll enc Try.prog W 0 (fun _ => true) true Try.f7.params.toList args.toList ds p := hA0
  rw [Try.params7] at hA hval
  obtain ⟨v0, vs0, d0, ds0, p0, q0, hargs, rfl, rfl, h0, r0⟩ := trodAll_cons hA
  obtain ⟨v1, vs1, d1, ds1, p1, q1, rfl, rfl, rfl, h1, r1⟩ := trodAll_cons r0
  obtain ⟨rfl, rfl, rfl⟩ := trodAll_nil r1
  obtain rfl : args = #[v0, v1] := by cases args; simp_all
  obtain ⟨rfl, rfl⟩ := trodVars_none hV
  obtain ⟨a0, rfl, rfl, rfl, w0⟩ := open_int Try.underlying2 (hval 0 2 v0 rfl rfl) h0
  obtain ⟨a1, rfl, rfl, rfl, w1⟩ := open_int Try.underlying2 (hval 1 2 v1 rfl rfl) h1
  clear hA0 hval0
  simp only [List.append_nil] at hW'
  refine (walk a0 a1 w0 w1 W).mono fun e W' ⟨he, hg⟩ => ?_
  subst he
  exact ⟨_, rfl, post_of_same (pa := []) (pv := []) hW' (fun _ _ _ => (trodAll_cons_mk (shut_bool Try.underlying4 _) trodAll_mk0)) (fun sp _ => (trodAll_cons_mk (shut_int Try.underlying2 w0) (trodAll_cons_mk (shut_int Try.underlying2 w1) trodAll_mk0))) (fun _ _ => rfl) rfl
    (hg.frame _) hg.2.1 (ok_one (by kernel_rfl) rfl (okWide_bool_mk Try.underlying4 _))⟩

theorem over : Rows.fixedUndoesRow.holds Try.pinned (OpenSpec.ofChange Rows.fixedUndoesSpec) :=
  OpenClaim.holds_of_wide 7 Try.f7 rfl rfl rfl rfl rfl rfl rfl ⟨rfl, rfl, rfl, rfl, rfl⟩ rfl rfl rfl rfl rfl (by kernel_rfl) Try.func7 (by kernel_rfl)
    (of_decide_eq_true (by kernel_rfl)) (by unfold Func.isWrapper; first | (rw [if_pos (by decide +kernel)]; kernel_rfl) | (rw [if_neg (by decide +kernel)]; exact ⟨rfl, rfl⟩))
    (fun os started H enc _ => lifted os started H enc)

end Go.Proofs.Ytnofillkfiiogaa.fixedUndoes
namespace Go.Proofs.Ytnofillkfiiogaa
theorem fixedUndoes_holds : Rows.FixedUndoesSaid := fixedUndoes.over
#print axioms fixedUndoes_holds
end Go.Proofs.Ytnofillkfiiogaa
