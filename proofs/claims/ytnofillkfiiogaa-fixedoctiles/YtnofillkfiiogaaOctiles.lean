/-
  Proved: phalanxlaw01.FixedOctiles returns true for every two numbers of 64 bits with sign. Conditions: none but the row's own.
-/
import Derived.Test.YtnofillkfiiogaaRefTops
import Derived.Test.YtnofillkfiiogaaSame
import Derived.WalkKit
import Derived.ProofKit
import Derived.OpenShut
namespace Go.Proofs.Ytnofillkfiiogaa
open Go.RowKit
set_option linter.unusedVariables false
theorem field_digits (s : Bool) (r : Option Addr) (n c : Nat) (w : World) : (Instr.field 34 (.agg #[.bool s, .slice r n c]) 1).run Try.prog w = .ok (.slice r n c) w := by kernel_rfl
theorem val_amt {s : Bool} {l : List Nat} {a : Int} (h : num s l = a) : (val l : Int) = amt a := by
  subst h
  unfold amt
  cases s
  · rw [num_false, if_neg (by omega)]
  · rw [num_true]; split <;> omega
theorem oct_less {p q : Nat} {a b : Int} (hp : (p : Int) = amt a) (hq : (q : Int) = amt b) (h : p < q) {d : Nat} (hd : d + p = q) : (p : Int) * 14 + (d : Int) * 10 = octN a b := by
  unfold octN; omega
theorem oct_more {p q : Nat} {a b : Int} (hp : (p : Int) = amt a) (hq : (q : Int) = amt b) (h : ¬ p < q) {d : Nat} (hd : d + q = p) : (q : Int) * 14 + (d : Int) * 10 = octN a b := by
  unfold octN; omega
theorem octN_comm (a b : Int) : octN a b = octN b a := by unfold octN; omega
set_option maxHeartbeats 1000000 in
theorem refoct_any (a b : Int) (w : World) (ha : -9223372036854775808 ≤ a ∧ a ≤ 9223372036854775807) (hb : -9223372036854775808 ≤ b ∧ b ≤ 9223372036854775807) :
    Calls Try.prog 35 #[.int .i64 a, .int .i64 b] w fun e w' => e = .returned (.tuple #[.int .i64 (told (octN a b)), .bool (fit (octN a b))]) ∧ Below w.heap.size w w' := by
  have hfd := field_digits
  go_enter Try.func35, Try.ntmps35
  go_wp2_with fail
  refine (of_any a _ ha).mono ?_
  rintro e w1 ⟨s1, r1, n1, c1, l1, rfl, hd1, hn1, hl1, hb1⟩
  go_wp2_with fail
  refine (of_any b _ hb).mono ?_
  rintro e w2 ⟨s2, r2, n2, c2, l2, rfl, hd2, hn2, hl2, hb2⟩
  have hd1' := hd1.kept hb2
  have hB2 := bt hb1 hb2
  have v1 := hide (val_amt hn1)
  have v2 := hide (val_amt hn2)
  clear hd1 hb1 hb2 hn1 hn2
  go_wp2_with fail
  refine (less_any _ _ _ l1 l2 hd1' hd2).mono ?_
  by_cases hlt : val l1 < val l2
  · rw [show decide (val l1 < val l2) = true from decide_eq_true hlt]
    have hk := hide (fun (d : Nat) (hd : d + val l1 = val l2) => oct_less v1.out v2.out hlt hd)
    have Hle := hide (show val l1 ≤ val l2 by omega)
    clear hlt
    rintro e wz ⟨rfl, hwz⟩; rw [hwz]; clear hwz wz
    go_wp2_with fail
    refine (of_any 14 _ (by omega)).mono ?_
    rintro e w3 ⟨s3, r3, n3, c3, l3, rfl, hd3, hn3, hl3, hb3⟩
    go_wp2_with fail
    refine (prod_any _ false s3 r1 r3 n1 n3 c1 c3 l1 l3 (hd1'.kept hb3) hd3 (by omega) (by omega)).mono ?_
    rintro e w4 ⟨s4, r4, n4, c4, l4, rfl, hd4, hn4, hl4, hb4⟩
    go_wp2_with fail
    refine (minus_sl _ _ _ l2 l1 ((hd2.kept hb3).kept hb4) ((hd1'.kept hb3).kept hb4) Hle.out).mono ?_
    rintro e w5 ⟨r5, n5, c5, l5, rfl, hd5, hfr5, hv5, hl5, hb5⟩
    clear hfr5
    go_wp2_with fail
    refine (of_any 10 _ (by omega)).mono ?_
    rintro e w6 ⟨s6, r6, n6, c6, l6, rfl, hd6, hn6, hl6, hb6⟩
    go_wp2_with fail
    refine (prod_any _ false s6 r5 r6 n5 n6 c5 c6 l5 l6 (hd5.kept hb6) hd6 (by omega) (by omega)).mono ?_
    rintro e w7 ⟨s7, r7, n7, c7, l7, rfl, hd7, hn7, hl7, hb7⟩
    have hd4' := ((hd4.kept hb5).kept hb6).kept hb7
    go_wp2_with fail
    refine (sum_any _ s4 s7 r4 r7 n4 n7 c4 c7 l4 l7 hd4' hd7 (by omega) (by omega)).mono ?_
    rintro e w8 ⟨s8, r8, n8, c8, l8, rfl, hd8, hn8, hl8, hb8⟩
    have hn : Hid (num s8 l8 = octN a b) := by
      show _ = _
      rw [hn8, hn4, hn7, hn3, hn6, num_false, num_false]
      exact hk.out _ hv5
    have hB : Below w.heap.size w w8 := bt (bt (bt (bt (bt (bt hB2 hb3) hb4) hb5) hb6) hb7) hb8
    clear hn3 hn4 hn6 hn7 hn8 hd1' hd2 hd3 hd4 hd4' hd5 hd6 hd7 hb3 hb4 hb5 hb6 hb7 hb8 hB2 hv5
    go_wp2_with fail
    refine (to_any _ s8 r8 n8 c8 l8 hd8).mono ?_
    rw [hn.out]
    rintro e w9 ⟨rfl, hb9⟩
    go_wp2_with fail
    go_ret2
    exact ⟨rfl, bt hB hb9⟩
  · rw [show decide (val l1 < val l2) = false from decide_eq_false hlt]
    have hk := hide (fun (d : Nat) (hd : d + val l2 = val l1) => oct_more v1.out v2.out hlt hd)
    have Hle := hide (show val l2 ≤ val l1 by omega)
    clear hlt
    rintro e wz ⟨rfl, hwz⟩; rw [hwz]; clear hwz wz
    go_wp2_with fail
    refine (of_any 14 _ (by omega)).mono ?_
    rintro e w3 ⟨s3, r3, n3, c3, l3, rfl, hd3, hn3, hl3, hb3⟩
    go_wp2_with fail
    refine (prod_any _ false s3 r2 r3 n2 n3 c2 c3 l2 l3 (hd2.kept hb3) hd3 (by omega) (by omega)).mono ?_
    rintro e w4 ⟨s4, r4, n4, c4, l4, rfl, hd4, hn4, hl4, hb4⟩
    go_wp2_with fail
    refine (minus_sl _ _ _ l1 l2 ((hd1'.kept hb3).kept hb4) ((hd2.kept hb3).kept hb4) Hle.out).mono ?_
    rintro e w5 ⟨r5, n5, c5, l5, rfl, hd5, hfr5, hv5, hl5, hb5⟩
    clear hfr5
    go_wp2_with fail
    refine (of_any 10 _ (by omega)).mono ?_
    rintro e w6 ⟨s6, r6, n6, c6, l6, rfl, hd6, hn6, hl6, hb6⟩
    go_wp2_with fail
    refine (prod_any _ false s6 r5 r6 n5 n6 c5 c6 l5 l6 (hd5.kept hb6) hd6 (by omega) (by omega)).mono ?_
    rintro e w7 ⟨s7, r7, n7, c7, l7, rfl, hd7, hn7, hl7, hb7⟩
    have hd4' := ((hd4.kept hb5).kept hb6).kept hb7
    go_wp2_with fail
    refine (sum_any _ s4 s7 r4 r7 n4 n7 c4 c7 l4 l7 hd4' hd7 (by omega) (by omega)).mono ?_
    rintro e w8 ⟨s8, r8, n8, c8, l8, rfl, hd8, hn8, hl8, hb8⟩
    have hn : Hid (num s8 l8 = octN a b) := by
      show _ = _
      rw [hn8, hn4, hn7, hn3, hn6, num_false, num_false]
      exact hk.out _ hv5
    have hB : Below w.heap.size w w8 := bt (bt (bt (bt (bt (bt hB2 hb3) hb4) hb5) hb6) hb7) hb8
    clear hn3 hn4 hn6 hn7 hn8 hd1' hd2 hd3 hd4 hd4' hd5 hd6 hd7 hb3 hb4 hb5 hb6 hb7 hb8 hB2 hv5
    go_wp2_with fail
    refine (to_any _ s8 r8 n8 c8 l8 hd8).mono ?_
    rw [hn.out]
    rintro e w9 ⟨rfl, hb9⟩
    go_wp2_with fail
    go_ret2
    exact ⟨rfl, bt hB hb9⟩
set_option maxRecDepth 100000 in
set_option maxHeartbeats 1000000 in
theorem octiles (a b : Int) (w : World) (ha : -9223372036854775808 ≤ a ∧ a ≤ 9223372036854775807) (hb : -9223372036854775808 ≤ b ∧ b ≤ 9223372036854775807) :
    Calls Try.prog 6 #[.int .i64 a, .int .i64 b] w fun e w' => e = .returned (.bool true) ∧ Below w.heap.size w w' := by
  have hc := octile_any b a
  rw [octN_comm b a] at hc
  have Hc := hide hc
  clear hc
  go_enter Try.func6, Try.ntmps6
  go_wp2_with fail
  refine (octile_any a b _ ha hb).mono ?_; rintro e wz ⟨rfl, hwz⟩; rw [hwz]; clear hwz wz
  go_wp2_with fail
  refine (refoct_any a b _ ha hb).mono ?_
  rintro e v1 ⟨rfl, hb1⟩
  go_wp2_with fail
  refine (Hc.out _ hb ha).mono ?_; rintro e wz ⟨rfl, hwz⟩; rw [hwz]; clear hwz wz
  go_wp2_with fail
  refine (same_one _ _ _).mono ?_; rintro e wz ⟨rfl, hwz⟩; rw [hwz]; clear hwz wz
  go_wp2_with fail
  refine (same_one _ _ _).mono ?_; rintro e wz ⟨rfl, hwz⟩; rw [hwz]; clear hwz wz
  go_wp2_with fail
  refine (awake_any _).mono ?_; rintro e wz ⟨rfl, hwz⟩; rw [hwz]; clear hwz wz
  go_wp2_with fail
  go_ret
  exact ⟨rfl, hb1⟩
end Go.Proofs.Ytnofillkfiiogaa
namespace Go.Proofs.Ytnofillkfiiogaa.fixedOctiles
open Go.ChangeShapes Go.WideShapes Go.ChangeAt Go.RowKit
set_option linter.unusedVariables false      -- a walk need not use every 'w<i>' (that an integer argument fits its kind)

theorem own : ownKnob Try.prog.godebug = none := by kernel_rfl

/-! ### STEP 1: THE WALK: the Go text returns true. Part the cases AHEAD of 'go_enter' where a test parts the walk; take each callee by a contract of your own. -/
theorem walk (a0 : Int) (a1 : Int) (w0 : (Lit.int .i64 a0).wf = true) (w1 : (Lit.int .i64 a1).wf = true) (w : World) :
    Calls Try.prog 6 #[.int .i64 a0, .int .i64 a1] w fun e w' => e = .returned (.bool true) ∧ Below w.heap.size w w' := by
  exact octiles a0 a1 w (wf_range w0) (wf_range w1)

/-! ### THE ROW's STEP: WRITTEN OUT: LEAVE IT -/
set_option maxRecDepth 100000 in
theorem lifted (os : Os) (started : os.Started) (H : Type) (enc : TypeId × Value → H) :
    ReturnsInHanded {} Try.checked os 6 .any (Rows.fixedOctilesSpec.pre6 enc Try.prog Try.f6 Rows.fixedOctilesRow.domain false) (Rows.fixedOctilesSpec.post enc Try.prog Try.f6 false true false false) := by
  refine returnsInHanded_of_change (C := Try.checked) own started (by kernel_rfl) Try.func6
    (ChangeSpec.witness6 (enc := enc) (C := Try.checked) false ⟨#[], #[.int .i64 0, .int .i64 0], []⟩ 8 (by kernel_rfl) (by kernel_rfl) (by kernel_rfl) (by kernel_rfl)) ?_
  intro W base args ds gs before hval0 hW hcnd _
  have hval : ∀ (j : Nat) t v, Try.f6.params[j]? = some t → args[j]? = some v → Value.okWide Try.prog W .any base t v := hval0
  have hW' := hW
  obtain ⟨p, q, hA0, hV, rfl, hfz, hnd⟩ := hW
  have hA : DataW.TrodAll enc Try.prog W 0 (fun _ => true) true Try.f6.params.toList args.toList ds p := hA0
  rw [Try.params6] at hA hval
  obtain ⟨v0, vs0, d0, ds0, p0, q0, hargs, rfl, rfl, h0, r0⟩ := trodAll_cons hA
  obtain ⟨v1, vs1, d1, ds1, p1, q1, rfl, rfl, rfl, h1, r1⟩ := trodAll_cons r0
  obtain ⟨rfl, rfl, rfl⟩ := trodAll_nil r1
  obtain rfl : args = #[v0, v1] := by cases args; simp_all
  obtain ⟨rfl, rfl⟩ := trodVars_none hV
  obtain ⟨a0, rfl, rfl, rfl, w0⟩ := open_int Try.underlying2 (hval 0 2 v0 rfl rfl) h0
  obtain ⟨a1, rfl, rfl, rfl, w1⟩ := open_int Try.underlying2 (hval 1 2 v1 rfl rfl) h1
  clear hA0 hval0
  simp only [List.append_nil] at hW'
  refine (walk a0 a1 w0 w1 W).mono fun e W' ⟨he, hg⟩ => ?_
  subst he
  exact ⟨_, rfl, _, _, _, [], _, [], hW', trodAll_mk1 (shut_bool Try.underlying4 _), (trodAll_cons_mk (shut_int Try.underlying2 w0) (trodAll_cons_mk (shut_int Try.underlying2 w1) trodAll_mk0)), rfl, hg.frame _, fun h => by cases h⟩

theorem over : Rows.fixedOctilesRow.holds Try.pinned (OpenSpec.ofChange Rows.fixedOctilesSpec) :=
  OpenClaim.holds_of_wide 6 Try.f6 rfl rfl rfl rfl rfl rfl rfl ⟨rfl, rfl, rfl, rfl, rfl⟩ rfl rfl rfl rfl rfl (by kernel_rfl) Try.func6 (by kernel_rfl)
    (of_decide_eq_true (by kernel_rfl)) (by unfold Func.isWrapper; first | (rw [if_pos (by decide +kernel)]; kernel_rfl) | (rw [if_neg (by decide +kernel)]; exact ⟨rfl, rfl⟩))
    (fun os started H enc _ => lifted os started H enc)

end Go.Proofs.Ytnofillkfiiogaa.fixedOctiles
namespace Go.Proofs.Ytnofillkfiiogaa
theorem fixedOctiles_holds : Rows.FixedOctilesSaid := fixedOctiles.over
#print axioms fixedOctiles_holds
end Go.Proofs.Ytnofillkfiiogaa
