/-
  math/bits.Div64, where the quotient is a word: both answers.
-/
import Derived.Test.YtnofillkfiiogaaLeaves
import Derived.Test.YtnofillkfiiogaaNormal
import Derived.Test.YtnofillkfiiogaaLen
import Derived.Deep.QuietTactic
import Derived.BigQuiet
import Derived.Deep.DeepCutAuto
namespace Go.Proofs.Ytnofillkfiiogaa
open Go.RowKit
set_option linter.unusedVariables false
theorem halves_mul_le {a b : Nat} (ha : a ≤ 4294967295) (hb : b ≤ 4294967295) : a * b ≤ 18446744065119617025 := Nat.mul_le_mul ha hb
theorem wrap_quo (a b : Nat) (h : a < 18446744073709551616) : IntKind.u64.wrap ((a : Int) / (b : Int)) = ((a / b : Nat) : Int) := by
  rw [IntKind.wrap_u64, ← Int.natCast_ediv]
  have := Nat.div_le_self a b
  generalize a / b = q at *
  omega
theorem wrap_rem (a b : Nat) (h : a < 18446744073709551616) : IntKind.u64.wrap ((a : Int) % (b : Int)) = ((a % b : Nat) : Int) := by
  rw [IntKind.wrap_u64, ← Int.natCast_emod]
  have := Nat.mod_le a b
  generalize a % b = q at *
  omega
set_option maxRecDepth 100000 in
set_option maxHeartbeats 400000 in
theorem div64_low (lo y : Nat) (w : World) (h0 : y ≠ 0) (hlo : lo < 18446744073709551616) (hy : y < 18446744073709551616) :
    Calls Try.prog 46 #[.int .u64 0, .int .u64 (lo : Int), .int .u64 (y : Int)] w fun e w' => ∃ nq, e = .returned (.tuple #[.int .u64 ((lo / y : Nat) : Int), .int .u64 ((lo % y : Nat) : Int)]) ∧ w' = w.drewN nq := by
  have hy0 : ((y : Int) == 0) = false := by simp [h0]
  have hy1 : ¬ (y : Int) ≤ 0 := by omega
  have hy2 : ¬ (y : Int) = 0 := by omega
  go_enter Try.func46, Try.ntmps46
  go_wp2_with fail
  go_quiet (fail)
  go_wp2_with fail
  go_ret2
  refine ⟨nq, ret_ii ?_ ?_, rfl⟩
  · exact wrap_quo lo y hlo
  · first | rfl | exact (Int.natCast_emod lo y).symm | exact wrap_rem lo y hlo
theorem guess_le {u d y1 y0 q r : Nat} (g : Guess u d y1 y0 q r) (h : 0 < y1) : q ≤ u := by
  have h1 := g.made
  have h2 : q * 1 ≤ q * y1 := Nat.mul_le_mul_left q h
  omega
theorem div_cast (hi lo y : Nat) : ((hi : Int) * 18446744073709551616 + (lo : Int)) / (y : Int) = (((hi * 18446744073709551616 + lo) / y : Nat) : Int) := by simp
theorem mod_cast' (hi lo y : Nat) : ((hi : Int) * 18446744073709551616 + (lo : Int)) % (y : Int) = (((hi * 18446744073709551616 + lo) % y : Nat) : Int) := by simp
set_option maxRecDepth 100000 in
set_option maxHeartbeats 4000000 in
theorem div64_high (hi lo y : Nat) (w : World) (h0 : hi ≠ 0) (hhy : hi < y) (hlo : lo < 18446744073709551616) (hy : y < 18446744073709551616) :
    Calls Try.prog 46 #[.int .u64 (hi : Int), .int .u64 (lo : Int), .int .u64 (y : Int)] w fun e w' => e = .returned (.tuple #[.int .u64 (((hi * 18446744073709551616 + lo) / y : Nat) : Int), .int .u64 (((hi * 18446744073709551616 + lo) % y : Nat) : Int)]) ∧ w' = w := by
  have hy0 : ((y : Int) == 0) = false := by simp; omega
  have hi0 : ((hi : Int) == 0) = false := by simp [h0]
  have hy1 : ¬ (y : Int) ≤ (hi : Int) := by omega
  go_enter Try.func46, Try.ntmps46
  go_wp2_with fail
  refine (zeros64_any y _ (by omega) hy).mono ?_
  rintro e w1 ⟨s, hs, hYa, hYb, rfl, hw1⟩; rw [hw1]; clear hw1 w1
  obtain ⟨Y, Y1, Y0, U, L, D1, D0, e1, e2, e3, e4, e5, e6, e7, hYe, hYs, hY1a, hY1b, hY0b, hU, hD1, hD0, hN⟩ := normal hi lo y s hhy hlo hs hYa hYb
  have hYlt : Y < 18446744073709551616 := by rw [hYe]; exact hYb
  have HYe := hide hYe
  have HYs := hide hYs
  have HN := hide hN
  have HYp : Hid (0 < Y) := by show 0 < Y; omega
  have Hyp : Hid (0 < y) := by show 0 < y; omega
  have HYlt := hide hYlt
  have HY1 := hide (show 0 < Y1 ∧ Y1 < 4294967296 by omega)
  have HY0 := hide hY0b
  have HD1 := hide hD1
  have HD0 := hide hD0
  have hUs : Hid (U < Y1 * 4294967296 + Y0) := by show _ < _; rw [← hYs]; exact hU
  have hq := wrap_quo U Y1 (by omega)
  have hPle := (div_rest U Y1).1
  have hPm := (div_rest U Y1).2
  obtain ⟨q, hqq⟩ : ∃ q, q = U / Y1 := ⟨_, rfl⟩
  obtain ⟨P, hP⟩ : ∃ P, P = U / Y1 * Y1 := ⟨_, rfl⟩
  rw [← hP] at hPle hPm
  rw [← hqq] at hq
  have hPP : (q : Int) * (Y1 : Int) = (P : Int) := by rw [hP, ← hqq, Int.natCast_mul]
  obtain ⟨Yi, tY⟩ : ∃ x : Int, x = (Y : Int) := ⟨_, rfl⟩
  obtain ⟨Y1i, tY1⟩ : ∃ x : Int, x = (Y1 : Int) := ⟨_, rfl⟩
  obtain ⟨Y0i, tY0⟩ : ∃ x : Int, x = (Y0 : Int) := ⟨_, rfl⟩
  obtain ⟨Ui, tU⟩ : ∃ x : Int, x = (U : Int) := ⟨_, rfl⟩
  obtain ⟨Li, tL⟩ : ∃ x : Int, x = (L : Int) := ⟨_, rfl⟩
  obtain ⟨D1i, tD1⟩ : ∃ x : Int, x = (D1 : Int) := ⟨_, rfl⟩
  obtain ⟨D0i, tD0⟩ : ∃ x : Int, x = (D0 : Int) := ⟨_, rfl⟩
  obtain ⟨qi, tq⟩ : ∃ x : Int, x = (q : Int) := ⟨_, rfl⟩
  obtain ⟨Pi, tP⟩ : ∃ x : Int, x = (P : Int) := ⟨_, rfl⟩
  have HS1 : Hid (qi = ((U / Y1 : Nat) : Int) ∧ Ui - Pi = ((U % Y1 : Nat) : Int)) := ⟨by rw [tq, hqq], by rw [← hPm]; omega⟩
  rw [← tY] at e1 e2 e3
  rw [← tY1] at e2 hq hPP
  rw [← tY0] at e3
  rw [← tU] at e4 hq
  rw [← tL] at e5 e6 e7
  rw [← tD1] at e6
  rw [← tD0] at e7
  rw [← tq] at hq hPP
  have hq' : Ui / Y1i = qi := by rw [tq, tU, tY1, hqq]; exact (Int.natCast_ediv U Y1).symm
  rw [← tP] at hPP
  have bY : 0 ≤ Yi ∧ Yi < 18446744073709551616 := by omega
  have bY1 : 2147483648 ≤ Y1i ∧ Y1i < 4294967296 := by omega
  have bY0 : 0 ≤ Y0i ∧ Y0i < 4294967296 := by omega
  have bU : 0 ≤ Ui ∧ Ui < 18446744073709551616 := by omega
  have bD1 : 0 ≤ D1i ∧ D1i < 4294967296 := by omega
  have bD0 : 0 ≤ D0i ∧ D0i < 4294967296 := by omega
  have bP : 0 ≤ Pi ∧ Pi ≤ Ui := by omega
  have hY1n : ¬ Y1i = 0 := by omega
  have EY := hide tY
  have EY1 := hide tY1
  have EY0 := hide tY0
  have EU := hide tU
  have ED1 := hide tD1
  have ED0 := hide tD0
  clear hq hYa hYb hYe hYs hN hP hqq hPle hPm tY tY1 tY0 tU tL tD1 tD0 tq tP hYlt hY1a hY1b hY0b hD1 hD0 hU
  go_wp2_with fail
  go_loop [15, 16] (fun x1 x2 => ∃ (q r : Nat) (a b : Int), x1 = .int .u64 a ∧ x2 = .int .u64 b ∧ a = (q : Int) ∧ b = (r : Int) ∧ Guess U D1 Y1 Y0 q r) (fun x1 _ => (intOf x1).toNat)
  case atStart => exact ⟨U / Y1, U % Y1, _, _, rfl, rfl, by first | exact HS1.out.1 | exact Eq.trans hq' HS1.out.1, HS1.out.2, guess_start HY1.out.1 HY1.out.2 HD1.out⟩
  case round =>
    obtain ⟨qn1, rn1, q1, r1, rfl, rfl, tq1, tr1, g⟩ := hrel
    have G1 := hide g
    have hl := g.low
    have a1 : 0 ≤ q1 := by omega
    have a2 : 0 ≤ r1 := by omega
    have a3 : r1 < 4294967296 := by omega
    have a4 : q1 < 18446744073709551616 := by have := guess_le g HY1.out.1; have := EU.out; omega
    have Eq1 := hide tq1
    have Er1 := hide tr1
    clear g hl tq1 tr1
    by_cases hbig : 4294967296 ≤ q1
    · have hm := hide (guess_more G1.out HD1.out hUs.out (Or.inl (by have := Eq1.out; omega)))
      by_cases hout : 4294967296 ≤ r1 + Y1i
      · have hQ1 : Hid (qn1 - 1 = (U * 4294967296 + D1) / (Y1 * 4294967296 + Y0)) := guess_left G1.out HY1.out.1 HY0.out hUs.out hm.out (by have := Er1.out; have := EY1.out; omega)
        have HQn : Hid (q1 - 1 = ((qn1 - 1 : Nat) : Int)) := by show _ = _; have := Eq1.out; have := hm.out.2; omega
        have hq1 : 1 ≤ q1 := by have := Eq1.out; have := hm.out.2; omega
        have HQ1n := HQn
        clear HQn
        have hQY1 : (qn1 - 1) = (U * 4294967296 + D1) / Y := by rw [hQ1.out, ← HYs.out]
        have hQ1lt : (q1 - 1) < 4294967296 := by have h := guess_lt HD1.out hUs.out; rw [← hQ1.out] at h; have := HQ1n.out; omega
        obtain ⟨R, hR⟩ : ∃ R, R = (U * 4294967296 + D1) % Y := ⟨_, rfl⟩
        have hRlt : R < Y := by rw [hR]; exact Nat.mod_lt _ HYp.out
        have er1 := rest_u64 U D1 (qn1 - 1) Y R hQY1 hR HYp.out HYlt.out
        have HQY1 := hide hQY1
        have HR := hide hR
        have hUs2 : Hid (R < Y1 * 4294967296 + Y0) := by show _ < _; rw [← HYs.out]; exact hRlt
        have hqR := wrap_quo R Y1 (by have := HYlt.out; omega)
        have hPle2 := (div_rest R Y1).1
        have hPm2 := (div_rest R Y1).2
        obtain ⟨qR, hqqR⟩ : ∃ q, q = R / Y1 := ⟨_, rfl⟩
        obtain ⟨P2, hP2⟩ : ∃ P, P = R / Y1 * Y1 := ⟨_, rfl⟩
        rw [← hP2] at hPle2 hPm2
        rw [← hqqR] at hqR
        have hPP2 : (qR : Int) * (Y1 : Int) = (P2 : Int) := by rw [hP2, ← hqqR, Int.natCast_mul]
        obtain ⟨Ri, tR⟩ : ∃ x : Int, x = (R : Int) := ⟨_, rfl⟩
        obtain ⟨qRi, tqR⟩ : ∃ x : Int, x = (qR : Int) := ⟨_, rfl⟩
        obtain ⟨P2i, tP2⟩ : ∃ x : Int, x = (P2 : Int) := ⟨_, rfl⟩
        have HS2 : Hid (qRi = ((R / Y1 : Nat) : Int) ∧ Ri - P2i = ((R % Y1 : Nat) : Int)) := ⟨by rw [tqR, hqqR], by rw [← hPm2]; omega⟩
        rw [← tR, ← HQ1n.out, ← EU.out, ← ED1.out, ← EY.out] at er1
        have hqR' : Ri / Y1i = qRi := by rw [tqR, tR, EY1.out, hqqR]; exact (Int.natCast_ediv R Y1).symm
        clear hqR
        rw [← tqR, ← tP2, ← EY1.out] at hPP2
        have bR : 0 ≤ Ri ∧ Ri < 18446744073709551616 := by have := HYlt.out; omega
        have bP2 : 0 ≤ P2i ∧ P2i ≤ Ri := by omega
        have ER := hide tR
        clear hQY1 hR hP2 hqqR tR tqR tP2 hPle2 hPm2 hRlt
        go_wp2_with fail
        go_loop [18, 16] (fun x1 x2 => ∃ (q r : Nat) (a b : Int), x1 = .int .u64 a ∧ x2 = .int .u64 b ∧ a = (q : Int) ∧ b = (r : Int) ∧ Guess R D0 Y1 Y0 q r) (fun x1 _ => (intOf x1).toNat)
        case atStart => exact ⟨R / Y1, R % Y1, _, _, rfl, rfl, by first | exact HS2.out.1 | exact Eq.trans hq' HS2.out.1, HS2.out.2, guess_start HY1.out.1 HY1.out.2 HD0.out⟩
        case round =>
          obtain ⟨qn2, rn2, q2, r2, rfl, rfl, tq2, tr2, g⟩ := hrel
          have G2 := hide g
          have hl := g.low
          have a1 : 0 ≤ q2 := by omega
          have a2 : 0 ≤ r2 := by omega
          have a3 : r2 < 4294967296 := by omega
          have a4 : q2 < 18446744073709551616 := by have := guess_le g HY1.out.1; have := ER.out; omega
          have Eq2 := hide tq2
          have Er2 := hide tr2
          clear g hl tq2 tr2
          by_cases hbig : 4294967296 ≤ q2
          · have hm := hide (guess_more G2.out HD0.out hUs2.out (Or.inl (by have := Eq2.out; omega)))
            by_cases hout : 4294967296 ≤ r2 + Y1i
            · have hQ2 : Hid (qn2 - 1 = (R * 4294967296 + D0) / (Y1 * 4294967296 + Y0)) := guess_left G2.out HY1.out.1 HY0.out hUs2.out hm.out (by have := Er2.out; have := EY1.out; omega)
              have HQn : Hid (q2 - 1 = ((qn2 - 1 : Nat) : Int)) := by show _ = _; have := Eq2.out; have := hm.out.2; omega
              have hq1 : 1 ≤ q2 := by have := Eq2.out; have := hm.out.2; omega
              have HQ2n := HQn
              have hQY2 : (qn2 - 1) = (R * 4294967296 + D0) / Y := by rw [hQ2.out, ← HYs.out]
              have hQ2lt : (q2 - 1) < 4294967296 := by have h := guess_lt HD0.out hUs2.out; rw [← hQ2.out] at h; have := HQ2n.out; omega
              obtain ⟨R2, hR2⟩ : ∃ R2, R2 = (R * 4294967296 + D0) % Y := ⟨_, rfl⟩
              have er2 := rest_u64 R D0 (qn2 - 1) Y R2 hQY2 hR2 HYp.out HYlt.out
              have hfin := hide (halves (hi * 18446744073709551616 + lo) y s (U * 4294967296 + D1) D0 (qn1 - 1) R (qn2 - 1) R2 Hyp.out HN.out (by rw [← HYe.out, HQY1.out, HR.out]; exact Nat.div_add_mod _ _) (by rw [← HYe.out, hQY2, hR2]; exact Nat.div_add_mod _ _) (by rw [← HYe.out, hR2]; exact Nat.mod_lt _ HYp.out))
              obtain ⟨R2i, tR2⟩ : ∃ x : Int, x = (R2 : Int) := ⟨_, rfl⟩
              rw [← tR2, ← HQ2n.out, ← ER.out, ← ED0.out, ← EY.out] at er2
              have bR2 : 0 ≤ R2i := by omega
              have ER2 := hide tR2
              clear hQY2 hR2 tR2
              go_wp2_with fail
              go_ret2
              refine ⟨ret_ii ?_ ?_, rfl⟩
              · refine Eq.trans ?_ (div_cast hi lo y).symm
                rw [← hfin.out.1]; have := HQ1n.out; have := HQ2n.out; omega
              · refine Eq.trans ?_ (mod_cast' hi lo y).symm
                rw [← hfin.out.2, ER2.out]; simp
            · have g2 := hide (guess_next G2.out hm.out (by have := Er2.out; have := EY1.out; omega))
              have hq1 : 1 ≤ q2 := by have := Eq2.out; have := hm.out.2; omega
              go_wp2_with fail
              go_round
              case rel => exact ⟨qn2 - 1, rn2 + Y1, _, _, rfl, rfl, by have := Eq2.out; have := hm.out.2; omega, by have := Er2.out; have := EY1.out; omega, g2.out⟩
              case measure => simp [intOf]; omega
          · obtain ⟨z2, hz2⟩ : ∃ z : Nat, z = qn2 * Y0 := ⟨_, rfl⟩
            have hzb : z2 ≤ 18446744065119617025 := by rw [hz2]; exact halves_mul_le (by have := Eq2.out; omega) (by have := HY0.out; omega)
            obtain ⟨zi2, hzi2⟩ : ∃ z : Int, z = (z2 : Int) := ⟨_, rfl⟩
            have hzz2 : q2 * Y0i = zi2 := by rw [hzi2, hz2, Eq2.out, EY0.out, Int.natCast_mul]
            have z0 : 0 ≤ zi2 := by omega
            have z1 : zi2 ≤ 18446744065119617025 := by omega
            have Hzi := hide hzi2
            have Hz := hide hz2
            clear hzb hzi2 hz2
            by_cases htest : 4294967296 * r2 + D0i < zi2
            · have hm := hide (guess_more G2.out HD0.out hUs2.out (Or.inr (by rw [← Hz.out]; have := Hzi.out; have := Er2.out; have := ED0.out; omega)))
              by_cases hout : 4294967296 ≤ r2 + Y1i
              · have hQ2 : Hid (qn2 - 1 = (R * 4294967296 + D0) / (Y1 * 4294967296 + Y0)) := guess_left G2.out HY1.out.1 HY0.out hUs2.out hm.out (by have := Er2.out; have := EY1.out; omega)
                have HQn : Hid (q2 - 1 = ((qn2 - 1 : Nat) : Int)) := by show _ = _; have := Eq2.out; have := hm.out.2; omega
                have hq1 : 1 ≤ q2 := by have := Eq2.out; have := hm.out.2; omega
                have HQ2n := HQn
                have hQY2 : (qn2 - 1) = (R * 4294967296 + D0) / Y := by rw [hQ2.out, ← HYs.out]
                have hQ2lt : (q2 - 1) < 4294967296 := by have h := guess_lt HD0.out hUs2.out; rw [← hQ2.out] at h; have := HQ2n.out; omega
                obtain ⟨R2, hR2⟩ : ∃ R2, R2 = (R * 4294967296 + D0) % Y := ⟨_, rfl⟩
                have er2 := rest_u64 R D0 (qn2 - 1) Y R2 hQY2 hR2 HYp.out HYlt.out
                have hfin := hide (halves (hi * 18446744073709551616 + lo) y s (U * 4294967296 + D1) D0 (qn1 - 1) R (qn2 - 1) R2 Hyp.out HN.out (by rw [← HYe.out, HQY1.out, HR.out]; exact Nat.div_add_mod _ _) (by rw [← HYe.out, hQY2, hR2]; exact Nat.div_add_mod _ _) (by rw [← HYe.out, hR2]; exact Nat.mod_lt _ HYp.out))
                obtain ⟨R2i, tR2⟩ : ∃ x : Int, x = (R2 : Int) := ⟨_, rfl⟩
                rw [← tR2, ← HQ2n.out, ← ER.out, ← ED0.out, ← EY.out] at er2
                have bR2 : 0 ≤ R2i := by omega
                have ER2 := hide tR2
                clear hQY2 hR2 tR2
                go_wp2_with fail
                go_ret2
                refine ⟨ret_ii ?_ ?_, rfl⟩
                · refine Eq.trans ?_ (div_cast hi lo y).symm
                  rw [← hfin.out.1]; have := HQ1n.out; have := HQ2n.out; omega
                · refine Eq.trans ?_ (mod_cast' hi lo y).symm
                  rw [← hfin.out.2, ER2.out]; simp
              · have g2 := hide (guess_next G2.out hm.out (by have := Er2.out; have := EY1.out; omega))
                have hq1 : 1 ≤ q2 := by have := Eq2.out; have := hm.out.2; omega
                go_wp2_with fail
                go_round
                case rel => exact ⟨qn2 - 1, rn2 + Y1, _, _, rfl, rfl, by have := Eq2.out; have := hm.out.2; omega, by have := Er2.out; have := EY1.out; omega, g2.out⟩
                case measure => simp [intOf]; omega
            · have hQ2 : Hid (qn2 = (R * 4294967296 + D0) / (Y1 * 4294967296 + Y0)) := guess_right G2.out HY1.out.1 (by rw [← Hz.out]; have := Hzi.out; have := Er2.out; have := ED0.out; omega)
              have HQn : Hid (q2 = ((qn2 : Nat) : Int)) := Eq2.out
              have HQ2n := HQn
              have hQY2 : qn2 = (R * 4294967296 + D0) / Y := by rw [hQ2.out, ← HYs.out]
              have hQ2lt : q2 < 4294967296 := by have h := guess_lt HD0.out hUs2.out; rw [← hQ2.out] at h; have := HQ2n.out; omega
              obtain ⟨R2, hR2⟩ : ∃ R2, R2 = (R * 4294967296 + D0) % Y := ⟨_, rfl⟩
              have er2 := rest_u64 R D0 qn2 Y R2 hQY2 hR2 HYp.out HYlt.out
              have hfin := hide (halves (hi * 18446744073709551616 + lo) y s (U * 4294967296 + D1) D0 (qn1 - 1) R qn2 R2 Hyp.out HN.out (by rw [← HYe.out, HQY1.out, HR.out]; exact Nat.div_add_mod _ _) (by rw [← HYe.out, hQY2, hR2]; exact Nat.div_add_mod _ _) (by rw [← HYe.out, hR2]; exact Nat.mod_lt _ HYp.out))
              obtain ⟨R2i, tR2⟩ : ∃ x : Int, x = (R2 : Int) := ⟨_, rfl⟩
              rw [← tR2, ← HQ2n.out, ← ER.out, ← ED0.out, ← EY.out] at er2
              have bR2 : 0 ≤ R2i := by omega
              have ER2 := hide tR2
              clear hQY2 hR2 tR2
              go_wp2_with fail
              go_ret2
              refine ⟨ret_ii ?_ ?_, rfl⟩
              · refine Eq.trans ?_ (div_cast hi lo y).symm
                rw [← hfin.out.1]; have := HQ1n.out; have := HQ2n.out; omega
              · refine Eq.trans ?_ (mod_cast' hi lo y).symm
                rw [← hfin.out.2, ER2.out]; simp
      · have g2 := hide (guess_next G1.out hm.out (by have := Er1.out; have := EY1.out; omega))
        have hq1 : 1 ≤ q1 := by have := Eq1.out; have := hm.out.2; omega
        go_wp2_with fail
        go_round
        case rel => exact ⟨qn1 - 1, rn1 + Y1, _, _, rfl, rfl, by have := Eq1.out; have := hm.out.2; omega, by have := Er1.out; have := EY1.out; omega, g2.out⟩
        case measure => simp [intOf]; omega
    · obtain ⟨z1, hz1⟩ : ∃ z : Nat, z = qn1 * Y0 := ⟨_, rfl⟩
      have hzb : z1 ≤ 18446744065119617025 := by rw [hz1]; exact halves_mul_le (by have := Eq1.out; omega) (by have := HY0.out; omega)
      obtain ⟨zi1, hzi1⟩ : ∃ z : Int, z = (z1 : Int) := ⟨_, rfl⟩
      have hzz1 : q1 * Y0i = zi1 := by rw [hzi1, hz1, Eq1.out, EY0.out, Int.natCast_mul]
      have z0 : 0 ≤ zi1 := by omega
      have z1 : zi1 ≤ 18446744065119617025 := by omega
      have Hzi := hide hzi1
      have Hz := hide hz1
      clear hzb hzi1 hz1
      by_cases htest : 4294967296 * r1 + D1i < zi1
      · have hm := hide (guess_more G1.out HD1.out hUs.out (Or.inr (by rw [← Hz.out]; have := Hzi.out; have := Er1.out; have := ED1.out; omega)))
        by_cases hout : 4294967296 ≤ r1 + Y1i
        · have hQ1 : Hid (qn1 - 1 = (U * 4294967296 + D1) / (Y1 * 4294967296 + Y0)) := guess_left G1.out HY1.out.1 HY0.out hUs.out hm.out (by have := Er1.out; have := EY1.out; omega)
          have HQn : Hid (q1 - 1 = ((qn1 - 1 : Nat) : Int)) := by show _ = _; have := Eq1.out; have := hm.out.2; omega
          have hq1 : 1 ≤ q1 := by have := Eq1.out; have := hm.out.2; omega
          have HQ1n := HQn
          clear HQn
          have hQY1 : (qn1 - 1) = (U * 4294967296 + D1) / Y := by rw [hQ1.out, ← HYs.out]
          have hQ1lt : (q1 - 1) < 4294967296 := by have h := guess_lt HD1.out hUs.out; rw [← hQ1.out] at h; have := HQ1n.out; omega
          obtain ⟨R, hR⟩ : ∃ R, R = (U * 4294967296 + D1) % Y := ⟨_, rfl⟩
          have hRlt : R < Y := by rw [hR]; exact Nat.mod_lt _ HYp.out
          have er1 := rest_u64 U D1 (qn1 - 1) Y R hQY1 hR HYp.out HYlt.out
          have HQY1 := hide hQY1
          have HR := hide hR
          have hUs2 : Hid (R < Y1 * 4294967296 + Y0) := by show _ < _; rw [← HYs.out]; exact hRlt
          have hqR := wrap_quo R Y1 (by have := HYlt.out; omega)
          have hPle2 := (div_rest R Y1).1
          have hPm2 := (div_rest R Y1).2
          obtain ⟨qR, hqqR⟩ : ∃ q, q = R / Y1 := ⟨_, rfl⟩
          obtain ⟨P2, hP2⟩ : ∃ P, P = R / Y1 * Y1 := ⟨_, rfl⟩
          rw [← hP2] at hPle2 hPm2
          rw [← hqqR] at hqR
          have hPP2 : (qR : Int) * (Y1 : Int) = (P2 : Int) := by rw [hP2, ← hqqR, Int.natCast_mul]
          obtain ⟨Ri, tR⟩ : ∃ x : Int, x = (R : Int) := ⟨_, rfl⟩
          obtain ⟨qRi, tqR⟩ : ∃ x : Int, x = (qR : Int) := ⟨_, rfl⟩
          obtain ⟨P2i, tP2⟩ : ∃ x : Int, x = (P2 : Int) := ⟨_, rfl⟩
          have HS2 : Hid (qRi = ((R / Y1 : Nat) : Int) ∧ Ri - P2i = ((R % Y1 : Nat) : Int)) := ⟨by rw [tqR, hqqR], by rw [← hPm2]; omega⟩
          rw [← tR, ← HQ1n.out, ← EU.out, ← ED1.out, ← EY.out] at er1
          have hqR' : Ri / Y1i = qRi := by rw [tqR, tR, EY1.out, hqqR]; exact (Int.natCast_ediv R Y1).symm
          clear hqR
          rw [← tqR, ← tP2, ← EY1.out] at hPP2
          have bR : 0 ≤ Ri ∧ Ri < 18446744073709551616 := by have := HYlt.out; omega
          have bP2 : 0 ≤ P2i ∧ P2i ≤ Ri := by omega
          have ER := hide tR
          clear hQY1 hR hP2 hqqR tR tqR tP2 hPle2 hPm2 hRlt
          go_wp2_with fail
          go_loop [18, 16] (fun x1 x2 => ∃ (q r : Nat) (a b : Int), x1 = .int .u64 a ∧ x2 = .int .u64 b ∧ a = (q : Int) ∧ b = (r : Int) ∧ Guess R D0 Y1 Y0 q r) (fun x1 _ => (intOf x1).toNat)
          case atStart => exact ⟨R / Y1, R % Y1, _, _, rfl, rfl, by first | exact HS2.out.1 | exact Eq.trans hq' HS2.out.1, HS2.out.2, guess_start HY1.out.1 HY1.out.2 HD0.out⟩
          case round =>
            obtain ⟨qn2, rn2, q2, r2, rfl, rfl, tq2, tr2, g⟩ := hrel
            have G2 := hide g
            have hl := g.low
            have a1 : 0 ≤ q2 := by omega
            have a2 : 0 ≤ r2 := by omega
            have a3 : r2 < 4294967296 := by omega
            have a4 : q2 < 18446744073709551616 := by have := guess_le g HY1.out.1; have := ER.out; omega
            have Eq2 := hide tq2
            have Er2 := hide tr2
            clear g hl tq2 tr2
            by_cases hbig : 4294967296 ≤ q2
            · have hm := hide (guess_more G2.out HD0.out hUs2.out (Or.inl (by have := Eq2.out; omega)))
              by_cases hout : 4294967296 ≤ r2 + Y1i
              · have hQ2 : Hid (qn2 - 1 = (R * 4294967296 + D0) / (Y1 * 4294967296 + Y0)) := guess_left G2.out HY1.out.1 HY0.out hUs2.out hm.out (by have := Er2.out; have := EY1.out; omega)
                have HQn : Hid (q2 - 1 = ((qn2 - 1 : Nat) : Int)) := by show _ = _; have := Eq2.out; have := hm.out.2; omega
                have hq1 : 1 ≤ q2 := by have := Eq2.out; have := hm.out.2; omega
                have HQ2n := HQn
                have hQY2 : (qn2 - 1) = (R * 4294967296 + D0) / Y := by rw [hQ2.out, ← HYs.out]
                have hQ2lt : (q2 - 1) < 4294967296 := by have h := guess_lt HD0.out hUs2.out; rw [← hQ2.out] at h; have := HQ2n.out; omega
                obtain ⟨R2, hR2⟩ : ∃ R2, R2 = (R * 4294967296 + D0) % Y := ⟨_, rfl⟩
                have er2 := rest_u64 R D0 (qn2 - 1) Y R2 hQY2 hR2 HYp.out HYlt.out
                have hfin := hide (halves (hi * 18446744073709551616 + lo) y s (U * 4294967296 + D1) D0 (qn1 - 1) R (qn2 - 1) R2 Hyp.out HN.out (by rw [← HYe.out, HQY1.out, HR.out]; exact Nat.div_add_mod _ _) (by rw [← HYe.out, hQY2, hR2]; exact Nat.div_add_mod _ _) (by rw [← HYe.out, hR2]; exact Nat.mod_lt _ HYp.out))
                obtain ⟨R2i, tR2⟩ : ∃ x : Int, x = (R2 : Int) := ⟨_, rfl⟩
                rw [← tR2, ← HQ2n.out, ← ER.out, ← ED0.out, ← EY.out] at er2
                have bR2 : 0 ≤ R2i := by omega
                have ER2 := hide tR2
                clear hQY2 hR2 tR2
                go_wp2_with fail
                go_ret2
                refine ⟨ret_ii ?_ ?_, rfl⟩
                · refine Eq.trans ?_ (div_cast hi lo y).symm
                  rw [← hfin.out.1]; have := HQ1n.out; have := HQ2n.out; omega
                · refine Eq.trans ?_ (mod_cast' hi lo y).symm
                  rw [← hfin.out.2, ER2.out]; simp
              · have g2 := hide (guess_next G2.out hm.out (by have := Er2.out; have := EY1.out; omega))
                have hq1 : 1 ≤ q2 := by have := Eq2.out; have := hm.out.2; omega
                go_wp2_with fail
                go_round
                case rel => exact ⟨qn2 - 1, rn2 + Y1, _, _, rfl, rfl, by have := Eq2.out; have := hm.out.2; omega, by have := Er2.out; have := EY1.out; omega, g2.out⟩
                case measure => simp [intOf]; omega
            · obtain ⟨z2, hz2⟩ : ∃ z : Nat, z = qn2 * Y0 := ⟨_, rfl⟩
              have hzb : z2 ≤ 18446744065119617025 := by rw [hz2]; exact halves_mul_le (by have := Eq2.out; omega) (by have := HY0.out; omega)
              obtain ⟨zi2, hzi2⟩ : ∃ z : Int, z = (z2 : Int) := ⟨_, rfl⟩
              have hzz2 : q2 * Y0i = zi2 := by rw [hzi2, hz2, Eq2.out, EY0.out, Int.natCast_mul]
              have z0 : 0 ≤ zi2 := by omega
              have z1 : zi2 ≤ 18446744065119617025 := by omega
              have Hzi := hide hzi2
              have Hz := hide hz2
              clear hzb hzi2 hz2
              by_cases htest : 4294967296 * r2 + D0i < zi2
              · have hm := hide (guess_more G2.out HD0.out hUs2.out (Or.inr (by rw [← Hz.out]; have := Hzi.out; have := Er2.out; have := ED0.out; omega)))
                by_cases hout : 4294967296 ≤ r2 + Y1i
                · have hQ2 : Hid (qn2 - 1 = (R * 4294967296 + D0) / (Y1 * 4294967296 + Y0)) := guess_left G2.out HY1.out.1 HY0.out hUs2.out hm.out (by have := Er2.out; have := EY1.out; omega)
                  have HQn : Hid (q2 - 1 = ((qn2 - 1 : Nat) : Int)) := by show _ = _; have := Eq2.out; have := hm.out.2; omega
                  have hq1 : 1 ≤ q2 := by have := Eq2.out; have := hm.out.2; omega
                  have HQ2n := HQn
                  have hQY2 : (qn2 - 1) = (R * 4294967296 + D0) / Y := by rw [hQ2.out, ← HYs.out]
                  have hQ2lt : (q2 - 1) < 4294967296 := by have h := guess_lt HD0.out hUs2.out; rw [← hQ2.out] at h; have := HQ2n.out; omega
                  obtain ⟨R2, hR2⟩ : ∃ R2, R2 = (R * 4294967296 + D0) % Y := ⟨_, rfl⟩
                  have er2 := rest_u64 R D0 (qn2 - 1) Y R2 hQY2 hR2 HYp.out HYlt.out
                  have hfin := hide (halves (hi * 18446744073709551616 + lo) y s (U * 4294967296 + D1) D0 (qn1 - 1) R (qn2 - 1) R2 Hyp.out HN.out (by rw [← HYe.out, HQY1.out, HR.out]; exact Nat.div_add_mod _ _) (by rw [← HYe.out, hQY2, hR2]; exact Nat.div_add_mod _ _) (by rw [← HYe.out, hR2]; exact Nat.mod_lt _ HYp.out))
                  obtain ⟨R2i, tR2⟩ : ∃ x : Int, x = (R2 : Int) := ⟨_, rfl⟩
                  rw [← tR2, ← HQ2n.out, ← ER.out, ← ED0.out, ← EY.out] at er2
                  have bR2 : 0 ≤ R2i := by omega
                  have ER2 := hide tR2
                  clear hQY2 hR2 tR2
                  go_wp2_with fail
                  go_ret2
                  refine ⟨ret_ii ?_ ?_, rfl⟩
                  · refine Eq.trans ?_ (div_cast hi lo y).symm
                    rw [← hfin.out.1]; have := HQ1n.out; have := HQ2n.out; omega
                  · refine Eq.trans ?_ (mod_cast' hi lo y).symm
                    rw [← hfin.out.2, ER2.out]; simp
                · have g2 := hide (guess_next G2.out hm.out (by have := Er2.out; have := EY1.out; omega))
                  have hq1 : 1 ≤ q2 := by have := Eq2.out; have := hm.out.2; omega
                  go_wp2_with fail
                  go_round
                  case rel => exact ⟨qn2 - 1, rn2 + Y1, _, _, rfl, rfl, by have := Eq2.out; have := hm.out.2; omega, by have := Er2.out; have := EY1.out; omega, g2.out⟩
                  case measure => simp [intOf]; omega
              · have hQ2 : Hid (qn2 = (R * 4294967296 + D0) / (Y1 * 4294967296 + Y0)) := guess_right G2.out HY1.out.1 (by rw [← Hz.out]; have := Hzi.out; have := Er2.out; have := ED0.out; omega)
                have HQn : Hid (q2 = ((qn2 : Nat) : Int)) := Eq2.out
                have HQ2n := HQn
                have hQY2 : qn2 = (R * 4294967296 + D0) / Y := by rw [hQ2.out, ← HYs.out]
                have hQ2lt : q2 < 4294967296 := by have h := guess_lt HD0.out hUs2.out; rw [← hQ2.out] at h; have := HQ2n.out; omega
                obtain ⟨R2, hR2⟩ : ∃ R2, R2 = (R * 4294967296 + D0) % Y := ⟨_, rfl⟩
                have er2 := rest_u64 R D0 qn2 Y R2 hQY2 hR2 HYp.out HYlt.out
                have hfin := hide (halves (hi * 18446744073709551616 + lo) y s (U * 4294967296 + D1) D0 (qn1 - 1) R qn2 R2 Hyp.out HN.out (by rw [← HYe.out, HQY1.out, HR.out]; exact Nat.div_add_mod _ _) (by rw [← HYe.out, hQY2, hR2]; exact Nat.div_add_mod _ _) (by rw [← HYe.out, hR2]; exact Nat.mod_lt _ HYp.out))
                obtain ⟨R2i, tR2⟩ : ∃ x : Int, x = (R2 : Int) := ⟨_, rfl⟩
                rw [← tR2, ← HQ2n.out, ← ER.out, ← ED0.out, ← EY.out] at er2
                have bR2 : 0 ≤ R2i := by omega
                have ER2 := hide tR2
                clear hQY2 hR2 tR2
                go_wp2_with fail
                go_ret2
                refine ⟨ret_ii ?_ ?_, rfl⟩
                · refine Eq.trans ?_ (div_cast hi lo y).symm
                  rw [← hfin.out.1]; have := HQ1n.out; have := HQ2n.out; omega
                · refine Eq.trans ?_ (mod_cast' hi lo y).symm
                  rw [← hfin.out.2, ER2.out]; simp
        · have g2 := hide (guess_next G1.out hm.out (by have := Er1.out; have := EY1.out; omega))
          have hq1 : 1 ≤ q1 := by have := Eq1.out; have := hm.out.2; omega
          go_wp2_with fail
          go_round
          case rel => exact ⟨qn1 - 1, rn1 + Y1, _, _, rfl, rfl, by have := Eq1.out; have := hm.out.2; omega, by have := Er1.out; have := EY1.out; omega, g2.out⟩
          case measure => simp [intOf]; omega
      · have hQ1 : Hid (qn1 = (U * 4294967296 + D1) / (Y1 * 4294967296 + Y0)) := guess_right G1.out HY1.out.1 (by rw [← Hz.out]; have := Hzi.out; have := Er1.out; have := ED1.out; omega)
        have HQn : Hid (q1 = ((qn1 : Nat) : Int)) := Eq1.out
        have HQ1n := HQn
        clear HQn
        have hQY1 : qn1 = (U * 4294967296 + D1) / Y := by rw [hQ1.out, ← HYs.out]
        have hQ1lt : q1 < 4294967296 := by have h := guess_lt HD1.out hUs.out; rw [← hQ1.out] at h; have := HQ1n.out; omega
        obtain ⟨R, hR⟩ : ∃ R, R = (U * 4294967296 + D1) % Y := ⟨_, rfl⟩
        have hRlt : R < Y := by rw [hR]; exact Nat.mod_lt _ HYp.out
        have er1 := rest_u64 U D1 qn1 Y R hQY1 hR HYp.out HYlt.out
        have HQY1 := hide hQY1
        have HR := hide hR
        have hUs2 : Hid (R < Y1 * 4294967296 + Y0) := by show _ < _; rw [← HYs.out]; exact hRlt
        have hqR := wrap_quo R Y1 (by have := HYlt.out; omega)
        have hPle2 := (div_rest R Y1).1
        have hPm2 := (div_rest R Y1).2
        obtain ⟨qR, hqqR⟩ : ∃ q, q = R / Y1 := ⟨_, rfl⟩
        obtain ⟨P2, hP2⟩ : ∃ P, P = R / Y1 * Y1 := ⟨_, rfl⟩
        rw [← hP2] at hPle2 hPm2
        rw [← hqqR] at hqR
        have hPP2 : (qR : Int) * (Y1 : Int) = (P2 : Int) := by rw [hP2, ← hqqR, Int.natCast_mul]
        obtain ⟨Ri, tR⟩ : ∃ x : Int, x = (R : Int) := ⟨_, rfl⟩
        obtain ⟨qRi, tqR⟩ : ∃ x : Int, x = (qR : Int) := ⟨_, rfl⟩
        obtain ⟨P2i, tP2⟩ : ∃ x : Int, x = (P2 : Int) := ⟨_, rfl⟩
        have HS2 : Hid (qRi = ((R / Y1 : Nat) : Int) ∧ Ri - P2i = ((R % Y1 : Nat) : Int)) := ⟨by rw [tqR, hqqR], by rw [← hPm2]; omega⟩
        rw [← tR, ← HQ1n.out, ← EU.out, ← ED1.out, ← EY.out] at er1
        have hqR' : Ri / Y1i = qRi := by rw [tqR, tR, EY1.out, hqqR]; exact (Int.natCast_ediv R Y1).symm
        clear hqR
        rw [← tqR, ← tP2, ← EY1.out] at hPP2
        have bR : 0 ≤ Ri ∧ Ri < 18446744073709551616 := by have := HYlt.out; omega
        have bP2 : 0 ≤ P2i ∧ P2i ≤ Ri := by omega
        have ER := hide tR
        clear hQY1 hR hP2 hqqR tR tqR tP2 hPle2 hPm2 hRlt
        go_wp2_with fail
        go_loop [18, 16] (fun x1 x2 => ∃ (q r : Nat) (a b : Int), x1 = .int .u64 a ∧ x2 = .int .u64 b ∧ a = (q : Int) ∧ b = (r : Int) ∧ Guess R D0 Y1 Y0 q r) (fun x1 _ => (intOf x1).toNat)
        case atStart => exact ⟨R / Y1, R % Y1, _, _, rfl, rfl, by first | exact HS2.out.1 | exact Eq.trans hq' HS2.out.1, HS2.out.2, guess_start HY1.out.1 HY1.out.2 HD0.out⟩
        case round =>
          obtain ⟨qn2, rn2, q2, r2, rfl, rfl, tq2, tr2, g⟩ := hrel
          have G2 := hide g
          have hl := g.low
          have a1 : 0 ≤ q2 := by omega
          have a2 : 0 ≤ r2 := by omega
          have a3 : r2 < 4294967296 := by omega
          have a4 : q2 < 18446744073709551616 := by have := guess_le g HY1.out.1; have := ER.out; omega
          have Eq2 := hide tq2
          have Er2 := hide tr2
          clear g hl tq2 tr2
          by_cases hbig : 4294967296 ≤ q2
          · have hm := hide (guess_more G2.out HD0.out hUs2.out (Or.inl (by have := Eq2.out; omega)))
            by_cases hout : 4294967296 ≤ r2 + Y1i
            · have hQ2 : Hid (qn2 - 1 = (R * 4294967296 + D0) / (Y1 * 4294967296 + Y0)) := guess_left G2.out HY1.out.1 HY0.out hUs2.out hm.out (by have := Er2.out; have := EY1.out; omega)
              have HQn : Hid (q2 - 1 = ((qn2 - 1 : Nat) : Int)) := by show _ = _; have := Eq2.out; have := hm.out.2; omega
              have hq1 : 1 ≤ q2 := by have := Eq2.out; have := hm.out.2; omega
              have HQ2n := HQn
              have hQY2 : (qn2 - 1) = (R * 4294967296 + D0) / Y := by rw [hQ2.out, ← HYs.out]
              have hQ2lt : (q2 - 1) < 4294967296 := by have h := guess_lt HD0.out hUs2.out; rw [← hQ2.out] at h; have := HQ2n.out; omega
              obtain ⟨R2, hR2⟩ : ∃ R2, R2 = (R * 4294967296 + D0) % Y := ⟨_, rfl⟩
              have er2 := rest_u64 R D0 (qn2 - 1) Y R2 hQY2 hR2 HYp.out HYlt.out
              have hfin := hide (halves (hi * 18446744073709551616 + lo) y s (U * 4294967296 + D1) D0 qn1 R (qn2 - 1) R2 Hyp.out HN.out (by rw [← HYe.out, HQY1.out, HR.out]; exact Nat.div_add_mod _ _) (by rw [← HYe.out, hQY2, hR2]; exact Nat.div_add_mod _ _) (by rw [← HYe.out, hR2]; exact Nat.mod_lt _ HYp.out))
              obtain ⟨R2i, tR2⟩ : ∃ x : Int, x = (R2 : Int) := ⟨_, rfl⟩
              rw [← tR2, ← HQ2n.out, ← ER.out, ← ED0.out, ← EY.out] at er2
              have bR2 : 0 ≤ R2i := by omega
              have ER2 := hide tR2
              clear hQY2 hR2 tR2
              go_wp2_with fail
              go_ret2
              refine ⟨ret_ii ?_ ?_, rfl⟩
              · refine Eq.trans ?_ (div_cast hi lo y).symm
                rw [← hfin.out.1]; have := HQ1n.out; have := HQ2n.out; omega
              · refine Eq.trans ?_ (mod_cast' hi lo y).symm
                rw [← hfin.out.2, ER2.out]; simp
            · have g2 := hide (guess_next G2.out hm.out (by have := Er2.out; have := EY1.out; omega))
              have hq1 : 1 ≤ q2 := by have := Eq2.out; have := hm.out.2; omega
              go_wp2_with fail
              go_round
              case rel => exact ⟨qn2 - 1, rn2 + Y1, _, _, rfl, rfl, by have := Eq2.out; have := hm.out.2; omega, by have := Er2.out; have := EY1.out; omega, g2.out⟩
              case measure => simp [intOf]; omega
          · obtain ⟨z2, hz2⟩ : ∃ z : Nat, z = qn2 * Y0 := ⟨_, rfl⟩
            have hzb : z2 ≤ 18446744065119617025 := by rw [hz2]; exact halves_mul_le (by have := Eq2.out; omega) (by have := HY0.out; omega)
            obtain ⟨zi2, hzi2⟩ : ∃ z : Int, z = (z2 : Int) := ⟨_, rfl⟩
            have hzz2 : q2 * Y0i = zi2 := by rw [hzi2, hz2, Eq2.out, EY0.out, Int.natCast_mul]
            have z0 : 0 ≤ zi2 := by omega
            have z1 : zi2 ≤ 18446744065119617025 := by omega
            have Hzi := hide hzi2
            have Hz := hide hz2
            clear hzb hzi2 hz2
            by_cases htest : 4294967296 * r2 + D0i < zi2
            · have hm := hide (guess_more G2.out HD0.out hUs2.out (Or.inr (by rw [← Hz.out]; have := Hzi.out; have := Er2.out; have := ED0.out; omega)))
              by_cases hout : 4294967296 ≤ r2 + Y1i
              · have hQ2 : Hid (qn2 - 1 = (R * 4294967296 + D0) / (Y1 * 4294967296 + Y0)) := guess_left G2.out HY1.out.1 HY0.out hUs2.out hm.out (by have := Er2.out; have := EY1.out; omega)
                have HQn : Hid (q2 - 1 = ((qn2 - 1 : Nat) : Int)) := by show _ = _; have := Eq2.out; have := hm.out.2; omega
                have hq1 : 1 ≤ q2 := by have := Eq2.out; have := hm.out.2; omega
                have HQ2n := HQn
                have hQY2 : (qn2 - 1) = (R * 4294967296 + D0) / Y := by rw [hQ2.out, ← HYs.out]
                have hQ2lt : (q2 - 1) < 4294967296 := by have h := guess_lt HD0.out hUs2.out; rw [← hQ2.out] at h; have := HQ2n.out; omega
                obtain ⟨R2, hR2⟩ : ∃ R2, R2 = (R * 4294967296 + D0) % Y := ⟨_, rfl⟩
                have er2 := rest_u64 R D0 (qn2 - 1) Y R2 hQY2 hR2 HYp.out HYlt.out
                have hfin := hide (halves (hi * 18446744073709551616 + lo) y s (U * 4294967296 + D1) D0 qn1 R (qn2 - 1) R2 Hyp.out HN.out (by rw [← HYe.out, HQY1.out, HR.out]; exact Nat.div_add_mod _ _) (by rw [← HYe.out, hQY2, hR2]; exact Nat.div_add_mod _ _) (by rw [← HYe.out, hR2]; exact Nat.mod_lt _ HYp.out))
                obtain ⟨R2i, tR2⟩ : ∃ x : Int, x = (R2 : Int) := ⟨_, rfl⟩
                rw [← tR2, ← HQ2n.out, ← ER.out, ← ED0.out, ← EY.out] at er2
                have bR2 : 0 ≤ R2i := by omega
                have ER2 := hide tR2
                clear hQY2 hR2 tR2
                go_wp2_with fail
                go_ret2
                refine ⟨ret_ii ?_ ?_, rfl⟩
                · refine Eq.trans ?_ (div_cast hi lo y).symm
                  rw [← hfin.out.1]; have := HQ1n.out; have := HQ2n.out; omega
                · refine Eq.trans ?_ (mod_cast' hi lo y).symm
                  rw [← hfin.out.2, ER2.out]; simp
              · have g2 := hide (guess_next G2.out hm.out (by have := Er2.out; have := EY1.out; omega))
                have hq1 : 1 ≤ q2 := by have := Eq2.out; have := hm.out.2; omega
                go_wp2_with fail
                go_round
                case rel => exact ⟨qn2 - 1, rn2 + Y1, _, _, rfl, rfl, by have := Eq2.out; have := hm.out.2; omega, by have := Er2.out; have := EY1.out; omega, g2.out⟩
                case measure => simp [intOf]; omega
            · have hQ2 : Hid (qn2 = (R * 4294967296 + D0) / (Y1 * 4294967296 + Y0)) := guess_right G2.out HY1.out.1 (by rw [← Hz.out]; have := Hzi.out; have := Er2.out; have := ED0.out; omega)
              have HQn : Hid (q2 = ((qn2 : Nat) : Int)) := Eq2.out
              have HQ2n := HQn
              have hQY2 : qn2 = (R * 4294967296 + D0) / Y := by rw [hQ2.out, ← HYs.out]
              have hQ2lt : q2 < 4294967296 := by have h := guess_lt HD0.out hUs2.out; rw [← hQ2.out] at h; have := HQ2n.out; omega
              obtain ⟨R2, hR2⟩ : ∃ R2, R2 = (R * 4294967296 + D0) % Y := ⟨_, rfl⟩
              have er2 := rest_u64 R D0 qn2 Y R2 hQY2 hR2 HYp.out HYlt.out
              have hfin := hide (halves (hi * 18446744073709551616 + lo) y s (U * 4294967296 + D1) D0 qn1 R qn2 R2 Hyp.out HN.out (by rw [← HYe.out, HQY1.out, HR.out]; exact Nat.div_add_mod _ _) (by rw [← HYe.out, hQY2, hR2]; exact Nat.div_add_mod _ _) (by rw [← HYe.out, hR2]; exact Nat.mod_lt _ HYp.out))
              obtain ⟨R2i, tR2⟩ : ∃ x : Int, x = (R2 : Int) := ⟨_, rfl⟩
              rw [← tR2, ← HQ2n.out, ← ER.out, ← ED0.out, ← EY.out] at er2
              have bR2 : 0 ≤ R2i := by omega
              have ER2 := hide tR2
              clear hQY2 hR2 tR2
              go_wp2_with fail
              go_ret2
              refine ⟨ret_ii ?_ ?_, rfl⟩
              · refine Eq.trans ?_ (div_cast hi lo y).symm
                rw [← hfin.out.1]; have := HQ1n.out; have := HQ2n.out; omega
              · refine Eq.trans ?_ (mod_cast' hi lo y).symm
                rw [← hfin.out.2, ER2.out]; simp
theorem div64_any (hi lo y : Nat) (w : World) (hhy : hi < y) (hlo : lo < 18446744073709551616) (hy : y < 18446744073709551616) :
    Calls Try.prog 46 #[.int .u64 (hi : Int), .int .u64 (lo : Int), .int .u64 (y : Int)] w fun e w' => ∃ nq, e = .returned (.tuple #[.int .u64 (((hi * 18446744073709551616 + lo) / y : Nat) : Int), .int .u64 (((hi * 18446744073709551616 + lo) % y : Nat) : Int)]) ∧ w' = w.drewN nq := by
  by_cases h0 : hi = 0
  · subst h0
    rw [Nat.zero_mul, Nat.zero_add]
    exact div64_low lo y w (by omega) hlo hy
  · refine (div64_high hi lo y w h0 hhy hlo hy).mono ?_
    rintro e w' ⟨he, hw⟩
    exact ⟨0, he, hw⟩
end Go.Proofs.Ytnofillkfiiogaa
