/-
  The document's answer: ReadUvarint, ReadVarint.
-/
import Derived.Test.YtaioniegggfcjaaRefRead
namespace Go.Proofs.Ytaioniegggfcjaa
open Go.RowKit
set_option linter.unusedVariables false
theorem stand_none {l r : List Nat} {k : Nat} (hr : restOf l k 0 = r) (h : numK r = 0) : stand l k 0 = k := by unfold stand; rw [hr, h]; rfl
theorem bad_none {l r : List Nat} {k : Nat} (hr : restOf l k 0 = r) (h : numK r = 0) : bad l k 0 = 5 := by unfold bad; rw [hr, if_pos h]; rfl
theorem stand_some {l r : List Nat} {k j : Nat} (hr : restOf l k 0 = r) (h : numK r = j) : stand l k 0 = k + j := by unfold stand; rw [hr, h]
theorem bad_some {l r : List Nat} {k : Nat} (hr : restOf l k 0 = r) (h : numK r ≠ 0) : bad l k 0 = 0 := by unfold bad; rw [hr, if_neg h]
theorem or_zero {acc n y : Int} {j : Nat} (h : bits .or .u64 acc (IntKind.u64.wrap (y * 2 ^ (7 * j))) = n) (hy : y = 0) : bits .or .u64 acc (IntKind.u64.wrap 0) = n := by
  rw [hy, Int.zero_mul] at h; exact h
theorem or_nine {acc n y : Int} {j : Nat} (h : bits .or .u64 acc (IntKind.u64.wrap (y * 2 ^ (7 * j))) = n) (hj : (j : Int) = 9) (h0 : 0 ≤ y) (hy : y ≤ 1) : bits .or .u64 acc (y * 9223372036854775808) = n := by
  obtain rfl : j = 9 := by omega
  rw [show (2 : Int) ^ (7 * 9) = 9223372036854775808 by decide, show IntKind.u64.wrap (y * 9223372036854775808) = y * 9223372036854775808 by rw [IntKind.wrap_u64]; omega] at h
  exact h
set_option maxHeartbeats 1000000 in
theorem refruv_ok (w : World) (g : Nat) (l : List Nat) (k : Nat) (h : Rd w g l k 0) :
    Calls Try.prog 32 #[.pointer (some ⟨g, 0, none⟩)] w fun x w' => x = .returned (.int .u64 (numN (restOf l k 0) : Nat)) ∧ Rd w' g l (stand l k 0) (bad l k 0) ∧ w.grownBy w' (some g) := by
  have hB := h.bytes
  obtain ⟨r, hr⟩ : ∃ r, r = l.drop k := ⟨_, rfl⟩
  have HrE : Hid (restOf l k 0 = r) := by show _ = _; rw [hr]; simp [restOf]
  have hlen : r.length = l.length - k := by rw [hr]; simp
  have hdig : ∀ i, dig l (k + i) = dig r i := fun i => by rw [hr, dig_drop]
  have hsr : Small r := by rw [hr]; exact small_drop hB.1 k
  have H := hide h
  have HkL := hide hB.2.2
  have Hlen := hide hlen
  have Hdig := hide hdig
  have Hsr := hide hsr
  obtain ⟨c1, c2, c3, c4⟩ := h.cells
  clear hr hlen hdig hsr h hB
  go_enter Try.func32, Try.ntmps32
  go_wp2_with fail
  go_loopw [4, 5] (fun q i wr => ∃ j : Nat, i = .int .i64 (j : Nat) ∧ j ≤ 10 ∧ j ≤ r.length ∧ Rd wr g l (k + j) 0 ∧ w.grownBy wr (some g) ∧ ∃ acc : Nat, q = .int .u64 (acc : Nat) ∧ ((j ≤ 9 ∧ acc < 128 ^ j ∧ dec 0 r = lift j acc (dec j (r.drop j))) ∨ j = 10 ∧ dec 0 r = none)) (fun _ i _ => 10 - (intOf i).toNat)
  case atStart => exact ⟨0, rfl, by omega, by omega, H.out, grown_refl _ _, 0, rfl, Or.inl ⟨by omega, by omega, by rw [lift_zero]; rfl⟩⟩
  case round =>
    obtain ⟨j, rfl, hj10, hjr, hRd, hG, acc, rfl, hacc⟩ := hrel
    have HRd := hide hRd
    have HG := hide hG
    clear hRd hG
    by_cases hj : j < 10
    · have hj1 : (j : Int) < 10 := by omega
      have hj3 : (0 : Int) ≤ j := by omega
      obtain ⟨hacc2, hdec⟩ : acc < 128 ^ j ∧ dec 0 r = lift j acc (dec j (r.drop j)) := by
        rcases hacc with ⟨_, h⟩ | ⟨h, _⟩
        · exact h
        · omega
      have Hacc := hide hacc2
      have Hdec := hide hdec
      have Hj := hide hj
      clear hacc hacc2 hdec hj hj10
      by_cases hin : j < r.length
      · have hd := drop_dig hin
        have Hnx := hide (next_there wr g l (k + j) HRd.out (by have := Hlen.out; omega))
        rw [Hdig.out j] at Hnx
        have hx := Hsr.out j
        have hdec := Hdec.out
        rw [hd] at hdec
        have Hdec2 := hide hdec
        clear hd hdec
        obtain ⟨x, hxd⟩ : ∃ x, x = dig r j := ⟨_, rfl⟩
        rw [← hxd] at Hnx hx Hdec2
        clear hxd
        obtain ⟨y, hy⟩ : ∃ y : Int, y = x := ⟨_, rfl⟩
        rw [← hy] at Hnx
        have Hy := hide hy
        go_wp2_with fail
        refine Hnx.out.mono ?_; rintro e w1 ⟨rfl, hR1, hG1⟩
        have HR1 := hide hR1
        have HG1 := hide (grown_trans HG.out hG1)
        clear hR1 hG1
        rcases Nat.lt_or_ge x 128 with hx1 | hx1
        · have hdl := dec_last j x (r.drop (j + 1)) Hj.out hx1
          have y1 : y < 128 := by omega
          have y0 : 0 ≤ y := by omega
          have yr : y % 128 = y := by omega
          have yw : IntKind.u64.wrap y = y := by rw [IntKind.wrap_u64]; omega
          have hdec := Hdec2.out
          rw [hdl] at hdec
          have Hx1 := hide hx1
          by_cases hbad : x = 0 ∧ 0 < j ∨ 1 < x ∧ j = 9
          · rw [if_pos hbad] at hdec
            have hnone : dec 0 r = none := by rw [hdec]; rfl
            rcases hbad with ⟨hb1, hb2⟩ | ⟨hb1, hb2⟩
            · have y00 : y = 0 := by omega
              have j0 : (0 : Int) < j := by omega
              subst y00
              have Hf := hide (wrong_any w1 g l (k + j + 1) 0 5 k HR1.out HkL.out)
              have hnum := hide (num_none hnone)
              clear hx hx1 hdl hdec hnone hb1 hb2 hy
              go_wp2_with fail
              all_goals
                refine Hf.out.mono ?_; rintro x w3 ⟨rfl, hr3, hg3⟩
                have Hr3 := hide hr3
                have Hg3 := hide (grown_trans HG1.out hg3)
                clear hr3 hg3
                go_wp2_with fail
                go_ret
                exact ⟨ret_i (by rw [HrE.out, hnum.out.1]; rfl), by rw [stand_none HrE.out hnum.out.2, bad_none HrE.out hnum.out.2]; exact Hr3.out, Hg3.out⟩
            · have y2 : 1 < y := by omega
              subst hb2
              have Hf := hide (wrong_any w1 g l (k + 9 + 1) 0 5 k HR1.out HkL.out)
              have hnum := hide (num_none hnone)
              clear hx hx1 hdl hdec hnone hb1 hy
              go_wp2_with fail
              refine Hf.out.mono ?_; rintro x w3 ⟨rfl, hr3, hg3⟩
              have Hr3 := hide hr3
              have Hg3 := hide (grown_trans HG1.out hg3)
              clear hr3 hg3
              go_wp2_with fail
              go_ret
              exact ⟨ret_i (by rw [HrE.out, hnum.out.1]; rfl), by rw [stand_none HrE.out hnum.out.2, bad_none HrE.out hnum.out.2]; exact Hr3.out, Hg3.out⟩
          · rw [if_neg hbad] at hdec
            have hnum := num_some (l := r) (n := acc + 128 ^ j * x) (k := j + 1) (by rw [hdec]; rfl)
            have hor := or_digit j acc x Hj.out Hacc.out hx1 (by have := Hj.out; omega)
            rw [← hnum.1, ← hy] at hor
            have Hor := hide hor
            have Hnum := hide hnum
            have hq1 : (j : Int) = 9 → ¬ 1 < y := by omega
            have hq2 : y = 0 → (j : Int) = 0 := by omega
            clear hx hx1 hdl hdec hbad hnum hor hy
            go_wp2_with fail
            all_goals
              go_ret
              refine ⟨ret_i ?_, ?_, HG1.out⟩
              · rw [HrE.out]
                first
                | exact Hor.out
                | exact or_zero Hor.out (by assumption)
                | exact or_nine Hor.out (by assumption) y0 (by assumption)
              · rw [stand_some HrE.out Hnum.out.2, bad_some HrE.out (by rw [Hnum.out.2]; omega)]
                exact HR1.out
        · obtain ⟨dg, hdg⟩ : ∃ dg, dg = x - 128 := ⟨_, rfl⟩
          obtain ⟨z, hz⟩ : ∃ z : Int, z = dg := ⟨_, rfl⟩
          have y1 : ¬ y < 128 := by omega
          have yr : y % 128 = z := by omega
          have z0 : 0 ≤ z := by omega
          have z1 : z < 128 := by omega
          have zw : IntKind.u64.wrap z = z := by rw [IntKind.wrap_u64]; omega
          have hmore := lift_more j acc x (r.drop (j + 1)) Hj.out hx1
          have hdec := Hdec2.out
          rw [hmore, ← hdg] at hdec
          by_cases hbad : 1 < dg ∧ j = 9
          · obtain ⟨hb1, rfl⟩ := hbad
            have z2 : 1 < z := by omega
            have hnone : dec 0 r = none := by rw [hdec, dec_end _ _ (by omega)]; rfl
            have Hf := hide (wrong_any w1 g l (k + 9 + 1) 0 5 k HR1.out HkL.out)
            have hnum := hide (num_none hnone)
            clear hx hx1 hdec hnone hb1 hy hdg hz hmore
            go_wp2_with fail
            refine Hf.out.mono ?_; rintro x w3 ⟨rfl, hr3, hg3⟩
            have Hr3 := hide hr3
            have Hg3 := hide (grown_trans HG1.out hg3)
            clear hr3 hg3
            go_wp2_with fail
            go_ret
            exact ⟨ret_i (by rw [HrE.out, hnum.out.1]; rfl), by rw [stand_none HrE.out hnum.out.2, bad_none HrE.out hnum.out.2]; exact Hr3.out, Hg3.out⟩
          · have hor := or_digit j acc dg Hj.out Hacc.out (by omega) (by have := Hj.out; omega)
            rw [← hz] at hor
            have Hor := hide hor
            have hq1 : (j : Int) = 9 → ¬ 1 < z := by omega
            have Hnx2 : Hid ((j + 1 ≤ 9 ∧ acc + 128 ^ j * dg < 128 ^ (j + 1) ∧ dec 0 r = lift (j + 1) (acc + 128 ^ j * dg) (dec (j + 1) (r.drop (j + 1)))) ∨ j + 1 = 10 ∧ dec 0 r = none) := by
              show _ ∨ _
              rcases Nat.lt_or_ge j 9 with h9 | h9
              · refine Or.inl ⟨by omega, ?_, hdec⟩
                have h1 := Hacc.out
                have h2 : 128 ^ j * dg ≤ 128 ^ j * 127 := Nat.mul_le_mul_left _ (by omega)
                rw [Nat.pow_succ]; omega
              · exact Or.inr ⟨by have := Hj.out; omega, by rw [hdec, dec_end _ _ (by omega)]; rfl⟩
            have Hin := hide hin
            clear hx hx1 hdec hbad hy hdg hz hmore hor hin
            go_wp2_with fail
            all_goals
              go_roundw
              case rel =>
                refine ⟨j + 1, congrArg (Value.int .i64) (by omega), by have := Hj.out; omega, by have := Hin.out; omega, HR1.out, HG1.out, acc + 128 ^ j * dg, congrArg _ ?_, Hnx2.out⟩
                first
                | exact Hor.out
                | exact or_zero Hor.out (by assumption)
                | exact or_nine Hor.out (by assumption) z0 (by assumption)
              case measure => simp [intOf]; have := Hj.out; omega
      · have hnone : dec 0 r = none := by rw [Hdec.out, List.drop_eq_nil_of_le (by omega)]; rfl
        have Hnx := hide (next_none wr g l (k + j) 0 HRd.out (Or.inr (by have := Hlen.out; have := HkL.out; omega)))
        have hnum := hide (num_none hnone)
        clear hnone hin
        go_wp2_with fail
        refine Hnx.out.mono ?_; rintro e w1 ⟨rfl, hs1⟩
        have Hf := hide (wrong_any w1 g l (k + j) 0 5 k (HRd.out.same hs1) HkL.out)
        have HG1 := hide (grown_trans HG.out (hs1.grown (some g)))
        clear hs1
        go_wp2_with fail
        refine Hf.out.mono ?_; rintro x w3 ⟨rfl, hr3, hg3⟩
        have Hr3 := hide hr3
        have Hg3 := hide (grown_trans HG1.out hg3)
        clear hr3 hg3
        go_wp2_with fail
        go_ret
        exact ⟨ret_i (by rw [HrE.out, hnum.out.1]; rfl), by rw [stand_none HrE.out hnum.out.2, bad_none HrE.out hnum.out.2]; exact Hr3.out, Hg3.out⟩
    · have hnone : dec 0 r = none := by
        rcases hacc with ⟨h9, _⟩ | ⟨_, h⟩
        · omega
        · exact h
      have hnum := hide (num_none hnone)
      have Hf := hide (wrong_any wr g l (k + j) 0 5 k HRd.out HkL.out)
      have hj1 : ¬ (j : Int) < 10 := by omega
      clear hnone hacc hj
      go_wp2_with fail
      refine Hf.out.mono ?_; rintro x w3 ⟨rfl, hr3, hg3⟩
      have Hr3 := hide hr3
      have Hg3 := hide (grown_trans HG.out hg3)
      clear hr3 hg3
      go_wp2_with fail
      go_ret
      exact ⟨ret_i (by rw [HrE.out, hnum.out.1]; rfl), by rw [stand_none HrE.out hnum.out.2, bad_none HrE.out hnum.out.2]; exact Hr3.out, Hg3.out⟩
theorem refruv_bad (w : World) (g : Nat) (l : List Nat) (k e : Nat) (h : Rd w g l k e) (h0 : e ≠ 0) :
    Calls Try.prog 32 #[.pointer (some ⟨g, 0, none⟩)] w fun x w' => x = .returned (.int .u64 (numN (restOf l k e) : Nat)) ∧ Rd w' g l (stand l k e) (bad l k e) ∧ w.grownBy w' (some g) := by
  have hr : restOf l k e = [] := by simp [restOf, h0]
  have Hs : Hid (numN (restOf l k e) = 0 ∧ stand l k e = k ∧ bad l k e = e) := by
    show _ ∧ _ ∧ _
    unfold stand bad
    rw [hr]
    refine ⟨rfl, rfl, ?_⟩
    rw [if_pos num_nil.2]
    simp [first, h0]
  have H := hide h
  have Hnx := hide (next_none w g l k e h (Or.inl h0))
  have HkL := hide h.bytes.2.2
  have H0 := hide h0
  obtain ⟨c1, c2, c3, c4⟩ := h.cells
  clear h hr h0
  go_enter Try.func32, Try.ntmps32
  go_wp2_with fail
  go_loopw [4, 5] (fun q i wr => i = .int .i64 0 ∧ wr = w) (fun _ _ _ => 0)
  case atStart => exact ⟨rfl, rfl⟩
  case round =>
    obtain ⟨rfl, rfl⟩ := hrel
    go_wp2_with fail
    refine Hnx.out.mono ?_; rintro x w1 ⟨rfl, hs1⟩
    have Hf := hide (wrong_any w1 g l k e 5 k (H.out.same hs1) HkL.out)
    have HG1 := hide (hs1.grown (some g))
    clear hs1
    go_wp2_with fail
    refine Hf.out.mono ?_; rintro x w3 ⟨rfl, hr3, hg3⟩
    have Hr3 := hide hr3
    have Hg3 := hide (grown_trans HG1.out hg3)
    clear hr3 hg3
    go_wp2_with fail
    go_ret
    refine ⟨ret_i (by rw [Hs.out.1]; rfl), ?_, Hg3.out⟩
    rw [Hs.out.2.1, Hs.out.2.2]
    have := Hr3.out
    simp only [backK, first, if_neg H0.out] at this
    exact this
theorem refruv_any (w : World) (g : Nat) (l : List Nat) (k e : Nat) (h : Rd w g l k e) :
    Calls Try.prog 32 #[.pointer (some ⟨g, 0, none⟩)] w fun x w' => x = .returned (.int .u64 (numN (restOf l k e) : Nat)) ∧ Rd w' g l (stand l k e) (bad l k e) ∧ w.grownBy w' (some g) := by
  by_cases h0 : e = 0
  · subst h0; exact refruv_ok w g l k h
  · exact refruv_bad w g l k e h h0
theorem refrvr_any (w : World) (g : Nat) (l : List Nat) (k e : Nat) (h : Rd w g l k e) :
    Calls Try.prog 33 #[.pointer (some ⟨g, 0, none⟩)] w fun x w' => x = .returned (.int .i64 (zag (numN (restOf l k e)))) ∧ Rd w' g l (stand l k e) (bad l k e) ∧ w.grownBy w' (some g) := by
  have hlt := numN_lt (small_rest h.bytes.1 k e)
  have h' := refruv_any w g l k e h
  generalize numN (restOf l k e) = n at *
  have H := hide h'
  clear h h'
  obtain ⟨z, hz⟩ : ∃ z : Int, z = n := ⟨_, rfl⟩
  rw [← hz] at H
  have hn0 : (0 : Int) ≤ z := by omega
  have hn1 : z < 18446744073709551616 := by omega
  by_cases hodd : n % 2 = 1
  · have Hzag : Hid (zag n = -(z / 2) - 1) := by show _ = _; unfold zag; rw [if_pos hodd]; omega
    have h2 : z % 2 = 1 := by omega
    clear hlt hodd hz
    go_enter Try.func33, Try.ntmps33
    go_wp2_with fail
    refine H.out.mono ?_; rintro x w1 ⟨rfl, hr, hg⟩
    have Hr := hide hr
    have Hg := hide hg
    clear hr hg
    go_wp2_with fail
    go_ret
    exact ⟨ret_i Hzag.out.symm, Hr.out, Hg.out⟩
  · have Hzag : Hid (zag n = z / 2) := by show _ = _; unfold zag; rw [if_neg hodd]; omega
    have h2 : z % 2 = 0 := by omega
    clear hlt hodd hz
    go_enter Try.func33, Try.ntmps33
    go_wp2_with fail
    refine H.out.mono ?_; rintro x w1 ⟨rfl, hr, hg⟩
    have Hr := hide hr
    have Hg := hide hg
    clear hr hg
    go_wp2_with fail
    go_ret
    exact ⟨ret_i Hzag.out.symm, Hr.out, Hg.out⟩
end Go.Proofs.Ytaioniegggfcjaa
