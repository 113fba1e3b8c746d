/-
  Hull of the reference.
-/
import Derived.Test.YtankkngjhgpcaaaRefEnds
import Derived.Deep.QuietTactic
import Derived.BigQuiet
import Derived.Deep.RegionHeld3
import Derived.Deep.RegionWith
import Derived.Deep.DeepCutAuto
namespace Go.Proofs.Ytankkngjhgpcaaa
open Go.RowKit
set_option linter.unusedVariables false
set_option maxHeartbeats 1000000 in
theorem refhull_no1 (x y a b p q c d : Int) (w : World) (h : may x y a b = false) :
    Calls Try.prog 23 #[.agg #[.int .i64 x, .int .i64 y, .int .i64 a, .int .i64 b], .agg #[.int .i64 p, .int .i64 q, .int .i64 c, .int .i64 d]] w fun e w' => e = .returned (huV x y a b p q c d) ∧ Below w.heap.size w w' := by
  rw [huV_no (huB_no1 h), zero4]
  go_enter Try.func23, Try.ntmps23
  go_wp2_with fail
  refine (refmay_is _ h).mono ?_
  rintro e w1 ⟨rfl, hb1⟩
  obtain ⟨_, _, ⟨r0, r1, r2, r3⟩, ⟨f0, f1, f2, f3⟩, z2⟩ := w5_cells hb1
  have B1 := hide (bt (w5_below _ _ _ _ _ _ _ _ _) hb1)
  clear hb1
  go_wp2_with fail
  refine bodyPost_ret (v := .agg #[.int .i64 0, .int .i64 0, .int .i64 0, .int .i64 0]) (by simp [results, Try.results23, go_sem, r0, r1, r2, r3]) rfl ⟨rfl, ?_⟩
  exact set4 B1.out (by omega)
set_option maxHeartbeats 1000000 in
theorem refhull_no2 (x y a b p q c d : Int) (w : World) (h : may x y a b = true) (h2 : may p q c d = false) :
    Calls Try.prog 23 #[.agg #[.int .i64 x, .int .i64 y, .int .i64 a, .int .i64 b], .agg #[.int .i64 p, .int .i64 q, .int .i64 c, .int .i64 d]] w fun e w' => e = .returned (huV x y a b p q c d) ∧ Below w.heap.size w w' := by
  rw [huV_no (huB_no2 h2), zero4]
  go_enter Try.func23, Try.ntmps23
  go_wp2_with fail
  refine (refmay_is _ h).mono ?_
  rintro e w1 ⟨rfl, hb1⟩
  obtain ⟨e0, e1, e2, e3⟩ := (w5_cells hb1).2.1.1
  have B1 := hide hb1
  clear hb1
  go_wp2_with fail
  refine (refmay_is _ h2).mono ?_
  rintro e w2 ⟨rfl, hb2⟩
  obtain ⟨_, _, ⟨r0, r1, r2, r3⟩, ⟨f0, f1, f2, f3⟩, z2⟩ := w5_cells (bt B1.out hb2)
  have B2 := hide (bt (w5_below _ _ _ _ _ _ _ _ _) (bt B1.out hb2))
  clear hb2
  go_wp2_with fail
  refine bodyPost_ret (v := .agg #[.int .i64 0, .int .i64 0, .int .i64 0, .int .i64 0]) (by simp [results, Try.results23, go_sem, r0, r1, r2, r3]) rfl ⟨rfl, ?_⟩
  exact set4 B2.out (by omega)
set_option maxRecDepth 100000 in
set_option maxHeartbeats 4000000 in
theorem refhull_yes (x y a b p q c d : Int) (w : World) (h : may x y a b = true) (h2 : may p q c d = true) :
    Calls Try.prog 23 #[.agg #[.int .i64 x, .int .i64 y, .int .i64 a, .int .i64 b], .agg #[.int .i64 p, .int .i64 q, .int .i64 c, .int .i64 d]] w fun e w' => e = .returned (huV x y a b p q c d) ∧ Below w.heap.size w w' := by
  have M1 := hide (may_parts h)
  have M2 := hide (may_parts h2)
  have HM := hide (huB_eq h h2)
  have HN := hide (may_near h h2)
  skip
  go_enter Try.func23, Try.ntmps23
  go_wp2_with fail
  refine (refmay_is _ h).mono ?_
  rintro e w1 ⟨rfl, hb1⟩
  obtain ⟨e0, e1, e2, e3⟩ := (w5_cells hb1).2.1.1
  have B1 := hide hb1
  clear hb1
  go_wp2_with fail
  refine (refmay_is _ h2).mono ?_
  rintro e w2 ⟨rfl, hb2⟩
  have B0 := hide (bt B1.out hb2)
  clear hb2 e0 e1 e2 e3 B1 w1
  go_upto_region 3 with fail
  go_cut [5, 6] (fun s6 s7 wx => s6 = .int .i64 x ∧ s7 = .int .i64 y ∧ Below w2.heap.size w2 wx)
  case first =>
    obtain ⟨c0, c1, c2, c3⟩ := (w5_cells B0.out).1.1
    go_quiet (fail)
    go_wp2_with fail
    go_meet
    exact ⟨rfl, rfl, drewN_below (Below.refl _ _) _⟩
  case rest =>
  obtain ⟨rfl, rfl, hB0⟩ := hcut
  have B2 := hide (bt B0.out hB0)
  clear B0 hB0 w2
  rename World => w2
  obtain ⟨e0, e1, e2, e3⟩ := (w5_cells B2.out).2.1.1
  go_upto_if 29 with fail
  clear e0 e1 e2 e3
  go_cut [5] (fun s6 wx => s6 = .int .i64 (min x p) ∧ wx = w2)
  case first =>
    obtain ⟨e0, e1, e2, e3⟩ := (w5_cells B2.out).2.1.1
    by_cases hlt : p < x
    · have hd := decide_eq_true hlt
      go_wp2_with fail
      go_meet
      exact ⟨val_int (by omega), rfl⟩
    · have hd := decide_eq_false hlt
      go_wp2_with fail
      go_meet
      exact ⟨val_int (by omega), rfl⟩
  case rest =>
  obtain ⟨rfl, rfl⟩ := hcut
  rename World => w2
  obtain ⟨e0, e1, e2, e3⟩ := (w5_cells B2.out).2.1.1
  go_upto_if 37 with fail
  clear e0 e1 e2 e3
  go_cut [6] (fun s7 wx => s7 = .int .i64 (min y q) ∧ wx = w2)
  case first =>
    obtain ⟨e0, e1, e2, e3⟩ := (w5_cells B2.out).2.1.1
    by_cases hlt : q < y
    · have hd := decide_eq_true hlt
      go_wp2_with fail
      go_meet
      exact ⟨val_int (by omega), rfl⟩
    · have hd := decide_eq_false hlt
      go_wp2_with fail
      go_meet
      exact ⟨val_int (by omega), rfl⟩
  case rest =>
  obtain ⟨rfl, rfl⟩ := hcut
  rename World => w2
  go_upto_region 8 with fail
  go_cut [7, 8] (fun s6 s7 wx => Ends w2 wx s6 s7 (x + a - 1) (y + b - 1) (p + c - 1) (q + d - 1))
  case first =>
    obtain ⟨⟨⟨c0, c1, c2, c3⟩, _, z0⟩, ⟨⟨e0, e1, e2, e3⟩, _, z1⟩, _⟩ := w5_cells B2.out
    have HS : Hid (∀ w', Below w2.heap.size w2 w' → ((w'.cell? ⟨w.heap.size, 0, none⟩ = some (.int .i64 x) ∧ w'.cell? ⟨w.heap.size, 1, none⟩ = some (.int .i64 y) ∧ w'.cell? ⟨w.heap.size, 2, none⟩ = some (.int .i64 a) ∧ w'.cell? ⟨w.heap.size, 3, none⟩ = some (.int .i64 b)) ∧ (w'.cell? ⟨w.heap.size + 1, 0, none⟩ = some (.int .i64 p) ∧ w'.cell? ⟨w.heap.size + 1, 1, none⟩ = some (.int .i64 q) ∧ w'.cell? ⟨w.heap.size + 1, 2, none⟩ = some (.int .i64 c) ∧ w'.cell? ⟨w.heap.size + 1, 3, none⟩ = some (.int .i64 d))) ∧ Below w2.heap.size w2 w') :=
      fun w' hb => ⟨⟨Below.four hb z0 ⟨c0, c1, c2, c3⟩, Below.four hb z1 ⟨e0, e1, e2, e3⟩⟩, hb⟩
    go_region_held3 (fun w' => ((w'.cell? ⟨w.heap.size, 0, none⟩ = some (.int .i64 x) ∧ w'.cell? ⟨w.heap.size, 1, none⟩ = some (.int .i64 y) ∧ w'.cell? ⟨w.heap.size, 2, none⟩ = some (.int .i64 a) ∧ w'.cell? ⟨w.heap.size, 3, none⟩ = some (.int .i64 b)) ∧ (w'.cell? ⟨w.heap.size + 1, 0, none⟩ = some (.int .i64 p) ∧ w'.cell? ⟨w.heap.size + 1, 1, none⟩ = some (.int .i64 q) ∧ w'.cell? ⟨w.heap.size + 1, 2, none⟩ = some (.int .i64 c) ∧ w'.cell? ⟨w.heap.size + 1, 3, none⟩ = some (.int .i64 d))) ∧ Below w2.heap.size w2 w')
      (first
        | exact HS.out _ ((Below.refl _ _).drew)
        | exact HS.out _ (by assumption)
        | (refine HS.out _ ?_; repeat (first | exact hB2 | exact hB1 | exact Below.refl _ _ | refine Below.drew ?_ | refine Below.setCell ?_ (by first | omega | (simp; done) | (simp; omega)) _ | refine Below.alloc ?_ (by first | omega | (simp; done) | (simp; omega)) _)))
      (first
        | (go_at_call_of 25 x
           refine (reflast_any _ _ _ _ _ M1.out.1 M1.out.2.1 M1.out.2.2.1).mono ?_
           rintro e v1 ⟨rfl, hb1⟩
           have hB1 := below_keep (W := w2) hb1 (by assumption)
           have hs1 := hB1.size
           first
             | (have T01 : Two v1 w2.heap.size 0 0 ∧ Two v1 (w2.heap.size + 1) 0 0 := Two.at2d (t := 24) (t' := 24) hb1; obtain ⟨T0, T1⟩ := T01; obtain ⟨⟨_, _⟩, ⟨_, _⟩, _⟩ := id T0; obtain ⟨⟨_, _⟩, ⟨_, _⟩, _⟩ := id T1)
             | (have T0 : Two v1 w2.heap.size 0 0 := Two.atd (t := 24) hb1; obtain ⟨⟨_, _⟩, ⟨_, _⟩, _⟩ := id T0)
             | skip
           clear hb1)
        | (go_at_call_of 25 p
           refine (reflast_any _ _ _ _ _ M2.out.1 M2.out.2.1 M2.out.2.2.1).mono ?_
           rintro e v2 ⟨rfl, hb2⟩
           have hB2 := below_keep (W := w2) hb2 (by assumption)
           have hs2 := hB2.size
           have hX : Below v1.heap.size v1 v2 := by first | exact hb2 | exact bt (box1 _ _) hb2 | exact bt (box2 _ _ _) hb2
           have hs3 := hX.size
           first
             | (have U0 := T0.kept hX; have U1 := T1.kept hX; obtain ⟨⟨_, _⟩, ⟨_, _⟩, _⟩ := id U0; obtain ⟨⟨_, _⟩, ⟨_, _⟩, _⟩ := id U1)
             | (have U0 := T0.kept hX; have U1 : Two v2 v1.heap.size 0 0 := Two.at (t := 24) hb2; obtain ⟨⟨_, _⟩, ⟨_, _⟩, _⟩ := id U0; obtain ⟨⟨_, _⟩, ⟨_, _⟩, _⟩ := id U1)
             | (have U0 := T0.kept hX; obtain ⟨⟨_, _⟩, ⟨_, _⟩, _⟩ := id U0)
             | (have U01 : Two v2 v1.heap.size 0 0 ∧ Two v2 (v1.heap.size + 1) 0 0 := Two.at2 (t := 24) (t' := 24) hb2; obtain ⟨U0, U1⟩ := U01; obtain ⟨⟨_, _⟩, ⟨_, _⟩, _⟩ := id U0; obtain ⟨⟨_, _⟩, ⟨_, _⟩, _⟩ := id U1)
             | (have U0 : Two v2 v1.heap.size 0 0 := Two.at (t := 24) hb2; obtain ⟨⟨_, _⟩, ⟨_, _⟩, _⟩ := id U0)
             | skip
           clear hb2))
    all_goals
      go_wp2_with fail
      go_meet
      refine ⟨_, _, rfl, rfl, ?_, ?_, ?_, ⟨?_, ?_⟩, held_below (by assumption)⟩
      · repeat (first | with_reducible exact U0 | with_reducible exact U1 | (with_reducible refine Two.newAt ?_; first | rfl | (simp; done)) | with_reducible refine Two.set (u := 0) (v := 0) ?_ | (with_reducible refine Two.other ?_ (by omega)) | with_reducible refine Two.alloc ?_)
      · repeat (first | with_reducible exact U0 | with_reducible exact U1 | (with_reducible refine Two.newAt ?_; first | rfl | (simp; done)) | with_reducible refine Two.set (u := 0) (v := 0) ?_ | (with_reducible refine Two.other ?_ (by omega)) | with_reducible refine Two.alloc ?_)
      · omega
      · omega
      · omega
  case rest =>
    rename World => wc
    obtain ⟨b6, b7, rfl, rfl, T6, T7, hne, ⟨hl6, hl7⟩, hBc⟩ := hcut
    have FR := hide (w5_cells (bt B2.out hBc)).2.2
    have Hc := hide (bt (w5_below _ _ _ _ _ _ _ _ _) (bt B2.out hBc))
    have hr : Hid (w.heap.size + 1 + 1 < w2.heap.size) := (w5_cells B2.out).2.2.2.2
    clear hBc B2 M1 M2
    have HM' := HM.out
    have HN' := HN.out
    have HV := hide (@huV_yes x y a b p q c d)
    skip
    clear HM HN h h2
    generalize x + a - 1 = X1 at T6 HM' HN' HV
    generalize y + b - 1 = Y1 at T6 HM' HN' HV
    generalize p + c - 1 = X2 at T7 HM' HN' HV
    generalize q + d - 1 = Y2 at T7 HM' HN' HV
    have HM := hide HM'
    have HN := hide HN'
    skip
    clear HM' HN'
    generalize hmx : min x p = m1 at HM HN HV
    generalize hmy : min y q = m2 at HM HN HV
    clear hmx hmy
    obtain ⟨⟨k0, k1⟩, ⟨g0, g1⟩, z6⟩ := id T6
    obtain ⟨⟨l0, l1⟩, _, z7⟩ := id T7
    go_upto_if 49 with fail
    clear k0 k1 g0 g1 z6 l0 l1 z7
    go_cut [] (fun wx => Two wx b6 (max X1 X2) Y1 ∧ Two wx b7 X2 Y2 ∧ Four wx (w.heap.size + 1 + 1) 0 0 0 0 ∧ Below w.heap.size w wx)
    case first =>
      obtain ⟨⟨k0, k1⟩, ⟨g0, g1⟩, z6⟩ := id T6
      obtain ⟨⟨l0, l1⟩, _, z7⟩ := id T7
      by_cases hlt : X1 < X2
      · have hd := decide_eq_true hlt
        go_wp2_with fail
        go_meet
        exact ⟨two_eq T6.set0 (by omega) rfl, T7.past (fun e => hne e.symm), FR.out.past (by have := hr.out; omega), Hc.out.setCell (by have := hr.out; simp; omega) _⟩
      · have hd := decide_eq_false hlt
        go_wp2_with fail
        go_meet
        exact ⟨two_eq T6 (by omega) rfl, T7, FR.out, Hc.out⟩
    case rest =>
    rename World => wd
    clear T6 T7 FR Hc
    obtain ⟨T6, T7, FR', Hc'⟩ := hcut
    have FR := hide FR'
    have Hc := hide Hc'
    clear FR' Hc'
    obtain ⟨⟨k0, k1⟩, ⟨g0, g1⟩, z6⟩ := id T6
    obtain ⟨⟨l0, l1⟩, _, z7⟩ := id T7
    go_upto_if 57 with fail
    clear k0 k1 g0 g1 z6 l0 l1 z7
    go_cut [] (fun wx => Two wx b6 (max X1 X2) (max Y1 Y2) ∧ Four wx (w.heap.size + 1 + 1) 0 0 0 0 ∧ Below w.heap.size w wx)
    case first =>
      obtain ⟨⟨k0, k1⟩, ⟨g0, g1⟩, z6⟩ := id T6
      obtain ⟨⟨l0, l1⟩, _, z7⟩ := id T7
      by_cases hlt : Y1 < Y2
      · have hd := decide_eq_true hlt
        go_wp2_with fail
        go_meet
        exact ⟨two_eq T6.set1 rfl (by omega), FR.out.past (by have := hr.out; omega), Hc.out.setCell (by have := hr.out; simp; omega) _⟩
      · have hd := decide_eq_false hlt
        go_wp2_with fail
        go_meet
        exact ⟨two_eq T6 rfl (by omega), FR.out, Hc.out⟩
    case rest =>
    rename World => we
    clear T6 T7 FR Hc
    obtain ⟨⟨⟨k0, k1⟩, _, z6⟩, FR', Hc'⟩ := hcut
    have FR := hide FR'
    have Hc := hide Hc'
    clear FR' Hc'
    generalize hz1 : max X1 X2 = n1 at k0 HM HN HV
    generalize hz2 : max Y1 Y2 = n2 at k1 HM HN HV
    clear hz1 hz2
    obtain ⟨⟨m10, m11⟩, ⟨m20, m21⟩⟩ := And.intro HN.out.1.1.2 HN.out.2.1.2
    obtain ⟨⟨n10, n11⟩, ⟨n20, n21⟩⟩ := And.intro HN.out.1.2.1 HN.out.2.2.1
    cases hm : huB x y a b p q c d
    · go_wp2_with fail
      refine (refmay_is (c := false) _ (HM.out.symm.trans hm)).mono ?_
      rintro e w4 ⟨rfl, hb4⟩
      obtain ⟨q0, q1, q2, q3⟩ := (cells4 hb4).1
      obtain ⟨⟨r0, r1, r2, r3⟩, ⟨f0, f1, f2, f3⟩, zr⟩ := FR.out.kept (bt (box1 _ _) hb4)
      have B4 := hide (bt Hc.out (bt (box1 _ _) hb4))
      clear hb4
      go_wp2_with fail
      refine bodyPost_ret (v := .agg #[.int .i64 0, .int .i64 0, .int .i64 0, .int .i64 0]) (by simp [results, Try.results23, go_sem, r0, r1, r2, r3]) rfl ⟨by rw [huV_no hm]; rfl, ?_⟩
      exact set4 B4.out (by omega)
    · go_wp2_with fail
      refine (refmay_is (c := true) _ (HM.out.symm.trans hm)).mono ?_
      rintro e w4 ⟨rfl, hb4⟩
      obtain ⟨q0, q1, q2, q3⟩ := (cells4 hb4).1
      obtain ⟨⟨r0, r1, r2, r3⟩, ⟨f0, f1, f2, f3⟩, zr⟩ := FR.out.kept (bt (box1 _ _) hb4)
      have B4 := hide (bt Hc.out (bt (box1 _ _) hb4))
      clear hb4
      go_wp2_with fail
      refine bodyPost_ret (v := .agg #[.int .i64 m1, .int .i64 m2, .int .i64 (n1 - m1 + 1), .int .i64 (n2 - m2 + 1)]) (by simp [results, Try.results23, go_sem, r0, r1, r2, r3]) rfl ⟨by rw [HV.out hm]; rfl, ?_⟩
      exact set4 B4.out (by omega)
theorem refhull_any (x y a b p q c d : Int) (w : World) :
    Calls Try.prog 23 #[.agg #[.int .i64 x, .int .i64 y, .int .i64 a, .int .i64 b], .agg #[.int .i64 p, .int .i64 q, .int .i64 c, .int .i64 d]] w fun e w' => e = .returned (huV x y a b p q c d) ∧ Below w.heap.size w w' := by
  cases h : may x y a b
  · exact refhull_no1 x y a b p q c d w h
  · cases h2 : may p q c d
    · exact refhull_no2 x y a b p q c d w h h2
    · exact refhull_yes x y a b p q c d w h h2
end Go.Proofs.Ytankkngjhgpcaaa
