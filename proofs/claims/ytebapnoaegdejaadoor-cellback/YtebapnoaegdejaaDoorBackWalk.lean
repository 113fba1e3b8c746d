/-
  phalanxlaw03.CellBack, walked: the loop over the directions.
-/
import Derived.Test.YtebapnoaegdejaaDoorBackNums
import Derived.Test.YtebapnoaegdejaaDoorLats
import Derived.Test.YtebapnoaegdejaaDoorMeet
import Derived.Test.YtebapnoaegdejaaDoorAwake
import Derived.Deep.CutRange
namespace Go.Proofs.YtebapnoaegdejaaDoor
open Go.RowKit
set_option linter.unusedVariables false
abbrev W8 (w : World) (x y s t r0 r1 r2 r3 r4 r5 r6 r7 : Int) : World := ((w.alloc (.cells #[.int .i64 x, .int .i64 y] 23)).alloc (.cells #[.int .i64 s, .int .i64 t] 23)).alloc (.cells #[.int .i64 r0, .int .i64 r1, .int .i64 r2, .int .i64 r3, .int .i64 r4, .int .i64 r5, .int .i64 r6, .int .i64 r7] 51)
theorem w8_below (w : World) (x y s t r0 r1 r2 r3 r4 r5 r6 r7 : Int) : Below w.heap.size w (W8 w x y s t r0 r1 r2 r3 r4 r5 r6 r7) := bt (box2 _ _ _) (box1 _ _)
def Eight (w : World) (b : Nat) (r0 r1 r2 r3 r4 r5 r6 r7 : Int) : Prop :=
  (w.cell? ⟨b, 0, none⟩ = some (.int .i64 r0) ∧ w.cell? ⟨b, 1, none⟩ = some (.int .i64 r1) ∧ w.cell? ⟨b, 2, none⟩ = some (.int .i64 r2) ∧ w.cell? ⟨b, 3, none⟩ = some (.int .i64 r3)) ∧
  (w.cell? ⟨b, 4, none⟩ = some (.int .i64 r4) ∧ w.cell? ⟨b, 5, none⟩ = some (.int .i64 r5) ∧ w.cell? ⟨b, 6, none⟩ = some (.int .i64 r6) ∧ w.cell? ⟨b, 7, none⟩ = some (.int .i64 r7)) ∧ b < w.heap.size
theorem w8_cells {w w1 : World} {x y s t r0 r1 r2 r3 r4 r5 r6 r7 : Int} (h : Below (W8 w x y s t r0 r1 r2 r3 r4 r5 r6 r7).heap.size (W8 w x y s t r0 r1 r2 r3 r4 r5 r6 r7) w1) :
    Two w1 w.heap.size x y ∧ Two w1 (w.heap.size + 1) s t ∧ Eight w1 (w.heap.size + 1 + 1) r0 r1 r2 r3 r4 r5 r6 r7 := by
  refine ⟨cells2' (bt (box1 _ _) h), cells2'' (bt (box1 _ _) h), ?_⟩
  have hz := h.size
  have hl : w.heap.size + 1 + 1 < (W8 w x y s t r0 r1 r2 r3 r4 r5 r6 r7).heap.size := by simp
  have g : ∀ o, w1.cell? ⟨w.heap.size + 1 + 1, o, none⟩ = (W8 w x y s t r0 r1 r2 r3 r4 r5 r6 r7).cell? ⟨w.heap.size + 1 + 1, o, none⟩ := fun o => h.cell (p := ⟨w.heap.size + 1 + 1, o, none⟩) hl
  refine ⟨⟨?_, ?_, ?_, ?_⟩, ⟨?_, ?_, ?_, ?_⟩, Nat.lt_of_lt_of_le hl hz⟩ <;> (rw [g]; simp [go_sem])
theorem stepb_any {x y : Int} {k : Nat} (w : World) (hs : sB x y k = true) (ho : Offs w) :
    Calls Tryd.prog 9 #[.agg #[.int .i64 (x + dX k), .int .i64 (y + dY k)], .int .i64 (bk k)] w fun e w' => e = .returned (.tuple #[.agg #[.int .i64 x, .int .i64 y], .bool true]) ∧ Below w.heap.size w w' := by
  obtain ⟨q1, q2, q3⟩ := step_back hs
  have := step_any (x + dX k) (y + dY k) (bk k) w ho
  rw [q1, q2, q3] at this
  exact this
theorem steps_any {x y : Int} {k : Nat} (w : World) (hs : sB x y k = true) (ho : Offs w) :
    Calls Tryd.prog 9 #[.agg #[.int .i64 x, .int .i64 y], .int .i64 k] w fun e w' => e = .returned (.tuple #[.agg #[.int .i64 (x + dX k), .int .i64 (y + dY k)], .bool true]) ∧ Below w.heap.size w w' := by
  have := step_any x y k w ho
  rw [sX_yes hs, sY_yes hs, hs, Int.toNat_natCast] at this
  exact this
theorem dirs_any {x y : Int} {k : Nat} (w : World) (hs : sB x y k = true) (ho : Offs w) :
    Calls Tryd.prog 15 #[.agg #[.int .i64 x, .int .i64 y], .agg #[.int .i64 (x + dX k), .int .i64 (y + dY k)]] w fun e w' => e = .returned (.int .i64 k) ∧ Below w.heap.size w w' := by
  have := dir_any x y (x + dX k) (y + dY k) w ho
  rw [dir_step hs] at this
  exact this
theorem named_two (w1 : World) (u v : Int) : ∃ W, w1.alloc (.cells #[.int .i64 u, .int .i64 v] 23) = W ∧ Below w1.heap.size w1 W ∧ Two W w1.heap.size u v := ⟨_, rfl, box1 _ _, Two.newAt rfl⟩
theorem Four.drew {w : World} {b : Nat} {u v x y : Int} (h : Four w b u v x y) : Four w.drew b u v x y := h.kept ((Below.refl _ _).drew)
theorem Four.alloc {w : World} {b : Nat} {u v x y : Int} {o : Obj} (h : Four w b u v x y) : Four (w.alloc o) b u v x y := h.kept (box1 _ _)
theorem Four.newAt {w : World} {k : Nat} {u v x y : Int} {t : TypeId} (hk : k = w.heap.size) : Four (w.alloc (.cells #[.int .i64 u, .int .i64 v, .int .i64 x, .int .i64 y] t)) k u v x y := by
  subst hk; exact cells4 (Below.refl _ _)
def Rs (w4 wx : World) (s14 s15 : Value) (r0 r1 r2 r3 r4 r5 r6 r7 : Int) : Prop := ∃ b c : Nat, s14 = .pointer (some ⟨b, 0, none⟩) ∧ s15 = .pointer (some ⟨c, 0, none⟩) ∧ Four wx b r0 r1 r2 r3 ∧ Four wx c r4 r5 r6 r7 ∧ Below w4.heap.size w4 wx
def Rnd (wr wx : World) (s10 s11 : Value) (x y : Int) : Prop := ∃ b : Nat, s10 = .pointer (some ⟨b, 0, none⟩) ∧ s11 = .bool true ∧ Two wx b x y ∧ Below wr.heap.size wr wx
set_option maxRecDepth 100000 in
set_option maxHeartbeats 4000000 in
theorem back_walk (x y s t r0 r1 r2 r3 r4 r5 r6 r7 : Int) (w : World) (ho : Offs w) :
    Calls Tryd.prog 8 #[.agg #[.int .i64 x, .int .i64 y], .agg #[.int .i64 s, .int .i64 t], .agg #[.int .i64 r0, .int .i64 r1, .int .i64 r2, .int .i64 r3, .int .i64 r4, .int .i64 r5, .int .i64 r6, .int .i64 r7]] w fun e w' => e = .returned (.bool true) ∧ Below w.heap.size w w' := by
  have Ho := hide (ho.kept (w8_below w x y s t r0 r1 r2 r3 r4 r5 r6 r7))
  clear ho
  go_enter Tryd.func8, Tryd.ntmps8
  go_wp2_with fail
  go_loopw [7] (fun i wr => ∃ k : Nat, k ≤ 8 ∧ i = .int .i64 k ∧ Below (W8 w x y s t r0 r1 r2 r3 r4 r5 r6 r7).heap.size (W8 w x y s t r0 r1 r2 r3 r4 r5 r6 r7) wr) (fun i _ => (8 - intOf i).toNat)
  case atStart => exact ⟨0, by omega, rfl, Below.refl _ _⟩
  case round =>
    obtain ⟨k, hk, rfl, hb⟩ := hrel
    have Hb := hide hb
    clear hb
    by_cases hlt : k < 8
    · have TC := (w8_cells Hb.out).1
      obtain ⟨⟨c0, c1⟩, _, z0⟩ := id TC
      cases hs : sB x y k
      · go_wp2_with (go_at_call 9; refine (step_any _ _ _ _ (Ho.out.kept Hb.out)).mono ?_; rintro e w1 ⟨rfl, hb1⟩; have Hb1 := hide hb1; clear hb1)
        go_roundw
        case rel => exact ⟨k + 1, by omega, by go_num, bt (bt Hb.out Hb1.out) (box1 _ _)⟩
        case measure => simp [intOf]; omega
      · have HS := hide hs
        clear hs
        go_wp2_with (go_at_call 9; refine (steps_any _ HS.out (Ho.out.kept Hb.out)).mono ?_; rintro e w1 ⟨rfl, hb1⟩; have Hb1 := hide hb1; clear hb1)
        obtain ⟨W, hW, hBW, T8⟩ := named_two w1 (x + dX k) (y + dY k)
        rw [hW]
        have HBW := hide (bt (bt Hb.out Hb1.out) hBW)
        have HoW := hide (Ho.out.kept HBW.out)
        clear hW hBW Hb1
        go_cut [10, 11] from 20 to 52 (fun s10 s11 wx => Rnd W wx s10 s11 x y)
        case first =>
          obtain ⟨⟨t0, t1⟩, _, z8⟩ := id T8
          have HK : Hid (∀ w', Below W.heap.size W w' → (w'.cell? ⟨w1.heap.size, 0, none⟩ = some (.int .i64 (x + dX k)) ∧ w'.cell? ⟨w1.heap.size, 1, none⟩ = some (.int .i64 (y + dY k))) ∧ Below W.heap.size W w') := fun w' hb => ⟨(T8.kept hb).1, hb⟩
          go_region_held3 (fun w' => (w'.cell? ⟨w1.heap.size, 0, none⟩ = some (.int .i64 (x + dX k)) ∧ w'.cell? ⟨w1.heap.size, 1, none⟩ = some (.int .i64 (y + dY k))) ∧ Below W.heap.size W w')
            (first
              | exact HK.out _ ((Below.refl _ _).drew)
              | exact HK.out _ (by assumption)
              | (refine HK.out _ ?_; repeat (first | exact hB1 | exact Below.refl _ _ | refine Below.drew ?_ | refine Below.setCell ?_ (by first | omega | (simp; done) | (simp; omega)) _ | refine Below.alloc ?_ (by first | omega | (simp; done) | (simp; omega)) _)))
            (first
              | (go_at_call 17; refine (back_any _ _).mono ?_; rintro e w' ⟨rfl, rfl⟩)
              | (go_at_call 9
                 refine (stepb_any _ HS.out (HoW.out.kept (held_below (by assumption)))).mono ?_
                 rintro e v1 ⟨rfl, hb1⟩
                 have hB1 := below_keep (W := W) hb1 (by assumption)
                 have hs1 := hB1.size
                 first
                   | (have T0 : Two v1 W.heap.size 0 0 := Two.atd (t := 23) hb1; obtain ⟨⟨_, _⟩, ⟨_, _⟩, _⟩ := id T0)
                   | skip
                 clear hb1))
          all_goals
            go_wp2_with fail
            go_meet
            refine ⟨_, rfl, rfl, ?_, held_below (by assumption)⟩
            first | with_reducible exact Two.set T0 | (with_reducible refine Two.newAt ?_; first | rfl | (simp; done))
        case rest =>
          obtain ⟨b, rfl, rfl, T10, hBc⟩ := hcut
          have HC := hide (bt HBW.out hBc)
          have HoC := hide (HoW.out.kept hBc)
          obtain ⟨⟨c2, c3⟩, _, z2⟩ := (w8_cells HC.out).1
          obtain ⟨⟨t0, t1⟩, _, z8⟩ := T8.kept hBc
          obtain ⟨⟨g0, g1⟩, _, z10⟩ := T10
          clear hBc T8 HBW HoW
          go_wp2_with (go_at_call 15; refine (dirs_any _ HS.out HoC.out).mono ?_; rintro e w2 ⟨rfl, hb2⟩; have Hb2 := hide hb2; clear hb2)
          go_roundw
          case rel => exact ⟨k + 1, by omega, by go_num, bt HC.out Hb2.out⟩
          case measure => simp [intOf]; omega
    · have TC := (w8_cells Hb.out).1
      have TT := (w8_cells Hb.out).2.1
      obtain ⟨⟨c0, c1⟩, _, z0⟩ := id TC
      obtain ⟨⟨d0, d1⟩, _, z1⟩ := id TT
      obtain ⟨⟨n0, n1⟩, o0, o1⟩ := ap_bounds x y s t
      have EA := hide (apN_comm x y s t)
      have EO := hide (ocN_comm x y s t)
      go_wp2_with fail
      refine (apart_any _ _ _ _ _).mono ?_
      rintro e w1 ⟨rfl, hb1⟩
      obtain ⟨⟨c2, c3⟩, _, z2⟩ := TC.kept hb1
      obtain ⟨⟨d2, d3⟩, _, z3⟩ := TT.kept hb1
      have H1 := hide (bt Hb.out hb1)
      clear hb1 c0 c1 d0 d1
      go_wp2_with fail
      refine (octilec_any _ _ _ _ _).mono ?_
      rintro e w2 ⟨rfl, hb2⟩
      have H2 := hide (bt H1.out hb2)
      obtain ⟨⟨c4, c5⟩, _, z4⟩ := (w8_cells H2.out).1
      obtain ⟨⟨d4, d5⟩, _, z5⟩ := (w8_cells H2.out).2.1
      clear hb2 c2 c3 d2 d3 H1
      generalize hN : apN x y s t = N at n0 n1 o0 o1 EA ⊢
      generalize hO : ocN x y s t = O at o0 o1 EO ⊢
      clear hN hO
      go_wp2_with fail
      refine (apart_any _ _ _ _ _).mono ?_
      rw [EA.out]
      rintro e w3 ⟨rfl, hb3⟩
      have H3 := hide (bt H2.out hb3)
      obtain ⟨⟨c6, c7⟩, _, z6⟩ := (w8_cells H3.out).1
      obtain ⟨⟨d6, d7⟩, _, z7⟩ := (w8_cells H3.out).2.1
      clear hb3 c4 c5 d4 d5 H2
      go_wp2_with fail
      refine (octilec_any _ _ _ _ _).mono ?_
      rw [EO.out]
      rintro e w4 ⟨rfl, hb4⟩
      have H4 := hide (bt H3.out hb4)
      clear hb4 c6 c7 d6 d7 H3
      go_upto_region 13 with fail
      go_cut [14, 15] (fun s14 s15 wx => Rs w4 wx s14 s15 r0 r1 r2 r3 r4 r5 r6 r7)
      case first =>
        have HK : Hid (∀ w', Below w4.heap.size w4 w' → ((w'.cell? ⟨w.heap.size + 1 + 1, 0, none⟩ = some (.int .i64 r0) ∧ w'.cell? ⟨w.heap.size + 1 + 1, 1, none⟩ = some (.int .i64 r1) ∧ w'.cell? ⟨w.heap.size + 1 + 1, 2, none⟩ = some (.int .i64 r2) ∧ w'.cell? ⟨w.heap.size + 1 + 1, 3, none⟩ = some (.int .i64 r3)) ∧ (w'.cell? ⟨w.heap.size + 1 + 1, 4, none⟩ = some (.int .i64 r4) ∧ w'.cell? ⟨w.heap.size + 1 + 1, 5, none⟩ = some (.int .i64 r5) ∧ w'.cell? ⟨w.heap.size + 1 + 1, 6, none⟩ = some (.int .i64 r6) ∧ w'.cell? ⟨w.heap.size + 1 + 1, 7, none⟩ = some (.int .i64 r7))) ∧ Below w4.heap.size w4 w') := fun w' hb => ⟨⟨(w8_cells (bt H4.out hb)).2.2.1, (w8_cells (bt H4.out hb)).2.2.2.1⟩, hb⟩
        have zz := (w8_cells H4.out).2.2.2.2
        go_region_held3 (fun w' => ((w'.cell? ⟨w.heap.size + 1 + 1, 0, none⟩ = some (.int .i64 r0) ∧ w'.cell? ⟨w.heap.size + 1 + 1, 1, none⟩ = some (.int .i64 r1) ∧ w'.cell? ⟨w.heap.size + 1 + 1, 2, none⟩ = some (.int .i64 r2) ∧ w'.cell? ⟨w.heap.size + 1 + 1, 3, none⟩ = some (.int .i64 r3)) ∧ (w'.cell? ⟨w.heap.size + 1 + 1, 4, none⟩ = some (.int .i64 r4) ∧ w'.cell? ⟨w.heap.size + 1 + 1, 5, none⟩ = some (.int .i64 r5) ∧ w'.cell? ⟨w.heap.size + 1 + 1, 6, none⟩ = some (.int .i64 r6) ∧ w'.cell? ⟨w.heap.size + 1 + 1, 7, none⟩ = some (.int .i64 r7))) ∧ Below w4.heap.size w4 w')
          (first
            | exact HK.out _ ((Below.refl _ _).drew)
            | exact HK.out _ (by assumption)
            | (refine HK.out _ ?_; repeat (first | exact Below.refl _ _ | refine Below.drew ?_ | refine Below.setCell ?_ (by first | omega | (simp; done) | (simp; omega)) _ | refine Below.alloc ?_ (by first | omega | (simp; done) | (simp; omega)) _)))
          (fail)
        all_goals
          go_wp2_with fail
          go_meet
          refine ⟨_, _, rfl, rfl, ?_, ?_, held_below (by assumption)⟩
          · repeat (first | (with_reducible refine Four.newAt ?_; first | rfl | (simp; done)) | with_reducible refine Four.drew ?_ | with_reducible refine Four.alloc ?_)
          · repeat (first | (with_reducible refine Four.newAt ?_; first | rfl | (simp; done)) | with_reducible refine Four.drew ?_ | with_reducible refine Four.alloc ?_)
      case rest =>
      obtain ⟨b14, b15, rfl, rfl, FA, FB, hBc⟩ := hcut
      rename World => wc
      have HC := hide (bt H4.out hBc)
      have HoC := hide (Ho.out.kept HC.out)
      obtain ⟨k0, k1, k2, k3, hk⟩ := mtV_lit r0 r1 r2 r3 r4 r5 r6 r7
      have CA := fun w => meet_any r0 r1 r2 r3 r4 r5 r6 r7 w
      have CB := fun w => meet_any r4 r5 r6 r7 r0 r1 r2 r3 w
      rw [mtV_comm, mtB_comm] at CB
      rw [hk] at CA CB
      have MH := hide (fun h => meet_has_lit (s := s) (t := t) hk h)
      have MN := hide (@meet_none r0 r1 r2 r3 r4 r5 r6 r7 s t)
      have HA := hide CA
      have HB := hide CB
      clear hBc H4 CA CB hk n0 n1 o0 o1 EA EO TC TT z0 z1 z2 z3 z4 z5 z6 z7 Ho Hb
      obtain ⟨⟨a0, a1, a2, a3⟩, _, za⟩ := id FA
      obtain ⟨⟨b0, b1, b2, b3⟩, _, zb⟩ := id FB
      go_wp2_with fail
      refine (HA.out _).mono ?_
      rintro e w5 ⟨rfl, hb5⟩
      have H5 := hide hb5
      have FA5 := FA.kept hb5
      have FB5 := FB.kept hb5
      obtain ⟨⟨a4, a5, a6, a7⟩, _, za5⟩ := id FA5
      obtain ⟨⟨b4, b5, b6, b7⟩, _, zb5⟩ := id FB5
      clear hb5 a0 a1 a2 a3 b0 b1 b2 b3 FA FB
      go_wp2_with fail
      refine (HB.out _).mono ?_
      rintro e w6 ⟨rfl, hb6⟩
      have H6 := hide hb6
      clear hb6 a4 a5 a6 a7 b4 b5 b6 b7
      go_wp2_with fail
      obtain ⟨W, hW⟩ : ∃ W, w6.alloc (.cells #[.int .i64 k0, .int .i64 k1, .int .i64 k2, .int .i64 k3] 34) = W := ⟨_, rfl⟩
      have X5 : Below w5.heap.size w5 W := by
        rw [← hW]
        exact bt (box1 _ _) (bt H6.out (box1 _ _))
      have F5 : Four W w5.heap.size k0 k1 k2 k3 := by
        rw [← hW]
        exact (Four.at H6.out).kept (box1 _ _)
      have F6 : Four W w6.heap.size k0 k1 k2 k3 := by
        rw [← hW]
        exact Four.newAt rfl
      have HW := hide (bt (bt HC.out H5.out) X5)
      rw [hW]
      obtain ⟨a0, a1, a2, a3⟩ := (FA5.kept X5).lat
      obtain ⟨b0, b1, b2, b3⟩ := (FB5.kept X5).lat
      obtain ⟨c0, c1, c2, c3⟩ := F5.lat
      obtain ⟨d0, d1, d2, d3⟩ := F6.lat
      obtain ⟨t0, t1⟩ := (w8_cells HW.out).2.1.lat
      have HoW := hide (HoC.out.kept (bt H5.out X5))
      clear hW H5 H6 FA5 FB5 F5 F6 X5 HC HoC HA HB
      have hne := lat_some W
      cases hA : has r0 r1 r2 r3 s t <;> cases hB : has r4 r5 r6 r7 s t <;> cases hM : mtB r0 r1 r2 r3 r4 r5 r6 r7
      · refine wp_region_lat (by kernel_rfl) (by kernel_rfl) ?_
        repeat (go_big_quiet_step (first
          | (go_at_call_of 36 r0; exact calls_lat (hasc_is _ hA))
          | (go_at_call_of 36 r4; exact calls_lat (hasc_is _ hB))
          | (go_at_call 21; exact calls_lat (awake_any _ (HoW.out.kept (Lat.h _))))))
        refine wpQuiet_nil ?_
        rintro _ ⟨n, rfl⟩
        go_wp2_with fail
        go_ret
        exact ⟨rfl, bt (bt (w8_below _ _ _ _ _ _ _ _ _ _ _ _ _) HW.out) n.h⟩
      · have hm : has k0 k1 k2 k3 s t = false := by rw [MH.out hM, hA, hB]; rfl
        refine wp_region_lat (by kernel_rfl) (by kernel_rfl) ?_
        repeat (go_big_quiet_step (first
          | (go_at_call_of 36 r0; exact calls_lat (hasc_is _ hA))
          | (go_at_call_of 36 r4; exact calls_lat (hasc_is _ hB))
          | (go_at_call 21; exact calls_lat (awake_any _ (HoW.out.kept (Lat.h _))))
          | (go_at_call_of 36 k0; exact calls_lat (hasc_is _ hm))))
        refine wpQuiet_nil ?_
        rintro _ ⟨n, rfl⟩
        go_wp2_with fail
        go_ret
        exact ⟨rfl, bt (bt (w8_below _ _ _ _ _ _ _ _ _ _ _ _ _) HW.out) n.h⟩
      · refine wp_region_lat (by kernel_rfl) (by kernel_rfl) ?_
        repeat (go_big_quiet_step (first
          | (go_at_call_of 36 r0; exact calls_lat (hasc_is _ hA))
          | (go_at_call_of 36 r4; exact calls_lat (hasc_is _ hB))
          | (go_at_call 21; exact calls_lat (awake_any _ (HoW.out.kept (Lat.h _))))))
        refine wpQuiet_nil ?_
        rintro _ ⟨n, rfl⟩
        go_wp2_with fail
        go_ret
        exact ⟨rfl, bt (bt (w8_below _ _ _ _ _ _ _ _ _ _ _ _ _) HW.out) n.h⟩
      · have hm : has k0 k1 k2 k3 s t = false := by rw [MH.out hM, hA, hB]; rfl
        refine wp_region_lat (by kernel_rfl) (by kernel_rfl) ?_
        repeat (go_big_quiet_step (first
          | (go_at_call_of 36 r0; exact calls_lat (hasc_is _ hA))
          | (go_at_call_of 36 r4; exact calls_lat (hasc_is _ hB))
          | (go_at_call 21; exact calls_lat (awake_any _ (HoW.out.kept (Lat.h _))))
          | (go_at_call_of 36 k0; exact calls_lat (hasc_is _ hm))))
        refine wpQuiet_nil ?_
        rintro _ ⟨n, rfl⟩
        go_wp2_with fail
        go_ret
        exact ⟨rfl, bt (bt (w8_below _ _ _ _ _ _ _ _ _ _ _ _ _) HW.out) n.h⟩
      · refine wp_region_lat (by kernel_rfl) (by kernel_rfl) ?_
        repeat (go_big_quiet_step (first
          | (go_at_call_of 36 r0; exact calls_lat (hasc_is _ hA))
          | (go_at_call_of 36 r4; exact calls_lat (hasc_is _ hB))
          | (go_at_call 21; exact calls_lat (awake_any _ (HoW.out.kept (Lat.h _))))))
        refine wpQuiet_nil ?_
        rintro _ ⟨n, rfl⟩
        go_wp2_with fail
        go_ret
        exact ⟨rfl, bt (bt (w8_below _ _ _ _ _ _ _ _ _ _ _ _ _) HW.out) n.h⟩
      · have hm : has k0 k1 k2 k3 s t = false := by rw [MH.out hM, hA, hB]; rfl
        refine wp_region_lat (by kernel_rfl) (by kernel_rfl) ?_
        repeat (go_big_quiet_step (first
          | (go_at_call_of 36 r0; exact calls_lat (hasc_is _ hA))
          | (go_at_call_of 36 r4; exact calls_lat (hasc_is _ hB))
          | (go_at_call 21; exact calls_lat (awake_any _ (HoW.out.kept (Lat.h _))))
          | (go_at_call_of 36 k0; exact calls_lat (hasc_is _ hm))))
        refine wpQuiet_nil ?_
        rintro _ ⟨n, rfl⟩
        go_wp2_with fail
        go_ret
        exact ⟨rfl, bt (bt (w8_below _ _ _ _ _ _ _ _ _ _ _ _ _) HW.out) n.h⟩
      · exact absurd (MN.out hM) (by rw [hA, hB]; decide)
      · have hm : has k0 k1 k2 k3 s t = true := by rw [MH.out hM, hA, hB]; rfl
        refine wp_region_lat (by kernel_rfl) (by kernel_rfl) ?_
        repeat (go_big_quiet_step (first
          | (go_at_call_of 36 r0; exact calls_lat (hasc_is _ hA))
          | (go_at_call_of 36 r4; exact calls_lat (hasc_is _ hB))
          | (go_at_call 21; exact calls_lat (awake_any _ (HoW.out.kept (Lat.h _))))
          | (go_at_call_of 36 k0; exact calls_lat (hasc_is _ hm))))
        refine wpQuiet_nil ?_
        rintro _ ⟨n, rfl⟩
        go_wp2_with fail
        go_ret
        exact ⟨rfl, bt (bt (w8_below _ _ _ _ _ _ _ _ _ _ _ _ _) HW.out) n.h⟩
end Go.Proofs.YtebapnoaegdejaaDoor
