/-
  phalanxlaw07.ClearOf, walked.
-/
import Derived.Test.YtnoodnmbghfchaaDoorOfWalk
set_option linter.unusedSimpArgs false
namespace Go.Proofs.YtnoodnmbghfchaaDoor
open Go.RowKit Go.Shelf
set_option linter.unusedVariables false
/-- The boxes of the law: the map and the cell. -/
theorem of_boxes (w : World) (W H : Int) (tv bv : Value) (x y : Int) : ∃ X, (w.alloc (.cells #[.int .i64 W, .int .i64 H, tv, bv] 25)).alloc (.cells #[.int .i64 x, .int .i64 y] 27) = X ∧ Below w.heap.size w X ∧ MB X w.heap.size W H tv bv ∧ Two X (w.heap.size + 1) x y :=
  ⟨_, rfl, box2 _ _ _, (MB.new w W H tv bv).kept (box1 _ _), Two.newAt (by simp)⟩
theorem eqlF0 (w : World) : (binOp .eql 32 (.pointer none) (.pointer none)).run Tryd.prog w = .ok (.bool true) w := by kernel_rfl
set_option maxRecDepth 100000 in
set_option maxHeartbeats 4000000 in
theorem of_bad (W H : Int) (tv bv : Value) (tl : List Nat) (L : List Bd) (cl x y : Int) (w : World) (hv : TlR w tv tl) (hb : ∀ x ∈ tl, x < 256) (hl : BdR w bv L) (hg : Grnd w) (ho : Offs w) (hc : chkC W H tl L = 1) :
    Calls Tryd.prog 3 #[mp W H tv bv, .int .i64 cl, cel x y] w fun e w' => e = .returned (.bool true) ∧ Below w.heap.size w w' := by
  obtain ⟨X, hX, B0, M0, T0⟩ := of_boxes w W H tv bv x y
  have HB := hide (both_no W H tv bv tl L X (hv.kept B0) hb (hl.kept B0) hc)
  have HA : Hid (∀ wx, Below w.heap.size w wx → Calls Tryd.prog 10 #[] wx fun e w' => e = .returned (.bool true) ∧ Below wx.heap.size wx w') := hide fun wx hx => awake_any wx (hg.kept hx) (ho.kept hx)
  obtain ⟨m0, m1, m2, m3⟩ := M0.c
  obtain ⟨a1, cap1, rfl, -⟩ := hv
  obtain ⟨a2, cap2, rfl, -⟩ := hl
  clear hc hb hg ho
  go_enter Tryd.func3, Tryd.ntmps3
  go_wp2_with fail
  refine HB.out.mono ?_
  rintro e w1 ⟨rfl, hb1⟩
  have HB1 := hide (bt B0 hb1)
  clear hX m0 m1 m2 m3 M0 T0 HB B0 hb1
  go_wp2_with fail
  refine (fnew_nil cl w1).mono ?_
  rintro e w2 ⟨rfl, hb2⟩
  have HB2 := hide (bt HB1.out hb2)
  clear hb2
  go_wp2_with fail
  refine (HA.out _ HB2.out).mono ?_
  rintro e w3 ⟨rfl, hb3⟩
  have HB3 := hide (bt HB2.out hb3)
  clear hb3
  go_wp2_with fail
  go_ret
  exact ⟨rfl, HB3.out⟩
set_option maxRecDepth 100000 in
set_option maxHeartbeats 4000000 in
theorem of_cls (W H : Int) (tv bv : Value) (tl : List Nat) (L : List Bd) (cl x y : Int) (w : World) (hv : TlR w tv tl) (hb : ∀ x ∈ tl, x < 256) (hl : BdR w bv L) (hg : Grnd w) (ho : Offs w) (hc : chkC W H tl L = 0) (hk : isC cl = false) :
    Calls Tryd.prog 3 #[mp W H tv bv, .int .i64 cl, cel x y] w fun e w' => e = .returned (.bool true) ∧ Below w.heap.size w w' := by
  obtain ⟨X, hX, B0, M0, T0⟩ := of_boxes w W H tv bv x y
  have HB := hide (both_ok W H tv bv tl L X (hv.kept B0) hb (hl.kept B0) hc)
  have HA : Hid (∀ wx, Below w.heap.size w wx → Calls Tryd.prog 10 #[] wx fun e w' => e = .returned (.bool true) ∧ Below wx.heap.size wx w') := hide fun wx hx => awake_any wx (hg.kept hx) (ho.kept hx)
  have HG := hide hg
  have HK := hide hk
  have h0 : clr (carB W H tl (whoF L) cl) x y = 0 := clr_no (by
    rw [Bool.eq_false_iff]
    intro h
    rw [car_class h] at hk
    cases hk)
  have H0 := hide h0
  obtain ⟨m0, m1, m2, m3⟩ := M0.c
  obtain ⟨a1, cap1, rfl, -⟩ := hv
  obtain ⟨a2, cap2, rfl, -⟩ := hl
  have hcl : ¬ (0 ≤ cl ∧ cl < 4) := (isC_not cl).1 hk
  clear hc hb hg ho hk h0
  by_cases hneg : cl < 0
  · go_enter Tryd.func3, Tryd.ntmps3
    go_wp2_with fail
    refine HB.out.mono ?_
    rintro e w1 ⟨q, r, rfl, hW, hR, hb1⟩
    have HW := hide hW
    have HB1 := hide (bt B0 hb1)
    have T1 := T0.kept hb1
    clear hX m0 m1 m2 m3 M0 T0 HB B0 hb1 hW hR
    go_wp2_with fail
    refine (fnew_bad cl HW.out.1 HK.out).mono ?_
    rintro e w2 ⟨rfl, hb2⟩
    have HB2 := hide (bt HB1.out hb2)
    have HW2 := hide (HW.out.1.kept hb2)
    have T2 := T1.kept hb2
    obtain ⟨⟨t0, t1⟩, -, -⟩ := id T2
    clear hb2 T1 HW
    go_wp2_with fail
    refine (of_any cl x y HW2.out (HG.out.kept HB2.out)).mono ?_
    rintro e w3 ⟨rfl, hb3⟩
    rw [H0.out]
    have HB3 := hide (bt HB2.out hb3)
    clear hb3 t0 t1
    go_wp2_with fail
    refine (HA.out _ HB3.out).mono ?_
    rintro e w4 ⟨rfl, hb4⟩
    have HB4 := hide (bt HB3.out hb4)
    clear hb4
    go_wp2_with fail
    go_ret
    exact ⟨rfl, HB4.out⟩
  · have hge : 4 ≤ cl := by omega
    go_enter Tryd.func3, Tryd.ntmps3
    go_wp2_with fail
    refine HB.out.mono ?_
    rintro e w1 ⟨q, r, rfl, hW, hR, hb1⟩
    have HW := hide hW
    have HB1 := hide (bt B0 hb1)
    have T1 := T0.kept hb1
    clear hX m0 m1 m2 m3 M0 T0 HB B0 hb1 hW hR
    go_wp2_with fail
    refine (fnew_bad cl HW.out.1 HK.out).mono ?_
    rintro e w2 ⟨rfl, hb2⟩
    have HB2 := hide (bt HB1.out hb2)
    have HW2 := hide (HW.out.1.kept hb2)
    have T2 := T1.kept hb2
    obtain ⟨⟨t0, t1⟩, -, -⟩ := id T2
    clear hb2 T1 HW
    go_wp2_with fail
    refine (of_any cl x y HW2.out (HG.out.kept HB2.out)).mono ?_
    rintro e w3 ⟨rfl, hb3⟩
    rw [H0.out]
    have HB3 := hide (bt HB2.out hb3)
    clear hb3 t0 t1
    go_wp2_with fail
    refine (HA.out _ HB3.out).mono ?_
    rintro e w4 ⟨rfl, hb4⟩
    have HB4 := hide (bt HB3.out hb4)
    clear hb4
    go_wp2_with fail
    go_ret
    exact ⟨rfl, HB4.out⟩
theorem dims_of {W H : Int} {tl : List Nat} {L : List Bd} (hc : chkC W H tl L = 0) : ∃ wd ht : Nat, W = (wd : Int) ∧ H = (ht : Int) ∧ (1 ≤ wd ∧ wd ≤ 128) ∧ 1 ≤ ht ∧ ht ≤ 128 := by
  obtain ⟨h1, h2⟩ := mt_gs (chkC_zero hc).1
  simp only [gs, decide_eq_true_eq] at h1 h2
  exact ⟨W.toNat, H.toNat, by omega, by omega, by omega, by omega⟩
set_option maxRecDepth 100000 in
set_option maxHeartbeats 8000000 in
theorem of_good (wd ht : Nat) (hwd : (1 ≤ wd ∧ wd ≤ 128) ∧ 1 ≤ ht ∧ ht ≤ 128) (tv bv : Value) (tl : List Nat) (L : List Bd) (cl x y : Int) (w : World) (hv : TlR w tv tl) (hb : ∀ x ∈ tl, x < 256) (hl : BdR w bv L) (hg : Grnd w) (ho : Offs w) (hc : chkC wd ht tl L = 0) (hk : isC cl = true) :
    Calls Tryd.prog 3 #[mp wd ht tv bv, .int .i64 cl, cel x y] w fun e w' => e = .returned (.bool true) ∧ Below w.heap.size w w' := by
  obtain ⟨X, hX, B0, M0, T0⟩ := of_boxes w wd ht tv bv x y
  have HB := hide (both_ok wd ht tv bv tl L X (hv.kept B0) hb (hl.kept B0) hc)
  have HA : Hid (∀ wx, Below w.heap.size w wx → Calls Tryd.prog 10 #[] wx fun e w' => e = .returned (.bool true) ∧ Below wx.heap.size wx w') := hide fun wx hx => awake_any wx (hg.kept hx) (ho.kept hx)
  have HG := hide hg
  have HO := hide ho
  have HK := hide hk
  obtain ⟨m0, m1, m2, m3⟩ := M0.c
  obtain ⟨a1, cap1, rfl, -⟩ := hv
  obtain ⟨a2, cap2, rfl, -⟩ := hl
  obtain ⟨hc0, hc4⟩ := (isC_iff cl).1 hk
  clear hc hb hg ho hk
  go_enter Tryd.func3, Tryd.ntmps3
  go_wp2_with fail
  refine HB.out.mono ?_
  rintro e w1 ⟨q, r, rfl, hW, hR, hb1⟩
  have HW := hide hW
  have HR := hide hR
  have HB1 := hide (bt B0 hb1)
  have T1 := T0.kept hb1
  clear hX m0 m1 m2 m3 M0 T0 HB B0 hb1 hW hR
  go_wp2_with fail
  refine (fnew_good cl HW.out.1 HW.out.2 (HG.out.kept HB1.out) (HO.out.kept HB1.out) HK.out).mono ?_
  rintro e V ⟨p, b, rfl, ⟨hd, hs⟩, hb2, -⟩
  have HB2 := hide (bt HB1.out hb2)
  have T2 := T1.kept hb2
  obtain ⟨t0, t1⟩ := T2.lat
  have hne := lat_some V
  obtain ⟨c, hcc⟩ : ∃ c, clr (carB wd ht tl (whoF L) cl) x y = c := ⟨_, rfl⟩
  have H1 : Hid (∀ m : Lat V, Calls Tryd.prog 11 #[ptr p, ptr r, .int .i64 cl] m.w fun e w' => e = .returned (.bool true) ∧ Below m.w.heap.size m.w w') := hide fun m => right_any (hd.upto m.h) (hs.upto m.h) hwd rfl ((HR.out.kept hb2).kept m.h)
  have H2 : Hid (∀ m : Lat V, Calls Tryd.prog 9 #[ptr q, .int .i64 cl, cel x y] m.w fun e w' => e = .returned (.int .i64 (c : Nat)) ∧ Below m.w.heap.size m.w w') := hide fun m => by rw [← hcc]; exact of_any cl x y ((HW.out.1.kept hb2).kept m.h) (HG.out.kept (bt HB2.out m.h))
  have H3 : Hid (∀ m : Lat V, Calls Tryd.prog 12 #[ptr r, .int .i64 cl, cel x y] m.w fun e w' => e = .returned (.int .i64 (c : Nat)) ∧ Below m.w.heap.size m.w w') := hide fun m => by rw [← hcc]; exact refclear_any cl x y ((HR.out.kept hb2).kept m.h)
  have H4 : Hid (∀ m : Lat V, Calls Tryd.prog 13 #[ptr p] m.w fun e w' => e = .returned (.int .i64 0) ∧ w' = m.w) := hide fun m => fepoch_is (hd.upto m.h)
  have H5 : Hid (∀ m : Lat V, Calls Tryd.prog 10 #[] m.w fun e w' => e = .returned (.bool true) ∧ Below m.w.heap.size m.w w') := hide fun m => HA.out _ (bt HB2.out m.h)
  clear hd hs hb2 T1 T2 HW HR HA HG HO hcc
  go_wp2_with fail
  refine wp_region_lat (by kernel_rfl) (by kernel_rfl) ?_
  repeat (go_big_quiet_step (first | (go_at_call 11; exact calls_lat (H1.out _)) | (go_at_call 9; exact calls_lat (H2.out _)) | (go_at_call 12; exact calls_lat (H3.out _)) | (go_at_call 13; exact calls_lat_same (H4.out _)) | (go_at_call 10; exact calls_lat (H5.out _))))
  refine wpQuiet_nil ?_
  rintro _ ⟨m, rfl⟩
  go_wp2_with fail
  go_ret
  exact ⟨rfl, bt HB2.out m.h⟩
end Go.Proofs.YtnoodnmbghfchaaDoor
