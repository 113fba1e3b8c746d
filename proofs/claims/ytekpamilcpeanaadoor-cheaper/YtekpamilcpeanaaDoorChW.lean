/-
  phalanxlaw15.SmoothCheaper, walked.
-/
import Derived.Test.YtekpamilcpeanaaDoorSmW
namespace Go.Proofs.YtekpamilcpeanaaDoor
open Go.RowKit Go.Shelf
set_option linter.unusedVariables false
set_option linter.unusedSimpArgs false
theorem refsteps_any (r : Nat) (W H : Int) (tl : List Nat) (L : List Bd) (c s x y d : Int) (w : World) (hw : Rl w r W H tl L) :
    Calls Tryd.prog 37 #[ptr r, shv c s, cel x y, .int .i64 d] w fun e w' => e = .returned (.bool (lg (stB W H tl (whoF L) c s) x y d)) ∧ Below w.heap.size w w' :=
  refsteps_of r _ c s x y d w (fun wx hb => refstep_any x y d wx) (fun wx hb => refsides_any x y d wx) (fun wx hb x y => refstands_any r W H tl L c s x y wx (hw.kept hb))
theorem reflegal_any (r : Nat) (W H : Int) (tl : List Nat) (L : List Bd) (c s x y : Int) (v : Value) (P : List (Int × Int)) (w : World) (hv : CeR w v P) (hw : Rl w r W H tl L) :
    Calls Tryd.prog 19 #[ptr r, shv c s, cel x y, v] w fun e w' => e = .returned (.bool (legV (stB W H tl (whoF L) c s) x y P)) ∧ Below w.heap.size w w' :=
  reflegal_of r _ c s x y v P w hv (fun wx hb x y => refstands_any r W H tl L c s x y wx (hw.kept hb)) (fun wx hb x y d => refsteps_any r W H tl L c s x y d wx (hw.kept hb))
theorem endL_last : ∀ (L : List (Int × Int)) (c : Int × Int), L ≠ [] → L[L.length - 1]? = some (endL c L)
  | [], c, h => absurd rfl h
  | [q], c, _ => rfl
  | q :: r :: L, c, _ => by
    have := endL_last (r :: L) q (by simp)
    rw [endL]
    simpa using this
theorem Rrleg6 : Rcl 19 := zl fun _ _ => by go_simp
theorem Rrcost6 : Rcl 13 := zl fun _ _ => by go_simp
theorem refpcost_at {x y c : Int} {v : Value} {P : List (Int × Int)} {w : World} (hv : CeR w v P) (h : costV x y P = c) : Calls Tryd.prog 13 #[cel x y, v] w fun e w' => e = .returned (.int .i64 c) ∧ Below w.heap.size w w' := h ▸ refpcost_any x y v P w hv
theorem reflegal_is {r : Nat} {W H : Int} {tl : List Nat} {L : List Bd} {c s x y : Int} {v : Value} {P : List (Int × Int)} {w : World} {b : Bool} (hv : CeR w v P) (hw : Rl w r W H tl L) (h : legV (stB W H tl (whoF L) c s) x y P = b) :
    Calls Tryd.prog 19 #[ptr r, shv c s, cel x y, v] w fun e w' => e = .returned (.bool b) ∧ Below w.heap.size w w' := h ▸ reflegal_any r W H tl L c s x y v P w hv hw
set_option maxRecDepth 100000 in
set_option maxHeartbeats 8000000 in
theorem cheaper_walk (W H : Int) (tv bv : Value) (tl : List Nat) (L : List Bd) (c s x y : Int) (v : Value) (P : List (Int × Int)) (w : World) (hv : TlR w tv tl) (hb : ∀ n ∈ tl, n < 256) (hl : BdR w bv L) (hp : CeR w v P) (hg : Grnd w) (ho : Offs w) :
    Calls Tryd.prog 5 #[mp W H tv bv, ask c s x y v] w fun e w' => e = .returned (.bool true) ∧ Below w.heap.size w w' := by
  obtain ⟨X, hX⟩ : ∃ X, (w.alloc (.cells #[.int .i64 W, .int .i64 H, tv, bv] 35)).alloc (.cells #[.int .i64 c, .int .i64 s, .int .i64 x, .int .i64 y, v] 39) = X := ⟨_, rfl⟩
  have B0 : Below w.heap.size w X := by rw [← hX]; exact box2 _ _ _
  have MX : MB X w.heap.size W H tv bv := by rw [← hX]; exact (MB.new w W H tv bv).kept (box1 _ _)
  have AX : AB X (w.heap.size + 1) c s x y v := by
    have := heap_alloc_new (w.alloc (.cells #[.int .i64 W, .int .i64 H, tv, bv] 35)) (.cells #[.int .i64 c, .int .i64 s, .int .i64 x, .int .i64 y, v] 39)
    rw [hX] at this
    simpa [AB] using this
  have HGO : Hid (∀ wx, Below X.heap.size X wx → (Grnd wx ∧ Offs wx) ∧ CeR wx v P) := hide fun wx hx => ⟨⟨hg.kept (bt B0 hx), ho.kept (bt B0 hx)⟩, hp.kept (bt B0 hx)⟩
  have HK : Hid (∀ wx, Below X.heap.size X wx → (wx.cell? ⟨w.heap.size + 1, 0, none⟩ = some (.int .i64 c) ∧ wx.cell? ⟨w.heap.size + 1, 1, none⟩ = some (.int .i64 s)) ∧ (wx.cell? ⟨w.heap.size + 1, 2, none⟩ = some (.int .i64 x) ∧ wx.cell? ⟨w.heap.size + 1, 3, none⟩ = some (.int .i64 y)) ∧ wx.cell? ⟨w.heap.size + 1, 4, none⟩ = some v) := hide fun wx hx => (AX.kept hx).c
  obtain ⟨m0, m1, m2, m3⟩ := MX.c
  have HX := hide hX
  have HB0 := hide B0
  have HAw : Hid (∀ wx, Below X.heap.size X wx → Calls Tryd.prog 8 #[] wx fun e w' => e = .returned (.bool true) ∧ Below wx.heap.size wx w') := hide fun wx hx => awake_is wx (HGO.out wx hx).1.1 (HGO.out wx hx).1.2
  rcases chkC_two W H tl L with hc | hc
  · have HB := hide (both_ok W H tv bv tl L X (hv.kept B0) hb (hl.kept B0) hc)
    obtain ⟨wd, ht, rfl, rfl, hwd, hht⟩ := dims_is hc
    have HDm := hide (And.intro hwd hht)
    obtain ⟨a1, cap1, rfl, -⟩ := hv
    obtain ⟨a2, cap2, rfl, -⟩ := hl
    obtain ⟨a4, cap4, rfl, -⟩ := hp
    clear hg ho hc hb MX AX hX B0 hwd hht
    go_enter Tryd.func5, Tryd.ntmps5
    go_wp2_with (rw [HX.out])
    refine HB.out.mono ?_
    rintro e w1 ⟨p, r, rfl, hW, hR, hb1⟩
    have Hb1 := hide hb1
    have HWR := hide (And.intro hW hR)
    clear m0 m1 m2 m3 HB hb1 hW hR
    obtain ⟨⟨q0, q1⟩, ⟨q2, q3⟩, q4⟩ := HK.out w1 Hb1.out
    by_cases hlen : (2000 : Int) < (P.length : Nat)
    · go_wp2_with fail
      refine (HAw.out w1 Hb1.out).mono ?_
      rintro e w2 ⟨rfl, hb2⟩
      have Hb2 := hide (bt HB0.out (bt Hb1.out hb2))
      clear hb2 q0 q1 q2 q3 q4
      go_wp2_with fail
      go_ret
      exact ⟨rfl, Hb2.out⟩
    · have hPl : P.length ≤ 2000 := by omega
      obtain ⟨St, hSt⟩ : ∃ St, stB (wd : Int) (ht : Int) tl (whoF L) c s = St := ⟨_, rfl⟩
      have hx1 := HGO.out w1 Hb1.out
      have HLg := hide (fun wx (hx : Below w1.heap.size w1 wx) (v : Value) (P : List (Int × Int)) (b : Bool) (hv : CeR wx v P) (hb : legV St x y P = b) => reflegal_is (c := c) (s := s) hv (HWR.out.2.kept hx) (hSt ▸ hb))
      have HSm := hide (hSt ▸ smooth_any p wd ht tl (whoF L) c s x y _ P w1 hx1.2 HWR.out.1.1 hx1.1.1 hx1.1.2)
      cases hleg : legV St x y P
      · have ho : smO St x y P = none := if_neg (fun h => by rw [hleg] at h; cases h.2)
        rw [ho] at HSm
        have HL1 := hide hleg
        clear hleg ho hx1 hSt
        go_wp2_with fail
        refine HSm.out.mono ?_
        rintro e w2 ⟨rfl, hb2⟩
        have Hb2 := hide (And.intro hb2 (bt Hb1.out hb2))
        clear q0 q1 q2 q3 q4 hb2
        obtain ⟨⟨q0, q1⟩, ⟨q2, q3⟩, q4⟩ := HK.out w2 Hb2.out.2
        go_wp2_with fail
        refine (HLg.out w2 Hb2.out.1 _ P false (HGO.out w2 Hb2.out.2).2 HL1.out).mono ?_
        rintro e w3 ⟨rfl, hb3⟩
        have Hb3 := hide (bt Hb2.out.2 hb3)
        clear q0 q1 q2 q3 q4 hb3
        go_wp2_with fail
        refine (HAw.out w3 Hb3.out).mono ?_
        rintro e w4 ⟨rfl, hb4⟩
        have Hb4 := hide (bt HB0.out (bt Hb3.out hb4))
        clear hb4
        go_wp2_with fail
        go_ret
        exact ⟨rfl, Hb4.out⟩
      · have ho : smO St x y P = some (smF St P.length x y P) := if_pos ⟨by omega, hleg⟩
        rw [ho] at HSm
        have hl2 : St x y = true ∧ legF St x y P = true := by rw [legV, Bool.and_eq_true] at hleg; exact hleg
        obtain ⟨g1, g2, g3, g4⟩ := sm_good St P.length x y P (Nat.le_refl _) hl2.2
        obtain ⟨Lf, hLf⟩ : ∃ Lf, smF St P.length x y P = Lf := ⟨_, rfl⟩
        rw [hLf] at HSm g1 g2 g3 g4
        have g5 : legV St x y Lf = true := by rw [legV, hl2.1, g1]; rfl
        have hc1 : costV x y Lf = cst x y Lf := by rw [costV, if_neg (by omega), costF_leg _ _ _ _ g1]; omega
        have hc2 : costV x y P = cst x y P := by rw [costV, if_neg (by omega), costF_leg _ _ _ _ hl2.2]; omega
        have HS := hide (And.intro (And.intro g5 g2) (And.intro (And.intro hc1 hc2) (And.intro g3 g4)))
        clear hleg ho hx1 hSt hl2 g1 g2 g3 g4 hLf g5 hc1 hc2
        go_wp2_with fail
        refine HSm.out.mono ?_
        rintro e w2 ⟨v2, rfl, hv2, -, hb2⟩
        obtain ⟨a5, cap5, rfl⟩ := hv2.slice
        obtain ⟨Y, hY⟩ : ∃ Y, w2.drew = Y := ⟨_, rfl⟩
        have bY : Below w2.heap.size w2 Y := by rw [← hY]; exact (Below.refl _ _).drew
        have b1Y := bt hb2 bY
        have bXY := bt Hb1.out b1Y
        have HY := hide (And.intro hY (And.intro b1Y bXY))
        have HV := hide (ceR_own (hv2.upto bY))
        have HK2 : Hid (∀ wx, Below Y.heap.size Y wx → (wx.cell? ⟨w.heap.size + 1, 0, none⟩ = some (.int .i64 c) ∧ wx.cell? ⟨w.heap.size + 1, 1, none⟩ = some (.int .i64 s)) ∧ (wx.cell? ⟨w.heap.size + 1, 2, none⟩ = some (.int .i64 x) ∧ wx.cell? ⟨w.heap.size + 1, 3, none⟩ = some (.int .i64 y)) ∧ wx.cell? ⟨w.heap.size + 1, 4, none⟩ = some (.slice a4 P.length cap4)) := hide fun wx hx => HK.out wx (bt bXY hx)
        clear q0 q1 q2 q3 q4 hb2 hY bY b1Y bXY hv2 HSm
        go_wp2_with fail
        refine wp_only ?_
        refine wp_region_z (fun wx : World => Below Y.heap.size Y wx) [] (by kernel_rfl) ?_
        rw [HY.out.1]
        refine zx 0 4 16 rfl (by kernel_rfl) (Below.refl _ _) ?_
        iterate 4 (refine zxc rfl (by rfl) (fun wx hx => by obtain ⟨⟨q0, q1⟩, ⟨q2, q3⟩, q4⟩ := HK2.out wx hx; go_simp; rfl) ?_; simp only [zp])
        refine zxn ?_
        obtain ⟨W2, hW2⟩ : ∃ W2, (Y.alloc (.cells #[.int .i64 0, .int .i64 0] 23)).alloc (.cells #[.int .i64 0, .int .i64 0] 23) = W2 := ⟨_, rfl⟩
        have bW2 : Below Y.heap.size Y W2 := by rw [← hW2]; exact box2 _ _ _
        have t1 : Two W2 Y.heap.size 0 0 := by rw [← hW2]; exact (Two.newAt rfl).alloc
        have t2 : Two W2 (Y.heap.size + 1) 0 0 := by rw [← hW2]; exact Two.newAt (by simp)
        obtain ⟨n0, hn0⟩ : ∃ n0, Y.heap.size = n0 := ⟨_, rfl⟩
        obtain ⟨n1, hn1⟩ : ∃ n1, Y.heap.size + 1 = n1 := ⟨_, rfl⟩
        refine zw 4 [5] (by kernel_rfl) ?_
        refine readyZ.cons (v' := ptr n0) (w' := Y.alloc (.cells #[.int .i64 0, .int .i64 0] 23)) rfl rfl (by rw [← hn0]; go_simp) (fun _ => box1 _ _) ?_ (readyZ.cons (v' := ptr n0) (w' := Y.alloc (.cells #[.int .i64 0, .int .i64 0] 23)) rfl rfl (by rw [← hn0]; go_simp) (fun _ => box1 _ _) ?_ readyZ.nil)
        · simp only [zp]
          refine zq 5 (v' := ptr n1) (w' := W2) (by kernel_rfl) rfl rfl (by rw [← hW2, ← hn1]; go_simp) (fun _ => bW2) ?_
          simp only [zp]
          obtain ⟨b, hbb⟩ : ∃ b, n0 = b := ⟨_, rfl⟩
          obtain ⟨d, hdd⟩ : ∃ d, n1 = d := ⟨_, rfl⟩
          rw [hbb, hdd]
          have tb : Two W2 b 0 0 := hbb ▸ hn0 ▸ t1
          have td : Two W2 d 0 0 := hdd ▸ hn1 ▸ t2
          have hbd : b ≠ d := by omega
          have hYb : Y.heap.size ≤ b := by omega
          have hYd : Y.heap.size ≤ d := by omega
          clear hbb hdd t1 t2 hn0 hn1
          obtain ⟨⟨b0, b1⟩, ⟨b2, b3⟩, -⟩ := id tb
          obtain ⟨Z1, hZ1⟩ : ∃ Z1, (W2.setCell ⟨b, 0, none⟩ (.int .i64 x)).setCell ⟨b, 1, none⟩ (.int .i64 y) = Z1 := ⟨_, rfl⟩
          have T1 := (Turns.set (S := fun j => j = b) W2 (p := ⟨b, 0, none⟩) rfl (.int .i64 x)).trans (Turns.set (S := fun j => j = b ∨ W2.heap.size ≤ j) _ (p := ⟨b, 1, none⟩) (.inl rfl) (.int .i64 y))
          have tb1 := tb.set (s := x) (t := y)
          rw [hZ1] at T1 tb1
          have td1 : Two Z1 d 0 0 := two_kept td T1 (fun e => hbd e.symm)
          have bZ1 : Below Y.heap.size Y Z1 := bW2.trans (T1.below (fun k e => by omega) bW2.size)
          refine zw 6 [] (by kernel_rfl) ?_
          refine readyZ.skip (w' := Z1) rfl rfl (by rw [← hZ1]; go_simp) (fun _ => bZ1) ?_ readyZ.nil
          simp only [zp]
          obtain ⟨⟨d0, d1⟩, ⟨d2, d3⟩, -⟩ := id td1
          obtain ⟨Z2, hZ2⟩ : ∃ Z2, (Z1.setCell ⟨d, 0, none⟩ (.int .i64 x)).setCell ⟨d, 1, none⟩ (.int .i64 y) = Z2 := ⟨_, rfl⟩
          have T2 := (Turns.set (S := fun j => j = d) Z1 (p := ⟨d, 0, none⟩) rfl (.int .i64 x)).trans (Turns.set (S := fun j => j = d ∨ Z1.heap.size ≤ j) _ (p := ⟨d, 1, none⟩) (.inl rfl) (.int .i64 y))
          have td2 := td1.set (s := x) (t := y)
          rw [hZ2] at T2 td2
          have tb2 : Two Z2 b x y := two_kept tb1 T2 (fun e => hbd e)
          have bZ2 : Below Y.heap.size Y Z2 := bZ1.trans (T2.below (fun k e => by omega) bZ1.size)
          refine zw 7 [] (by kernel_rfl) ?_
          refine readyZ.skip (w' := Z2) rfl rfl (by rw [← hZ2]; go_simp) (fun _ => bZ2) ?_ readyZ.nil
          simp only [zp]
          refine anyZ_done (by kernel_rfl) ?_ _
          dsimp only [Only, Exit.then]
          have HZ := hide (And.intro tb2 (And.intro td2 (And.intro bZ2 (And.intro hbd (And.intro hYb hYd)))))
          clear tb td hbd hYb hYd b0 b1 b2 b3 hZ1 T1 tb1 td1 bZ1 d0 d1 d2 d3 hZ2 T2 td2 tb2 bZ2 hW2 bW2
          obtain ⟨⟨q0, q1⟩, ⟨q2, q3⟩, q4⟩ := HK2.out Z2 HZ.out.2.2.1
          by_cases hP : P = []
          · have hLf : Lf = [] := by
              have := HS.out.2.2.2
              rw [hP] at this
              exact List.eq_nil_of_length_eq_zero (Nat.le_zero.1 this)
            have h1 : (Lf.length : Int) = 0 := by rw [hLf]; rfl
            have h2 : (P.length : Int) = 0 := by rw [hP]; rfl
            obtain ⟨e1, he1⟩ : ∃ e1, x = e1 := ⟨_, rfl⟩
            obtain ⟨e2, he2⟩ : ∃ e2, y = e2 := ⟨_, rfl⟩
            have HE : Hid (Two Z2 b e1 e2 ∧ Two Z2 d e1 e2 ∧ Below Y.heap.size Y Z2) := hide ⟨by rw [← he1, ← he2]; exact HZ.out.1, by rw [← he1, ← he2]; exact HZ.out.2.1, HZ.out.2.2.1⟩
            have hg1 : ¬ (0 : Int) < (Lf.length : Int) := by omega
            have hg2 : ¬ (0 : Int) < (P.length : Int) := by omega
            clear he1 he2 h1 h2 hP hLf
            go_wp2_with fail
            obtain ⟨V, hV⟩ : ∃ V, Z2.drew = V := ⟨_, rfl⟩
            have bV : Below Z2.heap.size Z2 V := by rw [← hV]; exact (Below.refl _ _).drew
            have tbV := HE.out.1.kept bV
            have tdV := HE.out.2.1.kept bV
            have bYV := bt HE.out.2.2 bV
            have HK4 : Hid (∀ wx, Below V.heap.size V wx → ((wx.cell? ⟨b, 0, none⟩ = some (.int .i64 e1) ∧ wx.cell? ⟨b, 1, none⟩ = some (.int .i64 e2)) ∧ (wx.cell? ⟨d, 0, none⟩ = some (.int .i64 e1) ∧ wx.cell? ⟨d, 1, none⟩ = some (.int .i64 e2))) ∧ (wx.cell? ⟨w.heap.size + 1, 0, none⟩ = some (.int .i64 c) ∧ wx.cell? ⟨w.heap.size + 1, 1, none⟩ = some (.int .i64 s)) ∧ (wx.cell? ⟨w.heap.size + 1, 2, none⟩ = some (.int .i64 x) ∧ wx.cell? ⟨w.heap.size + 1, 3, none⟩ = some (.int .i64 y)) ∧ wx.cell? ⟨w.heap.size + 1, 4, none⟩ = some (.slice a4 P.length cap4)) := hide fun wx hx => ⟨⟨(tbV.kept hx).1, (tdV.kept hx).1⟩, HK2.out wx (bt bYV hx)⟩
            have HV4 := hide (And.intro hV (And.intro bYV (And.intro (HV.out.kept bYV) (And.intro (bt HY.out.2.1 bYV) (bt HY.out.2.2 bYV)))))
            have he : ∀ wx, (binOp .eql 23 (cel e1 e2) (cel e1 e2)).run Tryd.prog wx = .ok (.bool true) wx := fun wx => (eqC _ _ _ _ wx).trans (by simp)
            clear hV bV tbV tdV bYV
            refine wp_only ?_
            refine wp_region_z (fun wx : World => Below V.heap.size V wx) [] (by kernel_rfl) ?_
            rw [HV4.out.1]
            refine zx 0 10 32 rfl (by kernel_rfl) (Below.refl _ _) ?_
            iterate 2 (refine zxc rfl (by rfl) (fun wx hx => by obtain ⟨⟨⟨r0, r1⟩, r2, r3⟩, ⟨q0, q1⟩, ⟨q2, q3⟩, q4⟩ := HK4.out wx hx; go_simp; rfl) ?_; simp only [zp])
            refine zxc (v := .bool true) rfl (by rfl) (fun wx hx => by go_simp) ?_
            simp only [zp]
            iterate 7 (refine zxc rfl (by rfl) (fun wx hx => by obtain ⟨⟨⟨r0, r1⟩, r2, r3⟩, ⟨q0, q1⟩, ⟨q2, q3⟩, q4⟩ := HK4.out wx hx; go_simp; rfl) ?_; simp only [zp])
            refine zxn ?_
            refine zw 10 [] (by kernel_rfl) ?_
            refine readyZ.callG rfl (by rfl) (Rrleg6 (by rfl) (by rfl) (by simp only [zj]; rfl)) (HLg.out V HV4.out.2.2.2.1 _ Lf true HV4.out.2.2.1 HS.out.1.1) ?_ readyZ.nil
            rintro e V1 ⟨rfl, hb1⟩
            refine ⟨_, rfl, fun _ => hb1, ?_⟩
            simp only [zp]
            refine zx 11 5 32 rfl (by kernel_rfl) hb1 ?_
            iterate 2 (refine zxc (v := .bool true) rfl (by rfl) (fun wx hx => by go_simp) ?_; simp only [zp])
            iterate 3 (refine zxc rfl (by rfl) (fun wx hx => by obtain ⟨⟨⟨r0, r1⟩, r2, r3⟩, ⟨q0, q1⟩, ⟨q2, q3⟩, q4⟩ := HK4.out wx hx; go_simp; rfl) ?_; simp only [zp])
            refine zxn ?_
            refine zx 17 4 32 rfl (by kernel_rfl) hb1 ?_
            iterate 4 (refine zxc rfl (by rfl) (fun wx hx => by obtain ⟨⟨⟨r0, r1⟩, r2, r3⟩, ⟨q0, q1⟩, ⟨q2, q3⟩, q4⟩ := HK4.out wx hx; go_simp; rfl) ?_; simp only [zp])
            refine zxn ?_
            refine zw 16 [] (by kernel_rfl) ?_
            refine readyZ.callG rfl (by rfl) (Rrcost6 (by rfl) (by rfl) (by simp only [zj]; rfl)) (refpcost_at (HV4.out.2.2.1.kept hb1) HS.out.2.1.1) ?_ readyZ.nil
            rintro e V2 ⟨rfl, hb2⟩
            have hs2 := bt hb1 hb2
            refine ⟨_, rfl, fun _ => hs2, ?_⟩
            simp only [zp]
            refine zw 21 [] (by kernel_rfl) ?_
            refine readyZ.callG rfl (by rfl) (Rrcost6 (by rfl) (by rfl) (by simp only [zj]; rfl)) (refpcost_at (HGO.out V2 (bt HV4.out.2.2.2.2 hs2)).2 HS.out.2.1.2) ?_ readyZ.nil
            rintro e V3 ⟨rfl, hb3⟩
            have hs3 := bt hs2 hb3
            refine ⟨_, rfl, fun _ => hs3, ?_⟩
            simp only [zp]
            have hle := HS.out.2.2.1
            refine zx 22 3 32 rfl (by kernel_rfl) hs3 ?_
            iterate 3 (refine zxc (v := .bool true) rfl (by rfl) (fun wx hx => by go_simp) ?_; simp only [zp])
            refine zxn ?_
            have bX3 := bt HV4.out.2.2.2.2 hs3
            refine zw 25 [] (by kernel_rfl) ?_
            refine readyZ.callG rfl (by rfl) (Rawk (by rfl) (by rfl) (by simp only [zj])) (HAw.out V3 bX3) ?_ readyZ.nil
            rintro e V4 ⟨rfl, hb4⟩
            have hs4 := bt hs3 hb4
            refine ⟨_, rfl, fun _ => hs4, ?_⟩
            simp only [zp]
            refine zx 26 2 32 rfl (by kernel_rfl) hs4 ?_
            iterate 2 (refine zxc (v := .bool true) rfl (by rfl) (fun wx hx => by go_simp) ?_; simp only [zp])
            refine zxn ?_
            refine anyZ_done (by kernel_rfl) ?_ _
            dsimp only [Only, Exit.then]
            have HB9 := hide (bt HB0.out (bt bX3 hb4))
            clear hb1 hb2 hb3 hb4 hs2 hs3 hs4 bX3
            go_wp2_with fail
            go_ret
            exact ⟨rfl, HB9.out⟩
          · have hp0 : 0 < P.length := List.length_pos_iff.2 hP
            have hg2 : (0 : Int) < (P.length : Int) := by omega
            obtain ⟨jp, hjp⟩ : ∃ jp : Nat, P.length - 1 = jp := ⟨_, rfl⟩
            have hjp1 : (P.length : Int) - 1 = (jp : Nat) := by omega
            have hjp2 : IntKind.i64.wrap ((jp : Nat) : Int) = (jp : Nat) := by rw [IntKind.wrap_i64]; omega
            have hjp3 : (jp : Int) < (P.length : Nat) := by omega
            have hlast := endL_last P (x, y) hP
            obtain ⟨q, hq⟩ : ∃ q, endL (x, y) P = q := ⟨_, rfl⟩
            obtain ⟨e1, e2⟩ := q
            rw [hq, hjp] at hlast
            have hcP := (HGO.out Y HY.out.2.2).2
            obtain ⟨gp, op, hga, hgl, hc0, hc1⟩ : ∃ g o, a4 = some ⟨g, o, none⟩ ∧ g < Y.heap.size ∧ Y.cell? ⟨g, o + jp * 2, none⟩ = some (.int .i64 e1) ∧ Y.cell? ⟨g, o + jp * 2 + 1, none⟩ = some (.int .i64 e2) := by
              obtain ⟨a', cap', he', _, _, _, hform⟩ := hcP
              obtain ⟨g', o', hgg, h0, h1, h2⟩ := hform jp _ hlast
              injection he' with h3 h4 h5
              exact ⟨g', o', h3.trans hgg, h0, h1, h2⟩
            subst hga
            have HCP : Hid (∀ wx, Below Y.heap.size Y wx → wx.cell? ⟨gp, op + jp * 2, none⟩ = some (.int .i64 e1) ∧ wx.cell? ⟨gp, op + jp * 2 + 1, none⟩ = some (.int .i64 e2)) := hide fun wx hx => ⟨(hx.cell (p := ⟨gp, _, none⟩) hgl).trans hc0, (hx.cell (p := ⟨gp, _, none⟩) hgl).trans hc1⟩
            have HQ := hide hq
            clear hcP hgl hc0 hc1 hlast hq hjp hP
            by_cases hLf : Lf = []
            · have hg1 : ¬ (0 : Int) < (Lf.length : Int) := by rw [hLf]; decide
              have hee : e1 = x ∧ e2 = y := by
                have h1 := HS.out.1.2
                rw [hLf, HQ.out] at h1
                exact ⟨(congrArg Prod.fst h1).symm, (congrArg Prod.snd h1).symm⟩
              obtain ⟨Z4, hZ4⟩ : ∃ Z4, (Z2.setCell ⟨d, 0, none⟩ (.int .i64 e1)).setCell ⟨d, 1, none⟩ (.int .i64 e2) = Z4 := ⟨_, rfl⟩
              have T4 := (Turns.set (S := fun j => j = d) Z2 (p := ⟨d, 0, none⟩) rfl (.int .i64 e1)).trans (Turns.set (S := fun j => j = d ∨ Z2.heap.size ≤ j) _ (p := ⟨d, 1, none⟩) (.inl rfl) (.int .i64 e2))
              have td4 := HZ.out.2.1.set (s := e1) (t := e2)
              rw [hZ4] at T4 td4
              have tb4 : Two Z4 b e1 e2 := by rw [hee.1, hee.2]; exact two_kept HZ.out.1 T4 HZ.out.2.2.2.1
              have bZ4 : Below Y.heap.size Y Z4 := HZ.out.2.2.1.trans (T4.below (fun k e => by have := HZ.out.2.2.2.2.2; omega) HZ.out.2.2.1.size)
              obtain ⟨c0, c1⟩ := HCP.out Z2 HZ.out.2.2.1
              obtain ⟨⟨d0, d1⟩, ⟨d2, d3⟩, -⟩ := HZ.out.2.1
              have HE := hide (And.intro tb4 (And.intro td4 bZ4))
              have HZ4 := hide hZ4
              clear hLf hee hZ4 T4 td4 tb4 bZ4
              go_wp2_with (rw [HZ4.out])
              obtain ⟨V, hV⟩ : ∃ V, Z4.drew = V := ⟨_, rfl⟩
              have bV : Below Z4.heap.size Z4 V := by rw [← hV]; exact (Below.refl _ _).drew
              have tbV := HE.out.1.kept bV
              have tdV := HE.out.2.1.kept bV
              have bYV := bt HE.out.2.2 bV
              have HK4 : Hid (∀ wx, Below V.heap.size V wx → ((wx.cell? ⟨b, 0, none⟩ = some (.int .i64 e1) ∧ wx.cell? ⟨b, 1, none⟩ = some (.int .i64 e2)) ∧ (wx.cell? ⟨d, 0, none⟩ = some (.int .i64 e1) ∧ wx.cell? ⟨d, 1, none⟩ = some (.int .i64 e2))) ∧ (wx.cell? ⟨w.heap.size + 1, 0, none⟩ = some (.int .i64 c) ∧ wx.cell? ⟨w.heap.size + 1, 1, none⟩ = some (.int .i64 s)) ∧ (wx.cell? ⟨w.heap.size + 1, 2, none⟩ = some (.int .i64 x) ∧ wx.cell? ⟨w.heap.size + 1, 3, none⟩ = some (.int .i64 y)) ∧ wx.cell? ⟨w.heap.size + 1, 4, none⟩ = some (.slice (some ⟨gp, op, none⟩) P.length cap4)) := hide fun wx hx => ⟨⟨(tbV.kept hx).1, (tdV.kept hx).1⟩, HK2.out wx (bt bYV hx)⟩
              have HV4 := hide (And.intro hV (And.intro bYV (And.intro (HV.out.kept bYV) (And.intro (bt HY.out.2.1 bYV) (bt HY.out.2.2 bYV)))))
              have he : ∀ wx, (binOp .eql 23 (cel e1 e2) (cel e1 e2)).run Tryd.prog wx = .ok (.bool true) wx := fun wx => (eqC _ _ _ _ wx).trans (by simp)
              clear hV bV tbV tdV bYV
              refine wp_only ?_
              refine wp_region_z (fun wx : World => Below V.heap.size V wx) [] (by kernel_rfl) ?_
              rw [HV4.out.1]
              refine zx 0 10 32 rfl (by kernel_rfl) (Below.refl _ _) ?_
              iterate 2 (refine zxc rfl (by rfl) (fun wx hx => by obtain ⟨⟨⟨r0, r1⟩, r2, r3⟩, ⟨q0, q1⟩, ⟨q2, q3⟩, q4⟩ := HK4.out wx hx; go_simp; rfl) ?_; simp only [zp])
              refine zxc (v := .bool true) rfl (by rfl) (fun wx hx => by go_simp) ?_
              simp only [zp]
              iterate 7 (refine zxc rfl (by rfl) (fun wx hx => by obtain ⟨⟨⟨r0, r1⟩, r2, r3⟩, ⟨q0, q1⟩, ⟨q2, q3⟩, q4⟩ := HK4.out wx hx; go_simp; rfl) ?_; simp only [zp])
              refine zxn ?_
              refine zw 10 [] (by kernel_rfl) ?_
              refine readyZ.callG rfl (by rfl) (Rrleg6 (by rfl) (by rfl) (by simp only [zj]; rfl)) (HLg.out V HV4.out.2.2.2.1 _ Lf true HV4.out.2.2.1 HS.out.1.1) ?_ readyZ.nil
              rintro e V1 ⟨rfl, hb1⟩
              refine ⟨_, rfl, fun _ => hb1, ?_⟩
              simp only [zp]
              refine zx 11 5 32 rfl (by kernel_rfl) hb1 ?_
              iterate 2 (refine zxc (v := .bool true) rfl (by rfl) (fun wx hx => by go_simp) ?_; simp only [zp])
              iterate 3 (refine zxc rfl (by rfl) (fun wx hx => by obtain ⟨⟨⟨r0, r1⟩, r2, r3⟩, ⟨q0, q1⟩, ⟨q2, q3⟩, q4⟩ := HK4.out wx hx; go_simp; rfl) ?_; simp only [zp])
              refine zxn ?_
              refine zx 17 4 32 rfl (by kernel_rfl) hb1 ?_
              iterate 4 (refine zxc rfl (by rfl) (fun wx hx => by obtain ⟨⟨⟨r0, r1⟩, r2, r3⟩, ⟨q0, q1⟩, ⟨q2, q3⟩, q4⟩ := HK4.out wx hx; go_simp; rfl) ?_; simp only [zp])
              refine zxn ?_
              refine zw 16 [] (by kernel_rfl) ?_
              refine readyZ.callG rfl (by rfl) (Rrcost6 (by rfl) (by rfl) (by simp only [zj]; rfl)) (refpcost_at (HV4.out.2.2.1.kept hb1) HS.out.2.1.1) ?_ readyZ.nil
              rintro e V2 ⟨rfl, hb2⟩
              have hs2 := bt hb1 hb2
              refine ⟨_, rfl, fun _ => hs2, ?_⟩
              simp only [zp]
              refine zw 21 [] (by kernel_rfl) ?_
              refine readyZ.callG rfl (by rfl) (Rrcost6 (by rfl) (by rfl) (by simp only [zj]; rfl)) (refpcost_at (HGO.out V2 (bt HV4.out.2.2.2.2 hs2)).2 HS.out.2.1.2) ?_ readyZ.nil
              rintro e V3 ⟨rfl, hb3⟩
              have hs3 := bt hs2 hb3
              refine ⟨_, rfl, fun _ => hs3, ?_⟩
              simp only [zp]
              have hle := HS.out.2.2.1
              refine zx 22 3 32 rfl (by kernel_rfl) hs3 ?_
              iterate 3 (refine zxc (v := .bool true) rfl (by rfl) (fun wx hx => by go_simp) ?_; simp only [zp])
              refine zxn ?_
              have bX3 := bt HV4.out.2.2.2.2 hs3
              refine zw 25 [] (by kernel_rfl) ?_
              refine readyZ.callG rfl (by rfl) (Rawk (by rfl) (by rfl) (by simp only [zj])) (HAw.out V3 bX3) ?_ readyZ.nil
              rintro e V4 ⟨rfl, hb4⟩
              have hs4 := bt hs3 hb4
              refine ⟨_, rfl, fun _ => hs4, ?_⟩
              simp only [zp]
              refine zx 26 2 32 rfl (by kernel_rfl) hs4 ?_
              iterate 2 (refine zxc (v := .bool true) rfl (by rfl) (fun wx hx => by go_simp) ?_; simp only [zp])
              refine zxn ?_
              refine anyZ_done (by kernel_rfl) ?_ _
              dsimp only [Only, Exit.then]
              have HB9 := hide (bt HB0.out (bt bX3 hb4))
              clear hb1 hb2 hb3 hb4 hs2 hs3 hs4 bX3
              go_wp2_with fail
              go_ret
              exact ⟨rfl, HB9.out⟩
            · have hl0 : 0 < Lf.length := List.length_pos_iff.2 hLf
              have hg1 : (0 : Int) < (Lf.length : Int) := by omega
              have hlb := HS.out.2.2.2
              obtain ⟨jl, hjl⟩ : ∃ jl : Nat, Lf.length - 1 = jl := ⟨_, rfl⟩
              have hjl1 : (Lf.length : Int) - 1 = (jl : Nat) := by omega
              have hjl2 : IntKind.i64.wrap ((jl : Nat) : Int) = (jl : Nat) := by rw [IntKind.wrap_i64]; omega
              have hjl3 : (jl : Int) < (Lf.length : Nat) := by omega
              have hlast := endL_last Lf (x, y) hLf
              rw [HS.out.1.2, HQ.out, hjl] at hlast
              have hcL := HV.out
              obtain ⟨gl, ol, hga, hgl, hc0, hc1⟩ : ∃ g o, a5 = some ⟨g, o, none⟩ ∧ g < Y.heap.size ∧ Y.cell? ⟨g, o + jl * 2, none⟩ = some (.int .i64 e1) ∧ Y.cell? ⟨g, o + jl * 2 + 1, none⟩ = some (.int .i64 e2) := by
                obtain ⟨a', cap', he', _, _, _, hform⟩ := hcL
                obtain ⟨g', o', hgg, h0, h1, h2⟩ := hform jl _ hlast
                injection he' with h3 h4 h5
                exact ⟨g', o', h3.trans hgg, h0, h1, h2⟩
              subst hga
              have cl0 : Z2.cell? ⟨gl, ol + jl * 2, none⟩ = some (.int .i64 e1) := (HZ.out.2.2.1.cell (p := ⟨gl, _, none⟩) hgl).trans hc0
              have cl1 : Z2.cell? ⟨gl, ol + jl * 2 + 1, none⟩ = some (.int .i64 e2) := (HZ.out.2.2.1.cell (p := ⟨gl, _, none⟩) hgl).trans hc1
              obtain ⟨Z3, hZ3⟩ : ∃ Z3, (Z2.setCell ⟨b, 0, none⟩ (.int .i64 e1)).setCell ⟨b, 1, none⟩ (.int .i64 e2) = Z3 := ⟨_, rfl⟩
              have T3 := (Turns.set (S := fun j => j = b) Z2 (p := ⟨b, 0, none⟩) rfl (.int .i64 e1)).trans (Turns.set (S := fun j => j = b ∨ Z2.heap.size ≤ j) _ (p := ⟨b, 1, none⟩) (.inl rfl) (.int .i64 e2))
              have tb3 := HZ.out.1.set (s := e1) (t := e2)
              rw [hZ3] at T3 tb3
              have td3 : Two Z3 d x y := two_kept HZ.out.2.1 T3 (fun e => HZ.out.2.2.2.1 e.symm)
              have bZ3 : Below Y.heap.size Y Z3 := HZ.out.2.2.1.trans (T3.below (fun k e => by have := HZ.out.2.2.2.2.1; omega) HZ.out.2.2.1.size)
              obtain ⟨Z4, hZ4⟩ : ∃ Z4, (Z3.setCell ⟨d, 0, none⟩ (.int .i64 e1)).setCell ⟨d, 1, none⟩ (.int .i64 e2) = Z4 := ⟨_, rfl⟩
              have T4 := (Turns.set (S := fun j => j = d) Z3 (p := ⟨d, 0, none⟩) rfl (.int .i64 e1)).trans (Turns.set (S := fun j => j = d ∨ Z3.heap.size ≤ j) _ (p := ⟨d, 1, none⟩) (.inl rfl) (.int .i64 e2))
              have td4 := td3.set (s := e1) (t := e2)
              rw [hZ4] at T4 td4
              have tb4 : Two Z4 b e1 e2 := two_kept tb3 T4 HZ.out.2.2.2.1
              have bZ4 : Below Y.heap.size Y Z4 := bZ3.trans (T4.below (fun k e => by have := HZ.out.2.2.2.2.2; omega) bZ3.size)
              obtain ⟨c0, c1⟩ := HCP.out Z3 bZ3
              obtain ⟨⟨p0, p1⟩, ⟨p2, p3⟩, p4⟩ := HK2.out Z3 bZ3
              obtain ⟨⟨b0, b1⟩, ⟨b2, b3⟩, -⟩ := HZ.out.1
              obtain ⟨⟨d0, d1⟩, ⟨d2, d3⟩, -⟩ := id td3
              have HE := hide (And.intro tb4 (And.intro td4 bZ4))
              have HZ34 := hide (And.intro hZ3 hZ4)
              clear hLf hZ3 hZ4 T3 T4 tb3 td3 td4 tb4 bZ3 bZ4 hcL hgl hc0 hc1 hlast hjl hlb
              go_wp2_with (first | rw [HZ34.out.1] | rw [HZ34.out.2])
              obtain ⟨V, hV⟩ : ∃ V, Z4.drew = V := ⟨_, rfl⟩
              have bV : Below Z4.heap.size Z4 V := by rw [← hV]; exact (Below.refl _ _).drew
              have tbV := HE.out.1.kept bV
              have tdV := HE.out.2.1.kept bV
              have bYV := bt HE.out.2.2 bV
              have HK4 : Hid (∀ wx, Below V.heap.size V wx → ((wx.cell? ⟨b, 0, none⟩ = some (.int .i64 e1) ∧ wx.cell? ⟨b, 1, none⟩ = some (.int .i64 e2)) ∧ (wx.cell? ⟨d, 0, none⟩ = some (.int .i64 e1) ∧ wx.cell? ⟨d, 1, none⟩ = some (.int .i64 e2))) ∧ (wx.cell? ⟨w.heap.size + 1, 0, none⟩ = some (.int .i64 c) ∧ wx.cell? ⟨w.heap.size + 1, 1, none⟩ = some (.int .i64 s)) ∧ (wx.cell? ⟨w.heap.size + 1, 2, none⟩ = some (.int .i64 x) ∧ wx.cell? ⟨w.heap.size + 1, 3, none⟩ = some (.int .i64 y)) ∧ wx.cell? ⟨w.heap.size + 1, 4, none⟩ = some (.slice (some ⟨gp, op, none⟩) P.length cap4)) := hide fun wx hx => ⟨⟨(tbV.kept hx).1, (tdV.kept hx).1⟩, HK2.out wx (bt bYV hx)⟩
              have HV4 := hide (And.intro hV (And.intro bYV (And.intro (HV.out.kept bYV) (And.intro (bt HY.out.2.1 bYV) (bt HY.out.2.2 bYV)))))
              have he : ∀ wx, (binOp .eql 23 (cel e1 e2) (cel e1 e2)).run Tryd.prog wx = .ok (.bool true) wx := fun wx => (eqC _ _ _ _ wx).trans (by simp)
              clear hV bV tbV tdV bYV
              refine wp_only ?_
              refine wp_region_z (fun wx : World => Below V.heap.size V wx) [] (by kernel_rfl) ?_
              rw [HV4.out.1]
              refine zx 0 10 32 rfl (by kernel_rfl) (Below.refl _ _) ?_
              iterate 2 (refine zxc rfl (by rfl) (fun wx hx => by obtain ⟨⟨⟨r0, r1⟩, r2, r3⟩, ⟨q0, q1⟩, ⟨q2, q3⟩, q4⟩ := HK4.out wx hx; go_simp; rfl) ?_; simp only [zp])
              refine zxc (v := .bool true) rfl (by rfl) (fun wx hx => by go_simp) ?_
              simp only [zp]
              iterate 7 (refine zxc rfl (by rfl) (fun wx hx => by obtain ⟨⟨⟨r0, r1⟩, r2, r3⟩, ⟨q0, q1⟩, ⟨q2, q3⟩, q4⟩ := HK4.out wx hx; go_simp; rfl) ?_; simp only [zp])
              refine zxn ?_
              refine zw 10 [] (by kernel_rfl) ?_
              refine readyZ.callG rfl (by rfl) (Rrleg6 (by rfl) (by rfl) (by simp only [zj]; rfl)) (HLg.out V HV4.out.2.2.2.1 _ Lf true HV4.out.2.2.1 HS.out.1.1) ?_ readyZ.nil
              rintro e V1 ⟨rfl, hb1⟩
              refine ⟨_, rfl, fun _ => hb1, ?_⟩
              simp only [zp]
              refine zx 11 5 32 rfl (by kernel_rfl) hb1 ?_
              iterate 2 (refine zxc (v := .bool true) rfl (by rfl) (fun wx hx => by go_simp) ?_; simp only [zp])
              iterate 3 (refine zxc rfl (by rfl) (fun wx hx => by obtain ⟨⟨⟨r0, r1⟩, r2, r3⟩, ⟨q0, q1⟩, ⟨q2, q3⟩, q4⟩ := HK4.out wx hx; go_simp; rfl) ?_; simp only [zp])
              refine zxn ?_
              refine zx 17 4 32 rfl (by kernel_rfl) hb1 ?_
              iterate 4 (refine zxc rfl (by rfl) (fun wx hx => by obtain ⟨⟨⟨r0, r1⟩, r2, r3⟩, ⟨q0, q1⟩, ⟨q2, q3⟩, q4⟩ := HK4.out wx hx; go_simp; rfl) ?_; simp only [zp])
              refine zxn ?_
              refine zw 16 [] (by kernel_rfl) ?_
              refine readyZ.callG rfl (by rfl) (Rrcost6 (by rfl) (by rfl) (by simp only [zj]; rfl)) (refpcost_at (HV4.out.2.2.1.kept hb1) HS.out.2.1.1) ?_ readyZ.nil
              rintro e V2 ⟨rfl, hb2⟩
              have hs2 := bt hb1 hb2
              refine ⟨_, rfl, fun _ => hs2, ?_⟩
              simp only [zp]
              refine zw 21 [] (by kernel_rfl) ?_
              refine readyZ.callG rfl (by rfl) (Rrcost6 (by rfl) (by rfl) (by simp only [zj]; rfl)) (refpcost_at (HGO.out V2 (bt HV4.out.2.2.2.2 hs2)).2 HS.out.2.1.2) ?_ readyZ.nil
              rintro e V3 ⟨rfl, hb3⟩
              have hs3 := bt hs2 hb3
              refine ⟨_, rfl, fun _ => hs3, ?_⟩
              simp only [zp]
              have hle := HS.out.2.2.1
              refine zx 22 3 32 rfl (by kernel_rfl) hs3 ?_
              iterate 3 (refine zxc (v := .bool true) rfl (by rfl) (fun wx hx => by go_simp) ?_; simp only [zp])
              refine zxn ?_
              have bX3 := bt HV4.out.2.2.2.2 hs3
              refine zw 25 [] (by kernel_rfl) ?_
              refine readyZ.callG rfl (by rfl) (Rawk (by rfl) (by rfl) (by simp only [zj])) (HAw.out V3 bX3) ?_ readyZ.nil
              rintro e V4 ⟨rfl, hb4⟩
              have hs4 := bt hs3 hb4
              refine ⟨_, rfl, fun _ => hs4, ?_⟩
              simp only [zp]
              refine zx 26 2 32 rfl (by kernel_rfl) hs4 ?_
              iterate 2 (refine zxc (v := .bool true) rfl (by rfl) (fun wx hx => by go_simp) ?_; simp only [zp])
              refine zxn ?_
              refine anyZ_done (by kernel_rfl) ?_ _
              dsimp only [Only, Exit.then]
              have HB9 := hide (bt HB0.out (bt bX3 hb4))
              clear hb1 hb2 hb3 hb4 hs2 hs3 hs4 bX3
              go_wp2_with fail
              go_ret
              exact ⟨rfl, HB9.out⟩
        · simp only [zp]
          refine zq 4 (v' := ptr n1) (w' := W2) (by kernel_rfl) rfl rfl (by rw [← hW2, ← hn1]; go_simp) (fun _ => bW2) ?_
          simp only [zp]
          obtain ⟨b, hbb⟩ : ∃ b, n1 = b := ⟨_, rfl⟩
          obtain ⟨d, hdd⟩ : ∃ d, n0 = d := ⟨_, rfl⟩
          rw [hbb, hdd]
          have tb : Two W2 b 0 0 := hbb ▸ hn1 ▸ t2
          have td : Two W2 d 0 0 := hdd ▸ hn0 ▸ t1
          have hbd : b ≠ d := by omega
          have hYb : Y.heap.size ≤ b := by omega
          have hYd : Y.heap.size ≤ d := by omega
          clear hbb hdd t1 t2 hn0 hn1
          obtain ⟨⟨b0, b1⟩, ⟨b2, b3⟩, -⟩ := id tb
          obtain ⟨Z1, hZ1⟩ : ∃ Z1, (W2.setCell ⟨b, 0, none⟩ (.int .i64 x)).setCell ⟨b, 1, none⟩ (.int .i64 y) = Z1 := ⟨_, rfl⟩
          have T1 := (Turns.set (S := fun j => j = b) W2 (p := ⟨b, 0, none⟩) rfl (.int .i64 x)).trans (Turns.set (S := fun j => j = b ∨ W2.heap.size ≤ j) _ (p := ⟨b, 1, none⟩) (.inl rfl) (.int .i64 y))
          have tb1 := tb.set (s := x) (t := y)
          rw [hZ1] at T1 tb1
          have td1 : Two Z1 d 0 0 := two_kept td T1 (fun e => hbd e.symm)
          have bZ1 : Below Y.heap.size Y Z1 := bW2.trans (T1.below (fun k e => by omega) bW2.size)
          refine zw 6 [] (by kernel_rfl) ?_
          refine readyZ.skip (w' := Z1) rfl rfl (by rw [← hZ1]; go_simp) (fun _ => bZ1) ?_ readyZ.nil
          simp only [zp]
          obtain ⟨⟨d0, d1⟩, ⟨d2, d3⟩, -⟩ := id td1
          obtain ⟨Z2, hZ2⟩ : ∃ Z2, (Z1.setCell ⟨d, 0, none⟩ (.int .i64 x)).setCell ⟨d, 1, none⟩ (.int .i64 y) = Z2 := ⟨_, rfl⟩
          have T2 := (Turns.set (S := fun j => j = d) Z1 (p := ⟨d, 0, none⟩) rfl (.int .i64 x)).trans (Turns.set (S := fun j => j = d ∨ Z1.heap.size ≤ j) _ (p := ⟨d, 1, none⟩) (.inl rfl) (.int .i64 y))
          have td2 := td1.set (s := x) (t := y)
          rw [hZ2] at T2 td2
          have tb2 : Two Z2 b x y := two_kept tb1 T2 (fun e => hbd e)
          have bZ2 : Below Y.heap.size Y Z2 := bZ1.trans (T2.below (fun k e => by omega) bZ1.size)
          refine zw 7 [] (by kernel_rfl) ?_
          refine readyZ.skip (w' := Z2) rfl rfl (by rw [← hZ2]; go_simp) (fun _ => bZ2) ?_ readyZ.nil
          simp only [zp]
          refine anyZ_done (by kernel_rfl) ?_ _
          dsimp only [Only, Exit.then]
          have HZ := hide (And.intro tb2 (And.intro td2 (And.intro bZ2 (And.intro hbd (And.intro hYb hYd)))))
          clear tb td hbd hYb hYd b0 b1 b2 b3 hZ1 T1 tb1 td1 bZ1 d0 d1 d2 d3 hZ2 T2 td2 tb2 bZ2 hW2 bW2
          obtain ⟨⟨q0, q1⟩, ⟨q2, q3⟩, q4⟩ := HK2.out Z2 HZ.out.2.2.1
          by_cases hP : P = []
          · have hLf : Lf = [] := by
              have := HS.out.2.2.2
              rw [hP] at this
              exact List.eq_nil_of_length_eq_zero (Nat.le_zero.1 this)
            have h1 : (Lf.length : Int) = 0 := by rw [hLf]; rfl
            have h2 : (P.length : Int) = 0 := by rw [hP]; rfl
            obtain ⟨e1, he1⟩ : ∃ e1, x = e1 := ⟨_, rfl⟩
            obtain ⟨e2, he2⟩ : ∃ e2, y = e2 := ⟨_, rfl⟩
            have HE : Hid (Two Z2 b e1 e2 ∧ Two Z2 d e1 e2 ∧ Below Y.heap.size Y Z2) := hide ⟨by rw [← he1, ← he2]; exact HZ.out.1, by rw [← he1, ← he2]; exact HZ.out.2.1, HZ.out.2.2.1⟩
            have hg1 : ¬ (0 : Int) < (Lf.length : Int) := by omega
            have hg2 : ¬ (0 : Int) < (P.length : Int) := by omega
            clear he1 he2 h1 h2 hP hLf
            go_wp2_with fail
            obtain ⟨V, hV⟩ : ∃ V, Z2.drew = V := ⟨_, rfl⟩
            have bV : Below Z2.heap.size Z2 V := by rw [← hV]; exact (Below.refl _ _).drew
            have tbV := HE.out.1.kept bV
            have tdV := HE.out.2.1.kept bV
            have bYV := bt HE.out.2.2 bV
            have HK4 : Hid (∀ wx, Below V.heap.size V wx → ((wx.cell? ⟨b, 0, none⟩ = some (.int .i64 e1) ∧ wx.cell? ⟨b, 1, none⟩ = some (.int .i64 e2)) ∧ (wx.cell? ⟨d, 0, none⟩ = some (.int .i64 e1) ∧ wx.cell? ⟨d, 1, none⟩ = some (.int .i64 e2))) ∧ (wx.cell? ⟨w.heap.size + 1, 0, none⟩ = some (.int .i64 c) ∧ wx.cell? ⟨w.heap.size + 1, 1, none⟩ = some (.int .i64 s)) ∧ (wx.cell? ⟨w.heap.size + 1, 2, none⟩ = some (.int .i64 x) ∧ wx.cell? ⟨w.heap.size + 1, 3, none⟩ = some (.int .i64 y)) ∧ wx.cell? ⟨w.heap.size + 1, 4, none⟩ = some (.slice a4 P.length cap4)) := hide fun wx hx => ⟨⟨(tbV.kept hx).1, (tdV.kept hx).1⟩, HK2.out wx (bt bYV hx)⟩
            have HV4 := hide (And.intro hV (And.intro bYV (And.intro (HV.out.kept bYV) (And.intro (bt HY.out.2.1 bYV) (bt HY.out.2.2 bYV)))))
            have he : ∀ wx, (binOp .eql 23 (cel e1 e2) (cel e1 e2)).run Tryd.prog wx = .ok (.bool true) wx := fun wx => (eqC _ _ _ _ wx).trans (by simp)
            clear hV bV tbV tdV bYV
            refine wp_only ?_
            refine wp_region_z (fun wx : World => Below V.heap.size V wx) [] (by kernel_rfl) ?_
            rw [HV4.out.1]
            refine zx 0 10 32 rfl (by kernel_rfl) (Below.refl _ _) ?_
            iterate 2 (refine zxc rfl (by rfl) (fun wx hx => by obtain ⟨⟨⟨r0, r1⟩, r2, r3⟩, ⟨q0, q1⟩, ⟨q2, q3⟩, q4⟩ := HK4.out wx hx; go_simp; rfl) ?_; simp only [zp])
            refine zxc (v := .bool true) rfl (by rfl) (fun wx hx => by go_simp) ?_
            simp only [zp]
            iterate 7 (refine zxc rfl (by rfl) (fun wx hx => by obtain ⟨⟨⟨r0, r1⟩, r2, r3⟩, ⟨q0, q1⟩, ⟨q2, q3⟩, q4⟩ := HK4.out wx hx; go_simp; rfl) ?_; simp only [zp])
            refine zxn ?_
            refine zw 10 [] (by kernel_rfl) ?_
            refine readyZ.callG rfl (by rfl) (Rrleg6 (by rfl) (by rfl) (by simp only [zj]; rfl)) (HLg.out V HV4.out.2.2.2.1 _ Lf true HV4.out.2.2.1 HS.out.1.1) ?_ readyZ.nil
            rintro e V1 ⟨rfl, hb1⟩
            refine ⟨_, rfl, fun _ => hb1, ?_⟩
            simp only [zp]
            refine zx 11 5 32 rfl (by kernel_rfl) hb1 ?_
            iterate 2 (refine zxc (v := .bool true) rfl (by rfl) (fun wx hx => by go_simp) ?_; simp only [zp])
            iterate 3 (refine zxc rfl (by rfl) (fun wx hx => by obtain ⟨⟨⟨r0, r1⟩, r2, r3⟩, ⟨q0, q1⟩, ⟨q2, q3⟩, q4⟩ := HK4.out wx hx; go_simp; rfl) ?_; simp only [zp])
            refine zxn ?_
            refine zx 17 4 32 rfl (by kernel_rfl) hb1 ?_
            iterate 4 (refine zxc rfl (by rfl) (fun wx hx => by obtain ⟨⟨⟨r0, r1⟩, r2, r3⟩, ⟨q0, q1⟩, ⟨q2, q3⟩, q4⟩ := HK4.out wx hx; go_simp; rfl) ?_; simp only [zp])
            refine zxn ?_
            refine zw 16 [] (by kernel_rfl) ?_
            refine readyZ.callG rfl (by rfl) (Rrcost6 (by rfl) (by rfl) (by simp only [zj]; rfl)) (refpcost_at (HV4.out.2.2.1.kept hb1) HS.out.2.1.1) ?_ readyZ.nil
            rintro e V2 ⟨rfl, hb2⟩
            have hs2 := bt hb1 hb2
            refine ⟨_, rfl, fun _ => hs2, ?_⟩
            simp only [zp]
            refine zw 21 [] (by kernel_rfl) ?_
            refine readyZ.callG rfl (by rfl) (Rrcost6 (by rfl) (by rfl) (by simp only [zj]; rfl)) (refpcost_at (HGO.out V2 (bt HV4.out.2.2.2.2 hs2)).2 HS.out.2.1.2) ?_ readyZ.nil
            rintro e V3 ⟨rfl, hb3⟩
            have hs3 := bt hs2 hb3
            refine ⟨_, rfl, fun _ => hs3, ?_⟩
            simp only [zp]
            have hle := HS.out.2.2.1
            refine zx 22 3 32 rfl (by kernel_rfl) hs3 ?_
            iterate 3 (refine zxc (v := .bool true) rfl (by rfl) (fun wx hx => by go_simp) ?_; simp only [zp])
            refine zxn ?_
            have bX3 := bt HV4.out.2.2.2.2 hs3
            refine zw 25 [] (by kernel_rfl) ?_
            refine readyZ.callG rfl (by rfl) (Rawk (by rfl) (by rfl) (by simp only [zj])) (HAw.out V3 bX3) ?_ readyZ.nil
            rintro e V4 ⟨rfl, hb4⟩
            have hs4 := bt hs3 hb4
            refine ⟨_, rfl, fun _ => hs4, ?_⟩
            simp only [zp]
            refine zx 26 2 32 rfl (by kernel_rfl) hs4 ?_
            iterate 2 (refine zxc (v := .bool true) rfl (by rfl) (fun wx hx => by go_simp) ?_; simp only [zp])
            refine zxn ?_
            refine anyZ_done (by kernel_rfl) ?_ _
            dsimp only [Only, Exit.then]
            have HB9 := hide (bt HB0.out (bt bX3 hb4))
            clear hb1 hb2 hb3 hb4 hs2 hs3 hs4 bX3
            go_wp2_with fail
            go_ret
            exact ⟨rfl, HB9.out⟩
          · have hp0 : 0 < P.length := List.length_pos_iff.2 hP
            have hg2 : (0 : Int) < (P.length : Int) := by omega
            obtain ⟨jp, hjp⟩ : ∃ jp : Nat, P.length - 1 = jp := ⟨_, rfl⟩
            have hjp1 : (P.length : Int) - 1 = (jp : Nat) := by omega
            have hjp2 : IntKind.i64.wrap ((jp : Nat) : Int) = (jp : Nat) := by rw [IntKind.wrap_i64]; omega
            have hjp3 : (jp : Int) < (P.length : Nat) := by omega
            have hlast := endL_last P (x, y) hP
            obtain ⟨q, hq⟩ : ∃ q, endL (x, y) P = q := ⟨_, rfl⟩
            obtain ⟨e1, e2⟩ := q
            rw [hq, hjp] at hlast
            have hcP := (HGO.out Y HY.out.2.2).2
            obtain ⟨gp, op, hga, hgl, hc0, hc1⟩ : ∃ g o, a4 = some ⟨g, o, none⟩ ∧ g < Y.heap.size ∧ Y.cell? ⟨g, o + jp * 2, none⟩ = some (.int .i64 e1) ∧ Y.cell? ⟨g, o + jp * 2 + 1, none⟩ = some (.int .i64 e2) := by
              obtain ⟨a', cap', he', _, _, _, hform⟩ := hcP
              obtain ⟨g', o', hgg, h0, h1, h2⟩ := hform jp _ hlast
              injection he' with h3 h4 h5
              exact ⟨g', o', h3.trans hgg, h0, h1, h2⟩
            subst hga
            have HCP : Hid (∀ wx, Below Y.heap.size Y wx → wx.cell? ⟨gp, op + jp * 2, none⟩ = some (.int .i64 e1) ∧ wx.cell? ⟨gp, op + jp * 2 + 1, none⟩ = some (.int .i64 e2)) := hide fun wx hx => ⟨(hx.cell (p := ⟨gp, _, none⟩) hgl).trans hc0, (hx.cell (p := ⟨gp, _, none⟩) hgl).trans hc1⟩
            have HQ := hide hq
            clear hcP hgl hc0 hc1 hlast hq hjp hP
            by_cases hLf : Lf = []
            · have hg1 : ¬ (0 : Int) < (Lf.length : Int) := by rw [hLf]; decide
              have hee : e1 = x ∧ e2 = y := by
                have h1 := HS.out.1.2
                rw [hLf, HQ.out] at h1
                exact ⟨(congrArg Prod.fst h1).symm, (congrArg Prod.snd h1).symm⟩
              obtain ⟨Z4, hZ4⟩ : ∃ Z4, (Z2.setCell ⟨d, 0, none⟩ (.int .i64 e1)).setCell ⟨d, 1, none⟩ (.int .i64 e2) = Z4 := ⟨_, rfl⟩
              have T4 := (Turns.set (S := fun j => j = d) Z2 (p := ⟨d, 0, none⟩) rfl (.int .i64 e1)).trans (Turns.set (S := fun j => j = d ∨ Z2.heap.size ≤ j) _ (p := ⟨d, 1, none⟩) (.inl rfl) (.int .i64 e2))
              have td4 := HZ.out.2.1.set (s := e1) (t := e2)
              rw [hZ4] at T4 td4
              have tb4 : Two Z4 b e1 e2 := by rw [hee.1, hee.2]; exact two_kept HZ.out.1 T4 HZ.out.2.2.2.1
              have bZ4 : Below Y.heap.size Y Z4 := HZ.out.2.2.1.trans (T4.below (fun k e => by have := HZ.out.2.2.2.2.2; omega) HZ.out.2.2.1.size)
              obtain ⟨c0, c1⟩ := HCP.out Z2 HZ.out.2.2.1
              obtain ⟨⟨d0, d1⟩, ⟨d2, d3⟩, -⟩ := HZ.out.2.1
              have HE := hide (And.intro tb4 (And.intro td4 bZ4))
              have HZ4 := hide hZ4
              clear hLf hee hZ4 T4 td4 tb4 bZ4
              go_wp2_with (rw [HZ4.out])
              obtain ⟨V, hV⟩ : ∃ V, Z4.drew = V := ⟨_, rfl⟩
              have bV : Below Z4.heap.size Z4 V := by rw [← hV]; exact (Below.refl _ _).drew
              have tbV := HE.out.1.kept bV
              have tdV := HE.out.2.1.kept bV
              have bYV := bt HE.out.2.2 bV
              have HK4 : Hid (∀ wx, Below V.heap.size V wx → ((wx.cell? ⟨b, 0, none⟩ = some (.int .i64 e1) ∧ wx.cell? ⟨b, 1, none⟩ = some (.int .i64 e2)) ∧ (wx.cell? ⟨d, 0, none⟩ = some (.int .i64 e1) ∧ wx.cell? ⟨d, 1, none⟩ = some (.int .i64 e2))) ∧ (wx.cell? ⟨w.heap.size + 1, 0, none⟩ = some (.int .i64 c) ∧ wx.cell? ⟨w.heap.size + 1, 1, none⟩ = some (.int .i64 s)) ∧ (wx.cell? ⟨w.heap.size + 1, 2, none⟩ = some (.int .i64 x) ∧ wx.cell? ⟨w.heap.size + 1, 3, none⟩ = some (.int .i64 y)) ∧ wx.cell? ⟨w.heap.size + 1, 4, none⟩ = some (.slice (some ⟨gp, op, none⟩) P.length cap4)) := hide fun wx hx => ⟨⟨(tbV.kept hx).1, (tdV.kept hx).1⟩, HK2.out wx (bt bYV hx)⟩
              have HV4 := hide (And.intro hV (And.intro bYV (And.intro (HV.out.kept bYV) (And.intro (bt HY.out.2.1 bYV) (bt HY.out.2.2 bYV)))))
              have he : ∀ wx, (binOp .eql 23 (cel e1 e2) (cel e1 e2)).run Tryd.prog wx = .ok (.bool true) wx := fun wx => (eqC _ _ _ _ wx).trans (by simp)
              clear hV bV tbV tdV bYV
              refine wp_only ?_
              refine wp_region_z (fun wx : World => Below V.heap.size V wx) [] (by kernel_rfl) ?_
              rw [HV4.out.1]
              refine zx 0 10 32 rfl (by kernel_rfl) (Below.refl _ _) ?_
              iterate 2 (refine zxc rfl (by rfl) (fun wx hx => by obtain ⟨⟨⟨r0, r1⟩, r2, r3⟩, ⟨q0, q1⟩, ⟨q2, q3⟩, q4⟩ := HK4.out wx hx; go_simp; rfl) ?_; simp only [zp])
              refine zxc (v := .bool true) rfl (by rfl) (fun wx hx => by go_simp) ?_
              simp only [zp]
              iterate 7 (refine zxc rfl (by rfl) (fun wx hx => by obtain ⟨⟨⟨r0, r1⟩, r2, r3⟩, ⟨q0, q1⟩, ⟨q2, q3⟩, q4⟩ := HK4.out wx hx; go_simp; rfl) ?_; simp only [zp])
              refine zxn ?_
              refine zw 10 [] (by kernel_rfl) ?_
              refine readyZ.callG rfl (by rfl) (Rrleg6 (by rfl) (by rfl) (by simp only [zj]; rfl)) (HLg.out V HV4.out.2.2.2.1 _ Lf true HV4.out.2.2.1 HS.out.1.1) ?_ readyZ.nil
              rintro e V1 ⟨rfl, hb1⟩
              refine ⟨_, rfl, fun _ => hb1, ?_⟩
              simp only [zp]
              refine zx 11 5 32 rfl (by kernel_rfl) hb1 ?_
              iterate 2 (refine zxc (v := .bool true) rfl (by rfl) (fun wx hx => by go_simp) ?_; simp only [zp])
              iterate 3 (refine zxc rfl (by rfl) (fun wx hx => by obtain ⟨⟨⟨r0, r1⟩, r2, r3⟩, ⟨q0, q1⟩, ⟨q2, q3⟩, q4⟩ := HK4.out wx hx; go_simp; rfl) ?_; simp only [zp])
              refine zxn ?_
              refine zx 17 4 32 rfl (by kernel_rfl) hb1 ?_
              iterate 4 (refine zxc rfl (by rfl) (fun wx hx => by obtain ⟨⟨⟨r0, r1⟩, r2, r3⟩, ⟨q0, q1⟩, ⟨q2, q3⟩, q4⟩ := HK4.out wx hx; go_simp; rfl) ?_; simp only [zp])
              refine zxn ?_
              refine zw 16 [] (by kernel_rfl) ?_
              refine readyZ.callG rfl (by rfl) (Rrcost6 (by rfl) (by rfl) (by simp only [zj]; rfl)) (refpcost_at (HV4.out.2.2.1.kept hb1) HS.out.2.1.1) ?_ readyZ.nil
              rintro e V2 ⟨rfl, hb2⟩
              have hs2 := bt hb1 hb2
              refine ⟨_, rfl, fun _ => hs2, ?_⟩
              simp only [zp]
              refine zw 21 [] (by kernel_rfl) ?_
              refine readyZ.callG rfl (by rfl) (Rrcost6 (by rfl) (by rfl) (by simp only [zj]; rfl)) (refpcost_at (HGO.out V2 (bt HV4.out.2.2.2.2 hs2)).2 HS.out.2.1.2) ?_ readyZ.nil
              rintro e V3 ⟨rfl, hb3⟩
              have hs3 := bt hs2 hb3
              refine ⟨_, rfl, fun _ => hs3, ?_⟩
              simp only [zp]
              have hle := HS.out.2.2.1
              refine zx 22 3 32 rfl (by kernel_rfl) hs3 ?_
              iterate 3 (refine zxc (v := .bool true) rfl (by rfl) (fun wx hx => by go_simp) ?_; simp only [zp])
              refine zxn ?_
              have bX3 := bt HV4.out.2.2.2.2 hs3
              refine zw 25 [] (by kernel_rfl) ?_
              refine readyZ.callG rfl (by rfl) (Rawk (by rfl) (by rfl) (by simp only [zj])) (HAw.out V3 bX3) ?_ readyZ.nil
              rintro e V4 ⟨rfl, hb4⟩
              have hs4 := bt hs3 hb4
              refine ⟨_, rfl, fun _ => hs4, ?_⟩
              simp only [zp]
              refine zx 26 2 32 rfl (by kernel_rfl) hs4 ?_
              iterate 2 (refine zxc (v := .bool true) rfl (by rfl) (fun wx hx => by go_simp) ?_; simp only [zp])
              refine zxn ?_
              refine anyZ_done (by kernel_rfl) ?_ _
              dsimp only [Only, Exit.then]
              have HB9 := hide (bt HB0.out (bt bX3 hb4))
              clear hb1 hb2 hb3 hb4 hs2 hs3 hs4 bX3
              go_wp2_with fail
              go_ret
              exact ⟨rfl, HB9.out⟩
            · have hl0 : 0 < Lf.length := List.length_pos_iff.2 hLf
              have hg1 : (0 : Int) < (Lf.length : Int) := by omega
              have hlb := HS.out.2.2.2
              obtain ⟨jl, hjl⟩ : ∃ jl : Nat, Lf.length - 1 = jl := ⟨_, rfl⟩
              have hjl1 : (Lf.length : Int) - 1 = (jl : Nat) := by omega
              have hjl2 : IntKind.i64.wrap ((jl : Nat) : Int) = (jl : Nat) := by rw [IntKind.wrap_i64]; omega
              have hjl3 : (jl : Int) < (Lf.length : Nat) := by omega
              have hlast := endL_last Lf (x, y) hLf
              rw [HS.out.1.2, HQ.out, hjl] at hlast
              have hcL := HV.out
              obtain ⟨gl, ol, hga, hgl, hc0, hc1⟩ : ∃ g o, a5 = some ⟨g, o, none⟩ ∧ g < Y.heap.size ∧ Y.cell? ⟨g, o + jl * 2, none⟩ = some (.int .i64 e1) ∧ Y.cell? ⟨g, o + jl * 2 + 1, none⟩ = some (.int .i64 e2) := by
                obtain ⟨a', cap', he', _, _, _, hform⟩ := hcL
                obtain ⟨g', o', hgg, h0, h1, h2⟩ := hform jl _ hlast
                injection he' with h3 h4 h5
                exact ⟨g', o', h3.trans hgg, h0, h1, h2⟩
              subst hga
              have cl0 : Z2.cell? ⟨gl, ol + jl * 2, none⟩ = some (.int .i64 e1) := (HZ.out.2.2.1.cell (p := ⟨gl, _, none⟩) hgl).trans hc0
              have cl1 : Z2.cell? ⟨gl, ol + jl * 2 + 1, none⟩ = some (.int .i64 e2) := (HZ.out.2.2.1.cell (p := ⟨gl, _, none⟩) hgl).trans hc1
              obtain ⟨Z3, hZ3⟩ : ∃ Z3, (Z2.setCell ⟨b, 0, none⟩ (.int .i64 e1)).setCell ⟨b, 1, none⟩ (.int .i64 e2) = Z3 := ⟨_, rfl⟩
              have T3 := (Turns.set (S := fun j => j = b) Z2 (p := ⟨b, 0, none⟩) rfl (.int .i64 e1)).trans (Turns.set (S := fun j => j = b ∨ Z2.heap.size ≤ j) _ (p := ⟨b, 1, none⟩) (.inl rfl) (.int .i64 e2))
              have tb3 := HZ.out.1.set (s := e1) (t := e2)
              rw [hZ3] at T3 tb3
              have td3 : Two Z3 d x y := two_kept HZ.out.2.1 T3 (fun e => HZ.out.2.2.2.1 e.symm)
              have bZ3 : Below Y.heap.size Y Z3 := HZ.out.2.2.1.trans (T3.below (fun k e => by have := HZ.out.2.2.2.2.1; omega) HZ.out.2.2.1.size)
              obtain ⟨Z4, hZ4⟩ : ∃ Z4, (Z3.setCell ⟨d, 0, none⟩ (.int .i64 e1)).setCell ⟨d, 1, none⟩ (.int .i64 e2) = Z4 := ⟨_, rfl⟩
              have T4 := (Turns.set (S := fun j => j = d) Z3 (p := ⟨d, 0, none⟩) rfl (.int .i64 e1)).trans (Turns.set (S := fun j => j = d ∨ Z3.heap.size ≤ j) _ (p := ⟨d, 1, none⟩) (.inl rfl) (.int .i64 e2))
              have td4 := td3.set (s := e1) (t := e2)
              rw [hZ4] at T4 td4
              have tb4 : Two Z4 b e1 e2 := two_kept tb3 T4 HZ.out.2.2.2.1
              have bZ4 : Below Y.heap.size Y Z4 := bZ3.trans (T4.below (fun k e => by have := HZ.out.2.2.2.2.2; omega) bZ3.size)
              obtain ⟨c0, c1⟩ := HCP.out Z3 bZ3
              obtain ⟨⟨p0, p1⟩, ⟨p2, p3⟩, p4⟩ := HK2.out Z3 bZ3
              obtain ⟨⟨b0, b1⟩, ⟨b2, b3⟩, -⟩ := HZ.out.1
              obtain ⟨⟨d0, d1⟩, ⟨d2, d3⟩, -⟩ := id td3
              have HE := hide (And.intro tb4 (And.intro td4 bZ4))
              have HZ34 := hide (And.intro hZ3 hZ4)
              clear hLf hZ3 hZ4 T3 T4 tb3 td3 td4 tb4 bZ3 bZ4 hcL hgl hc0 hc1 hlast hjl hlb
              go_wp2_with (first | rw [HZ34.out.1] | rw [HZ34.out.2])
              obtain ⟨V, hV⟩ : ∃ V, Z4.drew = V := ⟨_, rfl⟩
              have bV : Below Z4.heap.size Z4 V := by rw [← hV]; exact (Below.refl _ _).drew
              have tbV := HE.out.1.kept bV
              have tdV := HE.out.2.1.kept bV
              have bYV := bt HE.out.2.2 bV
              have HK4 : Hid (∀ wx, Below V.heap.size V wx → ((wx.cell? ⟨b, 0, none⟩ = some (.int .i64 e1) ∧ wx.cell? ⟨b, 1, none⟩ = some (.int .i64 e2)) ∧ (wx.cell? ⟨d, 0, none⟩ = some (.int .i64 e1) ∧ wx.cell? ⟨d, 1, none⟩ = some (.int .i64 e2))) ∧ (wx.cell? ⟨w.heap.size + 1, 0, none⟩ = some (.int .i64 c) ∧ wx.cell? ⟨w.heap.size + 1, 1, none⟩ = some (.int .i64 s)) ∧ (wx.cell? ⟨w.heap.size + 1, 2, none⟩ = some (.int .i64 x) ∧ wx.cell? ⟨w.heap.size + 1, 3, none⟩ = some (.int .i64 y)) ∧ wx.cell? ⟨w.heap.size + 1, 4, none⟩ = some (.slice (some ⟨gp, op, none⟩) P.length cap4)) := hide fun wx hx => ⟨⟨(tbV.kept hx).1, (tdV.kept hx).1⟩, HK2.out wx (bt bYV hx)⟩
              have HV4 := hide (And.intro hV (And.intro bYV (And.intro (HV.out.kept bYV) (And.intro (bt HY.out.2.1 bYV) (bt HY.out.2.2 bYV)))))
              have he : ∀ wx, (binOp .eql 23 (cel e1 e2) (cel e1 e2)).run Tryd.prog wx = .ok (.bool true) wx := fun wx => (eqC _ _ _ _ wx).trans (by simp)
              clear hV bV tbV tdV bYV
              refine wp_only ?_
              refine wp_region_z (fun wx : World => Below V.heap.size V wx) [] (by kernel_rfl) ?_
              rw [HV4.out.1]
              refine zx 0 10 32 rfl (by kernel_rfl) (Below.refl _ _) ?_
              iterate 2 (refine zxc rfl (by rfl) (fun wx hx => by obtain ⟨⟨⟨r0, r1⟩, r2, r3⟩, ⟨q0, q1⟩, ⟨q2, q3⟩, q4⟩ := HK4.out wx hx; go_simp; rfl) ?_; simp only [zp])
              refine zxc (v := .bool true) rfl (by rfl) (fun wx hx => by go_simp) ?_
              simp only [zp]
              iterate 7 (refine zxc rfl (by rfl) (fun wx hx => by obtain ⟨⟨⟨r0, r1⟩, r2, r3⟩, ⟨q0, q1⟩, ⟨q2, q3⟩, q4⟩ := HK4.out wx hx; go_simp; rfl) ?_; simp only [zp])
              refine zxn ?_
              refine zw 10 [] (by kernel_rfl) ?_
              refine readyZ.callG rfl (by rfl) (Rrleg6 (by rfl) (by rfl) (by simp only [zj]; rfl)) (HLg.out V HV4.out.2.2.2.1 _ Lf true HV4.out.2.2.1 HS.out.1.1) ?_ readyZ.nil
              rintro e V1 ⟨rfl, hb1⟩
              refine ⟨_, rfl, fun _ => hb1, ?_⟩
              simp only [zp]
              refine zx 11 5 32 rfl (by kernel_rfl) hb1 ?_
              iterate 2 (refine zxc (v := .bool true) rfl (by rfl) (fun wx hx => by go_simp) ?_; simp only [zp])
              iterate 3 (refine zxc rfl (by rfl) (fun wx hx => by obtain ⟨⟨⟨r0, r1⟩, r2, r3⟩, ⟨q0, q1⟩, ⟨q2, q3⟩, q4⟩ := HK4.out wx hx; go_simp; rfl) ?_; simp only [zp])
              refine zxn ?_
              refine zx 17 4 32 rfl (by kernel_rfl) hb1 ?_
              iterate 4 (refine zxc rfl (by rfl) (fun wx hx => by obtain ⟨⟨⟨r0, r1⟩, r2, r3⟩, ⟨q0, q1⟩, ⟨q2, q3⟩, q4⟩ := HK4.out wx hx; go_simp; rfl) ?_; simp only [zp])
              refine zxn ?_
              refine zw 16 [] (by kernel_rfl) ?_
              refine readyZ.callG rfl (by rfl) (Rrcost6 (by rfl) (by rfl) (by simp only [zj]; rfl)) (refpcost_at (HV4.out.2.2.1.kept hb1) HS.out.2.1.1) ?_ readyZ.nil
              rintro e V2 ⟨rfl, hb2⟩
              have hs2 := bt hb1 hb2
              refine ⟨_, rfl, fun _ => hs2, ?_⟩
              simp only [zp]
              refine zw 21 [] (by kernel_rfl) ?_
              refine readyZ.callG rfl (by rfl) (Rrcost6 (by rfl) (by rfl) (by simp only [zj]; rfl)) (refpcost_at (HGO.out V2 (bt HV4.out.2.2.2.2 hs2)).2 HS.out.2.1.2) ?_ readyZ.nil
              rintro e V3 ⟨rfl, hb3⟩
              have hs3 := bt hs2 hb3
              refine ⟨_, rfl, fun _ => hs3, ?_⟩
              simp only [zp]
              have hle := HS.out.2.2.1
              refine zx 22 3 32 rfl (by kernel_rfl) hs3 ?_
              iterate 3 (refine zxc (v := .bool true) rfl (by rfl) (fun wx hx => by go_simp) ?_; simp only [zp])
              refine zxn ?_
              have bX3 := bt HV4.out.2.2.2.2 hs3
              refine zw 25 [] (by kernel_rfl) ?_
              refine readyZ.callG rfl (by rfl) (Rawk (by rfl) (by rfl) (by simp only [zj])) (HAw.out V3 bX3) ?_ readyZ.nil
              rintro e V4 ⟨rfl, hb4⟩
              have hs4 := bt hs3 hb4
              refine ⟨_, rfl, fun _ => hs4, ?_⟩
              simp only [zp]
              refine zx 26 2 32 rfl (by kernel_rfl) hs4 ?_
              iterate 2 (refine zxc (v := .bool true) rfl (by rfl) (fun wx hx => by go_simp) ?_; simp only [zp])
              refine zxn ?_
              refine anyZ_done (by kernel_rfl) ?_ _
              dsimp only [Only, Exit.then]
              have HB9 := hide (bt HB0.out (bt bX3 hb4))
              clear hb1 hb2 hb3 hb4 hs2 hs3 hs4 bX3
              go_wp2_with fail
              go_ret
              exact ⟨rfl, HB9.out⟩
  · have HB := hide (both_no W H tv bv tl L X (hv.kept B0) hb (hl.kept B0) hc)
    obtain ⟨a1, cap1, rfl, -⟩ := hv
    obtain ⟨a2, cap2, rfl, -⟩ := hl
    obtain ⟨a4, cap4, rfl, -⟩ := hp
    clear hg ho hc hb MX AX hX B0
    go_enter Tryd.func5, Tryd.ntmps5
    go_wp2_with (rw [HX.out])
    refine HB.out.mono ?_
    rintro e w1 ⟨rfl, hb1⟩
    have Hb1 := hide hb1
    clear m0 m1 m2 m3 HB hb1
    go_wp2_with fail
    refine (HAw.out w1 Hb1.out).mono ?_
    rintro e w2 ⟨rfl, hb2⟩
    have Hb2 := hide (bt HB0.out (bt Hb1.out hb2))
    clear hb2
    go_wp2_with fail
    go_ret
    exact ⟨rfl, Hb2.out⟩
end Go.Proofs.YtekpamilcpeanaaDoor
