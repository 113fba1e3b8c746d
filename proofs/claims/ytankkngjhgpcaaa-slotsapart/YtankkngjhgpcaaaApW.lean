/-
  SlotsApart, walked.
-/
import Derived.Test.YtankkngjhgpcaaaRefMeet
import Derived.Test.YtankkngjhgpcaaaBxP
import Derived.Test.YtankkngjhgpcaaaAwk
namespace Go.Proofs.Ytankkngjhgpcaaa
open Go.RowKit
set_option linter.unusedVariables false
set_option linter.unusedSimpArgs false
theorem Rf15 : Rcl 15 := zl fun _ _ => by go_simp
theorem Rf14 : Rcl 14 := zl fun _ _ => by go_simp
/-- Two footprints of a layout don't meet. -/
theorem ft_apart {L : List (Int × Int)} {x y : Int} (h : layE L x y = 0) {i k : Nat} {q s : Int × Int} (hq : L[i]? = some q) (hs : L[k]? = some s) (hik : i ≠ k) : mtB (ftAt L x y i).1 (ftAt L x y i).2.1 (ftAt L x y i).2.2.1 (ftAt L x y i).2.2.2 (ftAt L x y k).1 (ftAt L x y k).2.1 (ftAt L x y k).2.2.1 (ftAt L x y k).2.2.2 = false := by
  obtain ⟨hl, hall, hpos, hx, hy⟩ := layE_ok h
  obtain ⟨p0, p4⟩ := pitch_ok hall
  have e1 := (ft_in h hq).2.2
  have e2 := (ft_in h hs).2.2
  have g1 := (pitchF_ge L 0).2 q (List.mem_of_getElem? hq)
  have g2 := (pitchF_ge L 0).2 s (List.mem_of_getElem? hs)
  have ha := feet_apart (x := x) (y := y) (p := pitchF L 0) (c := colF L.length) (m := colF L.length / 2) (r := rowF L.length (colF L.length) / 2) g1 g2 p0 hik
  rw [e1, e2]
  dsimp only [layAt] at ha ⊢
  generalize plc1 x (pitchF L 0) (i % colF L.length) (colF L.length / 2) = a1 at ha ⊢
  generalize plc1 x (pitchF L 0) (k % colF L.length) (colF L.length / 2) = a2 at ha ⊢
  generalize plc1 y (pitchF L 0) (i / colF L.length) (rowF L.length (colF L.length) / 2) = b1 at ha ⊢
  generalize plc1 y (pitchF L 0) (k / colF L.length) (rowF L.length (colF L.length) / 2) = b2 at ha ⊢
  cases hm : mtB a1 b1 q.2 q.2 a2 b2 s.2 s.2
  · rfl
  · simp only [mtB, Bool.and_eq_true, decide_eq_true_eq] at hm
    omega
theorem meet_no {r s : R4} (w : World) (h : mtB r.1 r.2.1 r.2.2.1 r.2.2.2 s.1 s.2.1 s.2.2.1 s.2.2.2 = false) : Calls Try.prog 14 #[rv r, rv s] w fun e w' => e = .returned (.tuple #[rv (0, 0, 0, 0), .bool false]) ∧ Below w.heap.size w w' := by
  have := refmeet_any r.1 r.2.1 r.2.2.1 r.2.2.2 s.1 s.2.1 s.2.2.1 s.2.2.2 w
  rw [mtV_no h, h] at this
  exact this
/-- A layout elsewhere: the same, moved. -/
theorem lay_moved (n : Nat) (p x y : Int) (i : Nat) : layAt n p x y i = ((layAt n p 0 0 i).1 + x, (layAt n p 0 0 i).2 + y) := by
  unfold layAt
  rw [plc1_zero x, plc1_zero y]
set_option maxRecDepth 100000 in
set_option maxHeartbeats 8000000 in
theorem apart_walk (v : Value) (L : List (Int × Int)) (x y : Int) (w : World) (hv : CeR w v L) : Calls Try.prog 5 #[v, pr x y] w fun e w' => e = .returned (.bool true) ∧ Below w.heap.size w w' := by
  obtain ⟨a, cap, rfl, hcap, hmax⟩ := hv.slice
  obtain ⟨l0, l1⟩ := len63 hmax
  obtain ⟨X, hX⟩ : ∃ X, w.alloc (.cells #[.int .i64 x, .int .i64 y] 24) = X := ⟨_, rfl⟩
  have BX : Below w.heap.size w X := by rw [← hX]; exact box1 _ _
  have KX : Bk X w.heap.size 24 [.int .i64 x, .int .i64 y] := by rw [← hX]; exact Bk.new _ _ _
  have HV := hide (hv.kept BX)
  have HX := hide hX
  have HK := hide KX
  have HB := hide BX
  have HL := hide (layout_is _ L 0 0 X HV.out)
  clear hX KX BX hv
  by_cases h0 : layE L 0 0 = 0
  case neg =>
    have h0' := hide h0
    generalize hz : layE L 0 0 = z at h0
    have hz := hide hz
    go_enter Try.func5, Try.ntmps5
    go_wp2_with (rw [HX.out])
    refine HL.out.mono ?_
    rintro e w1 ⟨u1, rfl, hc1, hb1⟩
    rw [hz.out]
    rw [layP_no h0'.out] at hc1
    obtain ⟨a1, k1, rfl, -, -⟩ := hc1.slice
    have HB1 := hide (bt HB.out hb1)
    clear hb1 hc1
    go_wp2_with fail
    refine (awake_any _).mono ?_
    rintro e w2 ⟨rfl, hb2⟩
    have HB2 := hide (bt HB1.out hb2)
    clear hb2
    go_wp2_with fail
    go_ret
    exact ⟨rfl, HB2.out⟩
  obtain ⟨hl, hall, hpos, -, -⟩ := layE_ok h0
  have h0 := hide h0
  go_enter Try.func5, Try.ntmps5
  go_wp2_with (rw [HX.out])
  refine HL.out.mono ?_
  rintro e w1 ⟨u1, rfl, hc1, hb1⟩
  rw [h0.out]
  rw [layP_yes h0.out] at hc1
  obtain ⟨a1, k1, rfl, -, -⟩ := hc1.slice
  rw [lay_len] at hc1 ⊢
  have HB1 := hide (bt HB.out hb1)
  have HK1 := hide (HK.out.upto hb1)
  have HV1 := hide (HV.out.kept hb1)
  have HC1 := hide hc1
  clear hb1 hc1 HL HX HV HK HB
  go_wp2_with fail
  go_loopw [7] (fun s7 wr => ∃ i : Nat, i ≤ L.length ∧ s7 = .int .i64 i ∧ Below w1.heap.size w1 wr) (fun s7 _ => L.length - (intOf s7).toNat)
  case atStart => exact ⟨0, Nat.zero_le _, rfl, Below.refl _ _⟩
  case round =>
    obtain ⟨i, hi, rfl, hBi⟩ := hrel
    by_cases hlt : i < L.length
    · have hii : (i : Int) < (L.length : Nat) := by omega
      obtain ⟨q, hq⟩ : ∃ q, L[i]? = some q := ⟨_, List.getElem?_eq_getElem hlt⟩
      obtain ⟨P1, P2, hP, hPg⟩ := lay_at (x := 0) (y := 0) hq
      have HF1 := hide (fun W => reffoot_at h0.out hq hP W)
      have HBi := hide hBi
      clear hBi
      go_wp2_with fail
      go_loopw [8] (fun s8 wr => ∃ k : Nat, k ≤ i ∧ s8 = .int .i64 k ∧ Below w1.heap.size w1 wr) (fun s8 _ => i - (intOf s8).toNat)
      case atStart => exact ⟨0, Nat.zero_le _, rfl, HBi.out⟩
      case round =>
        obtain ⟨k, hk, rfl, hB⟩ := hrel
        by_cases hlt2 : k < i
        · have hki : (k : Int) < (i : Nat) := by omega
          have hkl : (k : Int) < (L.length : Nat) := by omega
          obtain ⟨s, hs⟩ : ∃ q, L[k]? = some q := ⟨_, List.getElem?_eq_getElem (by omega)⟩
          obtain ⟨Q1, Q2, hQ, hQg⟩ := lay_at (x := 0) (y := 0) hs
          have HF2 := hide (fun W => reffoot_at h0.out hs hQ W)
          have HM := hide (fun W => meet_no W (ft_apart h0.out hq hs (by omega)))
          have HB := hide hB
          clear hB
          go_upto_region 10 with fail
          go_cut [10] (fun s10 wx => s10 = .bool false ∧ Below w1.heap.size w1 wx)
          case first =>
            obtain ⟨g, o, hga, hgl, c0, c1⟩ := CeR.at (HV1.out.kept HB.out) rfl hq
            obtain ⟨g2, o2, hga2, hgl2, d0, d1⟩ := CeR.at (HC1.out.kept HB.out) (by rfl) hPg
            obtain ⟨g3, o3, hga3, hgl3, c2, c3⟩ := CeR.at (HV1.out.kept HB.out) rfl hs
            obtain ⟨g4, o4, hga4, hgl4, d2, d3⟩ := CeR.at (HC1.out.kept HB.out) (by rfl) hQg
            subst hga
            subst hga2
            cases hga3
            cases hga4
            obtain ⟨Y, hY⟩ : ∃ Y, wr.drew = Y := ⟨_, rfl⟩
            have HR := hide (show ∀ wx, Below Y.heap.size Y wx → ((wx.cell? ⟨g, o + i * 2, none⟩ = some (.int .i64 q.1) ∧ wx.cell? ⟨g, o + i * 2 + 1, none⟩ = some (.int .i64 q.2)) ∧ (wx.cell? ⟨g2, o2 + i * 2, none⟩ = some (.int .i64 P1) ∧ wx.cell? ⟨g2, o2 + i * 2 + 1, none⟩ = some (.int .i64 P2))) ∧ (wx.cell? ⟨g, o + k * 2, none⟩ = some (.int .i64 s.1) ∧ wx.cell? ⟨g, o + k * 2 + 1, none⟩ = some (.int .i64 s.2)) ∧ (wx.cell? ⟨g2, o2 + k * 2, none⟩ = some (.int .i64 Q1) ∧ wx.cell? ⟨g2, o2 + k * 2 + 1, none⟩ = some (.int .i64 Q2)) from fun wx hb => by
              rw [← hY] at hb
              exact ⟨⟨⟨(hb.cell (p := ⟨g, o + i * 2, none⟩) hgl).trans c0, (hb.cell (p := ⟨g, o + i * 2 + 1, none⟩) hgl).trans c1⟩, ⟨(hb.cell (p := ⟨g2, o2 + i * 2, none⟩) hgl2).trans d0, (hb.cell (p := ⟨g2, o2 + i * 2 + 1, none⟩) hgl2).trans d1⟩⟩, ⟨(hb.cell (p := ⟨g, o + k * 2, none⟩) hgl).trans c2, (hb.cell (p := ⟨g, o + k * 2 + 1, none⟩) hgl).trans c3⟩, ⟨(hb.cell (p := ⟨g2, o2 + k * 2, none⟩) hgl2).trans d2, (hb.cell (p := ⟨g2, o2 + k * 2 + 1, none⟩) hgl2).trans d3⟩⟩)
            have BY := hide (show Below w1.heap.size w1 Y by rw [← hY]; exact HB.out.drew)
            have hsY := hide BY.out.size
            have HY := hide hY
            clear hY c0 c1 d0 d1 c2 c3 d2 d3
            refine wp_only ?_
            refine wp_region_z (fun wx : World => Below Y.heap.size Y wx) [] (by kernel_rfl) ?_
            rw [HY.out]
            refine zx 0 8 25 rfl (by kernel_rfl) (Below.refl _ _) ?_
            iterate 8 (refine zxc rfl (by rfl) (fun wx hx => by obtain ⟨⟨⟨c0, c1⟩, d0, d1⟩, -⟩ := HR.out wx hx; go_simp; rfl) ?_; simp only [zp])
            refine zxn ?_
            refine zx 9 8 25 rfl (by kernel_rfl) (Below.refl _ _) ?_
            iterate 8 (refine zxc rfl (by rfl) (fun wx hx => by obtain ⟨-, ⟨c0, c1⟩, d0, d1⟩ := HR.out wx hx; go_simp; rfl) ?_; simp only [zp])
            refine zxn ?_
            have B0 : Below Y.heap.size Y Y := Below.refl _ _
            refine zw 8 [22] (by kernel_rfl) ?_
            refine readyZ.call rfl rfl (Rf15 (by rfl) (by rfl) (by simp only [zj]; rfl)) (HF1.out Y) ?_ ?_
            · rintro e V8 ⟨rfl, hV8⟩
              have BV8 : Below Y.heap.size Y V8 := bt B0 hV8
              refine ⟨_, rfl, fun _ => BV8, ?_⟩
              simp only [zp]
              refine zw 17 [22] (by kernel_rfl) ?_
              refine readyZ.call rfl rfl (Rf15 (by rfl) (by rfl) (by simp only [zj]; rfl)) (HF2.out V8) ?_ ?_
              · rintro e V17 ⟨rfl, hV17⟩
                have BV17 : Below Y.heap.size Y V17 := bt BV8 hV17
                refine ⟨_, rfl, fun _ => BV17, ?_⟩
                simp only [zp]
                refine zw 18 [22] (by kernel_rfl) ?_
                refine readyZ.call rfl rfl (Rf14 (by rfl) (by rfl) (by simp only [zj]; rfl)) (HM.out V17) ?_ ?_
                · rintro e V18 ⟨rfl, hV18⟩
                  have BV18 : Below Y.heap.size Y V18 := bt BV17 hV18
                  refine ⟨_, rfl, fun _ => BV18, ?_⟩
                  simp only [zp]
                  refine zx 19 3 25 rfl (by kernel_rfl) (BV18) ?_
                  iterate 3 (refine zxc rfl (by rfl) (fun wx hx => by go_simp; rfl) ?_; simp only [zp])
                  refine zxn ?_
                  obtain ⟨Az, hAz⟩ : ∃ V, V18.alloc (.cells #[.int .i64 0, .int .i64 0, .int .i64 0, .int .i64 0] 34) = V := ⟨_, rfl⟩
                  have KAz : Bk Az V18.heap.size 34 (r4s (0, 0, 0, 0)) := by rw [← hAz]; exact Bk.new _ _ _
                  have BAz : Below Y.heap.size Y Az := by rw [← hAz]; exact bt BV18 (box1 _ _)
                  have hzAz := BV18.size
                  refine zq 22 (by kernel_rfl) rfl rfl (v' := ptr V18.heap.size) (w' := Az) (by rw [← hAz]; go_simp) (fun _ => BAz) ?_
                  simp only [zp]
                  clear hAz
                  have f0 := KAz.frozen 0
                  have f1 := KAz.frozen 1
                  have f2 := KAz.frozen 2
                  have f3 := KAz.frozen 3
                  have r0 := KAz.cell 0 _ rfl
                  have r1 := KAz.cell 1 _ rfl
                  have r2 := KAz.cell 2 _ rfl
                  have r3 := KAz.cell 3 _ rfl
                  have bz : Below Y.heap.size Y (put4 Az V18.heap.size (0, 0, 0, 0)) := four_below BAz (by omega) _ _ _ _
                  refine zw 23 [] (by kernel_rfl) ?_
                  refine readyZ.skip (w' := put4 Az V18.heap.size (0, 0, 0, 0)) rfl rfl (by go_simp) (fun _ => bz) ?_ readyZ.nil
                  refine zq 24 (v' := .bool false) (by kernel_rfl) rfl rfl (run_as rfl rfl) (fun _ => bz) ?_
                  refine anyZ_done (by kernel_rfl) ?_ _
                  dsimp only [Only, Exit.then]
                  simp only [zp]
                  go_wp2_with fail
                  go_meet
                  exact ⟨rfl, BY.out.trans (bz.mono hsY.out)⟩
                · obtain ⟨A18, hA18⟩ : ∃ V, V17.alloc (.cells #[.int .i64 0, .int .i64 0, .int .i64 0, .int .i64 0] 34) = V := ⟨_, rfl⟩
                  have KA18 : Bk A18 V17.heap.size 34 (r4s (0, 0, 0, 0)) := by rw [← hA18]; exact Bk.new _ _ _
                  have BA18 : Below Y.heap.size Y A18 := by rw [← hA18]; exact bt BV17 (box1 _ _)
                  refine readyZ.cons rfl rfl (v' := ptr V17.heap.size) (w' := A18) (by rw [← hA18]; go_simp) (fun _ => BA18) ?_ readyZ.nil
                  have hzA18 := BV17.size
                  simp only [zp]
                  clear hA18
                  refine zw 18 [] (by kernel_rfl) ?_
                  refine readyZ.call rfl rfl (Rf14 (by rfl) (by rfl) (by simp only [zj]; rfl)) (HM.out A18) ?_ readyZ.nil
                  rintro e Vx18 ⟨rfl, hVx18⟩
                  have BVx18 : Below Y.heap.size Y Vx18 := bt BA18 hVx18
                  have KVx18 := KA18.upto hVx18
                  refine ⟨_, rfl, fun _ => BVx18, ?_⟩
                  simp only [zp]
                  refine zx 19 3 25 rfl (by kernel_rfl) (BVx18) ?_
                  iterate 3 (refine zxc rfl (by rfl) (fun wx hx => by go_simp; rfl) ?_; simp only [zp])
                  refine zxn ?_
                  have f0 := KVx18.frozen 0
                  have f1 := KVx18.frozen 1
                  have f2 := KVx18.frozen 2
                  have f3 := KVx18.frozen 3
                  have r0 := KVx18.cell 0 _ rfl
                  have r1 := KVx18.cell 1 _ rfl
                  have r2 := KVx18.cell 2 _ rfl
                  have r3 := KVx18.cell 3 _ rfl
                  have bz : Below Y.heap.size Y (put4 Vx18 V17.heap.size (0, 0, 0, 0)) := four_below BVx18 (by omega) _ _ _ _
                  refine zw 23 [] (by kernel_rfl) ?_
                  refine readyZ.skip (w' := put4 Vx18 V17.heap.size (0, 0, 0, 0)) rfl rfl (by go_simp) (fun _ => bz) ?_ readyZ.nil
                  refine zq 24 (v' := .bool false) (by kernel_rfl) rfl rfl (run_as rfl rfl) (fun _ => bz) ?_
                  refine anyZ_done (by kernel_rfl) ?_ _
                  dsimp only [Only, Exit.then]
                  simp only [zp]
                  go_wp2_with fail
                  go_meet
                  exact ⟨rfl, BY.out.trans (bz.mono hsY.out)⟩
              · obtain ⟨A17, hA17⟩ : ∃ V, V8.alloc (.cells #[.int .i64 0, .int .i64 0, .int .i64 0, .int .i64 0] 34) = V := ⟨_, rfl⟩
                have KA17 : Bk A17 V8.heap.size 34 (r4s (0, 0, 0, 0)) := by rw [← hA17]; exact Bk.new _ _ _
                have BA17 : Below Y.heap.size Y A17 := by rw [← hA17]; exact bt BV8 (box1 _ _)
                refine readyZ.cons rfl rfl (v' := ptr V8.heap.size) (w' := A17) (by rw [← hA17]; go_simp) (fun _ => BA17) ?_ readyZ.nil
                have hzA17 := BV8.size
                simp only [zp]
                clear hA17
                refine zw 17 [] (by kernel_rfl) ?_
                refine readyZ.call rfl rfl (Rf15 (by rfl) (by rfl) (by simp only [zj]; rfl)) (HF2.out A17) ?_ readyZ.nil
                rintro e Vx17 ⟨rfl, hVx17⟩
                have BVx17 : Below Y.heap.size Y Vx17 := bt BA17 hVx17
                have KVx17 := KA17.upto hVx17
                refine ⟨_, rfl, fun _ => BVx17, ?_⟩
                simp only [zp]
                refine zw 18 [] (by kernel_rfl) ?_
                refine readyZ.call rfl rfl (Rf14 (by rfl) (by rfl) (by simp only [zj]; rfl)) (HM.out Vx17) ?_ readyZ.nil
                rintro e Vx18 ⟨rfl, hVx18⟩
                have BVx18 : Below Y.heap.size Y Vx18 := bt BVx17 hVx18
                have KVx18 := KVx17.upto hVx18
                refine ⟨_, rfl, fun _ => BVx18, ?_⟩
                simp only [zp]
                refine zx 19 3 25 rfl (by kernel_rfl) (BVx18) ?_
                iterate 3 (refine zxc rfl (by rfl) (fun wx hx => by go_simp; rfl) ?_; simp only [zp])
                refine zxn ?_
                have f0 := KVx18.frozen 0
                have f1 := KVx18.frozen 1
                have f2 := KVx18.frozen 2
                have f3 := KVx18.frozen 3
                have r0 := KVx18.cell 0 _ rfl
                have r1 := KVx18.cell 1 _ rfl
                have r2 := KVx18.cell 2 _ rfl
                have r3 := KVx18.cell 3 _ rfl
                have bz : Below Y.heap.size Y (put4 Vx18 V8.heap.size (0, 0, 0, 0)) := four_below BVx18 (by omega) _ _ _ _
                refine zw 23 [] (by kernel_rfl) ?_
                refine readyZ.skip (w' := put4 Vx18 V8.heap.size (0, 0, 0, 0)) rfl rfl (by go_simp) (fun _ => bz) ?_ readyZ.nil
                refine zq 24 (v' := .bool false) (by kernel_rfl) rfl rfl (run_as rfl rfl) (fun _ => bz) ?_
                refine anyZ_done (by kernel_rfl) ?_ _
                dsimp only [Only, Exit.then]
                simp only [zp]
                go_wp2_with fail
                go_meet
                exact ⟨rfl, BY.out.trans (bz.mono hsY.out)⟩
            · obtain ⟨A8, hA8⟩ : ∃ V, Y.alloc (.cells #[.int .i64 0, .int .i64 0, .int .i64 0, .int .i64 0] 34) = V := ⟨_, rfl⟩
              have KA8 : Bk A8 Y.heap.size 34 (r4s (0, 0, 0, 0)) := by rw [← hA8]; exact Bk.new _ _ _
              have BA8 : Below Y.heap.size Y A8 := by rw [← hA8]; exact bt B0 (box1 _ _)
              refine readyZ.cons rfl rfl (v' := ptr Y.heap.size) (w' := A8) (by rw [← hA8]; go_simp) (fun _ => BA8) ?_ readyZ.nil
              have hzA8 := B0.size
              simp only [zp]
              clear hA8
              refine zw 8 [] (by kernel_rfl) ?_
              refine readyZ.call rfl rfl (Rf15 (by rfl) (by rfl) (by simp only [zj]; rfl)) (HF1.out A8) ?_ readyZ.nil
              rintro e Vx8 ⟨rfl, hVx8⟩
              have BVx8 : Below Y.heap.size Y Vx8 := bt BA8 hVx8
              have KVx8 := KA8.upto hVx8
              refine ⟨_, rfl, fun _ => BVx8, ?_⟩
              simp only [zp]
              refine zw 17 [] (by kernel_rfl) ?_
              refine readyZ.call rfl rfl (Rf15 (by rfl) (by rfl) (by simp only [zj]; rfl)) (HF2.out Vx8) ?_ readyZ.nil
              rintro e Vx17 ⟨rfl, hVx17⟩
              have BVx17 : Below Y.heap.size Y Vx17 := bt BVx8 hVx17
              have KVx17 := KVx8.upto hVx17
              refine ⟨_, rfl, fun _ => BVx17, ?_⟩
              simp only [zp]
              refine zw 18 [] (by kernel_rfl) ?_
              refine readyZ.call rfl rfl (Rf14 (by rfl) (by rfl) (by simp only [zj]; rfl)) (HM.out Vx17) ?_ readyZ.nil
              rintro e Vx18 ⟨rfl, hVx18⟩
              have BVx18 : Below Y.heap.size Y Vx18 := bt BVx17 hVx18
              have KVx18 := KVx17.upto hVx18
              refine ⟨_, rfl, fun _ => BVx18, ?_⟩
              simp only [zp]
              refine zx 19 3 25 rfl (by kernel_rfl) (BVx18) ?_
              iterate 3 (refine zxc rfl (by rfl) (fun wx hx => by go_simp; rfl) ?_; simp only [zp])
              refine zxn ?_
              have f0 := KVx18.frozen 0
              have f1 := KVx18.frozen 1
              have f2 := KVx18.frozen 2
              have f3 := KVx18.frozen 3
              have r0 := KVx18.cell 0 _ rfl
              have r1 := KVx18.cell 1 _ rfl
              have r2 := KVx18.cell 2 _ rfl
              have r3 := KVx18.cell 3 _ rfl
              have bz : Below Y.heap.size Y (put4 Vx18 Y.heap.size (0, 0, 0, 0)) := four_below BVx18 (by omega) _ _ _ _
              refine zw 23 [] (by kernel_rfl) ?_
              refine readyZ.skip (w' := put4 Vx18 Y.heap.size (0, 0, 0, 0)) rfl rfl (by go_simp) (fun _ => bz) ?_ readyZ.nil
              refine zq 24 (v' := .bool false) (by kernel_rfl) rfl rfl (run_as rfl rfl) (fun _ => bz) ?_
              refine anyZ_done (by kernel_rfl) ?_ _
              dsimp only [Only, Exit.then]
              simp only [zp]
              go_wp2_with fail
              go_meet
              exact ⟨rfl, BY.out.trans (bz.mono hsY.out)⟩
          case rest =>
            obtain ⟨rfl, hB⟩ := hcut
            have HB2 := hide hB
            clear hB
            go_wp2_with fail
            go_roundw
            case rel => exact ⟨k + 1, by omega, by go_num, HB2.out⟩
            case measure => simp [intOf]; omega
        · have hki : ¬ (k : Int) < (i : Nat) := by omega
          go_wp2_with fail
          go_roundw
          case rel => exact ⟨i + 1, by omega, by go_num, hB⟩
          case measure => simp [intOf]; omega
    · obtain rfl : i = L.length := by omega
      have hii : ¬ ((L.length : Nat) : Int) < (L.length : Nat) := by omega
      have x0 := (HK1.out.upto hBi).cell 0 _ rfl
      have x1 := (HK1.out.upto hBi).cell 1 _ rfl
      have HV2 := hide (HV1.out.kept hBi)
      have HC2 := hide (HC1.out.kept hBi)
      have HK2 := hide (HK1.out.upto hBi)
      have HB2 := hide (bt HB1.out hBi)
      have HL2 := hide (layout_is _ L x y _ HV2.out)
      clear hBi
      by_cases h2 : layE L x y = 0
      case neg =>
        have h2' := hide h2
        generalize hz : layE L x y = z at h2
        have hz := hide hz
        go_wp2_with fail
        refine HL2.out.mono ?_
        rintro e w3 ⟨u3, rfl, hc3, hb3⟩
        rw [hz.out]
        obtain ⟨a3, k3, rfl, -, -⟩ := hc3.slice
        have HB3 := hide (bt HB2.out hb3)
        clear hb3 hc3 x0 x1
        go_wp2_with fail
        refine (awake_any _).mono ?_
        rintro e w4 ⟨rfl, hb4⟩
        have HB4 := hide (bt HB3.out hb4)
        clear hb4
        go_wp2_with fail
        go_ret
        exact ⟨rfl, HB4.out⟩
      obtain ⟨-, -, -, ⟨hx1, hx2⟩, ⟨hy1, hy2⟩⟩ := layE_ok h2
      have h2 := hide h2
      go_wp2_with fail
      refine HL2.out.mono ?_
      rintro e w3 ⟨u3, rfl, hc3, hb3⟩
      rw [h2.out]
      rw [layP_yes h2.out] at hc3
      obtain ⟨a3, k3, rfl, -, -⟩ := hc3.slice
      rw [lay_len] at hc3 ⊢
      have HB3 := hide (bt HB2.out hb3)
      have HC2 := hide (HC2.out.kept hb3)
      have HC3 := hide hc3
      have HK3 := hide (HK2.out.upto hb3)
      clear hb3 hc3 x0 x1
      go_wp2_with fail
      go_loopw [12] (fun s12 wr => ∃ k : Nat, k ≤ L.length ∧ s12 = .int .i64 k ∧ Below w3.heap.size w3 wr) (fun s12 _ => L.length - (intOf s12).toNat)
      case atStart => exact ⟨0, Nat.zero_le _, rfl, Below.refl _ _⟩
      case round =>
        obtain ⟨k, hk, rfl, hB⟩ := hrel
        by_cases hlt : k < L.length
        · have hki : (k : Int) < (L.length : Nat) := by omega
          obtain ⟨q, hq⟩ : ∃ q, L[k]? = some q := ⟨_, List.getElem?_eq_getElem hlt⟩
          obtain ⟨P1, P2, hP, hPg⟩ := lay_at (x := 0) (y := 0) hq
          obtain ⟨Q1, Q2, hQ, hQg⟩ := lay_at (x := x) (y := y) hq
          have hmv := lay_moved L.length (pitchF L 0) x y k
          rw [hP, hQ] at hmv
          obtain ⟨rfl, rfl⟩ := Prod.mk.inj hmv
          obtain ⟨p0, p4⟩ := pitch_ok hall
          have hbd := layAt_bound (x := 0) (y := 0) hl hlt p0 p4
          rw [hP] at hbd
          dsimp only at hbd hQg ⊢
          obtain ⟨g2, o2, hga2, hgl2, d0, d1⟩ := CeR.at (HC2.out.kept hB) rfl hPg
          obtain ⟨g3, o3, hga3, hgl3, c0, c1⟩ := CeR.at (HC3.out.kept hB) (by rfl) hQg
          subst hga2
          subst hga3
          obtain ⟨Y, hY⟩ : ∃ Y, wr.drew = Y := ⟨_, rfl⟩
          have HKY := hide (show Bk Y w.heap.size 24 [.int .i64 x, .int .i64 y] by rw [← hY]; exact HK3.out.upto hB.drew)
          have c0 : Y.cell? ⟨g3, o3 + k * 2, none⟩ = some (.int .i64 (P1 + x)) := by rw [← hY]; exact c0
          have c1 : Y.cell? ⟨g3, o3 + k * 2 + 1, none⟩ = some (.int .i64 (P2 + y)) := by rw [← hY]; exact c1
          have d0 : Y.cell? ⟨g2, o2 + k * 2, none⟩ = some (.int .i64 P1) := by rw [← hY]; exact d0
          have d1 : Y.cell? ⟨g2, o2 + k * 2 + 1, none⟩ = some (.int .i64 P2) := by rw [← hY]; exact d1
          have x0 := HKY.out.cell 0 _ rfl
          have x1 := HKY.out.cell 1 _ rfl
          have HBY := hide (show Below w3.heap.size w3 Y by rw [← hY]; exact hB.drew)
          have HY := hide hY
          clear hY hB hmv hgl2 hgl3
          go_wp2_with fail
          refine wp_only ?_
          refine wp_region_z (fun wx : World => wx = Y) [] (by kernel_rfl) ?_
          rw [HY.out]
          refine zx 0 22 22 rfl (by kernel_rfl) rfl ?_
          iterate 11 (refine zxc rfl (by rfl) (fun wx hx => by subst hx; go_simp; rfl) ?_; simp only [zp])
          refine zxc (v := .int .i64 (P1 + x)) rfl (by rfl) (fun wx hx => by subst hx; go_simp; first | done | omega | exact wr64 (by omega) | exact (wr64 (by omega)).trans (by omega)) ?_; simp only [zp]
          iterate 7 (refine zxc rfl (by rfl) (fun wx hx => by subst hx; go_simp; rfl) ?_; simp only [zp])
          refine zxc (v := .int .i64 (P2 + y)) rfl (by rfl) (fun wx hx => by subst hx; go_simp; first | done | omega | exact wr64 (by omega) | exact (wr64 (by omega)).trans (by omega)) ?_; simp only [zp]
          refine zxc rfl (by rfl) (fun wx hx => by subst hx; go_simp; rfl) ?_; simp only [zp]
          refine zxc (v := .bool false) rfl (by rfl) (fun wx hx => by subst hx; go_simp) ?_; simp only [zp]
          refine zxn ?_
          refine anyZ_done (by kernel_rfl) ?_ _
          dsimp only [Only, Exit.then]
          clear c0 c1 d0 d1 x0 x1
          go_wp2_with fail
          go_roundw
          case rel => exact ⟨k + 1, by omega, by go_num, HBY.out⟩
          case measure => simp [intOf]; omega
        · obtain rfl : k = L.length := by omega
          have hki : ¬ ((L.length : Nat) : Int) < (L.length : Nat) := by omega
          have HB4 := hide (bt HB3.out hB)
          clear hB
          go_wp2_with fail
          refine (awake_any _).mono ?_
          rintro e w4 ⟨rfl, hb4⟩
          have HB5 := hide (bt HB4.out hb4)
          clear hb4
          go_wp2_with fail
          go_ret
          exact ⟨rfl, HB5.out⟩
end Go.Proofs.Ytankkngjhgpcaaa
