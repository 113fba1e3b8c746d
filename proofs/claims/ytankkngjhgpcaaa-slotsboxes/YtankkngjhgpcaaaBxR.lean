/-
  The document's Box.
-/
import Derived.Test.YtankkngjhgpcaaaRLay
import Derived.Test.YtankkngjhgpcaaaBxP
namespace Go.Proofs.Ytankkngjhgpcaaa
open Go.RowKit
set_option linter.unusedVariables false
set_option linter.unusedSimpArgs false
theorem Rf23 : Rcl 23 := zl fun _ _ => by go_simp
set_option maxRecDepth 100000 in
set_option maxHeartbeats 8000000 in
theorem refbox_is (v : Value) (L : List (Int × Int)) (x y : Int) (w : World) (hv : CeR w v L) : Calls Try.prog 13 #[v, pr x y] w (BxE w L x y) := by
  obtain ⟨a, cap, rfl, hcap, hmax⟩ := hv.slice
  obtain ⟨l0, l1⟩ := len63 hmax
  obtain ⟨X, hX⟩ : ∃ X, (w.alloc (.cells #[.int .i64 x, .int .i64 y] 24)).alloc (.cells #[.int .i64 0, .int .i64 0, .int .i64 0, .int .i64 0] 34) = X := ⟨_, rfl⟩
  have BX : Below w.heap.size w X := by rw [← hX]; exact box2 _ _ _
  have KX : Bk X w.heap.size 24 [.int .i64 x, .int .i64 y] := by rw [← hX]; exact (Bk.new w 24 [.int .i64 x, .int .i64 y]).upto (box1 _ _)
  have KR : Bk X (w.heap.size + 1) 34 (r4s (0, 0, 0, 0)) := by rw [← hX]; exact Bk.new2 _ _ _ _
  have HV := hide (hv.kept BX)
  have HX := hide hX
  have HK := hide KR
  have HB := hide BX
  have x0 := KX.cell 0 _ rfl
  have x1 := KX.cell 1 _ rfl
  have HL := hide (reflayout_is _ L x y X HV.out)
  clear hX KX KR BX hv
  by_cases h0 : layE L x y = 0
  case neg =>
    have h0' := hide h0
    generalize hz : layE L x y = z at h0
    have hz := hide hz
    go_enter Try.func13, Try.ntmps13
    go_wp2_with (rw [HX.out])
    refine HL.out.mono ?_
    rintro e w1 ⟨u1, rfl, hc1, hb1⟩
    rw [hz.out]
    obtain ⟨a1, k1, rfl, -, -⟩ := hc1.slice
    have HB1 := hide (bt HB.out hb1)
    have HK1 := hide (HK.out.upto hb1)
    have r0 := HK1.out.cell 0 _ rfl
    have r1 := HK1.out.cell 1 _ rfl
    have r2 := HK1.out.cell 2 _ rfl
    have r3 := HK1.out.cell 3 _ rfl
    have f0 := HK1.out.frozen 0
    have f1 := HK1.out.frozen 1
    have f2 := HK1.out.frozen 2
    have f3 := HK1.out.frozen 3
    clear hb1 hc1 x0 x1
    go_wp2_with fail
    refine bodyPost_ret (v := .tuple #[rv (0, 0, 0, 0), .int .i64 z]) (by simp [results, Try.results13, go_sem, r0, r1, r2, r3]) rfl ?_
    rw [← hz.out]
    exact BxE.no h0'.out (four_below HB1.out (by omega) _ _ _ _)
  obtain ⟨hl, hall, hpos, -, -⟩ := layE_ok h0
  obtain ⟨q0, hq0⟩ : ∃ q, L[0]? = some q := ⟨_, List.getElem?_eq_getElem hpos⟩
  obtain ⟨P1, P2, hP, hPg⟩ := lay_at (x := x) (y := y) hq0
  have he0 := (ft_in h0 hq0).2.2
  rw [hP] at he0
  have h0 := hide h0
  go_enter Try.func13, Try.ntmps13
  go_wp2_with (rw [HX.out])
  refine HL.out.mono ?_
  rintro e w1 ⟨u1, rfl, hc1, hb1⟩
  rw [h0.out]
  rw [layP_yes h0.out] at hc1
  obtain ⟨a1, k1, rfl, -, -⟩ := hc1.slice
  rw [lay_len] at hc1 ⊢
  have HB1 := hide (bt HB.out hb1)
  have HK1 := hide (HK.out.upto hb1)
  have HV1 := hide (HV.out.kept hb1)
  have HC1 := hide hc1
  have he0 := hide he0
  have hs1 := hide (show w.heap.size + 1 < w1.heap.size from HK1.out.lt)
  clear hb1 hc1 x0 x1 HL HX HV HK HB
  go_upto_region 4 with fail
  go_cut [8] (fun s8 wx => ∃ b, s8 = ptr b ∧ Bk wx b 34 (r4s (bxF (ftAt L x y) 1)) ∧ w1.heap.size ≤ b ∧ Below w1.heap.size w1 wx)
  case first =>
    obtain ⟨g, o, hga, hgl, c0, c1⟩ := CeR.at HV1.out rfl hq0
    obtain ⟨g2, o2, hga2, hgl2, d0, d1⟩ := CeR.at HC1.out (by rfl) hPg
    subst hga
    subst hga2
    rw [Nat.zero_mul, Nat.add_zero] at c0 c1 d0 d1
    obtain ⟨Y, hY⟩ : ∃ Y, w1.drew = Y := ⟨_, rfl⟩
    have HR := hide (show ∀ wx, Below Y.heap.size Y wx → (wx.cell? ⟨g, o, none⟩ = some (.int .i64 q0.1) ∧ wx.cell? ⟨g, o + 1, none⟩ = some (.int .i64 q0.2)) ∧ (wx.cell? ⟨g2, o2, none⟩ = some (.int .i64 P1) ∧ wx.cell? ⟨g2, o2 + 1, none⟩ = some (.int .i64 P2)) from fun wx hb => by
      rw [← hY] at hb
      exact ⟨⟨(hb.cell (p := ⟨g, o, none⟩) hgl).trans c0, (hb.cell (p := ⟨g, o + 1, none⟩) hgl).trans c1⟩, ⟨(hb.cell (p := ⟨g2, o2, none⟩) hgl2).trans d0, (hb.cell (p := ⟨g2, o2 + 1, none⟩) hgl2).trans d1⟩⟩)
    have BY := hide (show Below w1.heap.size w1 Y by rw [← hY]; exact (Below.refl _ _).drew)
    have hsY := hide (show Y.heap.size = w1.heap.size by rw [← hY]; rfl)
    have HY := hide hY
    clear hY c0 c1 d0 d1
    refine wp_only ?_
    refine wp_region_z (fun wx : World => Below Y.heap.size Y wx) [13] (by kernel_rfl) ?_
    rw [HY.out]
    refine zx 0 12 14 rfl (by kernel_rfl) (Below.refl _ _) ?_
    iterate 11 (refine zxc rfl (by rfl) (fun wx hx => by obtain ⟨⟨c0, c1⟩, d0, d1⟩ := HR.out wx hx; go_simp; rfl) ?_; simp only [zp])
    refine zxc (v := rv (P1, P2, q0.2, q0.2)) rfl (by rfl) (fun wx hx => by go_simp) ?_
    simp only [zp]
    refine zxn ?_
    obtain ⟨V2, hV2⟩ : ∃ V2, Y.alloc (.cells #[.int .i64 0, .int .i64 0, .int .i64 0, .int .i64 0] 34) = V2 := ⟨_, rfl⟩
    have K2 : Bk V2 Y.heap.size 34 (r4s (0, 0, 0, 0)) := by rw [← hV2]; exact Bk.new _ _ _
    have B2 : Below Y.heap.size Y V2 := by rw [← hV2]; exact box1 _ _
    refine zq 12 (by kernel_rfl) rfl rfl (v' := ptr Y.heap.size) (w' := V2) (by rw [← hV2]; go_simp) (fun _ => B2) ?_
    simp only [zp]
    have f0 := K2.frozen 0
    have f1 := K2.frozen 1
    have f2 := K2.frozen 2
    have f3 := K2.frozen 3
    have r0 := K2.cell 0 _ rfl
    have r1 := K2.cell 1 _ rfl
    have r2 := K2.cell 2 _ rfl
    have r3 := K2.cell 3 _ rfl
    refine zw 13 [] (by kernel_rfl) ?_
    refine readyZ.skip (w' := put4 V2 Y.heap.size (P1, P2, q0.2, q0.2)) rfl rfl (by go_simp) (fun h => absurd (by decide) h) ?_ readyZ.nil
    refine anyZ_done (by kernel_rfl) ?_ _
    dsimp only [Only, Exit.then]
    simp only [zp]
    have K4 := K2.four (s := (P1, P2, q0.2, q0.2))
    clear r0 r1 r2 r3 f0 f1 f2 f3
    go_wp2_with fail
    go_meet
    exact ⟨_, rfl, by rw [bxF_one, he0.out]; exact K4, by have := hsY.out; omega, four_below (BY.out.trans (B2.mono (by have := hsY.out; omega))) (by have := hsY.out; omega) _ _ _ _⟩
  case rest =>
    obtain ⟨b, rfl, hKb, hbw, hBc⟩ := hcut
    have HKb := hide hKb
    have HBc := hide hBc
    have hbw := hide hbw
    clear hKb hBc
    go_wp2_with fail
    go_loopw [9] (fun s30 wr => ∃ k : Nat, 1 ≤ k ∧ k ≤ L.length ∧ s30 = .int .i64 k ∧ Bk wr b 34 (r4s (bxF (ftAt L x y) k)) ∧ Below w1.heap.size w1 wr) (fun s30 _ => L.length - (intOf s30).toNat)
    case atStart => exact ⟨1, Nat.le_refl _, hpos, rfl, HKb.out, HBc.out⟩
    case round =>
      obtain ⟨k, hk1, hk, rfl, hKb, hB⟩ := hrel
      by_cases hlt : k < L.length
      · have hki : (k : Int) < (L.length : Nat) := by omega
        obtain ⟨q, hq⟩ : ∃ q, L[k]? = some q := ⟨_, List.getElem?_eq_getElem hlt⟩
        obtain ⟨P1, P2, hP, hPg⟩ := lay_at (x := x) (y := y) hq
        have hfe := (ft_in h0.out hq).2.2
        rw [hP] at hfe
        have HH := hide (fun W => refhull_in W (bx_in h0.out k hk) (ft_in h0.out hq).1)
        have hnx : bxF (ftAt L x y) (k + 1) = hulF (bxF (ftAt L x y) k) (ftAt L x y k) := rfl
        rw [hfe] at HH hnx
        have HH := hide HH
        generalize hR : bxF (ftAt L x y) k = R at HH hnx hKb
        obtain ⟨g, o, hga, hgl, c0, c1⟩ := CeR.at (HV1.out.kept hB) rfl hq
        obtain ⟨g2, o2, hga2, hgl2, d0, d1⟩ := CeR.at (HC1.out.kept hB) (by rfl) hPg
        subst hga
        subst hga2
        obtain ⟨Y, hY⟩ : ∃ Y, wr.drew = Y := ⟨_, rfl⟩
        have BY : Below wr.heap.size wr Y := by rw [← hY]; exact (Below.refl _ _).drew
        have KbY := hKb.upto BY
        have HR := hide (show ∀ wx, Below Y.heap.size Y wx → (wx.cell? ⟨g, o + k * 2, none⟩ = some (.int .i64 q.1) ∧ wx.cell? ⟨g, o + k * 2 + 1, none⟩ = some (.int .i64 q.2)) ∧ (wx.cell? ⟨g2, o2 + k * 2, none⟩ = some (.int .i64 P1) ∧ wx.cell? ⟨g2, o2 + k * 2 + 1, none⟩ = some (.int .i64 P2)) ∧ Bk wx b 34 (r4s R) from fun wx hb => by
          have hb2 : Below wr.heap.size wr wx := bt BY hb
          exact ⟨⟨(hb2.cell (p := ⟨g, o + k * 2, none⟩) hgl).trans c0, (hb2.cell (p := ⟨g, o + k * 2 + 1, none⟩) hgl).trans c1⟩, ⟨(hb2.cell (p := ⟨g2, o2 + k * 2, none⟩) hgl2).trans d0, (hb2.cell (p := ⟨g2, o2 + k * 2 + 1, none⟩) hgl2).trans d1⟩, KbY.upto hb⟩)
        have HB2 := hide (show ∀ wx, Below Y.heap.size Y wx → Below w1.heap.size w1 wx from fun wx hb => hB.trans ((bt BY hb).mono hB.size))
        have HY := hide hY
        clear hY BY KbY hgl hgl2 hKb hB c0 c1 d0 d1
        go_wp2_with fail
        refine wp_only ?_
        refine wp_region_z (fun wx : World => Below Y.heap.size Y wx) [17] (by kernel_rfl) ?_
        rw [HY.out]
        refine zx 0 16 18 rfl (by kernel_rfl) (Below.refl _ _) ?_
        refine zxc (v := rv R) rfl (by rfl) (fun wx hx => by obtain ⟨-, -, kb⟩ := HR.out wx hx; have e0 := kb.cell 0 _ rfl; have e1 := kb.cell 1 _ rfl; have e2 := kb.cell 2 _ rfl; have e3 := kb.cell 3 _ rfl; go_simp) ?_
        simp only [zp]
        iterate 14 (refine zxc rfl (by rfl) (fun wx hx => by obtain ⟨⟨c0, c1⟩, ⟨d0, d1⟩, -⟩ := HR.out wx hx; go_simp; rfl) ?_; simp only [zp])
        refine zxc (v := rv (P1, P2, q.2, q.2)) rfl (by rfl) (fun wx hx => by go_simp) ?_
        simp only [zp]
        refine zxn ?_
        refine zw 16 [] (by kernel_rfl) ?_
        refine readyZ.call rfl rfl (Rf23 (by rfl) (by rfl) (by simp only [zj]; rfl)) (HH.out Y) ?_ readyZ.nil
        rintro e V2 ⟨rfl, hb2⟩
        refine ⟨_, rfl, fun _ => hb2, ?_⟩
        simp only [zp]
        have kb := (HR.out V2 hb2).2.2
        have f0 := kb.frozen 0
        have f1 := kb.frozen 1
        have f2 := kb.frozen 2
        have f3 := kb.frozen 3
        have r0 := kb.cell 0 _ rfl
        have r1 := kb.cell 1 _ rfl
        have r2 := kb.cell 2 _ rfl
        have r3 := kb.cell 3 _ rfl
        have kb' := hide (kb.four (s := hulF R (P1, P2, q.2, q.2)))
        have hb' := hide (four_below (HB2.out V2 hb2) hbw.out (.int .i64 (hulF R (P1, P2, q.2, q.2)).1) (.int .i64 (hulF R (P1, P2, q.2, q.2)).2.1) (.int .i64 (hulF R (P1, P2, q.2, q.2)).2.2.1) (.int .i64 (hulF R (P1, P2, q.2, q.2)).2.2.2))
        generalize hulF R (P1, P2, q.2, q.2) = G at hnx kb' hb'
        clear kb
        refine zw 17 [] (by kernel_rfl) ?_
        refine readyZ.skip (w' := put4 V2 b G) rfl rfl (by go_simp) (fun h => absurd (by decide) h) ?_ readyZ.nil
        refine anyZ_done (by kernel_rfl) ?_ _
        dsimp only [Only, Exit.then]
        simp only [zp]
        clear r0 r1 r2 r3 f0 f1 f2 f3
        go_wp2_with fail
        go_roundw
        case rel => exact ⟨k + 1, by omega, by omega, by go_num, by rw [hnx]; exact kb'.out, hb'.out⟩
        case measure => simp [intOf]; omega
      · obtain rfl : k = L.length := by omega
        have hki : ¬ ((L.length : Nat) : Int) < (L.length : Nat) := by omega
        have kr := HK1.out.upto hB
        have f0 := kr.frozen 0
        have f1 := kr.frozen 1
        have f2 := kr.frozen 2
        have f3 := kr.frozen 3
        have r0 := kr.cell 0 _ rfl
        have r1 := kr.cell 1 _ rfl
        have r2 := kr.cell 2 _ rfl
        have r3 := kr.cell 3 _ rfl
        have e0 := hKb.cell 0 _ rfl
        have e1 := hKb.cell 1 _ rfl
        have e2 := hKb.cell 2 _ rfl
        have e3 := hKb.cell 3 _ rfl
        have hE := hide (BxE.yes h0.out (four_below (bt HB1.out hB) (g := w.heap.size + 1) (by omega) (.int .i64 (bxF (ftAt L x y) L.length).1) (.int .i64 (bxF (ftAt L x y) L.length).2.1) (.int .i64 (bxF (ftAt L x y) L.length).2.2.1) (.int .i64 (bxF (ftAt L x y) L.length).2.2.2)))
        generalize bxF (ftAt L x y) L.length = G at e0 e1 e2 e3 hE
        clear kr hKb hB
        go_wp2_with fail
        refine bodyPost_ret (v := .tuple #[rv G, .int .i64 0]) (by simp [results, Try.results13, go_sem, r0, r1, r2, r3]) rfl ?_
        exact hE.out
end Go.Proofs.Ytankkngjhgpcaaa
