/-
  The program's Box.
-/
import Derived.Test.YtankkngjhgpcaaaLay
import Derived.Test.YtankkngjhgpcaaaBx0
import Derived.Deep.RegionWith
import Derived.Deep.DeepCutAuto
namespace Go.Proofs.Ytankkngjhgpcaaa
open Go.RowKit
set_option linter.unusedVariables false
set_option linter.unusedSimpArgs false
theorem Rf21 : Rcl 21 := zl fun _ _ => by go_simp
theorem Rf22 : Rcl 22 := zl fun _ _ => by go_simp
theorem foot_at {L : List (Int × Int)} {x y : Int} (h : layE L x y = 0) {i : Nat} {q : Int × Int} (hq : L[i]? = some q) {P1 P2 : Int} (hP : layAt L.length (pitchF L 0) x y i = (P1, P2)) (w : World) :
    Calls Try.prog 21 #[pr q.1 q.2, pr P1 P2] w fun e w' => e = .returned (rv (ftAt L x y i)) ∧ Below w.heap.size w w' := by
  obtain ⟨hb, hm, e⟩ := ft_in h hq
  rw [e, hP] at hb ⊢
  exact foot_yes q.1 q.2 P1 P2 w hm hb.may
theorem reffoot_at {L : List (Int × Int)} {x y : Int} (h : layE L x y = 0) {i : Nat} {q : Int × Int} (hq : L[i]? = some q) {P1 P2 : Int} (hP : layAt L.length (pitchF L 0) x y i = (P1, P2)) (w : World) :
    Calls Try.prog 15 #[pr q.1 q.2, pr P1 P2] w fun e w' => e = .returned (rv (ftAt L x y i)) ∧ Below w.heap.size w w' := by
  obtain ⟨hb, hm, e⟩ := ft_in h hq
  rw [e, hP] at hb ⊢
  exact reffoot_yes q.1 q.2 P1 P2 w hm hb.may
theorem lay_at {L : List (Int × Int)} {x y : Int} {i : Nat} {q : Int × Int} (hq : L[i]? = some q) : ∃ P1 P2, layAt L.length (pitchF L 0) x y i = (P1, P2) ∧ (lay L x y)[i]? = some (P1, P2) :=
  ⟨_, _, rfl, lay_get L x y i (List.getElem?_eq_some_iff.1 hq).1⟩
/-- Four cells of a block written anew. -/
abbrev put4 (w : World) (g : Nat) (s : R4) : World := (((w.setCell ⟨g, 0, none⟩ (.int .i64 s.1)).setCell ⟨g, 1, none⟩ (.int .i64 s.2.1)).setCell ⟨g, 2, none⟩ (.int .i64 s.2.2.1)).setCell ⟨g, 3, none⟩ (.int .i64 s.2.2.2)
theorem Bk.four {w : World} {g : Nat} {r s : R4} (h : Bk w g 34 (r4s r)) : Bk (put4 w g s) g 34 (r4s s) :=
  (((h.set 0 _).set 1 _).set 2 _).set 3 _
theorem four_below {B : Nat} {a w : World} {g : Nat} (h : Below B a w) (hg : B ≤ g) (u0 u1 u2 u3 : Value) : Below B a ((((w.setCell ⟨g, 0, none⟩ u0).setCell ⟨g, 1, none⟩ u1).setCell ⟨g, 2, none⟩ u2).setCell ⟨g, 3, none⟩ u3) :=
  (((h.setCell hg _).setCell hg _).setCell hg _).setCell hg _
set_option maxRecDepth 100000 in
set_option maxHeartbeats 8000000 in
theorem box_is (v : Value) (L : List (Int × Int)) (x y : Int) (w : World) (hv : CeR w v L) : Calls Try.prog 12 #[v, pr x y] w (BxE w L x y) := by
  obtain ⟨a, cap, rfl, hcap, hmax⟩ := hv.slice
  obtain ⟨l0, l1⟩ := len63 hmax
  obtain ⟨X, hX⟩ : ∃ X, (w.alloc (.cells #[.int .i64 x, .int .i64 y] 24)).alloc (.cells #[.int .i64 0, .int .i64 0, .int .i64 0, .int .i64 0] 34) = X := ⟨_, rfl⟩
  have BX : Below w.heap.size w X := by rw [← hX]; exact box2 _ _ _
  have KX : Bk X w.heap.size 24 [.int .i64 x, .int .i64 y] := by rw [← hX]; exact (Bk.new w 24 [.int .i64 x, .int .i64 y]).upto (box1 _ _)
  have KR : Bk X (w.heap.size + 1) 34 (r4s (0, 0, 0, 0)) := by rw [← hX]; exact Bk.new2 _ _ _ _
  have HV := hide (hv.kept BX)
  have HX := hide hX
  have HK := hide KR
  have HB := hide BX
  have x0 := KX.cell 0 _ rfl
  have x1 := KX.cell 1 _ rfl
  have HL := hide (layout_is _ L x y X HV.out)
  clear hX KX KR BX hv
  by_cases h0 : layE L x y = 0
  case neg =>
    have h0' := hide h0
    generalize hz : layE L x y = z at h0
    have hz := hide hz
    go_enter Try.func12, Try.ntmps12
    go_wp2_with (rw [HX.out])
    refine HL.out.mono ?_
    rintro e w1 ⟨u1, rfl, hc1, hb1⟩
    rw [hz.out]
    obtain ⟨a1, k1, rfl, -, -⟩ := hc1.slice
    have HB1 := hide (bt HB.out hb1)
    have HK1 := hide (HK.out.upto hb1)
    have r0 := HK1.out.cell 0 _ rfl
    have r1 := HK1.out.cell 1 _ rfl
    have r2 := HK1.out.cell 2 _ rfl
    have r3 := HK1.out.cell 3 _ rfl
    have f0 := HK1.out.frozen 0
    have f1 := HK1.out.frozen 1
    have f2 := HK1.out.frozen 2
    have f3 := HK1.out.frozen 3
    clear hb1 hc1 x0 x1
    go_wp2_with fail
    refine bodyPost_ret (v := .tuple #[rv (0, 0, 0, 0), .int .i64 z]) (by simp [results, Try.results12, go_sem, r0, r1, r2, r3]) rfl ?_
    rw [← hz.out]
    exact BxE.no h0'.out (four_below HB1.out (by omega) _ _ _ _)
  obtain ⟨hl, hall, hpos, -, -⟩ := layE_ok h0
  obtain ⟨q0, hq0⟩ : ∃ q, L[0]? = some q := ⟨_, List.getElem?_eq_getElem hpos⟩
  obtain ⟨P1, P2, hP, hPg⟩ := lay_at (x := x) (y := y) hq0
  have HF0 := fun W => foot_at h0 hq0 hP W
  have h0 := hide h0
  go_enter Try.func12, Try.ntmps12
  go_wp2_with (rw [HX.out])
  refine HL.out.mono ?_
  rintro e w1 ⟨u1, rfl, hc1, hb1⟩
  rw [h0.out]
  rw [layP_yes h0.out] at hc1
  obtain ⟨a1, k1, rfl, -, -⟩ := hc1.slice
  rw [lay_len] at hc1 ⊢
  have HB1 := hide (bt HB.out hb1)
  have HK1 := hide (HK.out.upto hb1)
  have HV1 := hide (HV.out.kept hb1)
  have HC1 := hide hc1
  have HF0 := hide HF0
  have hs1 := hide (show w.heap.size + 1 < w1.heap.size from HK1.out.lt)
  clear hb1 hc1 x0 x1 HL HX HV HK HB
  go_upto_region 4 with fail
  go_cut [8] (fun s8 wx => ∃ b, s8 = ptr b ∧ Bk wx b 34 (r4s (bxF (ftAt L x y) 0)) ∧ w1.heap.size ≤ b ∧ Below w1.heap.size w1 wx)
  case first =>
    obtain ⟨g, o, hga, hgl, c0, c1⟩ := CeR.at HV1.out rfl hq0
    obtain ⟨g2, o2, hga2, hgl2, d0, d1⟩ := CeR.at HC1.out (by rfl) hPg
    subst hga
    subst hga2
    rw [Nat.zero_mul, Nat.add_zero] at c0 c1 d0 d1
    obtain ⟨Y, hY⟩ : ∃ Y, w1.drew = Y := ⟨_, rfl⟩
    have HR := hide (show ∀ wx, Below Y.heap.size Y wx → (wx.cell? ⟨g, o, none⟩ = some (.int .i64 q0.1) ∧ wx.cell? ⟨g, o + 1, none⟩ = some (.int .i64 q0.2)) ∧ (wx.cell? ⟨g2, o2, none⟩ = some (.int .i64 P1) ∧ wx.cell? ⟨g2, o2 + 1, none⟩ = some (.int .i64 P2)) from fun wx hb => by
      rw [← hY] at hb
      exact ⟨⟨(hb.cell (p := ⟨g, o, none⟩) hgl).trans c0, (hb.cell (p := ⟨g, o + 1, none⟩) hgl).trans c1⟩, ⟨(hb.cell (p := ⟨g2, o2, none⟩) hgl2).trans d0, (hb.cell (p := ⟨g2, o2 + 1, none⟩) hgl2).trans d1⟩⟩)
    have BY := hide (show Below w1.heap.size w1 Y by rw [← hY]; exact (Below.refl _ _).drew)
    have hsY := hide (show Y.heap.size = w1.heap.size by rw [← hY]; rfl)
    have HY := hide hY
    clear hY c0 c1 d0 d1
    refine wp_only ?_
    refine wp_region_z (fun wx : World => Below Y.heap.size Y wx) [8] (by kernel_rfl) ?_
    rw [HY.out]
    refine zx 0 6 9 rfl (by kernel_rfl) (Below.refl _ _) ?_
    iterate 6 (refine zxc rfl (by rfl) (fun wx hx => by obtain ⟨⟨c0, c1⟩, d0, d1⟩ := HR.out wx hx; go_simp; rfl) ?_; simp only [zp])
    refine zxn ?_
    refine zw 6 [7] (by kernel_rfl) ?_
    refine readyZ.call rfl rfl (Rf21 (by rfl) (by rfl) (by simp only [zj]; rfl)) (HF0.out Y) ?_ ?_
    · rintro e V1 ⟨rfl, hb1⟩
      refine ⟨_, rfl, fun _ => hb1, ?_⟩
      simp only [zp]
      obtain ⟨V2, hV2⟩ : ∃ V2, V1.alloc (.cells #[.int .i64 0, .int .i64 0, .int .i64 0, .int .i64 0] 34) = V2 := ⟨_, rfl⟩
      have K2 : Bk V2 V1.heap.size 34 (r4s (0, 0, 0, 0)) := by rw [← hV2]; exact Bk.new _ _ _
      have B2 : Below Y.heap.size Y V2 := by rw [← hV2]; exact bt hb1 (box1 _ _)
      refine zq 7 (by kernel_rfl) rfl rfl (v' := ptr V1.heap.size) (w' := V2) (by rw [← hV2]; go_simp) (fun _ => B2) ?_
      simp only [zp]
      have f0 := K2.frozen 0
      have f1 := K2.frozen 1
      have f2 := K2.frozen 2
      have f3 := K2.frozen 3
      have r0 := K2.cell 0 _ rfl
      have r1 := K2.cell 1 _ rfl
      have r2 := K2.cell 2 _ rfl
      have r3 := K2.cell 3 _ rfl
      refine zw 8 [] (by kernel_rfl) ?_
      refine readyZ.skip (w' := put4 V2 V1.heap.size (ftAt L x y 0)) rfl rfl (by go_simp) (fun h => absurd (by decide) h) ?_ readyZ.nil
      refine anyZ_done (by kernel_rfl) ?_ _
      dsimp only [Only, Exit.then]
      simp only [zp]
      go_wp2_with fail
      go_meet
      exact ⟨_, rfl, K2.four, by have := hb1.size; have := hsY.out; omega, four_below (BY.out.trans (B2.mono (by have := hsY.out; omega))) (by have := hb1.size; have := hsY.out; omega) _ _ _ _⟩
    · obtain ⟨V2, hV2⟩ : ∃ V2, Y.alloc (.cells #[.int .i64 0, .int .i64 0, .int .i64 0, .int .i64 0] 34) = V2 := ⟨_, rfl⟩
      have K2 : Bk V2 Y.heap.size 34 (r4s (0, 0, 0, 0)) := by rw [← hV2]; exact Bk.new _ _ _
      have B2 : Below Y.heap.size Y V2 := by rw [← hV2]; exact box1 _ _
      refine readyZ.cons rfl rfl (v' := ptr Y.heap.size) (w' := V2) (by rw [← hV2]; go_simp) (fun _ => B2) ?_ readyZ.nil
      simp only [zp]
      refine zw 6 [] (by kernel_rfl) ?_
      refine readyZ.call rfl rfl (Rf21 (by rfl) (by rfl) (by simp only [zj]; rfl)) (HF0.out V2) ?_ readyZ.nil
      rintro e V3 ⟨rfl, hb3⟩
      refine ⟨_, rfl, fun _ => bt B2 hb3, ?_⟩
      simp only [zp]
      have K3 := K2.upto hb3
      have f0 := K3.frozen 0
      have f1 := K3.frozen 1
      have f2 := K3.frozen 2
      have f3 := K3.frozen 3
      have r0 := K3.cell 0 _ rfl
      have r1 := K3.cell 1 _ rfl
      have r2 := K3.cell 2 _ rfl
      have r3 := K3.cell 3 _ rfl
      refine zw 8 [] (by kernel_rfl) ?_
      refine readyZ.skip (w' := put4 V3 Y.heap.size (ftAt L x y 0)) rfl rfl (by go_simp) (fun h => absurd (by decide) h) ?_ readyZ.nil
      refine anyZ_done (by kernel_rfl) ?_ _
      dsimp only [Only, Exit.then]
      simp only [zp]
      go_wp2_with fail
      go_meet
      exact ⟨_, rfl, K3.four, by have := hsY.out; omega, four_below (BY.out.trans ((bt B2 hb3).mono (by have := hsY.out; omega))) (by have := hsY.out; omega) _ _ _ _⟩
  case rest =>
    obtain ⟨b, rfl, hKb, hbw, hBc⟩ := hcut
    have HKb := hide hKb
    have HBc := hide hBc
    have hbw := hide hbw
    clear hKb hBc HF0
    go_wp2_with fail
    go_loopw [30] (fun s30 wr => ∃ k : Nat, k ≤ L.length ∧ s30 = .int .i64 k ∧ Bk wr b 34 (r4s (bxF (ftAt L x y) k)) ∧ Below w1.heap.size w1 wr) (fun s30 _ => L.length - (intOf s30).toNat)
    case atStart => exact ⟨0, Nat.zero_le _, rfl, HKb.out, HBc.out⟩
    case round =>
      obtain ⟨k, hk, rfl, hKb, hB⟩ := hrel
      by_cases hlt : k < L.length
      · have hki : (k : Int) < (L.length : Nat) := by omega
        obtain ⟨q, hq⟩ : ∃ q, L[k]? = some q := ⟨_, List.getElem?_eq_getElem hlt⟩
        obtain ⟨P1, P2, hP, hPg⟩ := lay_at (x := x) (y := y) hq
        have HF := hide (fun W => foot_at h0.out hq hP W)
        have HH := hide (fun W => hull_in W (bx_in h0.out k hk) (ft_in h0.out hq).1)
        have hnx : bxF (ftAt L x y) (k + 1) = hulF (bxF (ftAt L x y) k) (ftAt L x y k) := rfl
        generalize ftAt L x y k = F at HF HH hnx
        generalize hR : bxF (ftAt L x y) k = R at HH hnx hKb
        obtain ⟨g, o, hga, hgl, c0, c1⟩ := CeR.at (HV1.out.kept hB) rfl hq
        obtain ⟨g2, o2, hga2, hgl2, d0, d1⟩ := CeR.at (HC1.out.kept hB) (by rfl) hPg
        subst hga
        subst hga2
        obtain ⟨X2, hX2⟩ : ∃ X2, wr.alloc (.cells #[.int .i64 P1, .int .i64 P2] 24) = X2 := ⟨_, rfl⟩
        have B2 : Below wr.heap.size wr X2 := by rw [← hX2]; exact box1 _ _
        have K2 : Bk X2 wr.heap.size 24 [.int .i64 P1, .int .i64 P2] := by rw [← hX2]; exact Bk.new _ _ _
        obtain ⟨Y, hY⟩ : ∃ Y, X2.drew = Y := ⟨_, rfl⟩
        have BY : Below wr.heap.size wr Y := by rw [← hY]; exact B2.drew
        have KY : Bk Y wr.heap.size 24 [.int .i64 P1, .int .i64 P2] := by rw [← hY]; exact K2
        have hsz : wr.heap.size ≤ Y.heap.size := BY.size
        have KbY := hKb.upto BY
        have HR := hide (show ∀ wx, Below Y.heap.size Y wx → (wx.cell? ⟨g, o + k * 2, none⟩ = some (.int .i64 q.1) ∧ wx.cell? ⟨g, o + k * 2 + 1, none⟩ = some (.int .i64 q.2)) ∧ (wx.cell? ⟨wr.heap.size, 0, none⟩ = some (.int .i64 P1) ∧ wx.cell? ⟨wr.heap.size, 1, none⟩ = some (.int .i64 P2)) ∧ Bk wx b 34 (r4s R) from fun wx hb => by
          have hb2 : Below wr.heap.size wr wx := bt BY hb
          exact ⟨⟨(hb2.cell (p := ⟨g, o + k * 2, none⟩) hgl).trans c0, (hb2.cell (p := ⟨g, o + k * 2 + 1, none⟩) hgl).trans c1⟩, ⟨(KY.upto hb).cell 0 _ rfl, (KY.upto hb).cell 1 _ rfl⟩, KbY.upto hb⟩)
        have HB2 := hide (show ∀ wx, Below Y.heap.size Y wx → Below w1.heap.size w1 wx from fun wx hb => hB.trans ((bt BY hb).mono hB.size))
        have HY := hide hY
        have HX2 := hide hX2
        clear hY hX2 BY KY hsz KbY K2 B2 hgl hgl2 hKb hB
        go_wp2_with (rw [HX2.out])
        refine wp_only ?_
        refine wp_region_z (fun wx : World => Below Y.heap.size Y wx) [8] (by kernel_rfl) ?_
        rw [HY.out]
        refine zx 0 6 9 rfl (by kernel_rfl) (Below.refl _ _) ?_
        refine zxc (v := rv R) rfl (by rfl) (fun wx hx => by obtain ⟨-, -, kb⟩ := HR.out wx hx; have e0 := kb.cell 0 _ rfl; have e1 := kb.cell 1 _ rfl; have e2 := kb.cell 2 _ rfl; have e3 := kb.cell 3 _ rfl; go_simp) ?_
        simp only [zp]
        iterate 5 (refine zxc rfl (by rfl) (fun wx hx => by obtain ⟨⟨c0, c1⟩, ⟨d0, d1⟩, -⟩ := HR.out wx hx; go_simp; rfl) ?_; simp only [zp])
        refine zxn ?_
        refine zw 6 [] (by kernel_rfl) ?_
        refine readyZ.call rfl rfl (Rf21 (by rfl) (by rfl) (by simp only [zj]; rfl)) (HF.out Y) ?_ readyZ.nil
        rintro e V1 ⟨rfl, hb1⟩
        refine ⟨_, rfl, fun _ => hb1, ?_⟩
        simp only [zp]
        refine zw 7 [] (by kernel_rfl) ?_
        refine readyZ.call rfl rfl (Rf22 (by rfl) (by rfl) (by simp only [zj]; rfl)) (HH.out V1) ?_ readyZ.nil
        rintro e V2 ⟨rfl, hb2⟩
        refine ⟨_, rfl, fun _ => bt hb1 hb2, ?_⟩
        simp only [zp]
        have kb := (HR.out V2 (bt hb1 hb2)).2.2
        have f0 := kb.frozen 0
        have f1 := kb.frozen 1
        have f2 := kb.frozen 2
        have f3 := kb.frozen 3
        have r0 := kb.cell 0 _ rfl
        have r1 := kb.cell 1 _ rfl
        have r2 := kb.cell 2 _ rfl
        have r3 := kb.cell 3 _ rfl
        have kb' := hide (kb.four (s := hulF R F))
        have hb' := hide (four_below (HB2.out V2 (bt hb1 hb2)) hbw.out (.int .i64 (hulF R F).1) (.int .i64 (hulF R F).2.1) (.int .i64 (hulF R F).2.2.1) (.int .i64 (hulF R F).2.2.2))
        generalize hulF R F = G at hnx kb' hb'
        clear kb
        refine zw 8 [] (by kernel_rfl) ?_
        refine readyZ.skip (w' := put4 V2 b G) rfl rfl (by go_simp) (fun h => absurd (by decide) h) ?_ readyZ.nil
        refine anyZ_done (by kernel_rfl) ?_ _
        dsimp only [Only, Exit.then]
        simp only [zp]
        clear r0 r1 r2 r3 f0 f1 f2 f3
        go_wp2_with fail
        go_roundw
        case rel => exact ⟨k + 1, by omega, by go_num, by rw [hnx]; exact kb'.out, hb'.out⟩
        case measure => simp [intOf]; omega
      · obtain rfl : k = L.length := by omega
        have hki : ¬ ((L.length : Nat) : Int) < (L.length : Nat) := by omega
        have kr := HK1.out.upto hB
        have f0 := kr.frozen 0
        have f1 := kr.frozen 1
        have f2 := kr.frozen 2
        have f3 := kr.frozen 3
        have r0 := kr.cell 0 _ rfl
        have r1 := kr.cell 1 _ rfl
        have r2 := kr.cell 2 _ rfl
        have r3 := kr.cell 3 _ rfl
        have e0 := hKb.cell 0 _ rfl
        have e1 := hKb.cell 1 _ rfl
        have e2 := hKb.cell 2 _ rfl
        have e3 := hKb.cell 3 _ rfl
        have hE := hide (BxE.yes h0.out (four_below (bt HB1.out hB) (g := w.heap.size + 1) (by omega) (.int .i64 (bxF (ftAt L x y) L.length).1) (.int .i64 (bxF (ftAt L x y) L.length).2.1) (.int .i64 (bxF (ftAt L x y) L.length).2.2.1) (.int .i64 (bxF (ftAt L x y) L.length).2.2.2)))
        generalize bxF (ftAt L x y) L.length = G at e0 e1 e2 e3 hE
        clear kr hKb hB
        go_wp2_with fail
        refine bodyPost_ret (v := .tuple #[rv G, .int .i64 0]) (by simp [results, Try.results12, go_sem, r0, r1, r2, r3]) rfl ?_
        exact hE.out
end Go.Proofs.Ytankkngjhgpcaaa
