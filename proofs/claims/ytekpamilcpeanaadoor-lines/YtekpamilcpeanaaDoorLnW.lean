/-
  phalanxlaw15.SmoothLines, walked.
-/
import Derived.Test.YtekpamilcpeanaaDoorGr
namespace Go.Proofs.YtekpamilcpeanaaDoor
open Go.RowKit Go.Shelf
set_option linter.unusedVariables false
set_option linter.unusedSimpArgs false
theorem Rrcost : Rcl 13 := zl fun _ _ => by go_simp
theorem Rroct : Rcl 14 := zl fun _ _ => by go_simp
theorem line_cost {x y p q : Int} (h1 : nrC x y = true) (h2 : nrC p q = true) (h3 : lnN x y p q ≤ 16384) : costV x y (lineL x y p q) = ocN x y p q := by
  rw [costV, if_neg (by have := lineL_len x y p q; omega), lineL_is h1 h2 h3, (cst_line _ _ _ _ _ h1 h2 rfl).2, ocN_yes h1 h2]
  omega
theorem refpcost_is {x y c : Int} {v : Value} {P : List (Int × Int)} {w : World} (hv : CeR w v P) (h : costV x y P = c) : Calls Tryd.prog 13 #[cel x y, v] w fun e w' => e = .returned (.int .i64 c) ∧ Below w.heap.size w w' := h ▸ refpcost_any x y v P w hv
theorem refoct_is {x y p q c : Int} (h : ocN x y p q = c) (w : World) : Calls Tryd.prog 14 #[cel x y, cel p q] w fun e w' => e = .returned (.int .i64 c) ∧ Below w.heap.size w w' := h ▸ refoctilec_any x y p q w
theorem refnear_is {x y : Int} {b : Bool} (h : nrC x y = b) (w : World) : Calls Tryd.prog 12 #[cel x y] w fun e w' => e = .returned (.bool b) ∧ Below w.heap.size w w' := h ▸ refnear_any x y w
theorem refapart_at {x y p q n : Int} (h : apN x y p q = n) (w : World) : Calls Tryd.prog 7 #[cel x y, cel p q] w fun e w' => e = .returned (.int .i64 n) ∧ Below w.heap.size w w' := h ▸ refapart_any x y p q w
set_option maxRecDepth 100000 in
set_option maxHeartbeats 4000000 in
theorem lines_walk (x y p q : Int) (w : World) (hg : Grnd w) (ho : Offs w) :
    Calls Tryd.prog 3 #[cel x y, cel p q] w fun e w' => e = .returned (.bool true) ∧ Below w.heap.size w w' := by
  obtain ⟨X, hX⟩ : ∃ X, (w.alloc (.cells #[.int .i64 x, .int .i64 y] 23)).alloc (.cells #[.int .i64 p, .int .i64 q] 23) = X := ⟨_, rfl⟩
  have B0 : Below w.heap.size w X := by rw [← hX]; exact box2 _ _ _
  have A0 : Two X w.heap.size x y := by rw [← hX]; exact (Two.newAt rfl).alloc
  have A1 : Two X (w.heap.size + 1) p q := by rw [← hX]; exact Two.newAt (by simp)
  have HK : Hid (∀ wx, Below X.heap.size X wx → (wx.cell? ⟨w.heap.size, 0, none⟩ = some (.int .i64 x) ∧ wx.cell? ⟨w.heap.size, 1, none⟩ = some (.int .i64 y)) ∧ (wx.cell? ⟨w.heap.size + 1, 0, none⟩ = some (.int .i64 p) ∧ wx.cell? ⟨w.heap.size + 1, 1, none⟩ = some (.int .i64 q))) := hide fun wx hx => ⟨(A0.kept hx).1, (A1.kept hx).1⟩
  obtain ⟨⟨k0, k1⟩, l0, l1⟩ := HK.out X (Below.refl _ _)
  have HG : Hid (∀ wx, Below X.heap.size X wx → Grnd wx ∧ Offs wx) := hide fun wx hx => ⟨hg.kept (bt B0 hx), ho.kept (bt B0 hx)⟩
  have HX := hide hX
  have HB0 := hide B0
  obtain ⟨n, hn⟩ : ∃ n, apN x y p q = n := ⟨_, rfl⟩
  have HAp := hide (refapart_at hn X)
  clear hX A0 A1 B0 hg ho
  by_cases h3 : (3000 : Int) < n
  · clear hn
    go_enter Tryd.func3, Tryd.ntmps3
    go_wp2_with (rw [HX.out])
    refine HAp.out.mono ?_
    rintro e w1 ⟨rfl, hb1⟩
    have HA := hide (awake_is w1 (HG.out w1 hb1).1 (HG.out w1 hb1).2)
    have Hb1 := hide hb1
    clear hb1 k0 k1 l0 l1
    go_wp2_with fail
    refine HA.out.mono ?_
    rintro e w2 ⟨rfl, hb2⟩
    have Hb2 := hide (bt HB0.out (bt Hb1.out hb2))
    clear hb2
    go_wp2_with fail
    go_ret
    exact ⟨rfl, Hb2.out⟩
  · obtain ⟨L, hL⟩ : ∃ L, lineL x y p q = L := ⟨_, rfl⟩
    have HLn := hide (fun wx => hL ▸ line_any x y p q wx)
    have HRn := hide (fun wx => hL ▸ rline_any x y p q wx)
    have HN := hide (And.intro hn hL)
    clear hn hL
    go_enter Tryd.func3, Tryd.ntmps3
    go_wp2_with (rw [HX.out])
    refine HAp.out.mono ?_
    rintro e w1 ⟨rfl, hb1⟩
    have Hb1 := hide hb1
    clear k0 k1 l0 l1 hb1
    obtain ⟨⟨k0, k1⟩, l0, l1⟩ := HK.out w1 Hb1.out
    go_wp2_with fail
    refine (HLn.out w1).mono ?_
    rintro e w2 ⟨v, rfl, hv, -, hb2⟩
    obtain ⟨va, vc, rfl⟩ := hv.slice
    have Hb2 := hide (bt Hb1.out hb2)
    have Hv2 := hide hv
    clear k0 k1 l0 l1 hb2 hv
    obtain ⟨⟨k0, k1⟩, l0, l1⟩ := HK.out w2 Hb2.out
    go_wp2_with fail
    refine (HRn.out w2).mono ?_
    rintro e w3 ⟨u, rfl, hu, -, hb3⟩
    obtain ⟨ua, uc, rfl⟩ := hu.slice
    have HC := hide (refcells_yes _ _ L w3 (ceR_own (Hv2.out.upto hb3)) (ceR_own hu))
    have Hb3 := hide (And.intro hb3 (bt Hb2.out hb3))
    clear k0 k1 l0 l1 hb3 hu
    go_wp2_with fail
    refine HC.out.mono ?_
    rintro e w4 ⟨rfl, hb4⟩
    have Hb4 := hide (And.intro (bt Hb3.out.1 hb4) (bt Hb3.out.2 hb4))
    clear hb4 HC
    obtain ⟨⟨k0, k1⟩, l0, l1⟩ := HK.out w4 Hb4.out.2
    cases h1 : nrC x y
    · have HNe := hide (refnear_is h1 w4)
      obtain rfl : L = [] := by rw [← HN.out.2]; exact lineL_no1 h1
      have hz : (([] : List (Int × Int)).length : Int) = 0 := rfl
      clear h1
      go_wp2_with fail
      refine HNe.out.mono ?_
      rintro e w5 ⟨rfl, hb5⟩
      have Hb5 := hide (bt Hb4.out.2 hb5)
      have HA := hide (awake_is w5 (HG.out w5 Hb5.out).1 (HG.out w5 Hb5.out).2)
      clear hb5 k0 k1 l0 l1
      go_wp2_with fail
      refine HA.out.mono ?_
      rintro e w6 ⟨rfl, hb6⟩
      have Hb6 := hide (bt HB0.out (bt Hb5.out hb6))
      clear hb6
      go_wp2_with fail
      go_ret
      exact ⟨rfl, Hb6.out⟩
    · cases h2 : nrC p q
      · have HNe := hide (refnear_is h1 w4)
        have HNe2 := hide (fun wx => refnear_is h2 wx)
        obtain rfl : L = [] := by rw [← HN.out.2]; exact lineL_no2 h2
        have hz : (([] : List (Int × Int)).length : Int) = 0 := rfl
        clear h1 h2
        go_wp2_with fail
        refine HNe.out.mono ?_
        rintro e w5 ⟨rfl, hb5⟩
        have Hb5 := hide (bt Hb4.out.2 hb5)
        clear hb5 k0 k1 l0 l1
        obtain ⟨⟨k0, k1⟩, l0, l1⟩ := HK.out w5 Hb5.out
        go_wp2_with fail
        refine (HNe2.out _).mono ?_
        rintro e w5 ⟨rfl, hb5⟩
        have Hb6 := hide (bt Hb5.out hb5)
        have HA := hide (awake_is w5 (HG.out w5 Hb6.out).1 (HG.out w5 Hb6.out).2)
        clear hb5 k0 k1 l0 l1
        go_wp2_with fail
        refine HA.out.mono ?_
        rintro e w6 ⟨rfl, hb6⟩
        have Hb7 := hide (bt HB0.out (bt Hb6.out hb6))
        clear hb6
        go_wp2_with fail
        go_ret
        exact ⟨rfl, Hb7.out⟩
      · have HNe := hide (refnear_is h1 w4)
        have HNe2 := hide (fun wx => refnear_is h2 wx)
        have hap := apN_lnN h1 h2
        have hln : lnN x y p q ≤ 16384 := by have := HN.out.1; omega
        obtain ⟨m, hm⟩ : ∃ m, ocN x y p q = m := ⟨_, rfl⟩
        have HCo : Hid (costV x y L = m ∧ ocN x y p q = m) := hide ⟨by rw [← HN.out.2, line_cost h1 h2 hln, hm], hm⟩
        clear h1 h2 hap hln hm
        go_wp2_with fail
        refine HNe.out.mono ?_
        rintro e w5 ⟨rfl, hb5⟩
        have Hb5 := hide (And.intro (bt Hb4.out.1 hb5) (bt Hb4.out.2 hb5))
        clear hb5 k0 k1 l0 l1
        obtain ⟨⟨k0, k1⟩, l0, l1⟩ := HK.out w5 Hb5.out.2
        go_wp2_with fail
        refine (HNe2.out _).mono ?_
        rintro e w6 ⟨rfl, hb6⟩
        obtain ⟨Y, hY⟩ : ∃ Y, w6.drew = Y := ⟨_, rfl⟩
        have BY : Below w6.heap.size w6 Y := by rw [← hY]; exact (Below.refl _ _).drew
        have b2Y := bt (bt Hb5.out.1 hb6) BY
        have bXY := bt (bt Hb5.out.2 hb6) BY
        have HY := hide (And.intro hY (And.intro b2Y bXY))
        have hvY : CeR Y _ L := ceR_own (Hv2.out.upto b2Y)
        have HK2 : Hid (∀ wx, Below Y.heap.size Y wx → (wx.cell? ⟨w.heap.size, 0, none⟩ = some (.int .i64 x) ∧ wx.cell? ⟨w.heap.size, 1, none⟩ = some (.int .i64 y)) ∧ (wx.cell? ⟨w.heap.size + 1, 0, none⟩ = some (.int .i64 p) ∧ wx.cell? ⟨w.heap.size + 1, 1, none⟩ = some (.int .i64 q))) := hide fun wx hx => HK.out wx (bt bXY hx)
        have HV := hide hvY
        clear hb6 k0 k1 l0 l1 hY BY b2Y bXY hvY
        go_wp2_with fail
        refine wp_only ?_
        refine wp_region_z (fun wx : World => Below Y.heap.size Y wx) [] (by kernel_rfl) ?_
        rw [HY.out.1]
        refine zx 0 2 16 rfl (by kernel_rfl) (Below.refl _ _) ?_
        iterate 2 (refine zxc rfl (by rfl) (fun wx hx => by obtain ⟨⟨k0, k1⟩, l0, l1⟩ := HK2.out wx hx; go_simp; rfl) ?_; simp only [zp])
        refine zxn ?_
        refine zx 3 2 16 rfl (by kernel_rfl) (Below.refl _ _) ?_
        iterate 2 (refine zxc rfl (by rfl) (fun wx hx => by obtain ⟨⟨k0, k1⟩, l0, l1⟩ := HK2.out wx hx; go_simp; rfl) ?_; simp only [zp])
        refine zxn ?_
        refine zw 2 [] (by kernel_rfl) ?_
        refine readyZ.call rfl rfl (Rrcost (by rfl) (by rfl) (by simp only [zj]; rfl)) (refpcost_is HV.out HCo.out.1) ?_ readyZ.nil
        rintro e W1 ⟨rfl, hb1⟩
        refine ⟨_, rfl, fun _ => hb1, ?_⟩
        simp only [zp]
        refine zw 5 [] (by kernel_rfl) ?_
        refine readyZ.call rfl rfl (Rroct (by rfl) (by rfl) (by simp only [zj]; rfl)) (refoct_is HCo.out.2 W1) ?_ readyZ.nil
        rintro e W2 ⟨rfl, hb2⟩
        have hs2 := bt hb1 hb2
        refine ⟨_, rfl, fun _ => hs2, ?_⟩
        simp only [zp]
        refine zx 6 2 16 rfl (by kernel_rfl) hs2 ?_
        refine zxc (v := .bool true) rfl (by rfl) (fun wx hx => by go_simp) ?_
        simp only [zp]
        refine zxc (v := .bool true) rfl (by rfl) (fun wx hx => by go_simp) ?_
        simp only [zp]
        refine zxn ?_
        have bX2 := bt HY.out.2.2 hs2
        refine zw 8 [] (by kernel_rfl) ?_
        refine readyZ.callG rfl (by rfl) (Rawk (by rfl) (by rfl) (by simp only [zj])) (awake_is W2 (HG.out W2 bX2).1 (HG.out W2 bX2).2) ?_ readyZ.nil
        rintro e W3 ⟨rfl, hb3⟩
        have hs3 := bt hs2 hb3
        refine ⟨_, rfl, fun _ => hs3, ?_⟩
        simp only [zp]
        refine zx 9 2 16 rfl (by kernel_rfl) hs3 ?_
        refine zxc (v := .bool true) rfl (by rfl) (fun wx hx => by go_simp) ?_
        simp only [zp]
        refine zxc (v := .bool true) rfl (by rfl) (fun wx hx => by go_simp) ?_
        simp only [zp]
        refine zxn ?_
        refine anyZ_done (by kernel_rfl) ?_ _
        dsimp only [Only, Exit.then]
        have HB := hide (bt HB0.out (bt bX2 hb3))
        clear hb1 hb2 hb3 hs2 hs3 bX2
        go_wp2_with fail
        go_ret
        exact ⟨rfl, HB.out⟩
end Go.Proofs.YtekpamilcpeanaaDoor
