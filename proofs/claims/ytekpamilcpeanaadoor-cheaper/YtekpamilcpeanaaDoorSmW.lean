/-
  phalanxlaw15.SmoothSmooths, walked.
-/
import Derived.Test.YtekpamilcpeanaaDoorGr
import Derived.Test.YtekpamilcpeanaaDoorLaid
import Derived.Test.YtekpamilcpeanaaDoorBoth
namespace Go.Proofs.YtekpamilcpeanaaDoor
open Go.RowKit Go.Shelf
set_option linter.unusedVariables false
set_option linter.unusedSimpArgs false
/-- The box in which what is asked lies. -/
def AB (w : World) (k : Nat) (c s x y : Int) (v : Value) : Prop := w.heap[k]? = some (.cells #[.int .i64 c, .int .i64 s, .int .i64 x, .int .i64 y, v] 39 (0, 0))
theorem AB.kept {w w' : World} {k : Nat} {c s x y : Int} {v : Value} (h : AB w k c s x y v) (hb : Below w.heap.size w w') : AB w' k c s x y v := (hb.block k (Array.getElem?_eq_some_iff.1 h).1).trans h
theorem AB.c {w : World} {k : Nat} {c s x y : Int} {v : Value} (h : AB w k c s x y v) : (w.cell? ⟨k, 0, none⟩ = some (.int .i64 c) ∧ w.cell? ⟨k, 1, none⟩ = some (.int .i64 s)) ∧ (w.cell? ⟨k, 2, none⟩ = some (.int .i64 x) ∧ w.cell? ⟨k, 3, none⟩ = some (.int .i64 y)) ∧ w.cell? ⟨k, 4, none⟩ = some v :=
  ⟨⟨cell_of_row w k 0 _ _ _ h, cell_of_row w k 1 _ _ _ h⟩, ⟨cell_of_row w k 2 _ _ _ h, cell_of_row w k 3 _ _ _ h⟩, cell_of_row w k 4 _ _ _ h⟩
/-- What Smooth tells, with letters. -/
def SmF (w : World) (L : List (Int × Int)) (code : Int) : Ending → World → Prop := fun e w' => ∃ a cp, e = .returned (.tuple #[.slice a L.length cp, .int .i64 code]) ∧ CeR w' (.slice a L.length cp) L ∧ Below w.heap.size w w'
theorem smF_of {w w' : World} {o : Option (List (Int × Int))} {e : Ending} (h : SmE w o e w') : SmF w (o.getD []) (if o.isSome then 0 else 1) e w' := by
  cases o with
  | none => exact ⟨none, 0, h.1, ceR_own (Rw.nil _ _ _ _), h.2⟩
  | some L =>
    obtain ⟨v, he, hv, -, hb⟩ := h
    obtain ⟨a, c, rfl⟩ := hv.slice
    exact ⟨a, c, he, hv.ceR, hb⟩
theorem Rof : Rcl 18 := zl fun _ _ => by go_simp
theorem Rdsm : Rcl 17 := zl fun _ _ => by go_simp
set_option maxRecDepth 100000 in
set_option maxHeartbeats 8000000 in
theorem smooths_walk (W H : Int) (tv bv : Value) (tl : List Nat) (L : List Bd) (c s x y : Int) (v : Value) (P : List (Int × Int)) (w : World) (hv : TlR w tv tl) (hb : ∀ n ∈ tl, n < 256) (hl : BdR w bv L) (hp : CeR w v P) (hg : Grnd w) (ho : Offs w) :
    Calls Tryd.prog 4 #[mp W H tv bv, ask c s x y v] w fun e w' => e = .returned (.bool true) ∧ Below w.heap.size w w' := by
  obtain ⟨X, hX⟩ : ∃ X, (w.alloc (.cells #[.int .i64 W, .int .i64 H, tv, bv] 35)).alloc (.cells #[.int .i64 c, .int .i64 s, .int .i64 x, .int .i64 y, v] 39) = X := ⟨_, rfl⟩
  have B0 : Below w.heap.size w X := by rw [← hX]; exact box2 _ _ _
  have MX : MB X w.heap.size W H tv bv := by rw [← hX]; exact (MB.new w W H tv bv).kept (box1 _ _)
  have AX : AB X (w.heap.size + 1) c s x y v := by
    have := heap_alloc_new (w.alloc (.cells #[.int .i64 W, .int .i64 H, tv, bv] 35)) (.cells #[.int .i64 c, .int .i64 s, .int .i64 x, .int .i64 y, v] 39)
    rw [hX] at this
    simpa [AB] using this
  have HGO : Hid (∀ wx, Below X.heap.size X wx → (Grnd wx ∧ Offs wx) ∧ CeR wx v P) := hide fun wx hx => ⟨⟨hg.kept (bt B0 hx), ho.kept (bt B0 hx)⟩, hp.kept (bt B0 hx)⟩
  have HK : Hid (∀ wx, Below X.heap.size X wx → (wx.cell? ⟨w.heap.size + 1, 0, none⟩ = some (.int .i64 c) ∧ wx.cell? ⟨w.heap.size + 1, 1, none⟩ = some (.int .i64 s)) ∧ (wx.cell? ⟨w.heap.size + 1, 2, none⟩ = some (.int .i64 x) ∧ wx.cell? ⟨w.heap.size + 1, 3, none⟩ = some (.int .i64 y)) ∧ wx.cell? ⟨w.heap.size + 1, 4, none⟩ = some v) := hide fun wx hx => (AX.kept hx).c
  obtain ⟨m0, m1, m2, m3⟩ := MX.c
  have HX := hide hX
  have HB0 := hide B0
  have HAw : Hid (∀ wx, Below X.heap.size X wx → Calls Tryd.prog 8 #[] wx fun e w' => e = .returned (.bool true) ∧ Below wx.heap.size wx w') := hide fun wx hx => awake_is wx (HGO.out wx hx).1.1 (HGO.out wx hx).1.2
  rcases chkC_two W H tl L with hc | hc
  · have HB := hide (both_ok W H tv bv tl L X (hv.kept B0) hb (hl.kept B0) hc)
    obtain ⟨wd, ht, rfl, rfl, hwd, hht⟩ := dims_is hc
    have HDm := hide (And.intro hwd hht)
    obtain ⟨a1, cap1, rfl, -⟩ := hv
    obtain ⟨a2, cap2, rfl, -⟩ := hl
    obtain ⟨a4, cap4, rfl, -⟩ := hp
    clear hg ho hc hb MX AX hX B0 hwd hht
    go_enter Tryd.func4, Tryd.ntmps4
    go_wp2_with (rw [HX.out])
    refine HB.out.mono ?_
    rintro e w1 ⟨p, r, rfl, hW, hR, hb1⟩
    have Hb1 := hide hb1
    have HWR := hide (And.intro hW hR)
    clear m0 m1 m2 m3 HB hb1 hW hR
    obtain ⟨⟨q0, q1⟩, ⟨q2, q3⟩, q4⟩ := HK.out w1 Hb1.out
    by_cases hlen : (2000 : Int) < (P.length : Nat)
    · go_wp2_with fail
      refine (HAw.out w1 Hb1.out).mono ?_
      rintro e w2 ⟨rfl, hb2⟩
      have Hb2 := hide (bt HB0.out (bt Hb1.out hb2))
      clear hb2 q0 q1 q2 q3 q4
      go_wp2_with fail
      go_ret
      exact ⟨rfl, Hb2.out⟩
    · obtain ⟨v3, w3, hrun3, hv3, hb3⟩ := append_path w1 a4 cap4 P (HGO.out w1 Hb1.out).2 (by omega)
      have HR3 := hide hrun3
      have Hb3 := hide (And.intro hb3 (bt Hb1.out hb3))
      have HV3 := hide hv3
      obtain ⟨a3, cap3, rfl, -⟩ := hv3
      obtain ⟨⟨z0, z1⟩, ⟨z2, z3⟩, z4⟩ := HK.out (w1.alloc (.cells #[] 23)) (bt Hb1.out (box1 _ _))
      obtain ⟨⟨y0, y1⟩, ⟨y2, y3⟩, y4⟩ := HK.out w3 (bt Hb1.out hb3)
      clear hrun3 hb3
      go_wp2_with (at_builtin; refine wpList_append_run rfl _ _ 26 rfl _ _ rfl rfl HR3.out ?_)
      obtain ⟨St, hSt⟩ : ∃ St, stB (wd : Int) (ht : Int) tl (whoF L) c s = St := ⟨_, rfl⟩
      obtain ⟨Lf, hLf⟩ : ∃ Lf, (smO St x y P).getD [] = Lf := ⟨_, rfl⟩
      obtain ⟨code, hcode⟩ : ∃ code : Int, (if (smO St x y P).isSome then 0 else 1) = code := ⟨_, rfl⟩
      have hx3 := HGO.out w3 Hb3.out.2
      refine (smooth_any p wd ht tl (whoF L) c s x y _ P w3 HV3.out (HWR.out.1.1.kept Hb3.out.1) hx3.1.1 hx3.1.2).mono ?_
      intro e w4 h4
      rw [hSt] at h4
      have h4 := smF_of h4
      rw [hLf, hcode] at h4
      obtain ⟨a5, cap5, rfl, hL5, hb4⟩ := h4
      obtain ⟨Y, hY⟩ : ∃ Y, w4.drew = Y := ⟨_, rfl⟩
      have bY : Below w4.heap.size w4 Y := by rw [← hY]; exact (Below.refl _ _).drew
      have b1Y := bt Hb3.out.1 (bt hb4 bY)
      have bXY := bt Hb1.out b1Y
      have HY := hide (And.intro hY (And.intro b1Y bXY))
      have HV3Y := hide (And.intro (HV3.out.kept (bt hb4 bY)) (hL5.kept bY))
      have HK2 : Hid (∀ wx, Below Y.heap.size Y wx → (wx.cell? ⟨w.heap.size + 1, 0, none⟩ = some (.int .i64 c) ∧ wx.cell? ⟨w.heap.size + 1, 1, none⟩ = some (.int .i64 s)) ∧ (wx.cell? ⟨w.heap.size + 1, 2, none⟩ = some (.int .i64 x) ∧ wx.cell? ⟨w.heap.size + 1, 3, none⟩ = some (.int .i64 y)) ∧ wx.cell? ⟨w.heap.size + 1, 4, none⟩ = some (.slice a4 P.length cap4)) := hide fun wx hx => HK.out wx (bt bXY hx)
      have HOf := hide (of_gr (w := Y) (N := wd * ht) c s (HWR.out.2.kept b1Y) ⟨HDm.out.1, HDm.out.2⟩ rfl)
      have HST := hide (And.intro hSt (And.intro hLf hcode))
      clear q0 q1 q2 q3 q4 z0 z1 z2 z3 z4 y0 y1 y2 y3 y4 hx3 hb4 hY bY b1Y bXY hL5 hSt hLf hcode HR3 HV3
      go_wp2_with fail
      refine wp_only ?_
      refine wp_region_z (fun wx : World => Below Y.heap.size Y wx) [] (by kernel_rfl) ?_
      rw [HY.out.1]
      refine zx 0 3 16 rfl (by kernel_rfl) (Below.refl _ _) ?_
      iterate 3 (refine zxc rfl (by rfl) (fun wx hx => by obtain ⟨⟨q0, q1⟩, ⟨q2, q3⟩, q4⟩ := HK2.out wx hx; go_simp; rfl) ?_; simp only [zp])
      refine zxn ?_
      refine zx 4 4 16 rfl (by kernel_rfl) (Below.refl _ _) ?_
      iterate 4 (refine zxc rfl (by rfl) (fun wx hx => by obtain ⟨⟨q0, q1⟩, ⟨q2, q3⟩, q4⟩ := HK2.out wx hx; go_simp; rfl) ?_; simp only [zp])
      refine zxn ?_
      refine zw 3 [] (by kernel_rfl) ?_
      refine readyZ.call rfl rfl (Rof (by rfl) (by rfl) (by simp only [zj]; rfl)) HOf.out ?_ readyZ.nil
      rintro e W5 ⟨iv, rfl, hiv, hb5⟩
      refine ⟨_, rfl, fun _ => hb5, ?_⟩
      simp only [zp]
      have hds : DS W5 wd ht iv St := by rw [← HST.out.1]; exact ds_of ⟨HDm.out.1, HDm.out.2⟩ rfl hiv
      have hcP := (HGO.out W5 (bt HY.out.2.2 hb5)).2
      refine zw 8 [] (by kernel_rfl) ?_
      refine readyZ.call rfl rfl (Rdsm (by rfl) (by rfl) (by simp only [zj]; rfl)) ((dsmooth_any wd ht iv x y _ P St W5 hcP hds).mono fun e w' h => smF_of h) ?_ readyZ.nil
      rw [HST.out.2.1, HST.out.2.2]
      rintro e W6 ⟨a6, cap6, rfl, hL6, hb6⟩
      have b56 := bt hb5 hb6
      refine ⟨_, rfl, fun _ => b56, ?_⟩
      simp only [zp]
      refine zx 9 5 16 rfl (by kernel_rfl) b56 ?_
      iterate 5 (refine zxc rfl (by rfl) (fun wx hx => by go_simp; rfl) ?_; simp only [zp])
      refine zxn ?_
      refine anyZ_done (by kernel_rfl) ?_ _
      dsimp only [Only, Exit.then]
      have hbX6 := bt HY.out.2.2 b56
      have HC1 := hide (refcells_yes _ _ Lf W6 (HV3Y.out.2.kept b56) hL6)
      have HE := hide (And.intro b56 hbX6)
      clear hb5 hb6 hiv hds hcP hL6 b56 HOf
      obtain ⟨⟨q0, q1⟩, ⟨q2, q3⟩, q4⟩ := HK2.out W6 HE.out.1
      clear hbX6
      go_wp2_with fail
      refine HC1.out.mono ?_
      rintro e W7 ⟨rfl, hb7⟩
      have HE7 := hide (And.intro (bt HE.out.1 hb7) (bt HE.out.2 hb7))
      clear hb7 q0 q1 q2 q3 q4
      obtain ⟨⟨q0, q1⟩, ⟨q2, q3⟩, q4⟩ := HK2.out W7 HE7.out.1
      have HC2 := hide (refcells_yes _ _ P W7 (HV3Y.out.1.kept HE7.out.1) (HGO.out W7 HE7.out.2).2)
      go_wp2_with fail
      refine HC2.out.mono ?_
      rintro e W8 ⟨rfl, hb8⟩
      have HE8 := hide (bt HE7.out.2 hb8)
      clear hb8 q0 q1 q2 q3 q4
      go_wp2_with fail
      refine (HAw.out W8 HE8.out).mono ?_
      rintro e W9 ⟨rfl, hb9⟩
      have HE9 := hide (bt HB0.out (bt HE8.out hb9))
      clear hb9
      go_wp2_with fail
      go_ret
      exact ⟨rfl, HE9.out⟩
  · have HB := hide (both_no W H tv bv tl L X (hv.kept B0) hb (hl.kept B0) hc)
    obtain ⟨a1, cap1, rfl, -⟩ := hv
    obtain ⟨a2, cap2, rfl, -⟩ := hl
    obtain ⟨a4, cap4, rfl, -⟩ := hp
    clear hg ho hc hb MX AX hX B0
    go_enter Tryd.func4, Tryd.ntmps4
    go_wp2_with (rw [HX.out])
    refine HB.out.mono ?_
    rintro e w1 ⟨rfl, hb1⟩
    have Hb1 := hide hb1
    clear m0 m1 m2 m3 HB hb1
    go_wp2_with fail
    refine (HAw.out w1 Hb1.out).mono ?_
    rintro e w2 ⟨rfl, hb2⟩
    have Hb2 := hide (bt HB0.out (bt Hb1.out hb2))
    clear hb2
    go_wp2_with fail
    go_ret
    exact ⟨rfl, Hb2.out⟩
end Go.Proofs.YtekpamilcpeanaaDoor
