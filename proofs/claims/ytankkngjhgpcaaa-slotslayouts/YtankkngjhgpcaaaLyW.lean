/-
  SlotsLayouts, walked.
-/
import Derived.Test.YtankkngjhgpcaaaRLay
import Derived.Test.YtankkngjhgpcaaaAwk
namespace Go.Proofs.Ytankkngjhgpcaaa
open Go.RowKit
set_option linter.unusedVariables false
set_option linter.unusedSimpArgs false
set_option maxRecDepth 100000 in
set_option maxHeartbeats 4000000 in
theorem layouts_walk (v : Value) (L : List (Int × Int)) (x y : Int) (w : World) (hv : CeR w v L) : Calls Try.prog 3 #[v, pr x y] w fun e w' => e = .returned (.bool true) ∧ Below w.heap.size w w' := by
  obtain ⟨a, cap, rfl, hcap, hmax⟩ := hv.slice
  obtain ⟨X, hX⟩ : ∃ X, w.alloc (.cells #[.int .i64 x, .int .i64 y] 24) = X := ⟨_, rfl⟩
  have BX : Below w.heap.size w X := by rw [← hX]; exact box1 _ _
  have KX : Bk X w.heap.size 24 [.int .i64 x, .int .i64 y] := by rw [← hX]; exact Bk.new _ _ _
  have HV := hide (hv.kept BX)
  have HX := hide hX
  have HK := hide KX
  have HB := hide BX
  have x0 := KX.cell 0 _ rfl
  have x1 := KX.cell 1 _ rfl
  clear hX KX BX hv
  go_enter Try.func3, Try.ntmps3
  go_wp2_with (rw [HX.out])
  refine (layout_is _ L x y X HV.out).mono ?_
  rintro e w1 ⟨u1, rfl, hc1, hb1⟩
  have HC1 := hide hc1
  obtain ⟨a1, k1, rfl, -, -⟩ := hc1.slice
  clear x0 x1
  have x0 := (HK.out.upto hb1).cell 0 _ rfl
  have x1 := (HK.out.upto hb1).cell 1 _ rfl
  have HB1 := hide (bt HB.out hb1)
  have HV1 := hide (HV.out.kept hb1)
  clear hb1 hc1 HX
  go_wp2_with fail
  refine (reflayout_is _ L x y w1 HV1.out).mono ?_
  rintro e w2 ⟨u2, rfl, hc2, hb2⟩
  have HC2 := hide hc2
  obtain ⟨a2, k2, rfl, -, -⟩ := hc2.slice
  have HC1 := hide (HC1.out.kept hb2)
  have HB2 := hide (bt HB1.out hb2)
  clear hb2 hc2 x0 x1 HB1 HV1 HV HK HB
  go_wp2_with fail
  go_loopw [9] (fun s9 wr => ∃ n : Int, -1 ≤ n ∧ n ≤ 66 ∧ s9 = .int .i64 n ∧ w2 = wr) (fun s9 _ => (66 - intOf s9).toNat)
  case atStart => exact ⟨-1, by omega, by omega, rfl, rfl⟩
  case round =>
    obtain ⟨n, hn1, hn2, rfl, rfl⟩ := hrel
    by_cases hle : n ≤ 65
    · have hC := hide (columns_is n)
      have hD := hide (refcolumns_is n)
      generalize colZ n = z at hC hD
      go_wp2_with fail
      refine (hC.out _).mono ?_
      rintro e w' ⟨rfl, rfl⟩
      go_wp2_with fail
      refine (hD.out _).mono ?_
      rintro e w' ⟨rfl, rfl⟩
      go_wp2_with fail
      go_roundw
      case rel => exact ⟨n + 1, by omega, by omega, by go_num, trivial⟩
      case measure => simp [intOf]; omega
    · have HA := hide (refcells_yes _ _ _ w2 HC1.out HC2.out)
      go_wp2_with fail
      refine HA.out.mono ?_
      rintro e w3 ⟨rfl, hb3⟩
      have HB3 := hide (bt HB2.out hb3)
      clear hb3
      go_wp2_with fail
      refine (awake_any w3).mono ?_
      rintro e w4 ⟨rfl, hb4⟩
      have HB4 := hide (bt HB3.out hb4)
      clear hb4
      go_wp2_with fail
      go_ret
      exact ⟨rfl, HB4.out⟩
end Go.Proofs.Ytankkngjhgpcaaa
