/-
  SlotsBoxes, walked.
-/
import Derived.Test.YtankkngjhgpcaaaBxR
import Derived.Test.YtankkngjhgpcaaaAwk
namespace Go.Proofs.Ytankkngjhgpcaaa
open Go.RowKit
set_option linter.unusedVariables false
set_option linter.unusedSimpArgs false
set_option maxRecDepth 100000 in
set_option maxHeartbeats 4000000 in
theorem boxes_walk (v : Value) (L : List (Int × Int)) (x y : Int) (w : World) (hv : CeR w v L) : Calls Try.prog 4 #[v, pr x y] w fun e w' => e = .returned (.bool true) ∧ Below w.heap.size w w' := by
  obtain ⟨a, cap, rfl, hcap, hmax⟩ := hv.slice
  obtain ⟨X, hX⟩ : ∃ X, w.alloc (.cells #[.int .i64 x, .int .i64 y] 24) = X := ⟨_, rfl⟩
  have BX : Below w.heap.size w X := by rw [← hX]; exact box1 _ _
  have KX : Bk X w.heap.size 24 [.int .i64 x, .int .i64 y] := by rw [← hX]; exact Bk.new _ _ _
  have HV := hide (hv.kept BX)
  have HX := hide hX
  have HK := hide KX
  have HB := hide BX
  have x0 := KX.cell 0 _ rfl
  have x1 := KX.cell 1 _ rfl
  have HP := hide (box_is _ L x y X HV.out)
  have HQ := hide (fun W (h : CeR W (.slice a L.length cap) L) => refbox_is _ L x y W h)
  unfold BxE at HP HQ
  generalize boxV L x y = G at HP HQ
  generalize layE L x y = z at HP HQ
  have HP := hide HP
  have HQ := hide HQ
  clear hX KX BX hv
  go_enter Try.func4, Try.ntmps4
  go_wp2_with (rw [HX.out])
  refine HP.out.mono ?_
  rintro e w1 ⟨rfl, hb1⟩
  obtain ⟨X2, hX2⟩ : ∃ X2, w1.alloc (.cells #[.int .i64 G.1, .int .i64 G.2.1, .int .i64 G.2.2.1, .int .i64 G.2.2.2] 34) = X2 := ⟨_, rfl⟩
  have B2 : Below X.heap.size X X2 := by rw [← hX2]; exact bt hb1 (box1 _ _)
  have K2 := hide (show Bk X2 w1.heap.size 34 (r4s G) by rw [← hX2]; exact Bk.new _ _ _)
  clear x0 x1
  have x0 := (HK.out.upto B2).cell 0 _ rfl
  have x1 := (HK.out.upto B2).cell 1 _ rfl
  have HB1 := hide (bt HB.out B2)
  have HV1 := hide (HV.out.kept B2)
  have HX2 := hide hX2
  clear hb1 hX2 B2 HX HP
  go_wp2_with (rw [HX2.out])
  refine (HQ.out X2 HV1.out).mono ?_
  rintro e w3 ⟨rfl, hb3⟩
  obtain ⟨X4, hX4⟩ : ∃ X4, w3.alloc (.cells #[.int .i64 G.1, .int .i64 G.2.1, .int .i64 G.2.2.1, .int .i64 G.2.2.2] 34) = X4 := ⟨_, rfl⟩
  have B4 : Below X2.heap.size X2 X4 := by rw [← hX4]; exact bt hb3 (box1 _ _)
  have K4 := hide (show Bk X4 w3.heap.size 34 (r4s G) by rw [← hX4]; exact Bk.new _ _ _)
  have a0 := (K2.out.upto B4).cell 0 _ rfl
  have a1 := (K2.out.upto B4).cell 1 _ rfl
  have a2 := (K2.out.upto B4).cell 2 _ rfl
  have a3 := (K2.out.upto B4).cell 3 _ rfl
  have b0 := K4.out.cell 0 _ rfl
  have b1 := K4.out.cell 1 _ rfl
  have b2 := K4.out.cell 2 _ rfl
  have b3 := K4.out.cell 3 _ rfl
  have HB4 := hide (bt HB1.out B4)
  have HX4 := hide hX4
  clear hb3 hX4 B4 HX2 HQ x0 x1
  go_wp2_with (rw [HX4.out])
  refine (awake_any _).mono ?_
  rintro e w5 ⟨rfl, hb5⟩
  have HB5 := hide (bt HB4.out hb5)
  clear hb5 a0 a1 a2 a3 b0 b1 b2 b3
  go_wp2_with fail
  go_ret
  exact ⟨rfl, HB5.out⟩
end Go.Proofs.Ytankkngjhgpcaaa
