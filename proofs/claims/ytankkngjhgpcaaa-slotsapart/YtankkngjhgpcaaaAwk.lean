/-
  The document's Cells, of what reads the same. awake: two units stand beside each other.
-/
import Derived.Test.YtankkngjhgpcaaaLay
namespace Go.Proofs.Ytankkngjhgpcaaa
open Go.RowKit
set_option linter.unusedVariables false
set_option linter.unusedSimpArgs false
set_option maxRecDepth 100000 in
set_option maxHeartbeats 4000000 in
theorem refcells_yes (va vb : Value) (P : List (Int × Int)) (w : World) (ha : CeR w va P) (hb : CeR w vb P) : Calls Try.prog 10 #[va, vb] w fun e w' => e = .returned (.bool true) ∧ Below w.heap.size w w' := by
  obtain ⟨a, cap, rfl, hcap, hmax⟩ := ha.slice
  obtain ⟨b, capb, rfl, hcapb, -⟩ := hb.slice
  have hl63 : (0 : Int) ≤ (P.length : Nat) ∧ ((P.length : Nat) : Int) ≤ 9223372036854775807 := by
    have : P.length ≤ 9223372036854775807 := hmax
    omega
  go_enter Try.func10, Try.ntmps10
  go_wp2_with fail
  go_loopw [5] (fun s5 wr => ∃ k : Nat, k ≤ P.length ∧ s5 = .int .i64 k ∧ Below w.heap.size w wr) (fun s5 _ => P.length - (intOf s5).toNat)
  case atStart => exact ⟨0, Nat.zero_le _, rfl, Below.refl _ _⟩
  case round =>
    obtain ⟨k, hk, rfl, hB⟩ := hrel
    by_cases hlt : k < P.length
    · obtain ⟨q, hq⟩ : ∃ q, P[k]? = some q := ⟨_, List.getElem?_eq_getElem hlt⟩
      obtain ⟨g, o, hga, hgl, c0, c1⟩ := CeR.at (ha.kept hB) rfl hq
      obtain ⟨g2, o2, hgb, hgl2, d0, d1⟩ := CeR.at (hb.kept hB) rfl hq
      subst hga
      subst hgb
      have hki : (k : Int) < (P.length : Nat) := by omega
      obtain ⟨Y, hY⟩ : ∃ Y, wr.drew = Y := ⟨_, rfl⟩
      have BY : Below w.heap.size w Y := by rw [← hY]; exact hB.drew
      have c0 : Y.cell? ⟨g, o + k * 2, none⟩ = some (.int .i64 q.1) := by rw [← hY]; exact c0
      have c1 : Y.cell? ⟨g, o + k * 2 + 1, none⟩ = some (.int .i64 q.2) := by rw [← hY]; exact c1
      have d0 : Y.cell? ⟨g2, o2 + k * 2, none⟩ = some (.int .i64 q.1) := by rw [← hY]; exact d0
      have d1 : Y.cell? ⟨g2, o2 + k * 2 + 1, none⟩ = some (.int .i64 q.2) := by rw [← hY]; exact d1
      have HY := hide hY
      have HB := hide BY
      clear hY BY hB hgl hgl2
      go_wp2_with fail
      refine wp_only ?_
      refine wp_region_z (fun wx : World => wx = Y) [] (by kernel_rfl) ?_
      rw [HY.out]
      refine zx 0 9 16 rfl (by kernel_rfl) rfl ?_
      iterate 8 (refine zxc rfl (by rfl) (fun wx hx => by subst hx; go_simp; rfl) ?_; simp only [zp])
      refine zxc (v := .bool false) rfl (by rfl) (fun wx hx => by subst hx; go_simp) ?_
      simp only [zp]
      refine zxn ?_
      refine anyZ_done (by kernel_rfl) ?_ _
      dsimp only [Only, Exit.then]
      go_wp2_with fail
      go_roundw
      case rel => exact ⟨k + 1, by omega, by go_num, HB.out⟩
      case measure => simp [intOf]; omega
    · obtain rfl : k = P.length := by omega
      have hki : ¬ ((P.length : Nat) : Int) < (P.length : Nat) := by omega
      go_wp2_with fail
      go_ret
      exact ⟨rfl, hB⟩
theorem wake_e : layE [(0, 1), (0, 1)] 5 5 = 0 := by decide
theorem wake_p : layP [(0, 1), (0, 1)] 5 5 = [(4, 5), (5, 5)] := by decide
set_option maxRecDepth 100000 in
set_option maxHeartbeats 4000000 in
theorem awake_any (w : World) : Calls Try.prog 11 #[] w fun e w' => e = .returned (.bool true) ∧ Below w.heap.size w w' := by
  obtain ⟨X, hX⟩ : ∃ X, w.alloc (.cells #[.int .i64 0, .int .i64 1, .int .i64 0, .int .i64 1] 41) = X := ⟨_, rfl⟩
  have BX : Below w.heap.size w X := by rw [← hX]; exact box1 _ _
  have KX : Bk X w.heap.size 41 [.int .i64 0, .int .i64 1, .int .i64 0, .int .i64 1] := by rw [← hX]; exact Bk.new _ _ _
  have CX : CeR X (.slice (some ⟨w.heap.size, 0, none⟩) 2 2) [(0, 1), (0, 1)] := ⟨some ⟨w.heap.size, 0, none⟩, 2, rfl, Nat.le_refl _, by decide, (fun e => by cases e), fun i q hi => ⟨w.heap.size, 0, rfl, KX.lt, fun j u hu => by
    have hj : j < 2 := (List.getElem?_eq_some_iff.1 hu).1
    rw [Nat.zero_add]
    exact KX.cell (i * 2 + j) u (by
      have := rw_get ceCs_len [((0 : Int), (1 : Int)), (0, 1)] i q j hi hj
      rw [hu] at this
      exact this)⟩⟩
  have HL := hide (layout_is _ _ 5 5 X CX)
  have HX := hide hX
  have HB := hide BX
  clear hX BX KX CX
  go_enter Try.func11, Try.ntmps11
  go_wp2_with (rw [HX.out])
  refine HL.out.mono ?_
  rintro e w1 ⟨u, rfl, hc, hb⟩
  rw [wake_p] at hc
  rw [wake_e]
  obtain ⟨a, cap, rfl, hcap, -⟩ := hc.slice
  obtain ⟨g, o, hga, hgl, c0, c1⟩ := CeR.at hc rfl (i := 0) (q := (4, 5)) rfl
  obtain ⟨g2, o2, hga2, -, d0, d1⟩ := CeR.at hc rfl (i := 1) (q := (5, 5)) rfl
  subst hga
  cases hga2
  have HB1 := hide (bt HB.out hb)
  rw [Nat.zero_mul, Nat.add_zero] at c0 c1
  rw [Nat.one_mul] at d0 d1
  clear hc hb HL HX
  go_wp2_with fail
  go_ret
  exact ⟨rfl, HB1.out⟩
end Go.Proofs.Ytankkngjhgpcaaa
