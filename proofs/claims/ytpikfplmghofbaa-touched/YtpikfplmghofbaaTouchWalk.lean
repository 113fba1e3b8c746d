/-
  phalanxlaw11.ClusterTouched, walked.
-/
import Derived.Test.YtpikfplmghofbaaDTouch
import Derived.Test.YtpikfplmghofbaaPTouch
import Derived.Test.YtpikfplmghofbaaBoth
import Derived.Test.YtpikfplmghofbaaCrossWalk
set_option linter.unusedSimpArgs false
namespace Go.Proofs.Ytpikfplmghofbaa
open Go.RowKit
set_option linter.unusedVariables false
attribute [local go_sem] Oper.semAt_some
/-- The clusters of which an edit may turn something. -/
def tL (W H x y a b : Int) : List (Int × Int) := if wi x y a b 0 0 W H = true then (allC (tU x) (tU y) (tS x a (clN W) - tU x + 1) (tS y b (clN H) - tU y + 1)).map (·.1) else []
theorem touched_any {w : World} {p : Nat} {W H : Int} {tl : List Nat} {f : Int → Int → Option Int} (x y a b : Int) (hw : Wl w p W H tl f) :
    Calls Try.prog 13 #[ptr p, rct x y a b] w fun e w' => ∃ v, e = .returned v ∧ Cn w' v (tL W H x y a b) ∧ Below w.heap.size w w' := by
  cases h : wi x y a b 0 0 W H
  · refine (touched_no x y a b hw h).mono ?_
    rintro e w' ⟨rfl, hb⟩
    exact ⟨_, rfl, by rw [tL, h]; exact Cn.nil _, hb⟩
  · refine (touched_yes x y a b hw h).mono ?_
    rintro e w' ⟨v, rfl, hc, hb⟩
    exact ⟨_, rfl, by rw [tL, if_pos h]; exact hc, hb⟩
theorem dtouched_any {w : World} {W H : Int} (x y a b : Int) (hW : 1 ≤ W ∧ W ≤ 128) (hH : 1 ≤ H ∧ H ≤ 128) :
    Calls Try.prog 14 #[.int .i64 W, .int .i64 H, rct x y a b] w fun e w' => ∃ v, e = .returned v ∧ Cn w' v (tL W H x y a b) ∧ Below w.heap.size w w' := by
  obtain ⟨wd, rfl⟩ := Int.eq_ofNat_of_zero_le (show 0 ≤ W by omega)
  obtain ⟨ht, rfl⟩ := Int.eq_ofNat_of_zero_le (show 0 ≤ H by omega)
  cases h : wi x y a b 0 0 (wd : Int) (ht : Int)
  · refine (dtouched_no x y a b h).mono ?_
    rintro e w' ⟨rfl, hb⟩
    exact ⟨_, rfl, by rw [tL, h]; exact Cn.nil _, hb⟩
  · refine (dtouched_yes wd ht ((wd + 7) / 8) ((ht + 7) / 8) x y a b (by omega) (by omega) rfl rfl h).mono ?_
    rintro e w' ⟨v, rfl, hc, hb⟩
    refine ⟨_, rfl, ?_, hb⟩
    rw [tL, if_pos h]
    rw [doc_all (by omega) (by omega) rfl rfl h] at hc
    have e1 : (((wd + 7) / 8 : Nat) : Int) = clN (wd : Int) := by unfold clN; omega
    have e2 : (((ht + 7) / 8 : Nat) : Int) = clN (ht : Int) := by unfold clN; omega
    rw [e1, e2] at hc
    exact hc
theorem tL_len (W H x y a b : Int) (hW : 1 ≤ W ∧ W ≤ 128) (hH : 1 ≤ H ∧ H ≤ 128) : (tL W H x y a b).length ≤ 256 := by
  unfold tL
  split
  · rename_i h
    obtain ⟨-, hx, hy⟩ := wi_parts h
    rw [List.length_map, allC]
    split
    · rw [upto_length]
      exact Nat.mul_le_mul (show (tS y b (clN H) - tU y + 1).toNat ≤ 16 by unfold tS tU clN; omega) (show (tS x a (clN W) - tU x + 1).toNat ≤ 16 by unfold tS tU clN; omega)
    · simp
  · simp
set_option maxRecDepth 100000 in
set_option maxHeartbeats 4000000 in
theorem touched_walk (W H : Int) (tv bv : Value) (tl : List Nat) (L : List Bd) (x y a b : Int) (w : World) (hv : TlR w tv tl) (hb : ∀ n ∈ tl, n < 256) (hl : BdR w bv L) :
    Calls Try.prog 5 #[mp W H tv bv, rct x y a b] w fun e w' => e = .returned (.bool true) ∧ Below w.heap.size w w' := by
  obtain ⟨X, hX⟩ : ∃ X, (w.alloc (.cells #[.int .i64 W, .int .i64 H, tv, bv] 33)).alloc (.cells #[.int .i64 x, .int .i64 y, .int .i64 a, .int .i64 b] 35) = X := ⟨_, rfl⟩
  have B0 : Below w.heap.size w X := by rw [← hX]; exact box2 _ _ _
  have MX : MB X w.heap.size W H tv bv := by rw [← hX]; exact (MB.new w W H tv bv).kept (box1 _ _)
  have FX : Four X (w.heap.size + 1) x y a b := by rw [← hX]; exact Four.newAt _ _ _ _ _ (by simp)
  have HVL : Hid (∀ wx, Below w.heap.size w wx → TlR wx tv tl ∧ BdR wx bv L) := hide fun wx hx => ⟨hv.kept hx, hl.kept hx⟩
  have HBt := hide hb
  have hvf := hv
  have hlf := hl
  obtain ⟨a1, cap1, rfl, -⟩ := hvf
  obtain ⟨a2, cap2, rfl, -⟩ := hlf
  clear hv hl hb
  go_enter Try.func5, Try.ntmps5
  go_wp2_with fail
  clear hX
  refine (aw_is X).mono ?_
  rintro e w1 ⟨rfl, hb1⟩
  have M1 := MX.kept hb1
  have F1 := FX.kept hb1
  have HB1 := hide (bt B0 hb1)
  clear MX FX B0 hb1
  obtain ⟨m0, m1, m2, m3⟩ := M1.c
  rcases chkC_two W H tl L with hc | hc
  · have hm := (chkC_zero hc).1
    have hWH : (1 ≤ W ∧ W ≤ 128) ∧ 1 ≤ H ∧ H ≤ 128 := by
      simp only [mt, gs, Bool.and_eq_true, decide_eq_true_eq] at hm
      omega
    have HBo := hide (both_ok W H _ _ tl L w1 (HVL.out _ HB1.out).1 HBt.out (HVL.out _ HB1.out).2 hc)
    clear hc hm
    go_wp2_with fail
    refine HBo.out.mono ?_
    rintro e w2 ⟨p, r, rfl, hWn, -, hb2⟩
    have M2 := M1.kept hb2
    have F2 := F1.kept hb2
    have HB2 := hide (bt HB1.out hb2)
    have HW2 := hide hWn.1
    clear m0 m1 m2 m3 M1 F1 HB1 hb2 HBo hWn HVL HBt
    obtain ⟨m0, m1, m2, m3⟩ := M2.c
    obtain ⟨N, hN⟩ : ∃ N, W * H = N := ⟨_, rfl⟩
    have hNb : 0 ≤ N ∧ N ≤ 16384 := by
      obtain ⟨wd, rfl⟩ := Int.eq_ofNat_of_zero_le (show 0 ≤ W by omega)
      obtain ⟨ht, rfl⟩ := Int.eq_ofNat_of_zero_le (show 0 ≤ H by omega)
      have := Nat.mul_le_mul (show wd ≤ 128 by omega) (show ht ≤ 128 by omega)
      rw [← hN]
      have e : ((wd : Nat) : Int) * ((ht : Nat) : Int) = ((wd * ht : Nat) : Int) := by push_cast; rfl
      rw [e]
      omega
    have HWH := hide hWH
    clear hWH
    by_cases hbig : 1000 < N
    · go_wp2_with (go_at_call 8; refine (aw_is _).mono ?_; rintro e w3 ⟨rfl, hb3⟩)
      go_ret
      exact ⟨rfl, bt HB2.out hb3⟩
    · obtain ⟨P, hP⟩ : ∃ P, tL W H x y a b = P := ⟨_, rfl⟩
      have hPl : P.length ≤ 256 := by rw [← hP]; exact tL_len W H x y a b HWH.out.1 HWH.out.2
      have H1 : Hid (∀ wx, Below w2.heap.size w2 wx → Calls Try.prog 13 #[ptr p, rct x y a b] wx fun e w' => ∃ v, e = .returned v ∧ Cn w' v P ∧ Below wx.heap.size wx w') := hide fun wx hx => by
        rw [← hP]; exact touched_any x y a b (HW2.out.kept hx)
      have H2 : Hid (∀ wx, Calls Try.prog 14 #[.int .i64 W, .int .i64 H, rct x y a b] wx fun e w' => ∃ v, e = .returned v ∧ Cn w' v P ∧ Below wx.heap.size wx w') := hide fun wx => by
        rw [← hP]; exact dtouched_any x y a b HWH.out.1 HWH.out.2
      clear hP
      have hS : ∀ wx, Below w2.heap.size w2 wx → (wx.cell? ⟨w.heap.size, 0, none⟩ = some (.int .i64 W) ∧ wx.cell? ⟨w.heap.size, 1, none⟩ = some (.int .i64 H)) ∧ wx.cell? ⟨w.heap.size + 1, 0, none⟩ = some (.int .i64 x) ∧ wx.cell? ⟨w.heap.size + 1, 1, none⟩ = some (.int .i64 y) ∧ wx.cell? ⟨w.heap.size + 1, 2, none⟩ = some (.int .i64 a) ∧ wx.cell? ⟨w.heap.size + 1, 3, none⟩ = some (.int .i64 b) := fun wx hx => ⟨⟨(M2.kept hx).c.1, (M2.kept hx).c.2.1⟩, (F2.kept hx).1⟩
      have hS0 := hS _ (Below.refl _ _).drew
      have HM2 := hide M2
      have HF2 := hide F2
      clear M2 F2 HW2 HWH
      go_wp2_with fail
      clear m0 m1 m2 m3 hN hNb hbig
      refine wp_only ?_
      refine wp_region_held_drew (S := fun wx => (wx.cell? ⟨w.heap.size, 0, none⟩ = some (.int .i64 W) ∧ wx.cell? ⟨w.heap.size, 1, none⟩ = some (.int .i64 H)) ∧ wx.cell? ⟨w.heap.size + 1, 0, none⟩ = some (.int .i64 x) ∧ wx.cell? ⟨w.heap.size + 1, 1, none⟩ = some (.int .i64 y) ∧ wx.cell? ⟨w.heap.size + 1, 2, none⟩ = some (.int .i64 a) ∧ wx.cell? ⟨w.heap.size + 1, 3, none⟩ = some (.int .i64 b)) (by kernel_rfl) hS0 (fun hHeld => ?_)
      refine wpAnyH_take (i := 0) (v := ?_) rfl (by kernel_rfl) (by kernel_rfl) (by kernel_rfl) (fun _ _ _ h => h.elim) (Or.inl ⟨by rfl, ?_⟩) (by assumption) ?_
      rotate_left
      · intro wx hSw
        try dsimp only at hSw
        go_simp
        try with_reducible rfl
      try simp only [Act.put, List.getElem_toArray, List.getElem_cons_zero, List.getElem_cons_succ, List.setIfInBounds_toArray, List.set_cons_zero, List.set_cons_succ]
      refine wpAnyH_take (i := 1) (v := ?_) rfl (by kernel_rfl) (by kernel_rfl) (by kernel_rfl) (fun _ _ _ h => h.elim) (Or.inl ⟨by rfl, ?_⟩) (by assumption) ?_
      rotate_left
      · intro wx hSw
        try dsimp only at hSw
        go_simp
        try with_reducible rfl
      try simp only [Act.put, List.getElem_toArray, List.getElem_cons_zero, List.getElem_cons_succ, List.setIfInBounds_toArray, List.set_cons_zero, List.set_cons_succ]
      refine wpAnyH_take (i := 3) (v := ?_) rfl (by kernel_rfl) (by kernel_rfl) (by kernel_rfl) (fun _ _ _ h => h.elim) (Or.inl ⟨by rfl, ?_⟩) (by assumption) ?_
      rotate_left
      · intro wx hSw
        try dsimp only at hSw
        go_simp
        try with_reducible rfl
      try simp only [Act.put, List.getElem_toArray, List.getElem_cons_zero, List.getElem_cons_succ, List.setIfInBounds_toArray, List.set_cons_zero, List.set_cons_succ]
      refine wpAnyH_take (i := 4) (v := ?_) rfl (by kernel_rfl) (by kernel_rfl) (by kernel_rfl) (fun _ _ _ h => h.elim) (Or.inl ⟨by rfl, ?_⟩) (by assumption) ?_
      rotate_left
      · intro wx hSw
        try dsimp only at hSw
        go_simp
        try with_reducible rfl
      try simp only [Act.put, List.getElem_toArray, List.getElem_cons_zero, List.getElem_cons_succ, List.setIfInBounds_toArray, List.set_cons_zero, List.set_cons_succ]
      refine wpAnyH_take (i := 5) (v := ?_) rfl (by kernel_rfl) (by kernel_rfl) (by kernel_rfl) (fun _ _ _ h => h.elim) (Or.inl ⟨by rfl, ?_⟩) (by assumption) ?_
      rotate_left
      · intro wx hSw
        try dsimp only at hSw
        go_simp
        try with_reducible rfl
      try simp only [Act.put, List.getElem_toArray, List.getElem_cons_zero, List.getElem_cons_succ, List.setIfInBounds_toArray, List.set_cons_zero, List.set_cons_succ]
      refine wpAnyH_take (i := 6) (v := ?_) rfl (by kernel_rfl) (by kernel_rfl) (by kernel_rfl) (fun _ _ _ h => h.elim) (Or.inl ⟨by rfl, ?_⟩) (by assumption) ?_
      rotate_left
      · intro wx hSw
        try dsimp only at hSw
        go_simp
        try with_reducible rfl
      try simp only [Act.put, List.getElem_toArray, List.getElem_cons_zero, List.getElem_cons_succ, List.setIfInBounds_toArray, List.set_cons_zero, List.set_cons_succ]
      refine wpAnyH_take (i := 7) (v := ?_) rfl (by kernel_rfl) (by kernel_rfl) (by kernel_rfl) (fun _ _ _ h => h.elim) (Or.inl ⟨by rfl, ?_⟩) (by assumption) ?_
      rotate_left
      · intro wx hSw
        try dsimp only at hSw
        go_simp
        try with_reducible rfl
      try simp only [Act.put, List.getElem_toArray, List.getElem_cons_zero, List.getElem_cons_succ, List.setIfInBounds_toArray, List.set_cons_zero, List.set_cons_succ]
      refine wpAnyH_ready (rs := [2]) (by kernel_rfl) (by simp) ?_
      refine AllReadyH.cons rfl (fun K hK => ?_) AllReadyH.nil
      go_simp
      refine (H1.out _ (Below.refl _ _).drew).mono ?_
      rintro e w4 ⟨v1, rfl, hc1, hb4⟩
      have hB4 : Below w2.heap.size w2 w4 := bt (Below.refl _ _).drew hb4
      clear hb4
      obtain ⟨l1, l2, l3, rfl⟩ := hc1.slice
      try go_wp2_with fail
      refine hK.out _ _ (by first | exact hS _ (Below.refl _ _).drew | exact hS _ (box1 _ _) | exact hS _ (box1 _ _).drew | exact hS _ (by assumption)) (fun hHeld => ?_)
      clear hK K
      try simp only [Act.put, List.getElem_toArray, List.getElem_cons_zero, List.getElem_cons_succ, List.setIfInBounds_toArray, List.set_cons_zero, List.set_cons_succ]
      refine wpAnyH_ready (rs := [8]) (by kernel_rfl) (by simp) ?_
      refine AllReadyH.cons rfl (fun K hK => ?_) AllReadyH.nil
      go_simp
      refine (H2.out _).mono ?_
      rintro e w5 ⟨v2, rfl, hc2, hb5⟩
      have hB5 := bt hB4 hb5
      have hc3 := hc1.kept hb5
      clear hb5 hc1 hB4
      obtain ⟨k1, k2, k3, rfl⟩ := hc2.slice
      try go_wp2_with fail
      refine hK.out _ _ (by first | exact hS _ (Below.refl _ _).drew | exact hS _ (box1 _ _) | exact hS _ (box1 _ _).drew | exact hS _ (by assumption)) (fun hHeld => ?_)
      clear hK K
      try simp only [Act.put, List.getElem_toArray, List.getElem_cons_zero, List.getElem_cons_succ, List.setIfInBounds_toArray, List.set_cons_zero, List.set_cons_succ]
      refine wpAnyH_take (i := 9) (v := ?_) rfl (by kernel_rfl) (by kernel_rfl) (by kernel_rfl) (fun _ _ _ h => h.elim) (Or.inl ⟨by rfl, ?_⟩) (by assumption) ?_
      rotate_left
      · intro wx hSw
        try dsimp only at hSw
        go_simp
        try with_reducible rfl
      try simp only [Act.put, List.getElem_toArray, List.getElem_cons_zero, List.getElem_cons_succ, List.setIfInBounds_toArray, List.set_cons_zero, List.set_cons_succ]
      refine wpAnyH_take (i := 10) (v := ?_) rfl (by kernel_rfl) (by kernel_rfl) (by kernel_rfl) (fun _ _ _ h => h.elim) (Or.inl ⟨by rfl, ?_⟩) (by assumption) ?_
      rotate_left
      · intro wx hSw
        try dsimp only at hSw
        go_simp
        try with_reducible rfl
      try simp only [Act.put, List.getElem_toArray, List.getElem_cons_zero, List.getElem_cons_succ, List.setIfInBounds_toArray, List.set_cons_zero, List.set_cons_succ]
      refine wpAnyH_done (by kernel_rfl) ?_ _
      dsimp only [Only, Exit.then]
      have R1 := ceR_own hc3
      have R2 := ceR_own hc2
      obtain ⟨a3, c3, e3, -, -, -, -⟩ := id R1
      obtain ⟨a4, c4, e4, -, -, -, -⟩ := id R2
      injection e3 with e31 e32 e33
      injection e4 with e41 e42 e43
      subst e31; subst e32; subst e33; subst e41; subst e42; subst e43
      have HR1 := hide R1
      have HR2 := hide R2
      have HB5 := hide (bt HB2.out hB5)
      clear hc2 hc3 R1 R2 hB5 H1 H2 hS hS0 hHeld HM2 HF2
      have hPi : (0 : Int) ≤ (P.length : Nat) ∧ ((P.length : Nat) : Int) ≤ 256 := by omega
      go_wp2_with fail
      go_loopw [10] (fun s10 wr => ∃ i : Nat, i ≤ P.length ∧ s10 = .int .i64 (i : Nat) ∧ Below w5.heap.size w5 wr) (fun s10 _ => P.length - (intOf s10).toNat)
      case atStart => exact ⟨0, Nat.zero_le _, rfl, Below.refl _ _⟩
      case round =>
        obtain ⟨i, hi, rfl, hB⟩ := hrel
        by_cases hlt : i < P.length
        · obtain ⟨q, hq⟩ : ∃ q, P[i]? = some q := ⟨_, List.getElem?_eq_getElem hlt⟩
          obtain ⟨g1, o1, rfl, q1, q2⟩ : ∃ g o, l1 = some ⟨g, o, none⟩ ∧ (∀ n : Lat wr, n.w.cell? ⟨g, o + i * 2, none⟩ = some (.int .i64 q.1)) ∧ ∀ n : Lat wr, n.w.cell? ⟨g, o + i * 2 + 1, none⟩ = some (.int .i64 q.2) := by
            obtain ⟨a', cap', he', _, _, _, hform⟩ := HR1.out.kept hB
            obtain ⟨g', o', hgg, hgl, e1, e2⟩ := hform i q hq
            injection he' with h1 h2 h3
            exact ⟨g', o', h1.trans hgg, fun n => (n.h.cell (p := ⟨g', o' + i * 2, none⟩) hgl).trans e1, fun n => (n.h.cell (p := ⟨g', o' + i * 2 + 1, none⟩) hgl).trans e2⟩
          obtain ⟨g2, o2, rfl, q3, q4⟩ : ∃ g o, k1 = some ⟨g, o, none⟩ ∧ (∀ n : Lat wr, n.w.cell? ⟨g, o + i * 2, none⟩ = some (.int .i64 q.1)) ∧ ∀ n : Lat wr, n.w.cell? ⟨g, o + i * 2 + 1, none⟩ = some (.int .i64 q.2) := by
            obtain ⟨a', cap', he', _, _, _, hform⟩ := HR2.out.kept hB
            obtain ⟨g', o', hgg, hgl, e1, e2⟩ := hform i q hq
            injection he' with h1 h2 h3
            exact ⟨g', o', h1.trans hgg, fun n => (n.h.cell (p := ⟨g', o' + i * 2, none⟩) hgl).trans e1, fun n => (n.h.cell (p := ⟨g', o' + i * 2 + 1, none⟩) hgl).trans e2⟩
          obtain ⟨qx, qy⟩ := q
          simp only at q1 q2 q3 q4
          have hii : (0 : Int) ≤ (i : Nat) ∧ ((i : Nat) : Int) < (P.length : Nat) := by omega
          have hkk : IntKind.i64.wrap (((i : Nat) : Int) + 1) = ((i : Nat) : Int) + 1 := by rw [IntKind.wrap_i64]; omega
          have hne := lat_some wr
          have HBr := hide hB
          clear hB hq
          go_wp2_with fail
          refine wp_region_lat (by kernel_rfl) (by kernel_rfl) ?_
          repeat (go_big_quiet_step (fail))
          refine wpQuiet_nil ?_
          rintro _ ⟨n, rfl⟩
          clear q1 q2 q3 q4
          go_wp2_with fail
          go_roundw
          case rel => exact ⟨i + 1, by omega, by push_cast; rfl, bt HBr.out n.h⟩
          case measure => simp [intOf]; omega
        · obtain rfl : i = P.length := by omega
          have hii : ¬ ((P.length : Nat) : Int) < (P.length : Nat) := by omega
          go_wp2_with (go_at_call 8; refine (aw_is _).mono ?_; rintro e w6 ⟨rfl, hb6⟩)
          go_ret
          exact ⟨rfl, bt HB5.out (bt hB hb6)⟩
  · have HBo := hide (both_no W H _ _ tl L w1 (HVL.out _ HB1.out).1 HBt.out (HVL.out _ HB1.out).2 hc)
    clear hc
    go_wp2_with fail
    refine HBo.out.mono ?_
    rintro e w2 ⟨rfl, hb2⟩
    have HB2 := hide (bt HB1.out hb2)
    clear m0 m1 m2 m3 M1 F1 HB1 hb2 HBo HVL HBt
    go_wp2_with (go_at_call 8; refine (aw_is _).mono ?_; rintro e w3 ⟨rfl, hb3⟩)
    go_ret
    exact ⟨rfl, bt HB2.out hb3⟩
end Go.Proofs.Ytpikfplmghofbaa
