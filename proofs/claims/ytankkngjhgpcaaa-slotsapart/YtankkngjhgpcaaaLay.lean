/-
  The program's Layout.
-/
import Derived.Test.YtankkngjhgpcaaaGrp
import Derived.Test.YtankkngjhgpcaaaCol
namespace Go.Proofs.Ytankkngjhgpcaaa
open Go.RowKit
set_option linter.unusedVariables false
set_option linter.unusedSimpArgs false
/-- The row of cells when k places are written. -/
def rowK (n : Nat) (p x y : Int) (k : Nat) : List (Int × Int) := (List.range n).map (fun i => if i < k then layAt n p x y i else (0, 0))
theorem rowK_len (n : Nat) (p x y : Int) (k : Nat) : (rowK n p x y k).length = n := by simp [rowK]
theorem rowK_zero (n : Nat) (p x y : Int) : rowK n p x y 0 = List.replicate n (0, 0) := by
  rw [rowK]
  refine List.ext_getElem (by simp) (fun i h1 h2 => ?_)
  simp
theorem rowK_full (n : Nat) (p x y : Int) : rowK n p x y n = (List.range n).map (layAt n p x y) := by
  rw [rowK]
  refine List.ext_getElem (by simp) (fun i h1 h2 => ?_)
  simp at h1
  simp [h1]
theorem rowK_set (n : Nat) (p x y : Int) (k : Nat) (hk : k < n) : (rowK n p x y k).set k (layAt n p x y k) = rowK n p x y (k + 1) := by
  refine List.ext_getElem (by simp [rowK]) (fun i h1 h2 => ?_)
  rw [List.getElem_set]
  simp only [rowK, List.getElem_map, List.getElem_range]
  by_cases e : k = i
  · subst e
    simp
  · simp only [e, if_false]
    have : (i < k + 1) = (i < k) := by apply propext; omega
    simp only [this]
theorem div_nat (a b : Nat) : (a : Int).tdiv b = (a / b : Nat) := by rw [Int.ofNat_tdiv]
theorem mod_nat (a b : Nat) : (a : Int).tmod b = (a % b : Nat) := by rw [Int.ofNat_tmod]
theorem wr64 {z : Int} (h : -9223372036854775808 ≤ z ∧ z ≤ 9223372036854775807) : IntKind.i64.wrap z = z := by rw [IntKind.wrap_i64]; omega
/-- What Layout tells. -/
def LyE (w : World) (L : List (Int × Int)) (x y : Int) (e : Ending) (w' : World) : Prop :=
  ∃ u, e = .returned (.tuple #[u, .int .i64 (layE L x y)]) ∧ CeR w' u (layP L x y) ∧ Below w.heap.size w w'
theorem nilR (w : World) : CeR w (.slice none 0 0) [] := ⟨none, 0, rfl, Nat.le_refl _, by decide, fun _ => ⟨rfl, rfl⟩, fun i t h => by simp at h⟩
theorem LyE.no {w w' : World} {L : List (Int × Int)} {x y c : Int} (hc : layE L x y = c) (h0 : c ≠ 0) (hb : Below w.heap.size w w') : LyE w L x y (.returned (.tuple #[.slice none 0 0, .int .i64 c])) w' :=
  ⟨_, by rw [hc], by rw [layP_no (by rw [hc]; exact h0)]; exact nilR w', hb⟩
set_option maxRecDepth 100000 in
set_option maxHeartbeats 4000000 in
theorem layout_no (v : Value) (L : List (Int × Int)) (x y : Int) (w : World) (hv : CeR w v L) (h0 : layE L x y ≠ 0) : Calls Try.prog 6 #[v, pr x y] w (LyE w L x y) := by
  obtain ⟨a, cap, rfl, hcap, hmax⟩ := hv.slice
  obtain ⟨l0, l1⟩ := len63 hmax
  by_cases hl : L.length ≤ 64
  · have hl' : ¬ (64 : Int) < (L.length : Nat) := by omega
    obtain ⟨X, hX⟩ : ∃ X, w.alloc (.cells #[.int .i64 x, .int .i64 y] 24) = X := ⟨_, rfl⟩
    have BX : Below w.heap.size w X := by rw [← hX]; exact box1 _ _
    have KX : Bk X w.heap.size 24 [.int .i64 x, .int .i64 y] := by rw [← hX]; exact Bk.new _ _ _
    have hvX := hide (hv.kept BX)
    have HX := hide hX
    have HK := hide KX
    have HB := hide BX
    have h0 := hide h0
    clear hX KX BX
    cases hg : grp L
    · have hE := hide (layE_arg (x := x) (y := y) hl (by rw [hg]; rfl))
      go_enter Try.func6, Try.ntmps6
      go_wp2_with (rw [HX.out])
      refine (isgroup_is _ hvX.out hg).mono ?_
      rintro e w1 ⟨rfl, hb1⟩
      have HB1 := hide (bt HB.out hb1)
      clear hb1
      go_wp2_with fail
      refine bodyPost_ret (v := .tuple #[.slice none 0 0, .int .i64 1]) (by simp [results, Try.results6, go_sem]) rfl ?_
      exact LyE.no hE.out (by decide) HB1.out
    · have hp : plcB x y = false := by
        cases hp : plcB x y
        · rfl
        · exact absurd (layE_yes hl hg hp) h0.out
      have hE := hide (layE_arg (x := x) (y := y) hl (by rw [hp]; simp))
      go_enter Try.func6, Try.ntmps6
      go_wp2_with (rw [HX.out])
      refine (isgroup_is _ hvX.out hg).mono ?_
      rintro e w1 ⟨rfl, hb1⟩
      have a0 := (HK.out.upto hb1).cell 0 _ rfl
      have a1 := (HK.out.upto hb1).cell 1 _ rfl
      have HB1 := hide (bt HB.out hb1)
      clear hb1
      go_wp2_with fail
      refine (isplace_is _ hp).mono ?_
      rintro e w2 ⟨rfl, hb2⟩
      have HB2 := hide (bt HB1.out hb2)
      clear hb2 a0 a1
      go_wp2_with fail
      refine bodyPost_ret (v := .tuple #[.slice none 0 0, .int .i64 1]) (by simp [results, Try.results6, go_sem]) rfl ?_
      exact LyE.no hE.out (by decide) HB2.out
  · have hl' : (64 : Int) < (L.length : Nat) := by omega
    have hE := hide (layE_long (x := x) (y := y) hl)
    go_enter Try.func6, Try.ntmps6
    go_wp2_with fail
    refine bodyPost_ret (v := .tuple #[.slice none 0 0, .int .i64 3]) (by simp [results, Try.results6, go_sem]) rfl ?_
    exact LyE.no hE.out (by decide) (box1 _ _)
set_option maxRecDepth 100000 in
set_option maxHeartbeats 4000000 in
theorem layout_yes (v : Value) (L : List (Int × Int)) (x y : Int) (w : World) (hv : CeR w v L) (h0 : layE L x y = 0) : Calls Try.prog 6 #[v, pr x y] w (LyE w L x y) := by
  obtain ⟨a, cap, rfl, hcap, hmax⟩ := hv.slice
  obtain ⟨hl, hall, hpos, hx, hy⟩ := layE_ok h0
  obtain ⟨l0, l1⟩ := len63 hmax
  have hl' : ¬ (64 : Int) < (L.length : Nat) := by omega
  have hg : grp L = true := by rw [grp, hall]; simp [hpos]
  have hp : plcB x y = true := (plcB_iff x y).2 ⟨hx, hy⟩
  obtain ⟨X, hX⟩ : ∃ X, w.alloc (.cells #[.int .i64 x, .int .i64 y] 24) = X := ⟨_, rfl⟩
  have BX : Below w.heap.size w X := by rw [← hX]; exact box1 _ _
  have KX : Bk X w.heap.size 24 [.int .i64 x, .int .i64 y] := by rw [← hX]; exact Bk.new _ _ _
  have hvX := hide (hv.kept BX)
  have HX := hide hX
  have HK := hide KX
  have HB := hide BX
  obtain ⟨p0, p4⟩ := pitch_ok hall
  have hcol := columns_is (L.length : Int)
  rw [show colZ (L.length : Nat) = (colF L.length : Nat) by unfold colZ; rw [if_pos (by omega), Int.toNat_natCast]] at hcol
  have c1 := colF_pos L.length
  have c8 := colF_le L.length
  obtain ⟨n, hn⟩ : ∃ n, L.length = n := ⟨_, rfl⟩
  obtain ⟨c, hc⟩ : ∃ c, colF L.length = c := ⟨_, rfl⟩
  obtain ⟨p, hpp⟩ : ∃ p, pitchF L 0 = p := ⟨_, rfl⟩
  have hPit := fun (W : World) (h : CeR W (.slice a L.length cap) L) => pitch_any _ L W h
  have hG := isgroup_is X hvX.out hg
  obtain ⟨r, hr⟩ : ∃ r, rowF n c = r := ⟨_, rfl⟩
  have hr64 : r ≤ 64 := by rw [← hr, ← hc, ← hn]; exact rowF_le hl
  rw [hn] at hG
  rw [hn, hpp] at hPit
  rw [hc, hn] at hcol
  rw [hc] at c1 c8
  rw [hn] at l0 l1 hl hl' hpos ⊢
  rw [hpp] at p0 p4
  have hq : ((n : Int) + (c : Int) - 1).tdiv (c : Int) = (r : Nat) := by
    rw [show (n : Int) + (c : Int) - 1 = ((n + c - 1 : Nat) : Int) by omega, div_nat, ← hr]; rfl
  have hc0 : ¬ (c : Int) = 0 := by omega
  have hG := hide hG
  have hPit := hide hPit
  have hcol := hide hcol
  rw [hn] at hvX
  clear hX KX BX hv
  go_enter Try.func6, Try.ntmps6
  go_wp2_with (rw [HX.out])
  refine hG.out.mono ?_
  rintro e w1 ⟨rfl, hb1⟩
  have a0 := (HK.out.upto hb1).cell 0 _ rfl
  have a1 := (HK.out.upto hb1).cell 1 _ rfl
  have HB1 := hide (bt HB.out hb1)
  have HK := hide (HK.out.upto hb1)
  have hvX := hide (hvX.out.kept hb1)
  clear hb1 HB
  go_wp2_with fail
  refine (isplace_is _ hp).mono ?_
  rintro e w2 ⟨rfl, hb2⟩
  have HB2 := hide (bt HB1.out hb2)
  have HK := hide (HK.out.upto hb2)
  have hvX := hide (hvX.out.kept hb2)
  clear hb2 a0 a1 HB1
  go_wp2_with fail
  refine (hcol.out _).mono ?_
  rintro e w2' ⟨rfl, rfl⟩
  go_wp2_with fail
  refine (hPit.out _ hvX.out).mono ?_
  rintro e w3 ⟨rfl, hb3⟩
  have HB3 := hide (bt HB2.out hb3)
  have HK := hide (HK.out.upto hb3)
  have hvX := hide (hvX.out.kept hb3)
  clear hb3 HB2
  have hgw := hide HK.out.lt
  obtain ⟨M, hM⟩ : ∃ M, w3.alloc (.cells ((List.replicate n ((0 : Int), (0 : Int))).flatMap ceCs).toArray 24) = M := ⟨_, rfl⟩
  have hmk := run_makeCn w3 n hl
  rw [hM] at hmk
  have BM : Below w3.heap.size w3 M := by rw [← hM]; exact box1 _ _
  have KM : Bk M w3.heap.size 24 ((List.replicate n ((0 : Int), (0 : Int))).flatMap ceCs) := by rw [← hM]; exact Bk.new _ _ _
  have HK := hide (HK.out.upto BM)
  have HBM := hide (bt HB3.out BM)
  have HKM := hide KM
  have hw3 := hide HB3.out.size
  clear hM KM BM HB3
  obtain ⟨RK, hRK⟩ : ∃ RK, rowK n p x y = RK := ⟨_, rfl⟩
  have hRl := hide (show ∀ k, (RK k).length = n from fun k => by rw [← hRK]; exact rowK_len n p x y k)
  have hR0 : RK 0 = List.replicate n (0, 0) := by rw [← hRK]; exact rowK_zero n p x y
  have hRs := hide (show ∀ k, k < n → (RK k).set k (layAt n p x y k) = RK (k + 1) from fun k hk => by rw [← hRK]; exact rowK_set n p x y k hk)
  have hRf : RK n = layP L x y := by rw [← hRK, rowK_full, layP_yes h0, lay, hn, hpp]
  rw [← hR0] at HKM
  have hRf := hide hRf
  have hat := hide (show ∀ k : Nat, layAt n p x y k = (plc1 x p (k % c) (c / 2), plc1 y p (k / c) (r / 2)) from fun k => by rw [layAt, ← hn, hc, hn, hr])
  have hc8' := hide c8
  have h0 := hide h0
  obtain ⟨m1, hm1⟩ : ∃ m, c / 2 = m := ⟨_, rfl⟩
  obtain ⟨m2, hm2⟩ : ∃ m, r / 2 = m := ⟨_, rfl⟩
  have hM1 : (c : Int).tdiv 2 = (m1 : Nat) := by rw [← hm1]; exact div_nat c 2
  have hM2 : (r : Int).tdiv 2 = (m2 : Nat) := by rw [← hm2]; exact div_nat r 2
  have m1b : (m1 : Int) ≤ 8 := by omega
  have m2b : (m2 : Int) ≤ 64 := by omega
  rw [hm1, hm2] at hat
  have hat := hide hat
  clear hR0 hRK hm1 hm2 hn hpp hc hr hcol hPit hG HX
  go_wp2_with fail
  go_loopw [41] (fun s41 wr => ∃ k : Nat, k ≤ n ∧ s41 = .int .i64 k ∧ Bk wr w3.heap.size 24 ((RK k).flatMap ceCs) ∧ Bk wr w.heap.size 24 [.int .i64 x, .int .i64 y] ∧ Below w.heap.size w wr) (fun s41 _ => n - (intOf s41).toNat)
  case atStart => exact ⟨0, Nat.zero_le _, rfl, HKM.out, HK.out, HBM.out⟩
  case round =>
    obtain ⟨k, hk, rfl, hKR, hKX, hB⟩ := hrel
    by_cases hlt : k < n
    · have hki : (k : Int) < (n : Nat) := by omega
      obtain ⟨i1, hi1⟩ : ∃ m, k % c = m := ⟨_, rfl⟩
      obtain ⟨i2, hi2⟩ : ∃ m, k / c = m := ⟨_, rfl⟩
      have hI1 : (k : Int).tmod (c : Int) = (i1 : Nat) := by rw [← hi1]; exact mod_nat k c
      have hI2 : (k : Int).tdiv (c : Int) = (i2 : Nat) := by rw [← hi2]; exact div_nat k c
      have i1b : i1 < 8 := by rw [← hi1]; exact Nat.lt_of_lt_of_le (Nat.mod_lt _ (by omega)) hc8'.out
      have i2b : i2 ≤ 64 := by rw [← hi2]; exact Nat.le_trans (Nat.div_le_self _ _) (by omega)
      obtain ⟨Y, hY⟩ : ∃ Y, wr.drew = Y := ⟨_, rfl⟩
      have hKR : Bk Y w3.heap.size 24 ((RK k).flatMap ceCs) := by rw [← hY]; exact hKR
      have hKX : Bk Y w.heap.size 24 [.int .i64 x, .int .i64 y] := by rw [← hY]; exact hKX
      have hB : Below w.heap.size w Y := by rw [← hY]; exact hB.drew
      have hatk := hide (hat.out k)
      rw [hi1, hi2] at hatk
      have HY := hide hY
      have HKR := hide hKR
      have HKX := hide hKX
      have HB := hide hB
      clear hY hKR hKX hB hi1 hi2
      go_wp2_with fail
      refine wp_only ?_
      refine wp_region_z (fun wx : World => wx = Y) [] (by kernel_rfl) ?_
      rw [HY.out]
      refine zx 0 14 16 rfl (by kernel_rfl) rfl ?_
      iterate 2 (refine zxc rfl (by rfl) (fun wx hx => by subst hx; go_simp; rfl) ?_; simp only [zp])
      refine zxc (v := .int .i64 (i1 : Nat)) rfl (by rfl) (fun wx hx => by subst hx; go_simp; first | done | omega | exact wr64 (by omega) | (rw [if_neg (by omega), wr64 (by omega)])) ?_; simp only [zp]
      refine zxc rfl (by rfl) (fun wx hx => by subst hx; go_simp; rfl) ?_; simp only [zp]
      refine zxc (v := .int .i64 (m1 : Nat)) rfl (by rfl) (fun wx hx => by subst hx; go_simp; first | done | omega | exact wr64 (by omega) | (rw [if_neg (by omega), wr64 (by omega)])) ?_; simp only [zp]
      refine zxc (v := .int .i64 ((i1 : Int) - (m1 : Int))) rfl (by rfl) (fun wx hx => by subst hx; go_simp; first | done | omega | exact wr64 (by omega) | (rw [if_neg (by omega), wr64 (by omega)])) ?_; simp only [zp]
      iterate 2 (refine zxc rfl (by rfl) (fun wx hx => by subst hx; go_simp; rfl) ?_; simp only [zp])
      refine zxc (v := .int .i64 (i2 : Nat)) rfl (by rfl) (fun wx hx => by subst hx; go_simp; first | done | omega | exact wr64 (by omega) | (rw [if_neg (by omega), wr64 (by omega)])) ?_; simp only [zp]
      refine zxc rfl (by rfl) (fun wx hx => by subst hx; go_simp; rfl) ?_; simp only [zp]
      refine zxc (v := .int .i64 (m2 : Nat)) rfl (by rfl) (fun wx hx => by subst hx; go_simp; first | done | omega | exact wr64 (by omega) | (rw [if_neg (by omega), wr64 (by omega)])) ?_; simp only [zp]
      refine zxc (v := .int .i64 ((i2 : Int) - (m2 : Int))) rfl (by rfl) (fun wx hx => by subst hx; go_simp; first | done | omega | exact wr64 (by omega) | (rw [if_neg (by omega), wr64 (by omega)])) ?_; simp only [zp]
      iterate 2 (refine zxc rfl (by rfl) (fun wx hx => by subst hx; go_simp; rfl) ?_; simp only [zp])
      refine zxn ?_
      refine anyZ_done (by kernel_rfl) ?_ _
      dsimp only [Only, Exit.then]
      have x0 := HKX.out.cell 0 _ rfl
      have x1 := HKX.out.cell 1 _ rfl
      have f0 := HKR.out.frozen (k * 2)
      have f1 := HKR.out.frozen (k * 2 + 1)
      obtain ⟨u0, hu0⟩ : ∃ u, ((RK k).flatMap ceCs)[k * 2]? = some u := ⟨_, List.getElem?_eq_getElem (by rw [Rw.len ceCs_len, hRl.out]; omega)⟩
      obtain ⟨u1, hu1⟩ : ∃ u, ((RK k).flatMap ceCs)[k * 2 + 1]? = some u := ⟨_, List.getElem?_eq_getElem (by rw [Rw.len ceCs_len, hRl.out]; omega)⟩
      have g0 := HKR.out.cell _ _ hu0
      have g1 := HKR.out.cell _ _ hu1
      have b1 := plc1_bound (x := x) (p := p) (k := i1) (m := m1) p0 (by omega) (by omega) (by omega)
      have b2 := plc1_bound (x := y) (p := p) (k := i2) (m := m2) p0 (by omega) (by omega) (by omega)
      have hput := hide (HKR.out.put (i := k) (by rw [hRl.out]; exact hlt) (plc1 x p i1 m1) (plc1 y p i2 m2))
      have hrs := hide (hRs.out k hlt)
      obtain ⟨P1, hP1⟩ : ∃ P, plc1 x p i1 m1 = P := ⟨_, rfl⟩
      obtain ⟨P2, hP2⟩ : ∃ P, plc1 y p i2 m2 = P := ⟨_, rfl⟩
      rw [hP1] at b1
      rw [hP2] at b2
      have hz1 : p * ((i1 : Int) - (m1 : Int)) = P1 - x := by rw [← hP1]; unfold plc1; omega
      have hz2 : p * ((i2 : Int) - (m2 : Int)) = P2 - y := by rw [← hP2]; unfold plc1; omega
      rw [hP1, hP2] at hput hatk
      have hput := hide hput
      have hatk := hide hatk
      clear hP1 hP2 hu0 hu1
      go_wp2_with fail
      go_roundw
      case rel =>
        rw [show x + (P1 - x) = P1 by omega, show y + (P2 - y) = P2 by omega]
        have hb := hput.out
        rw [← hatk.out, hrs.out] at hb
        have ht : Turns (fun j => j = w3.heap.size) Y ((Y.setCell ⟨w3.heap.size, k * 2, none⟩ (.int .i64 P1)).setCell ⟨w3.heap.size, k * 2 + 1, none⟩ (.int .i64 P2)) :=
          Turns.trans (S := fun j => j = w3.heap.size) (Turns.set (S := fun j => j = w3.heap.size) Y (p := ⟨w3.heap.size, k * 2, none⟩) rfl _) (Turns.set _ (p := ⟨w3.heap.size, k * 2 + 1, none⟩) (.inl rfl) _)
        exact ⟨k + 1, by omega, by go_num, hb, HKX.out.kept ht (fun e => by have := hgw.out; omega), (HB.out.setCell hw3.out _).setCell hw3.out _⟩
      case measure => simp [intOf]; omega
    · obtain rfl : k = n := by omega
      have hki : ¬ (k : Int) < (k : Nat) := by omega
      have hce := hKR.ceR (by rw [hRl.out]; unfold maxLen; omega)
      rw [hRl.out, hRf.out] at hce
      have hce := hide hce
      clear hKR hKX
      go_wp2_with fail
      refine bodyPost_ret (v := .tuple #[.slice (some ⟨w3.heap.size, 0, none⟩) k k, .int .i64 0]) (by simp [results, Try.results6, go_sem]) rfl ?_
      exact ⟨_, by rw [h0.out], hce.out, hB⟩
theorem layout_is (v : Value) (L : List (Int × Int)) (x y : Int) (w : World) (hv : CeR w v L) : Calls Try.prog 6 #[v, pr x y] w (LyE w L x y) := by
  by_cases h : layE L x y = 0
  · exact layout_yes v L x y w hv h
  · exact layout_no v L x y w hv h
end Go.Proofs.Ytankkngjhgpcaaa
