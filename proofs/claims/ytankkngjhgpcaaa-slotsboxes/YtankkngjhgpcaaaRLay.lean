/-
  The document's Layout.
-/
import Derived.Test.YtankkngjhgpcaaaLay
namespace Go.Proofs.Ytankkngjhgpcaaa
open Go.RowKit
set_option linter.unusedVariables false
set_option linter.unusedSimpArgs false
theorem run_app7 {ev : Operand → Value} {o : Oper} {w w' : World} {s x : Operand} {v xv v' : Value} (ho : o.op = .call { callee := .builtin .append, args := #[s, x], argTypes := #[25, 25] }) (ht : o.type = 25) (hs : ev s = v) (hx : ev x = xv) (hr : (Builtin.append_ #[25, 25] 25 #[v, xv]).run Try.prog w = .ok v' w') : (execOp ev o).run Try.prog w = .ok (.value v') w' := by
  simp [execOp, ho, resolve, invoke, builtin, hs, hx, ht, hr, Result.andThen]
theorem lay_more {L : List (Int × Int)} {x y : Int} {k : Nat} (hk : k < L.length) : (lay L x y).take (k + 1) = (lay L x y).take k ++ [layAt L.length (pitchF L 0) x y k] := by
  rw [List.take_add_one, lay_get L x y k hk]; rfl
set_option maxRecDepth 100000 in
set_option maxHeartbeats 8000000 in
theorem reflayout_is (v : Value) (L : List (Int × Int)) (x y : Int) (w : World) (hv : CeR w v L) : Calls Try.prog 7 #[v, pr x y] w (LyE w L x y) := by
  obtain ⟨a, cap, rfl, hcap, hmax⟩ := hv.slice
  obtain ⟨l0, l1⟩ := len63 hmax
  by_cases hl : L.length ≤ 64
  case neg =>
    have hl' : (64 : Int) < (L.length : Nat) := by omega
    have hE := hide (layE_long (x := x) (y := y) hl)
    go_enter Try.func7, Try.ntmps7
    go_wp2_with fail
    refine bodyPost_ret (v := .tuple #[.slice none 0 0, .int .i64 3]) (by simp [results, Try.results7, go_sem]) rfl ?_
    exact LyE.no hE.out (by decide) (box1 _ _)
  have hl' : ¬ (64 : Int) < (L.length : Nat) := by omega
  obtain ⟨X, hX⟩ : ∃ X, w.alloc (.cells #[.int .i64 x, .int .i64 y] 24) = X := ⟨_, rfl⟩
  have BX : Below w.heap.size w X := by rw [← hX]; exact box1 _ _
  have KX : Bk X w.heap.size 24 [.int .i64 x, .int .i64 y] := by rw [← hX]; exact Bk.new _ _ _
  have HX := hide hX
  have HK := hide KX
  have HB := hide BX
  clear hX KX BX
  go_enter Try.func7, Try.ntmps7
  go_wp2_with (rw [HX.out])
  go_loopw [6, 7] (fun s6 s7 wr => ∃ k : Nat, k ≤ L.length ∧ s6 = .int .i64 (pitchF (L.take k) 0) ∧ s7 = .int .i64 k ∧ (L.take k).all mayS = true ∧ Bk wr w.heap.size 24 [.int .i64 x, .int .i64 y] ∧ Below w.heap.size w wr) (fun _ s7 _ => L.length - (intOf s7).toNat)
  case atStart => exact ⟨0, Nat.zero_le _, rfl, rfl, rfl, HK.out, HB.out⟩
  case round =>
    obtain ⟨k, hk, rfl, rfl, hall, hK, hB⟩ := hrel
    by_cases hlt : k < L.length
    · obtain ⟨q, hq⟩ : ∃ q, L[k]? = some q := ⟨_, List.getElem?_eq_getElem hlt⟩
      have hki : (k : Int) < (L.length : Nat) := by omega
      obtain ⟨g, o, hga, hgl, c0, c1⟩ := CeR.at (hv.kept hB) rfl hq
      subst hga
      have HB := hide hB
      have HK := hide hK
      have hall := hide hall
      have HV := hide (hv.kept hB)
      clear hB hK
      cases hm : mayS q
      · have hE := hide (layE_arg (x := x) (y := y) hl (by rw [grp, all_no hq hm]; rfl))
        go_wp2_with fail
        refine (refshmay_is _ (c := q.1) (s := q.2) hm).mono ?_
        rintro e w1 ⟨rfl, hb1⟩
        have HB1 := hide (bt HB.out hb1)
        clear hb1 c0 c1
        go_wp2_with fail
        refine bodyPost_ret (v := .tuple #[.slice none 0 0, .int .i64 1]) (by simp [results, Try.results7, go_sem]) rfl ?_
        exact LyE.no hE.out (by decide) HB1.out
      · have hal2 := hide (all_more hall.out hq hm)
        have hp := hide (pitch_more hq)
        go_wp2_with fail
        refine (refshmay_is _ (c := q.1) (s := q.2) hm).mono ?_
        rintro e w1 ⟨rfl, hb1⟩
        have HB1 := hide (bt HB.out hb1)
        have HK1 := hide (HK.out.upto hb1)
        obtain ⟨g2, o2, hga, -, d0, d1⟩ := CeR.at (HV.out.kept hb1) rfl hq
        cases hga
        clear hb1 c0 c1
        generalize pitchF (L.take k) 0 = p at hp
        by_cases hlt2 : p < q.2
        · rw [if_pos hlt2] at hp
          go_wp2_with fail
          go_roundw
          case rel => exact ⟨k + 1, by omega, by rw [hp.out], by go_num, hal2.out, HK1.out, HB1.out⟩
          case measure => simp [intOf]; omega
        · rw [if_neg hlt2] at hp
          go_wp2_with fail
          go_roundw
          case rel => exact ⟨k + 1, by omega, by rw [hp.out], by go_num, hal2.out, HK1.out, HB1.out⟩
          case measure => simp [intOf]; omega
    · obtain rfl : k = L.length := by omega
      have hki : ¬ ((L.length : Nat) : Int) < (L.length : Nat) := by omega
      rw [List.take_length] at hall ⊢
      by_cases h0 : 0 < L.length
      case neg =>
        have h0' : ((L.length : Nat) : Int) = 0 := by omega
        have hE := hide (layE_arg (x := x) (y := y) hl (by rw [grp]; simp [h0]))
        have HB := hide hB
        go_wp2_with fail
        refine bodyPost_ret (v := .tuple #[.slice none 0 0, .int .i64 1]) (by simp [results, Try.results7, go_sem]) rfl ?_
        exact LyE.no hE.out (by decide) HB.out
      have h0' : ¬ ((L.length : Nat) : Int) = 0 := by omega
      have hg : grp L = true := by rw [grp, hall]; simp [h0]
      have x0 := hK.cell 0 _ rfl
      have x1 := hK.cell 1 _ rfl
      have HB := hide hB
      have HK := hide hK
      clear hB hK
      cases hp : plcB x y
      · have hE := hide (layE_arg (x := x) (y := y) hl (by rw [hp]; simp))
        have h0n : ¬ L = [] := by rintro rfl; simp at h0
        go_wp2_with fail
        refine (near17_is _ hp).mono ?_
        rintro e w1 ⟨rfl, hb1⟩
        have HB1 := hide (bt HB.out hb1)
        clear hb1 x0 x1
        go_wp2_with fail
        refine bodyPost_ret (v := .tuple #[.slice none 0 0, .int .i64 1]) (by simp [results, Try.results7, go_sem]) rfl ?_
        exact LyE.no hE.out (by decide) HB1.out
      · have hE := hide (layE_yes (x := x) (y := y) hl hg hp)
        obtain ⟨p0, p4⟩ := pitch_ok hall
        obtain ⟨hx, hy⟩ := (plcB_iff x y).1 hp
        have hcol := refcolumns_is (L.length : Int)
        rw [show colZ (L.length : Nat) = (colF L.length : Nat) by unfold colZ; rw [if_pos (by omega), Int.toNat_natCast]] at hcol
        have c1 := colF_pos L.length
        have c8 := colF_le L.length
        obtain ⟨LT, hLT⟩ : ∃ LT : Nat → List (Int × Int), (fun k => (lay L x y).take k) = LT := ⟨_, rfl⟩
        have hLm := hide (show ∀ k, k < L.length → LT (k + 1) = LT k ++ [layAt L.length (pitchF L 0) x y k] from fun k hk => by rw [← hLT]; exact lay_more hk)
        have hLl := hide (show ∀ k, k ≤ L.length → (LT k).length = k from fun k hk => by rw [← hLT]; simp [lay_len]; omega)
        have hL0 := hide (show LT 0 = [] by rw [← hLT]; rfl)
        have hLf := hide (show LT L.length = layP L x y by rw [← hLT, layP_yes hE.out]; show List.take L.length (lay L x y) = _; rw [← lay_len L x y, List.take_length])
        obtain ⟨n, hn⟩ : ∃ n, L.length = n := ⟨_, rfl⟩
        obtain ⟨c, hc⟩ : ∃ c, colF L.length = c := ⟨_, rfl⟩
        obtain ⟨p, hpp⟩ : ∃ p, pitchF L 0 = p := ⟨_, rfl⟩
        obtain ⟨r, hr⟩ : ∃ r, rowF n c = r := ⟨_, rfl⟩
        have hr64 : r ≤ 64 := by rw [← hr, ← hc, ← hn]; exact rowF_le hl
        obtain ⟨m1, hm1⟩ : ∃ m, c / 2 = m := ⟨_, rfl⟩
        obtain ⟨m2, hm2⟩ : ∃ m, r / 2 = m := ⟨_, rfl⟩
        have hat := hide (show ∀ k : Nat, layAt n p x y k = (plc1 x p (k % c) m1, plc1 y p (k / c) m2) from fun k => by rw [layAt, ← hn, hc, hn, hr, hm1, hm2])
        rw [hc, hn] at hcol
        rw [hc] at c1 c8
        rw [hn] at l0 l1 hl hl' h0 h0' hki hLm hLl hLf ⊢
        rw [hpp] at p0 p4 hLm ⊢
        have hLm := hide hLm
        have hLl := hide hLl
        have hLf := hide hLf
        have hq : ((n : Int) + (c : Int) - 1).tdiv (c : Int) = (r : Nat) := by
          rw [show (n : Int) + (c : Int) - 1 = ((n + c - 1 : Nat) : Int) by omega, div_nat, ← hr]; rfl
        have hc0 : ¬ (c : Int) = 0 := by omega
        have hcol := hide hcol
        have hM1 : (c : Int).tdiv 2 = (m1 : Nat) := by rw [← hm1]; exact div_nat c 2
        have hM2 : (r : Int).tdiv 2 = (m2 : Nat) := by rw [← hm2]; exact div_nat r 2
        have m1b : (m1 : Int) ≤ 8 := by omega
        have m2b : (m2 : Int) ≤ 64 := by omega
        have hc8' := hide c8
        clear hm1 hm2 hc hr hpp hLT hn
        go_wp2_with fail
        refine (near17_is _ hp).mono ?_
        rintro e w1 ⟨rfl, hb1⟩
        have HB1 := hide (bt HB.out hb1)
        have HK1 := hide (HK.out.upto hb1)
        clear hb1 x0 x1
        go_wp2_with fail
        refine (hcol.out _).mono ?_
        rintro e w2' ⟨rfl, rfl⟩
        go_wp2_with fail
        obtain ⟨W3, hW3⟩ : ∃ M, w2'.alloc (.cells #[] 24) = M := ⟨_, rfl⟩
        have B3 : Below w2'.heap.size w2' W3 := by rw [← hW3]; exact box1 _ _
        have C3 : Cn W3 (.slice (some ⟨w2'.heap.size, 0, none⟩) 0 0) [] := by rw [← hW3]; exact Rw.built _
        have hgw := hide HK1.out.lt
        have HB3 := hide (bt HB1.out B3)
        have HK3 := hide (HK1.out.upto B3)
        have hw2 := hide HB1.out.size
        have C3 := hide C3
        rw [hW3]
        clear hW3 B3 HB1 HK1
        go_loopw [10, 11] (fun s10 s11 wr => ∃ (k : Nat) (z10 : Value), z10 = s10 ∧ k ≤ n ∧ s11 = .int .i64 k ∧ Cn wr z10 (LT k) ∧ (∀ g, z10.ownBlock = some g → w.heap.size < g) ∧ Bk wr w.heap.size 24 [.int .i64 x, .int .i64 y] ∧ Below w.heap.size w wr) (fun _ s11 _ => n - (intOf s11).toNat)
        case atStart => exact ⟨0, _, rfl, Nat.zero_le _, rfl, by rw [hL0.out]; exact C3.out, (fun g e => by cases e; exact hgw.out), HK3.out, HB3.out⟩
        case round =>
          obtain ⟨k, z10, rfl, hk, rfl, hC, hown, hKX, hB⟩ := hrel
          by_cases hlt : k < n
          · have hki : (k : Int) < (n : Nat) := by omega
            obtain ⟨i1, hi1⟩ : ∃ m, k % c = m := ⟨_, rfl⟩
            obtain ⟨i2, hi2⟩ : ∃ m, k / c = m := ⟨_, rfl⟩
            have hI1 : (k : Int).tmod (c : Int) = (i1 : Nat) := by rw [← hi1]; exact mod_nat k c
            have hI2 : (k : Int).tdiv (c : Int) = (i2 : Nat) := by rw [← hi2]; exact div_nat k c
            have i1b : i1 < 8 := by rw [← hi1]; exact Nat.lt_of_lt_of_le (Nat.mod_lt _ (by omega)) hc8'.out
            have i2b : i2 ≤ 64 := by rw [← hi2]; exact Nat.le_trans (Nat.div_le_self _ _) (by omega)
            obtain ⟨Y, hY⟩ : ∃ Y, wr.drew = Y := ⟨_, rfl⟩
            have hC : Cn Y z10 (LT k) := by rw [← hY]; exact hC
            have hKX : Bk Y w.heap.size 24 [.int .i64 x, .int .i64 y] := by rw [← hY]; exact hKX
            have hB : Below w.heap.size w Y := by rw [← hY]; exact hB.drew
            have hatk := hat.out k
            rw [hi1, hi2] at hatk
            have b1 := plc1_bound (x := x) (p := p) (k := i1) (m := m1) p0 (by omega) (by omega) (by omega)
            have b2 := plc1_bound (x := y) (p := p) (k := i2) (m := m2) p0 (by omega) (by omega) (by omega)
            obtain ⟨P1, hP1⟩ : ∃ P, plc1 x p i1 m1 = P := ⟨_, rfl⟩
            obtain ⟨P2, hP2⟩ : ∃ P, plc1 y p i2 m2 = P := ⟨_, rfl⟩
            rw [hP1] at b1
            rw [hP2] at b2
            have hz1 : p * ((i1 : Int) - (m1 : Int)) = P1 - x := by rw [← hP1]; unfold plc1; omega
            have hz2 : p * ((i2 : Int) - (m2 : Int)) = P2 - y := by rw [← hP2]; unfold plc1; omega
            rw [hP1, hP2] at hatk
            have hmore := hLm.out k hlt
            rw [hatk] at hmore
            have hmore := hide hmore
            have hlen := hLl.out k hk
            have x0 := hKX.cell 0 _ rfl
            have x1 := hKX.cell 1 _ rfl
            obtain ⟨Z, hZ⟩ : ∃ Z, Y.alloc (.cells #[.int .i64 P1, .int .i64 P2] 24) = Z := ⟨_, rfl⟩
            have BZ : Below Y.heap.size Y Z := by rw [← hZ]; exact box1 _ _
            have hxy := And.intro x0 x1
            have hxz := And.intro ((hKX.upto BZ).cell 0 _ rfl) ((hKX.upto BZ).cell 1 _ rfl)
            clear x0 x1
            have CZ : Cn Z (.slice (some ⟨Y.heap.size, 0, none⟩) 1 1) [(P1, P2)] := by rw [← hZ]; exact Rw.single (cs := ceCs) ceCs_len Y (P1, P2)
            obtain ⟨v7, W7, hr7, hc7, ho7, hT7⟩ := Cn.more (hC.upto BZ) CZ.ceR (by rw [hlen]; simp; omega) 25
            rw [← hmore.out] at hc7
            have hown7 := hide (show ∀ g, v7.ownBlock = some g → w.heap.size < g from fun g e => by
              rcases ho7 with h1 | h1
              · exact hown g (h1.symm.trans e)
              · rw [h1] at e
                cases e
                exact Nat.lt_of_lt_of_le hKX.lt BZ.size)
            have hK7 := hide ((hKX.upto BZ).kept hT7 (fun e => absurd (hown _ e) (Nat.lt_irrefl _)))
            have hBZ := hB.trans (BZ.mono hB.size)
            have hB7 := hide (hBZ.trans (hT7.below (fun j e => Nat.le_of_lt (hown j e)) hBZ.size))
            have hc7 := hide hc7
            have hr7 := hide hr7
            have HY := hide hY
            have HZ := hide hZ
            clear hY hC hKX hB hi1 hi2 hP1 hP2 hatk BZ CZ hT7 ho7 hBZ hZ hlen hown
            go_wp2_with fail
            refine wp_only ?_
            refine wp_region_z (fun wx : World => wx.cell? ⟨w.heap.size, 0, none⟩ = some (.int .i64 x) ∧ wx.cell? ⟨w.heap.size, 1, none⟩ = some (.int .i64 y)) [25, 26] (by kernel_rfl) ?_
            rw [HY.out]
            refine zx 0 24 27 rfl (by kernel_rfl) hxy ?_
            iterate 6 (refine zxc rfl (by rfl) (fun wx hx => by obtain ⟨x0, x1⟩ := hx; go_simp; rfl) ?_; simp only [zp])
            refine zxc (v := .int .i64 (i1 : Nat)) rfl (by rfl) (fun wx hx => by obtain ⟨x0, x1⟩ := hx; go_simp; first | done | omega | exact wr64 (by omega) | exact (wr64 (by omega)).trans (by omega) | (rw [if_neg (by omega), wr64 (by omega)])) ?_; simp only [zp]
            refine zxc rfl (by rfl) (fun wx hx => by obtain ⟨x0, x1⟩ := hx; go_simp; rfl) ?_; simp only [zp]
            refine zxc (v := .int .i64 (m1 : Nat)) rfl (by rfl) (fun wx hx => by obtain ⟨x0, x1⟩ := hx; go_simp; first | done | omega | exact wr64 (by omega) | exact (wr64 (by omega)).trans (by omega) | (rw [if_neg (by omega), wr64 (by omega)])) ?_; simp only [zp]
            refine zxc (v := .int .i64 ((i1 : Int) - (m1 : Int))) rfl (by rfl) (fun wx hx => by obtain ⟨x0, x1⟩ := hx; go_simp; first | done | omega | exact wr64 (by omega) | exact (wr64 (by omega)).trans (by omega) | (rw [if_neg (by omega), wr64 (by omega)])) ?_; simp only [zp]
            refine zxc (v := .int .i64 (P1 - x)) rfl (by rfl) (fun wx hx => by obtain ⟨x0, x1⟩ := hx; go_simp; first | done | omega | exact wr64 (by omega) | exact (wr64 (by omega)).trans (by omega) | (rw [if_neg (by omega), wr64 (by omega)])) ?_; simp only [zp]
            refine zxc (v := .int .i64 P1) rfl (by rfl) (fun wx hx => by obtain ⟨x0, x1⟩ := hx; go_simp; first | done | omega | exact wr64 (by omega) | exact (wr64 (by omega)).trans (by omega) | (rw [if_neg (by omega), wr64 (by omega)])) ?_; simp only [zp]
            iterate 5 (refine zxc rfl (by rfl) (fun wx hx => by obtain ⟨x0, x1⟩ := hx; go_simp; rfl) ?_; simp only [zp])
            refine zxc (v := .int .i64 (i2 : Nat)) rfl (by rfl) (fun wx hx => by obtain ⟨x0, x1⟩ := hx; go_simp; first | done | omega | exact wr64 (by omega) | exact (wr64 (by omega)).trans (by omega) | (rw [if_neg (by omega), wr64 (by omega)])) ?_; simp only [zp]
            refine zxc rfl (by rfl) (fun wx hx => by obtain ⟨x0, x1⟩ := hx; go_simp; rfl) ?_; simp only [zp]
            refine zxc (v := .int .i64 (m2 : Nat)) rfl (by rfl) (fun wx hx => by obtain ⟨x0, x1⟩ := hx; go_simp; first | done | omega | exact wr64 (by omega) | exact (wr64 (by omega)).trans (by omega) | (rw [if_neg (by omega), wr64 (by omega)])) ?_; simp only [zp]
            refine zxc (v := .int .i64 ((i2 : Int) - (m2 : Int))) rfl (by rfl) (fun wx hx => by obtain ⟨x0, x1⟩ := hx; go_simp; first | done | omega | exact wr64 (by omega) | exact (wr64 (by omega)).trans (by omega) | (rw [if_neg (by omega), wr64 (by omega)])) ?_; simp only [zp]
            refine zxc (v := .int .i64 (P2 - y)) rfl (by rfl) (fun wx hx => by obtain ⟨x0, x1⟩ := hx; go_simp; first | done | omega | exact wr64 (by omega) | exact (wr64 (by omega)).trans (by omega) | (rw [if_neg (by omega), wr64 (by omega)])) ?_; simp only [zp]
            refine zxc (v := .int .i64 P2) rfl (by rfl) (fun wx hx => by obtain ⟨x0, x1⟩ := hx; go_simp; first | done | omega | exact wr64 (by omega) | exact (wr64 (by omega)).trans (by omega) | (rw [if_neg (by omega), wr64 (by omega)])) ?_; simp only [zp]
            refine zxc rfl (by rfl) (fun wx hx => by obtain ⟨x0, x1⟩ := hx; go_simp; rfl) ?_; simp only [zp]
            refine zxn ?_
            refine zq 24 (by kernel_rfl) rfl rfl (v' := .slice (some ⟨Y.heap.size, 0, none⟩) 1 1) (w' := Z) (by rw [← HZ.out]; go_simp) (fun _ => hxz) ?_
            simp only [zp]
            refine zq 25 (by kernel_rfl) rfl rfl (run_app7 rfl rfl rfl rfl hr7.out) (fun h => absurd (by decide) h) ?_
            simp only [zp]
            refine zq 26 (v' := v7) (by kernel_rfl) rfl rfl (run_as rfl rfl) (fun h => absurd (by decide) h) ?_
            refine anyZ_done (by kernel_rfl) ?_ _
            dsimp only [Only, Exit.then]
            simp only [zp]
            go_wp2_with fail
            go_roundw
            case rel => exact ⟨k + 1, _, rfl, by omega, by go_num, hc7.out, hown7.out, hK7.out, hB7.out⟩
            case measure => simp [intOf]; omega
          · obtain rfl : k = n := by omega
            have hki : ¬ (k : Int) < (k : Nat) := by omega
            rw [hLf.out] at hC
            obtain ⟨sa, sn, sc, rfl⟩ := Rw.shape hC
            have HC := hide hC.ceR
            clear hC hKX
            go_wp2_with fail
            refine bodyPost_ret (v := .tuple #[.slice sa sn sc, .int .i64 0]) (by simp [results, Try.results7, go_sem]) rfl ?_
            exact ⟨_, by rw [hE.out], HC.out, hB⟩
end Go.Proofs.Ytankkngjhgpcaaa
